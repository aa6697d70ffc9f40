/- Plain mathematics: balanced trees of entries. -/
import Derived.Test.YtfmbnoafmnbhcaaMmOrd
namespace Go.Proofs.Ytfmbnoafmnbhcaa
open Go.RowKit
namespace Bk
abbrev P := En × Sl
/-- A tree of entries. -/
inductive Tr where
  | leaf
  | node (l : Tr) (x : P) (r : Tr)
/-- x is ahead of y. -/
def lt (x y : P) : Prop := cmp x.1 y.1 < 0
instance (x y : P) : Decidable (lt x y) := inferInstanceAs (Decidable (cmp x.1 y.1 < 0))
theorem lt_trans {x y z : P} (h1 : lt x y) (h2 : lt y z) : lt x z := cmp_trans h1 h2
theorem lt_irrefl (x : P) : ¬ lt x x := by unfold lt; rw [cmp_self]; omega
namespace Tr
def ht : Tr → Nat
  | .leaf => 0
  | .node l _ r => 1 + max l.ht r.ht
/-- What is in a tree, in its order. -/
def row : Tr → List P
  | .leaf => []
  | .node l x r => l.row ++ x :: r.row
def size : Tr → Nat
  | .leaf => 0
  | .node l _ r => 1 + l.size + r.size
theorem ht_size : ∀ t : Tr, t.ht ≤ t.size
  | .leaf => Nat.le_refl 0
  | .node l x r => by have := ht_size l; have := ht_size r; simp only [ht, size]; omega
theorem row_size : ∀ t : Tr, t.row.length = t.size
  | .leaf => rfl
  | .node l x r => by have := row_size l; have := row_size r; simp only [row, size, List.length_append, List.length_cons]; omega
def level (l : Tr) (x : P) (r : Tr) : Tr :=
  if r.ht + 1 < l.ht then
    match l with
    | .leaf => .node .leaf x r
    | .node a y b =>
      if a.ht < b.ht then
        match b with
        | .leaf => .node a y (.node .leaf x r)
        | .node c z d => .node (.node a y c) z (.node d x r)
      else .node a y (.node b x r)
  else if l.ht + 1 < r.ht then
    match r with
    | .leaf => .node l x .leaf
    | .node a y b =>
      if b.ht < a.ht then
        match a with
        | .leaf => .node (.node l x .leaf) y b
        | .node c z d => .node (.node l x c) z (.node d y b)
      else .node (.node l x a) y b
  else .node l x r
theorem level_row (l : Tr) (x : P) (r : Tr) : (level l x r).row = l.row ++ x :: r.row := by
  unfold level
  split
  · split
    · rfl
    · split
      · split
        · simp [row]
        · simp [row]
      · simp [row]
  · split
    · split
      · rfl
      · split
        · split
          · simp [row]
          · simp [row]
        · simp [row]
    · rfl
def ins (x : P) : Tr → Tr
  | .leaf => .node .leaf x .leaf
  | .node l y r => if lt x y then level (ins x l) y r else level l y (ins x r)
theorem level_size (l : Tr) (x : P) (r : Tr) : (level l x r).size = 1 + l.size + r.size := by
  rw [← row_size, level_row, List.length_append, List.length_cons, row_size, row_size]; omega
theorem ins_size (x : P) : ∀ t : Tr, (ins x t).size = t.size + 1
  | .leaf => rfl
  | .node l y r => by
    unfold ins
    split
    · rw [level_size, ins_size x l]; simp only [size]; omega
    · rw [level_size, ins_size x r]; simp only [size]; omega
/-- What is not ahead of low. -/
def from_ (low : En) : Tr → List P
  | .leaf => []
  | .node l x r => if cmp x.1 low < 0 then r.from_ low else l.from_ low ++ x :: r.from_ low
end Tr
/-- One laid into a row. -/
def laid (x : P) : List P → List P
  | [] => [x]
  | y :: ys => if lt x y then x :: y :: ys else y :: laid x ys
def Sorted (l : List P) : Prop := l.Pairwise lt
theorem laid_front {x y : P} (h : lt x y) (A B : List P) : laid x (A ++ y :: B) = laid x A ++ y :: B := by
  induction A with
  | nil => simp [laid, h]
  | cons a A ih =>
    simp only [List.cons_append, laid]
    split
    · rfl
    · rw [ih]; rfl
theorem laid_back {x : P} {A : List P} (h : ∀ a ∈ A, ¬ lt x a) (B : List P) : laid x (A ++ B) = A ++ laid x B := by
  induction A with
  | nil => rfl
  | cons a A ih =>
    simp only [List.cons_append, laid]
    rw [if_neg (h a List.mem_cons_self), ih (fun b hb => h b (List.mem_cons_of_mem _ hb))]
theorem laid_mem {x z : P} : ∀ {l : List P}, z ∈ laid x l ↔ z = x ∨ z ∈ l
  | [] => by simp [laid]
  | y :: ys => by
    unfold laid
    split
    · simp
    · simp only [List.mem_cons, laid_mem (l := ys)]
      constructor
      · rintro (h | h | h) <;> simp [h]
      · rintro (h | h | h) <;> simp [h]
theorem laid_len (x : P) : ∀ l : List P, (laid x l).length = l.length + 1
  | [] => rfl
  | y :: ys => by
    unfold laid
    split
    · rfl
    · simp [laid_len x ys]
theorem laid_sorted {x : P} : ∀ {l : List P}, Sorted l → (∀ y ∈ l, cmp x.1 y.1 ≠ 0) → Sorted (laid x l)
  | [], _, _ => List.pairwise_singleton _ _
  | y :: ys, h, hne => by
    unfold Sorted at h ⊢
    rw [List.pairwise_cons] at h
    unfold laid
    split
    · rename_i hxy
      refine List.pairwise_cons.2 ⟨fun z hz => ?_, List.pairwise_cons.2 h⟩
      rcases List.mem_cons.1 hz with rfl | hz
      · exact hxy
      · exact lt_trans hxy (h.1 z hz)
    · rename_i hxy
      have hyx : lt y x := by
        unfold lt at hxy ⊢
        have := hne y List.mem_cons_self
        rw [cmp_neg x.1 y.1]
        omega
      refine List.pairwise_cons.2 ⟨fun z hz => ?_, laid_sorted h.2 (fun z hz => hne z (List.mem_cons_of_mem _ hz))⟩
      rcases laid_mem.1 hz with rfl | hz
      · exact hyx
      · exact h.1 z hz
namespace Tr
theorem ins_row (x : P) : ∀ t : Tr, Sorted t.row → (ins x t).row = laid x t.row
  | .leaf, _ => rfl
  | .node l y r, h => by
    have h : List.Pairwise lt (l.row ++ y :: r.row) := h
    rw [List.pairwise_append, List.pairwise_cons] at h
    obtain ⟨hl, ⟨_, hr⟩, hc⟩ := h
    unfold ins
    split
    · rename_i hxy
      rw [level_row, ins_row x l hl]
      exact (laid_front hxy _ _).symm
    · rename_i hxy
      rw [level_row, ins_row x r hr]
      show _ = laid x (l.row ++ y :: r.row)
      rw [laid_back (fun a ha hxa => hxy (lt_trans hxa (hc a ha y List.mem_cons_self)))]
      simp only [laid]
      rw [if_neg hxy]
theorem from_row (low : En) : ∀ t : Tr, Sorted t.row → t.from_ low = t.row.filter (fun x => !decide (cmp x.1 low < 0))
  | .leaf, _ => rfl
  | .node l y r, h => by
    have h : List.Pairwise lt (l.row ++ y :: r.row) := h
    rw [List.pairwise_append, List.pairwise_cons] at h
    obtain ⟨hl, ⟨_, hr⟩, hc⟩ := h
    unfold from_
    show _ = (l.row ++ y :: r.row).filter _
    rw [List.filter_append]
    split
    · rename_i hy
      have e : l.row.filter (fun x => !decide (cmp x.1 low < 0)) = [] := by
        rw [List.filter_eq_nil_iff]
        intro a ha
        have : cmp a.1 low < 0 := cmp_trans (hc a ha y List.mem_cons_self) hy
        simp [this]
      rw [e, List.nil_append, List.filter_cons_of_neg (by simp [hy]), from_row low r hr]
    · rename_i hy
      rw [List.filter_cons_of_pos (by simp [hy]), from_row low l hl, from_row low r hr]
end Tr
end Bk
end Go.Proofs.Ytfmbnoafmnbhcaa
