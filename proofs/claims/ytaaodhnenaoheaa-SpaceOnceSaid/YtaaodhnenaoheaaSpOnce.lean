/- Plots set one by one; what is held, by whom. -/
import Derived.Test.YtaaodhnenaoheaaSpPerm
import Derived.Test.YtaaodhnenaoheaaSpLow
namespace Go.Proofs.Ytaaodhnenaoheaa
set_option linter.unusedVariables false
namespace Sp
/-- These plots set to v. -/
def setAll (v : Bool) (T : List Bool) (l : List Int) : List Bool := l.foldl (fun S x => S.set x.toNat v) T
variable {v : Bool} {T : List Bool} {l : List Int}
theorem setAll_snoc (v : Bool) (T : List Bool) (l : List Int) (x : Int) : setAll v T (l ++ [x]) = (setAll v T l).set x.toNat v := by
  unfold setAll; rw [List.foldl_append]; rfl
theorem setAll_cons (v : Bool) (T : List Bool) (l : List Int) (x : Int) : setAll v T (x :: l) = setAll v (T.set x.toNat v) l := rfl
theorem setAll_len (v : Bool) (T : List Bool) (l : List Int) : (setAll v T l).length = T.length := by
  induction l generalizing T with
  | nil => rfl
  | cons x l ih => rw [setAll_cons, ih, List.length_set]
theorem setAll_other (h : ∀ y ∈ l, 0 ≤ y) {q : Nat} (hq : ¬ (q : Int) ∈ l) : (setAll v T l).getD q false = T.getD q false := by
  induction l generalizing T with
  | nil => rfl
  | cons x l ih =>
    rw [List.mem_cons] at hq
    have hx := h x (by simp)
    rw [setAll_cons, ih (fun y hy => h y (List.mem_cons_of_mem _ hy)) (fun e => hq (.inr e))]
    by_cases hk : x.toNat < T.length
    · rw [getD_set _ _ _ _ hk, if_neg (fun e => hq (.inl (by omega)))]
    · rw [List.set_eq_of_length_le (by omega)]
theorem setAll_mem (h : ∀ y ∈ l, 0 ≤ y ∧ y < (T.length : Int)) {q : Nat} (hq : (q : Int) ∈ l) : (setAll v T l).getD q false = v := by
  induction l generalizing T with
  | nil => cases hq
  | cons x l ih =>
    have hx := h x (by simp)
    rw [setAll_cons]
    by_cases e : (q : Int) ∈ l
    · exact ih (fun y hy => by rw [List.length_set]; exact h y (List.mem_cons_of_mem _ hy)) e
    · rw [setAll_other (fun y hy => (h y (List.mem_cons_of_mem _ hy)).1) e, getD_set _ _ _ _ (by omega), if_pos]
      rcases List.mem_cons.1 hq with e2 | e2
      · omega
      · exact absurd e2 e
theorem turnAll_all {f : Bool} {bad : Int} (h : AllOk f T l) : turnAll f bad T l = (setAll (!f) T l, 0) := by
  induction l generalizing T with
  | nil => rfl
  | cons x l ih =>
    obtain ⟨h1, h2, h3⟩ := h.1 x (by simp)
    rw [turnAll_ok (turn1_of h1 h2 h3), ih ((allOk_step h1 h2 h3).1 h)]
    rfl
theorem low_set (T : List Bool) (m k : Nat) : (low T m k).2 = setAll true T (low T m k).1 := by
  induction k with
  | zero => rfl
  | succ k ih =>
    rw [low]
    split
    · rw [setAll_snoc, ih]; simp
    · exact ih
theorem low_lt (T : List Bool) (m k : Nat) : ∀ x ∈ (low T m k).1, 0 ≤ x ∧ x < (k : Int) ∧ T.getD x.toNat false = false := by
  intro x hx
  obtain ⟨p, rfl, hp, ht⟩ := low_each T m k x hx
  exact ⟨by omega, by omega, by simpa using ht⟩
theorem low_rise (T : List Bool) (m k : Nat) : (low T m k).1.Pairwise (· < ·) := by
  induction k with
  | zero => exact List.Pairwise.nil
  | succ k ih =>
    rw [low]
    split
    · rw [List.pairwise_append]
      refine ⟨ih, List.pairwise_singleton _ _, fun a ha b hb => ?_⟩
      rw [List.mem_singleton] at hb
      have := (low_lt T m k a ha).2.1
      omega
    · exact ih
theorem rise_nodup (h : l.Pairwise (· < ·)) : l.Nodup := by
  exact h.imp (fun {a b} hab e => by omega)
/-- In a rising row: what stands at a place is not ahead of it. -/
theorem rise_take (h : l.Pairwise (· < ·)) {j i : Nat} {x : Int} (hx : l[i]? = some x) (hji : j ≤ i) : ∀ y ∈ l.take j, y < x := by
  intro y hy
  obtain ⟨n, hn⟩ := List.getElem?_of_mem hy
  rw [List.getElem?_take] at hn
  split at hn
  · rename_i hnj
    obtain ⟨h1, e1⟩ := List.getElem?_eq_some_iff.1 hn
    obtain ⟨h2, e2⟩ := List.getElem?_eq_some_iff.1 hx
    rw [← e1, ← e2]
    exact (List.pairwise_iff_getElem.1 h) n i h1 h2 (by omega)
  · cases hn
theorem rise_at (h : l.Pairwise (· < ·)) {i j : Nat} {x y : Int} (hx : l[i]? = some x) (hy : l[j]? = some y) (hij : i < j) : x < y := by
  obtain ⟨h1, e1⟩ := List.getElem?_eq_some_iff.1 hx
  obtain ⟨h2, e2⟩ := List.getElem?_eq_some_iff.1 hy
  rw [← e1, ← e2]
  exact (List.pairwise_iff_getElem.1 h) i j h1 h2 hij
theorem allOk_left {f : Bool} {F R : List Int} (h : AllOk f T (F ++ R)) : AllOk f T F :=
  ⟨fun p hp => h.1 p (List.mem_append_left _ hp), (List.nodup_append.1 h.2).1⟩
theorem allOk_given {F R : List Int} (h : AllOk true T (F ++ R)) : AllOk true (setAll false T F) R := by
  obtain ⟨h1, h2, h3⟩ := List.nodup_append.1 h.2
  refine ⟨fun p hp => ?_, h2⟩
  obtain ⟨a, b, c⟩ := h.1 p (List.mem_append_right _ hp)
  refine ⟨a, by rw [setAll_len]; exact b, ?_⟩
  rw [setAll_other (fun y hy => (h.1 y (List.mem_append_left _ hy)).1)]
  · exact c
  · intro e
    exact h3 _ e _ hp (by omega)
theorem allOk_taken {F L : List Int} (h : AllOk true T L) (hf : ∀ x ∈ F, 0 ≤ x ∧ x < (T.length : Int) ∧ T.getD x.toNat false = false) (hn : F.Nodup) : AllOk true (setAll true T F) (L ++ F) := by
  refine ⟨fun p hp => ?_, List.nodup_append.2 ⟨h.2, hn, fun a ha b hb e => ?_⟩⟩
  · rcases List.mem_append.1 hp with e | e
    · obtain ⟨a, b, c⟩ := h.1 p e
      refine ⟨a, by rw [setAll_len]; exact b, ?_⟩
      by_cases e2 : ((p.toNat : Nat) : Int) ∈ F
      · exact setAll_mem (fun y hy => ⟨(hf y hy).1, (hf y hy).2.1⟩) e2
      · rw [setAll_other (fun y hy => (hf y hy).1) e2]; exact c
    · obtain ⟨a, b, _⟩ := hf p e
      refine ⟨a, by rw [setAll_len]; exact b, ?_⟩
      exact setAll_mem (fun y hy => ⟨(hf y hy).1, (hf y hy).2.1⟩) (by rw [show ((p.toNat : Nat) : Int) = p by omega]; exact e)
  · subst e
    have h1 := (h.1 a ha).2.2
    rw [(hf a hb).2.2] at h1
    cases h1
theorem unflat {m : Nat} {F : List Int} (h : F.length = 2 * m) : ∃ ps : List (Int × Int), ps.length = m ∧ flat ps = F := by
  induction m generalizing F with
  | zero => exact ⟨[], rfl, (List.eq_nil_of_length_eq_zero (by omega)).symm⟩
  | succ m ih =>
    match F, h with
    | a :: b :: F, h =>
      obtain ⟨ps, h1, h2⟩ := ih (F := F) (by simp at h; omega)
      exact ⟨(a, b) :: ps, by simp [h1], by simp [flat, h2]⟩
theorem flat_at2 {ps : List (Int × Int)} {j : Nat} {x y : Int} (h : ps[j]? = some (x, y)) : (flat ps)[2 * j]? = some x ∧ (flat ps)[2 * j + 1]? = some y := by
  induction ps generalizing j with
  | nil => cases h
  | cons p ps ih =>
    match j, h with
    | 0, h => simp at h; subst h; exact ⟨rfl, rfl⟩
    | j + 1, h =>
      rw [List.getElem?_cons_succ] at h
      have := ih h
      rw [show 2 * (j + 1) = 2 * j + 1 + 1 by omega]
      simpa [flat] using this
theorem setAll_two (v : Bool) (T : List Bool) {l : List Int} {j : Nat} {a c : Nat} (h1 : l[2 * j]? = some (a : Int)) (h2 : l[2 * j + 1]? = some (c : Int)) : setAll v T (l.take (2 * (j + 1))) = ((setAll v T (l.take (2 * j))).set a v).set c v := by
  rw [show 2 * (j + 1) = 2 * j + 1 + 1 by omega, List.take_add_one, h2, List.take_add_one, h1]
  simp only [Option.toList_some, setAll_snoc, Int.toNat_natCast]
/-- What is held, one take behind the other. -/
structure Hd where
  A : Option Addr
  m : Nat
  c : Nat
  ps : List (Int × Int)
def Hd.val (h : Hd) : Value := .slice h.A h.m h.c
def Hd.none_ : Hd := ⟨none, 0, 0, []⟩
def all (hs : List Hd) : List Int := hs.flatMap fun h => flat h.ps
theorem all_snoc (hs : List Hd) (h : Hd) : all (hs ++ [h]) = all hs ++ flat h.ps := by unfold all; rw [List.flatMap_append]; simp
theorem all_perm {hs : List Hd} {k : Nat} {h : Hd} (hk : hs[k]? = some h) : (all hs).Perm (flat h.ps ++ all (hs.set k Hd.none_)) := by
  induction hs generalizing k with
  | nil => cases hk
  | cons x hs ih =>
    match k, hk with
    | 0, hk =>
      simp at hk
      subst hk
      simp [all, Hd.none_, flat]
    | k + 1, hk =>
      rw [List.getElem?_cons_succ] at hk
      have := ih hk
      simp only [List.set_cons_succ, all, List.flatMap_cons] at *
      refine (this.append_left (flat x.ps)).trans ?_
      rw [← List.append_assoc, ← List.append_assoc]
      exact List.Perm.append_right _ List.perm_append_comm
end Sp
end Go.Proofs.Ytaaodhnenaoheaa
