/- append of a row that may be nil, also at a step of a drawn region; parts of a row of numbers. -/
import Derived.Test.YtpompjihmcmmaaaPkRFull
namespace Go.Proofs.Ytpompjihmcmmaaa
open Go.RowKit
section
variable {s : Nat} {w w' : World} {base n cap : Nat} {A : Option Addr} {vs : List Value} {S E : TypeId} {z : Value} {bytes : Nat}
set_option maxRecDepth 100000 in
theorem run_appN (O : Many s S E z bytes) (hown : OwnC s w base E A n cap vs) (B : Option Addr) (m c : Nat) (news : List Value) (h1 : ∀ u ∈ news, u.oneCell' = true) (hr : RdC s w B m news) (hlen : n + m ≤ 1000000) (hbase : base ≤ w.heap.size) (ty : TypeId) :
    ∃ A' cap' w', (Builtin.append_ #[S, S] ty #[.slice A n cap, .slice B m c]).run Try.prog w = .ok (.slice A' (n + m) cap') w' ∧ GrewC s w w' base E A A' n cap (n + m) cap' (vs ++ news) := by
  cases B with
  | some ad => exact run_appC O hown ad m c news h1 hr hlen hbase ty
  | none =>
    obtain ⟨i0, hi, hz0, hz1, hz2⟩ := info_parts O.info
    have hm : m = 0 := by
      rcases Nat.eq_zero_or_pos m with h0 | h0
      · exact h0
      · obtain ⟨b, o, he, _⟩ := hr.2 h0
        cases he
    subst hm
    have h0 : news = [] := List.eq_nil_of_length_eq_zero (by rw [hr.1]; simp)
    subst h0
    have hrun : (Builtin.append_ #[S, S] ty #[.slice A n cap, .slice none 0 c]).run Try.prog w = .ok (.slice A n cap) w := by
      rcases hown.2 with ⟨hv, hn0⟩ | ⟨g, c', cur, hv, _, _, hnc, _⟩
      · rw [hv]
        simp [Builtin.append_, run_underlying O.under, sizeOf, typeInfo, hi, Builtin.lenOf, Builtin.firstCells]
      · rw [hv]
        simp [Builtin.append_, run_underlying O.under, sizeOf, typeInfo, hi, Builtin.lenOf, Builtin.firstCells, hnc, storeCells]
    exact ⟨A, cap, w, hrun, ⟨by simpa using hown, World.grownBy.refl w _, .inl rfl⟩⟩
theorem step_appN (O : Many s S E z bytes) {ops : Array Oper} {o : Oper} {a : Act} {K : Act → World → Prop} {Q : Exit → Act → World → Prop} {F : Prop} (hw : Region.wanted o (yielded ops a.tmps) = true) (d : Nat) (hd : o.dst = some d) (s1 x : Operand)
    (ho : o.op = .call { callee := .builtin .append, args := #[s1, x], argTypes := #[S, S] })
    (hs : a.eval s1 = .slice A n cap) (hown : OwnC s w base E A n cap vs) (B : Option Addr) (m c : Nat) (news : List Value) (h1 : ∀ u ∈ news, u.oneCell' = true) (hx : a.eval x = .slice B m c) (hr : RdC s w B m news) (hlen : n + m ≤ 1000000) (hbase : base ≤ w.heap.size)
    (h : ∀ A' cap' w', GrewC s w w' base E A A' n cap (n + m) cap' (vs ++ news) → K (a.put (some d) (.slice A' (n + m) cap')) w') :
    if Region.wanted o (yielded ops a.tmps) = true then Oper.wp Try.prog o a w K Q else F := by
  rw [if_pos hw]
  obtain ⟨A', cap', w', hrun, hg⟩ := run_appN O hown B m c news h1 hr hlen hbase o.type
  unfold Oper.wp execOp
  simp only [ho, resolve, invoke, builtin, Sem.run_bind, Sem.run_pure, Result.andThen_ok, List.map_toArray, List.map_cons, List.map_nil, hs, hx, hrun]
  have h2 := h A' cap' w' hg
  rw [← hd] at h2
  exact h2
/-- A row of no element. -/
theorem OwnC.empty (s : Nat) (w : World) (E : TypeId) (base : Nat) (hb : base ≤ w.heap.size) : OwnC s (w.alloc (.cells #[] E)) base E (some ⟨w.heap.size, 0, none⟩) 0 0 [] := by
  have h := World.ownsRow_lit (base := base) (e := E) (size := s) w #[] 0 hb (by simp only [maxLen]; omega) (by simp)
  exact ⟨by simp, h.2⟩
end
theorem RdC.grown {s : Nat} {w w' : World} {A : Option Addr} {n : Nat} {vs : List Value} {row : Option Nat} (h : RdC s w A n vs) (hg : w.grownBy w' row) (hne : 0 < n → ∀ g o, A = some ⟨g, o, none⟩ → row ≠ some g) : RdC s w' A n vs := by
  refine ⟨h.1, fun hn => ?_⟩
  obtain ⟨b, o, rfl, hb, hc⟩ := h.2 hn
  exact ⟨b, o, rfl, Nat.lt_of_lt_of_le hb hg.size, fun j x hx => (World.grownBy.cell_far hg ⟨b, o + j, none⟩ hb (fun e => hne hn b o rfl e.symm)).trans (hc j x hx)⟩
theorem first_app {w1 wx v3 : World} {B n c3 : Nat} {A3 : Option Addr} {vs : List Value} (hb : Below w1.heap.size w1 wx) (hs : w1.heap.size ≤ B) (hg : GrewC 1 wx v3 w1.heap.size 3 (some ⟨B, 0, none⟩) A3 0 0 (0 + n) c3 ([] ++ vs)) :
    Below w1.heap.size w1 v3 ∧ OwnC 1 v3 w1.heap.size 3 A3 n c3 vs ∧ wx.heap.size ≤ v3.heap.size := by
  have h := hg.own
  rw [List.nil_append, Nat.zero_add] at h
  exact ⟨hb.grown hg.grew hb.size (fun g e => by injection e with e; have e : B = g := e; omega), h, hg.grew.size⟩
theorem next_app {w1 wx v5 : World} {n c4 c5 m : Nat} {A4 A5 : Option Addr} {vs us : List Value} (hb : Below w1.heap.size w1 wx) (ho : OwnC 1 wx w1.heap.size 3 A4 n c4 vs) (hg : GrewC 1 wx v5 w1.heap.size 3 A4 A5 n c4 (n + m) c5 (vs ++ us)) :
    Below w1.heap.size w1 v5 ∧ OwnC 1 v5 w1.heap.size 3 A5 (n + m) c5 (vs ++ us) :=
  ⟨hb.grown hg.grew hb.size (fun g e => (ho.blk g e).1), hg.own⟩
theorem side_row {wx v3 : World} {B q : Nat} {A3 : Option Addr} {n c3 : Nat} {vs us : List Value} {base : Nat} (hr : RdC 1 wx (some ⟨q, 0, none⟩) 1 us) (hne : B ≠ q) (hg : GrewC 1 wx v3 base 3 (some ⟨B, 0, none⟩) A3 0 0 n c3 vs) : RdC 1 v3 (some ⟨q, 0, none⟩) 1 us :=
  hr.grown hg.grew (fun _ g o e h => by
    injection e with e
    injection e with e
    injection h with h
    have h : B = g := h
    omega)
/-- A row of numbers from its f-th on. -/
def behindI (A : Option Addr) (c f : Nat) : Option Addr := if c = f then A else A.map (·.add f)
set_option maxRecDepth 100000 in
theorem run_fromI (A : Option Addr) (n c f : Nat) (hf : f ≤ n) (hc : n ≤ c) (w : World) : (Instr.slice 29 (.slice A n c) (some (.int .i64 (f : Int))) none none).run Try.prog w = .ok (.slice (behindI A c f) (n - f) (c - f)) w := by
  obtain ⟨i0, hi, hz0, hz1, hz2⟩ := info_parts manyI.info
  unfold behindI
  by_cases e : c = f
  · subst e
    simp [Instr.slice, run_underlying Try.underlying29, Instr.sliceBounds, Instr.sliceBound, asIntOf, go_sem, hf, hc]
  · simp [Instr.slice, run_underlying Try.underlying29, Instr.sliceBounds, Instr.sliceBound, asIntOf, go_sem, hf, e, sizeOf, typeInfo, hi, hz1]
set_option maxRecDepth 100000 in
theorem run_toI (A : Option Addr) (n c t : Nat) (ht : t ≤ n) (hc : n ≤ c) (w : World) : (Instr.slice 29 (.slice A n c) none (some (.int .i64 (t : Int))) none).run Try.prog w = .ok (.slice A t c) w := by
  have h2 : t ≤ c := by omega
  simp [Instr.slice, run_underlying Try.underlying29, Instr.sliceBounds, Instr.sliceBound, asIntOf, go_sem, h2]
/-- A slice that reads as numbers. -/
def RdI (w : World) (A : Option Addr) (n : Nat) (l : List Int) : Prop := l.length = n ∧ RdC 1 w A n (Pk.iv l)
section
variable {w w' : World} {A : Option Addr} {n c k base : Nat} {l : List Int}
theorem RdI.below (h : RdI w A n l) (hb : Below w.heap.size w w') : RdI w' A n l := ⟨h.1, h.2.below hb⟩
theorem OwnC.ints (h : OwnC 1 w base 3 A n c (Pk.iv l)) : RdI w A n l := ⟨by have := h.rd.1; rw [Pk.iv_len] at this; omega, h.rd⟩
theorem RdI.at_ {x : Int} (h : RdI w A n l) (hx : l[k]? = some x) : ∃ b o, A = some ⟨b, o, none⟩ ∧ b < w.heap.size ∧ ∀ w', Below w.heap.size w w' → w'.cell? ⟨b, o + k, none⟩ = some (.int .i64 x) := by
  have hk : k < n := by rw [← h.1]; exact (List.getElem?_eq_some_iff.1 hx).1
  obtain ⟨b, o, rfl, hb, hc⟩ := h.2.2 (by omega)
  exact ⟨b, o, rfl, hb, fun w' hw => (hw.cell hb).trans (hc _ _ (by unfold Pk.iv; rw [List.getElem?_map, hx]; rfl))⟩
theorem RdI.to (h : RdI w A n l) (hk : k ≤ n) : RdI w A k (l.take k) := by
  refine ⟨by rw [List.length_take, h.1]; omega, ?_⟩
  have h2 := h.2.take hk
  rw [Nat.mul_one] at h2
  unfold Pk.iv at h2 ⊢
  rw [List.map_take]
  exact h2
theorem RdI.from_ (h : RdI w A n l) (hf : k ≤ n) (hc : n ≤ c) : RdI w (behindI A c k) (n - k) (l.drop k) := by
  refine ⟨by rw [List.length_drop, h.1], by rw [Pk.iv_len, List.length_drop, h.1, Nat.mul_one], fun hm => ?_⟩
  obtain ⟨b, o, rfl, hb, hcl⟩ := h.2.2 (by omega)
  refine ⟨b, o + k, ?_, hb, fun j x hx => ?_⟩
  · unfold behindI
    rw [if_neg (by omega)]
    simp only [Option.map_some, Addr.add]
    split
    · rename_i e; rw [e, Nat.add_zero]
    · rfl
  · unfold Pk.iv at hx
    rw [List.map_drop, List.getElem?_drop] at hx
    rw [Nat.add_assoc]
    exact hcl _ _ hx
end
namespace Pk
/-- A number put into a row that rises. -/
def ins : List Int → Int → List Int
  | [], x => [x]
  | y :: ys, x => if y < x then y :: ins ys x else x :: y :: ys
theorem ins_at {l : List Int} {x : Int} {k : Nat} (hk : k ≤ l.length) (hp : ∀ y ∈ l.take k, y < x) (hq : ∀ y, l[k]? = some y → ¬ y < x) : ins l x = l.take k ++ x :: l.drop k := by
  induction k generalizing l with
  | zero =>
    cases l with
    | nil => rfl
    | cons y ys =>
      unfold ins
      rw [if_neg (hq y rfl)]
      rfl
  | succ k ih =>
    cases l with
    | nil => simp at hk
    | cons y ys =>
      unfold ins
      rw [if_pos (hp y (by simp)), ih (by simpa using hk) (fun z hz => hp z (by simp [hz])) (fun z hz => hq z (by simpa using hz))]
      rfl
theorem ins_len (l : List Int) (x : Int) : (ins l x).length = l.length + 1 := by
  induction l with
  | nil => rfl
  | cons y ys ih =>
    unfold ins
    split
    · simp [ih]
    · simp
theorem ins_perm (l : List Int) (x : Int) : (ins l x).Perm (x :: l) := by
  induction l with
  | nil => exact List.Perm.refl _
  | cons y ys ih =>
    unfold ins
    split
    · exact (List.Perm.cons y ih).trans (List.Perm.swap x y ys)
    · exact List.Perm.refl _
theorem ins_sorted {l : List Int} {x : Int} (h : l.Pairwise (· ≤ ·)) : (ins l x).Pairwise (· ≤ ·) := by
  induction l with
  | nil => simp [ins]
  | cons y ys ih =>
    have h1 := List.pairwise_cons.1 h
    unfold ins
    split
    · rename_i hy
      refine List.pairwise_cons.2 ⟨fun z hz => ?_, ih h1.2⟩
      rcases List.mem_cons.1 ((ins_perm ys x).mem_iff.1 hz) with rfl | hz
      · omega
      · exact h1.1 z hz
    · rename_i hy
      refine List.pairwise_cons.2 ⟨fun z hz => ?_, h⟩
      rcases List.mem_cons.1 hz with rfl | hz
      · omega
      · have := h1.1 z hz; omega
/-- Numbers put in one after another: they are sorted. -/
def insAll (l : List Int) : List Int := l.foldl ins []
theorem foldl_ins (l acc : List Int) (h : acc.Pairwise (· ≤ ·)) : (l.foldl ins acc).Pairwise (· ≤ ·) ∧ (l.foldl ins acc).Perm (acc ++ l) := by
  induction l generalizing acc with
  | nil => exact ⟨h, by simp⟩
  | cons x xs ih =>
    obtain ⟨h1, h2⟩ := ih (ins acc x) (ins_sorted h)
    refine ⟨h1, h2.trans ?_⟩
    have h3 : (ins acc x ++ xs).Perm ((x :: acc) ++ xs) := (ins_perm acc x).append_right xs
    refine h3.trans ?_
    simpa using (List.perm_middle (l₁ := acc) (l₂ := xs) (a := x)).symm
theorem insAll_sort (l : List Int) : (l.mergeSort fun x y => decide (x ≤ y)) = insAll l := by
  obtain ⟨h1, h2⟩ := foldl_ins l [] List.Pairwise.nil
  have h3 : (l.mergeSort fun x y => decide (x ≤ y)).Perm (insAll l) := (List.mergeSort_perm l _).trans (by unfold insAll; simpa using h2.symm)
  have h4 : (l.mergeSort fun x y => decide (x ≤ y)).Pairwise (· ≤ ·) := by
    have h := List.pairwise_mergeSort (le := fun (x y : Int) => decide (x ≤ y)) (by intro a b c; simp; omega) (by intro a b; simp; omega) l
    exact h.imp (fun h => of_decide_eq_true h)
  exact List.Perm.eq_of_pairwise (fun a b _ _ h1 h2 => by omega) h4 h1 h3
theorem insAll_snoc (l : List Int) (x : Int) : insAll (l ++ [x]) = ins (insAll l) x := by unfold insAll; rw [List.foldl_append]; rfl
theorem insAll_len (l : List Int) : (insAll l).length = l.length := by
  have h := (foldl_ins l [] List.Pairwise.nil).2.length_eq
  unfold insAll
  simpa using h
end Pk
end Go.Proofs.Ytpompjihmcmmaaa
