/- A transfer laid among those that came: plain lists; and what holds as the row is laid. -/
import Derived.Test.YthganbbiclmgpaaPrRAck
namespace Go.Proofs.Ythganbbiclmgpaa
open Go.RowKit
namespace Pr
/-- Has one of a greater number come? -/
def past (L : List Mg) (q : Int) : Bool := L.any fun x => decide (q < x.q)
def laid (m : Mg) (L : List Mg) : List Mg := if past L m.q then ins m L else L
theorem past_snoc {L : List Mg} {k : Nat} {x : Mg} (h : L[k]? = some x) (q : Int) : past (L.take (k + 1)) q = (past (L.take k) q || decide (q < x.q)) := by
  unfold past; rw [List.take_add_one, h, Option.toList_some, List.any_append]; simp
theorem hasq_snoc {L : List Mg} {k : Nat} {x : Mg} (h : L[k]? = some x) (q : Int) : hasq (L.take (k + 1)) q = (hasq (L.take k) q || decide (x.q = q)) := by
  unfold hasq; rw [List.take_add_one, h, Option.toList_some, List.any_append]; simp
theorem ins_past {m : Mg} {ys : List Mg} : ∀ {L : List Mg}, past L m.q = true → ins m (L ++ ys) = ins m L ++ ys
  | [], h => by simp [past] at h
  | x :: xs, h => by
    show ins m (x :: (xs ++ ys)) = _
    unfold ins
    split
    · rfl
    · rename_i hx
      have : past xs m.q = true := by
        unfold past at h ⊢
        rw [List.any_cons] at h
        simpa [hx] using h
      rw [ins_past this]
      rfl
theorem ins_not {m : Mg} {ys : List Mg} : ∀ {L : List Mg}, past L m.q = false → ins m (L ++ ys) = L ++ ins m ys
  | [], _ => rfl
  | x :: xs, h => by
    have h2 : ¬ m.q < x.q ∧ past xs m.q = false := by
      unfold past at h ⊢
      rw [List.any_cons] at h
      simpa using h
    show ins m (x :: (xs ++ ys)) = _
    rw [ins, if_neg h2.1, ins_not h2.2]
    rfl
theorem laid_len (m : Mg) (L : List Mg) : (laid m L).length ≤ L.length + 1 := by
  unfold laid; split
  · rw [len_ins]; omega
  · omega
theorem laid_past {m x : Mg} {L : List Mg} {k : Nat} (h : L[k]? = some x) (hp : past (L.take k) m.q = true) : laid m (L.take (k + 1)) = laid m (L.take k) ++ [x] := by
  have h2 := past_snoc h m.q
  rw [hp, Bool.true_or] at h2
  unfold laid
  rw [if_pos h2, if_pos hp, List.take_add_one, h, Option.toList_some, ins_past hp]
theorem laid_now {m x : Mg} {L : List Mg} {k : Nat} (h : L[k]? = some x) (hp : past (L.take k) m.q = false) (hx : m.q < x.q) : laid m (L.take (k + 1)) = (laid m (L.take k) ++ [m]) ++ [x] := by
  have h2 := past_snoc h m.q
  rw [hp, Bool.false_or, decide_eq_true hx] at h2
  unfold laid
  rw [if_pos h2, if_neg (by rw [hp]; simp), List.take_add_one, h, Option.toList_some, ins_not hp, ins, if_pos hx, List.append_assoc]
  rfl
theorem laid_yet {m x : Mg} {L : List Mg} {k : Nat} (h : L[k]? = some x) (hp : past (L.take k) m.q = false) (hx : ¬ m.q < x.q) : laid m (L.take (k + 1)) = laid m (L.take k) ++ [x] := by
  have h2 := past_snoc h m.q
  rw [hp, Bool.false_or, decide_eq_false hx] at h2
  unfold laid
  rw [if_neg (by rw [h2]; simp), if_neg (by rw [hp]; simp), List.take_add_one, h, Option.toList_some]
theorem laid_end {m : Mg} {L : List Mg} : (if past L m.q then laid m L else laid m L ++ [m]) = ins m L := by
  unfold laid
  split
  · rfl
  · rename_i h
    have h : past L m.q = false := by simpa using h
    have := ins_not (m := m) (ys := []) h
    rw [List.append_nil] at this
    rw [this]; rfl
/-- What came, behind a transfer. -/
def gotL (G : List Mg) (m : Mg) : List Mg := if hasq G m.q then G else ins m G
end Pr
/-- A row of the call's own. -/
structure Rw (w1 wv : World) (A : Option Addr) (n cap : Nat) (X : List Pr.Mg) : Prop where
  own : OwnC 5 wv w1.heap.size 59 A n cap (Pr.flat X)
  len : n = X.length
  bel : Below w1.heap.size w1 wv
theorem Rw.below {w1 wv wu : World} {A : Option Addr} {n cap : Nat} {X : List Pr.Mg} (h : Rw w1 wv A n cap X) (hb : Below wv.heap.size wv wu) : Rw w1 wu A n cap X := ⟨h.own.below hb, h.len, below_next h.bel hb⟩
theorem Rw.push {w1 wv wu : World} {A A' : Option Addr} {n cap cap' : Nat} {X : List Pr.Mg} {m : Pr.Mg} (h : Rw w1 wv A n cap X) (hg : GrewC 5 wv wu w1.heap.size 59 A A' n cap (n + 1) cap' (Pr.flat X ++ m.cells)) : Rw w1 wu A' (n + 1) cap' (X ++ [m]) :=
  ⟨by rw [Pr.flat_snoc]; exact hg.own, by rw [h.len]; simp, h.bel.grown hg.grew h.bel.size (fun g e => (h.own.blk g e).1)⟩
/-- What holds as the document's row is laid. -/
def InvTr (w1 : World) (K : List Pr.Mg) (m : Pr.Mg) (v d t i : Value) (wr : World) : Prop :=
  ∃ (j n : Nat) (A' : Option Addr) (cap' : Nat), j ≤ K.length ∧ n ≤ j + 1 ∧ i = .int .i64 (j : Int) ∧ d = .bool (Pr.past (K.take j) m.q) ∧ t = .bool (Pr.hasq (K.take j) m.q) ∧ v = .slice A' n cap' ∧ Rw w1 wr A' n cap' (Pr.laid m (K.take j))
theorem tr_start (w1 : World) (K : List Pr.Mg) (m : Pr.Mg) : InvTr w1 K m (.slice none 0 0) (.bool false) (.bool false) (.int .i64 0) w1 := by
  refine ⟨0, 0, none, 0, Nat.zero_le _, Nat.zero_le _, rfl, ?_, ?_, rfl, ?_⟩
  · rw [List.take_zero]; rfl
  · rw [List.take_zero]; rfl
  · rw [List.take_zero]; exact ⟨OwnC.none_ _ _ _ _, rfl, Below.refl _ _⟩
theorem tr_next {w1 wr : World} {K : List Pr.Mg} {m x : Pr.Mg} {j n cap' : Nat} {A' : Option Addr} {X : List Pr.Mg} {d t : Bool} (hx : K[j]? = some x) (hX : Pr.laid m (K.take (j + 1)) = X) (h : Rw w1 wr A' n cap' X) (hd : d = (Pr.past (K.take j) m.q || decide (m.q < x.q))) (ht : t = (Pr.hasq (K.take j) m.q || decide (x.q = m.q))) :
    InvTr w1 K m (.slice A' n cap') (.bool d) (.bool t) (.int .i64 ((j : Int) + 1)) wr := by
  have hj := (List.getElem?_eq_some_iff.1 hx).1
  subst hX hd ht
  refine ⟨j + 1, n, A', cap', hj, ?_, by simp, by rw [Pr.past_snoc hx], by rw [Pr.hasq_snoc hx], rfl, h⟩
  have := Pr.laid_len m (K.take (j + 1))
  rw [h.len]
  rw [List.length_take] at this
  omega
end Go.Proofs.Ythganbbiclmgpaa
