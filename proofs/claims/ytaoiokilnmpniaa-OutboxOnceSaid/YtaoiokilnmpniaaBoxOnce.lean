/- Numbers taken one behind the other: what an inbox has is what was taken. -/
import Derived.Test.YtaoiokilnmpniaaBoxAwake
import Derived.Test.YtaoiokilnmpniaaInBox
import Derived.Test.YtaoiokilnmpniaaStepV
namespace Go.Proofs.Ytaoiokilnmpniaa
open Go.RowKit
/-- So many numbers in a row need so much room. -/
theorem row_room (n : Nat) (f : Int) (h : List Int) (hin : ∀ i : Nat, i < n → f + i ∈ h) : n ≤ h.length := by
  induction n generalizing h with
  | zero => exact Nat.zero_le _
  | succ n ih =>
    have hm := hin n (by omega)
    have h2 := ih (h.erase (f + n)) (fun i hi => by
      have := hin i (by omega)
      exact (List.mem_erase_of_ne (by omega)).2 this)
    rw [List.length_erase_of_mem hm] at h2
    have : 0 < h.length := List.length_pos_of_mem hm
    omega
/-- What is kept of an inbox (g, x) from f on, with all numbers that it took. -/
def Kept (f g : Int) (x : Nat) (had : List Int) : Prop :=
  f ≤ g ∧ g ≤ f + had.length ∧ x % 2 = 0 ∧ x < 18446744073709551616 ∧ ∀ s : Int, f ≤ s → Ob.inB g x s = decide (s ∈ had)
theorem kept_start (f : Int) : Kept f f 0 [] := by
  refine ⟨Int.le_refl _, by simp, rfl, by omega, fun s hs => ?_⟩
  unfold Ob.inB
  rw [decide_eq_false (show ¬ s < f by omega)]
  simp
theorem kept_take {f g : Int} {x : Nat} {had : List Int} (h : Kept f g x had) (hf : 0 ≤ f) (hf2 : f ≤ 65535) (hl : had.length ≤ 200) (n : Int) (hn : f ≤ n) (hn2 : n ≤ 65790) :
    (n ∈ had ∧ Ob.takeB g x n = (0, 0, 212)) ∨ (n ∉ had ∧ 64 ≤ n - g ∧ Ob.takeB g x n = (0, 0, 211)) ∨ ∃ (g' : Int) (x' : Nat), n ∉ had ∧ Ob.takeB g x n = (g', x', 0) ∧ Kept f g' x' (had ++ [n]) := by
  obtain ⟨h1, h2, h3, h4, h5⟩ := h
  have hB : Ob.isB g x = true := Ob.isB_iff.2 ⟨by omega, by omega, h3⟩
  have hin := h5 n hn
  by_cases hk : n ∈ had
  · left
    refine ⟨hk, ?_⟩
    unfold Ob.takeB
    rw [hB, if_neg (by decide), if_neg (by omega), hin, if_pos (decide_eq_true hk)]
  · right
    rw [decide_eq_false hk] at hin
    by_cases h64 : 64 ≤ n - g
    · left
      refine ⟨hk, h64, ?_⟩
      unfold Ob.takeB
      rw [hB, if_neg (by decide), if_neg (by omega), hin, if_neg (by decide), if_pos h64]
    · right
      have hgn : g ≤ n := by
        unfold Ob.inB at hin
        rw [Bool.or_eq_false_iff] at hin
        have := of_decide_eq_false hin.1
        omega
      obtain ⟨j, hj⟩ : ∃ j : Nat, n - g = (j : Int) := ⟨(n - g).toNat, by omega⟩
      obtain ⟨q, hq⟩ : ∃ q, q = x ||| 2 ^ j := ⟨_, rfl⟩
      have hq2 : q < 2 ^ 64 := by
        rw [hq]
        exact Nat.or_lt_two_pow (by rw [show 2 ^ 64 = 18446744073709551616 by decide]; exact h4) (Nat.pow_lt_pow_right (by omega) (by omega))
      have hs1 := Ob.slide_fst 64 g q
      have hs2 := Ob.slide_snd 64 g q hq2
      have hs3 := Ob.slide_le 64 g q
      have hs4 := fun s hs => Ob.slide_in 64 g q hq2 s hs
      have hT : Ob.takeB g x n = Ob.doneB g q := by
        unfold Ob.takeB
        rw [hB, if_neg (by decide), if_neg (by omega), hin, if_neg (by decide), if_neg h64, hj, Int.toNat_natCast, hq]
      rcases hS : Ob.slide 64 g q with ⟨g', x'⟩
      rw [hS] at hs1 hs2 hs3 hs4
      refine ⟨g', x', hk, ?_, ?_⟩
      · rw [hT, Ob.doneB_in hS (by simp only at hs1; omega)]
      · simp only at hs1 hs2 hs3 hs4
        have hall : ∀ s : Int, f ≤ s → Ob.inB g' x' s = decide (s ∈ had ++ [n]) := by
          intro s hs
          by_cases hsg : s < g
          · have e1 : Ob.inB g' x' s = true := by unfold Ob.inB; rw [decide_eq_true (show s < g' by omega)]; rfl
            have e2 := h5 s hs
            have e3 : Ob.inB g x s = true := by unfold Ob.inB; rw [decide_eq_true hsg]; rfl
            rw [e3] at e2
            have e4 : s ∈ had := of_decide_eq_true e2.symm
            rw [e1, eq_comm, decide_eq_true_iff]
            exact List.mem_append_left _ e4
          · rw [hs4 s (by omega)]
            have e2 := h5 s hs
            have e5 : Ob.inB g q s = (Ob.inB g x s || decide (s = n)) := by
              unfold Ob.inB
              rw [decide_eq_false hsg, hq, Nat.testBit_or, Nat.testBit_two_pow, Bool.false_or, Bool.false_or]
              by_cases e6 : s - g < 64
              · have e7 : decide (j = (s - g).toNat) = decide (s = n) := by
                  rw [Bool.eq_iff_iff, decide_eq_true_iff, decide_eq_true_iff]; omega
                rw [decide_eq_true e6, e7, Bool.true_and, Bool.true_and]
              · rw [decide_eq_false e6, decide_eq_false (show ¬ s = n by omega)]; rfl
            rw [e5, e2, Bool.eq_iff_iff, Bool.or_eq_true, decide_eq_true_iff, decide_eq_true_iff, decide_eq_true_iff, List.mem_append, List.mem_singleton]
        refine ⟨by omega, ?_, hs2, ?_, hall⟩
        · have hroom := row_room (g' - f).toNat f (had ++ [n]) (fun i hi => by
            have e1 := hall (f + i) (by omega)
            have e2 : Ob.inB g' x' (f + i) = true := by unfold Ob.inB; rw [decide_eq_true (show f + (i : Int) < g' by omega)]; rfl
            rw [e2] at e1
            exact of_decide_eq_true e1.symm)
          omega
        · rw [show 2 ^ 64 = 18446744073709551616 by decide] at hq2
          omega
theorem Holds.grown {w w' : World} {b : Nat} {cs : List Value} (k : Holds w b cs) {row : Option Nat} (hg : w.grownBy w' row) (hne : row ≠ some b) : Holds w' b cs :=
  ⟨Nat.lt_of_lt_of_le k.1 hg.size, fun i v h => (hg.cell_far ⟨b, i, none⟩ k.1 (fun e => hne e.symm)).trans (k.2.1 i v h), fun i => (hg.frozen_far ⟨b, i, none⟩ k.1 (fun e => hne e.symm)).trans (k.2.2 i)⟩
theorem oneInt : One 78 3 (.int .i64 0) 8 := ⟨by kernel_rfl, Try.underlying78, rfl, by omega⟩
def zv (l : List Int) : List Value := l.map fun (p : Int) => .int .i64 p
theorem zv_snoc (l : List Int) (x : Int) : zv (l ++ [x]) = zv l ++ [.int .i64 x] := by simp [zv]
theorem zv_at {l : List Int} {j : Nat} {x : Int} (h : l[j]? = some x) : (zv l)[j]? = some (.int .i64 x) := by simp [zv, h]
theorem take_mem_succ (l : List Int) (j : Nat) (x n : Int) (h : l[j]? = some x) : decide (n ∈ l.take (j + 1)) = (decide (n ∈ l.take j) || (x == n)) := by
  rw [List.take_add_one, h, Bool.eq_iff_iff, Bool.or_eq_true, decide_eq_true_iff, decide_eq_true_iff, beq_iff_eq, List.mem_append]
  simp [eq_comm]
end Go.Proofs.Ytaoiokilnmpniaa
