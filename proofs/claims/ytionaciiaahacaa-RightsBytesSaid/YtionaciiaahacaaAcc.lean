/- What rights' Check, CheckHold, Fresh and the document's return. -/
import Derived.Test.YtionaciiaahacaaAccMath
import Derived.Test.YtionaciiaahacaaBytes
namespace Go.Proofs.Ytionaciiaahacaa
open Go.RowKit
theorem ret_i64' {a b : Int} (h : a = b) : Ending.returned (.int .i64 a) = .returned (.int .i64 b) := by rw [h]
def withinB (n a b : Int) : Bool := decide (a ≤ n ∧ n ≤ b)
theorem withinB_spec (n a b : Int) : (withinB n a b = true ∧ a ≤ n ∧ n ≤ b) ∨ (withinB n a b = false ∧ (n < a ∨ b < n)) := by
  unfold withinB
  by_cases h : a ≤ n ∧ n ≤ b
  · exact .inl ⟨decide_eq_true h, h⟩
  · exact .inr ⟨decide_eq_false h, by omega⟩
theorem within_any (n a b : Int) (w : World) : Calls Try.prog 43 #[.int .i64 n, .int .i64 a, .int .i64 b] w fun e w' => e = .returned (.bool (withinB n a b)) ∧ w = w' := by
  by_cases h1 : a ≤ n
  all_goals
    go_enter Try.func43, Try.ntmps43
    go_wp2
    go_ret
    refine ⟨?_, rfl⟩
    unfold withinB
    simp
    omega
theorem rwithin_any (n : Int) (w : World) : Calls Try.prog 44 #[.int .i64 n] w fun e w' => e = .returned (.bool (withinB n 0 1125899906842624)) ∧ w = w' := by
  by_cases h1 : 0 ≤ n
  all_goals
    go_enter Try.func44, Try.ntmps44
    go_wp2
    go_ret
    refine ⟨?_, rfl⟩
    unfold withinB
    simp
    omega
/-- An account as a value. -/
def acc (f h q : Int) : Value := .agg #[.int .i64 f, .int .i64 h, .int .i64 q]
def hold (n u : Int) : Value := .agg #[.int .i64 n, .int .i64 u]
def chkA (f h q : Int) : Int := if Ac.okA f h q then 0 else 206
theorem chkA_yes {f h q : Int} (hy : 0 ≤ f ∧ f ≤ 1125899906842624 ∧ 0 ≤ h ∧ h ≤ 1125899906842624 ∧ 0 ≤ q ∧ q ≤ 1125899906842624 ∧ f + h ≤ 1125899906842624) : 0 = chkA f h q := by
  unfold chkA; rw [Ac.okA_iff.2 hy]; rfl
theorem chkA_no {f h q : Int} (hy : ¬ (0 ≤ f ∧ f ≤ 1125899906842624 ∧ 0 ≤ h ∧ h ≤ 1125899906842624 ∧ 0 ≤ q ∧ q ≤ 1125899906842624 ∧ f + h ≤ 1125899906842624)) : 206 = chkA f h q := by
  unfold chkA; rw [Ac.okA_not.2 hy]; rfl
def chkH (n u : Int) : Int := if Ac.okH n u then 0 else 206
theorem chkH_yes {n u : Int} (h : 1 ≤ n ∧ n ≤ 1125899906842624 ∧ 0 ≤ u ∧ u ≤ 1099511627776) : 0 = chkH n u := by
  unfold chkH; rw [Ac.okH_iff.2 h]; rfl
theorem chkH_no {n u : Int} (h : ¬ (1 ≤ n ∧ n ≤ 1125899906842624 ∧ 0 ≤ u ∧ u ≤ 1099511627776)) : 206 = chkH n u := by
  unfold chkH; rw [Ac.okH_not.2 h]; rfl
theorem check_any (f h q : Int) (w : World) : Calls Try.prog 11 #[acc f h q] w fun e w' => e = .returned (.int .i64 (chkA f h q)) ∧ w.alloc (.cells #[.int .i64 f, .int .i64 h, .int .i64 q] 23) = w' := by
  unfold acc
  rcases withinB_spec f 0 1125899906842624 with ⟨b1, f1, f2⟩ | ⟨b1, f1⟩ <;> rcases withinB_spec h 0 1125899906842624 with ⟨b2, h1, h2⟩ | ⟨b2, h1⟩ <;> rcases withinB_spec q 0 1125899906842624 with ⟨b3, q1, q2⟩ | ⟨b3, q1⟩
  all_goals
    go_enter Try.func11, Try.ntmps11
    go_wp2_with (first | (go_at_call 43; refine (within_any _ _ _ _).mono ?_; rintro e w' ⟨rfl, rfl⟩))
    all_goals
      go_ret
      refine ⟨?_, rfl⟩
      first | exact ret_i64' (chkA_no (by omega)) | exact ret_i64' (chkA_yes (by omega))
theorem rcheck_any (f h q : Int) (w : World) : Calls Try.prog 12 #[acc f h q] w fun e w' => e = .returned (.int .i64 (chkA f h q)) ∧ w.alloc (.cells #[.int .i64 f, .int .i64 h, .int .i64 q] 23) = w' := by
  unfold acc
  rcases withinB_spec f 0 1125899906842624 with ⟨b1, f1, f2⟩ | ⟨b1, f1⟩ <;> rcases withinB_spec h 0 1125899906842624 with ⟨b2, h1, h2⟩ | ⟨b2, h1⟩ <;> rcases withinB_spec q 0 1125899906842624 with ⟨b3, q1, q2⟩ | ⟨b3, q1⟩
  all_goals
    go_enter Try.func12, Try.ntmps12
    go_wp2_with (first | (go_at_call 44; refine (rwithin_any _ _).mono ?_; rintro e w' ⟨rfl, rfl⟩))
    all_goals
      go_ret
      refine ⟨?_, rfl⟩
      first | exact ret_i64' (chkA_no (by omega)) | exact ret_i64' (chkA_yes (by omega))
theorem checkhold_any (n u : Int) (w : World) : Calls Try.prog 13 #[hold n u] w fun e w' => e = .returned (.int .i64 (chkH n u)) ∧ w.alloc (.cells #[.int .i64 n, .int .i64 u] 25) = w' := by
  unfold hold
  rcases withinB_spec n 1 1125899906842624 with ⟨b1, f1, f2⟩ | ⟨b1, f1⟩ <;> rcases withinB_spec u 0 1099511627776 with ⟨b2, h1, h2⟩ | ⟨b2, h1⟩
  all_goals
    go_enter Try.func13, Try.ntmps13
    go_wp2_with (first | (go_at_call 43; refine (within_any _ _ _ _).mono ?_; rintro e w' ⟨rfl, rfl⟩))
    all_goals
      go_ret
      refine ⟨?_, rfl⟩
      first | exact ret_i64' (chkH_no (by omega)) | exact ret_i64' (chkH_yes (by omega))
theorem rcheckhold_any (n u : Int) (w : World) : Calls Try.prog 14 #[hold n u] w fun e w' => e = .returned (.int .i64 (chkH n u)) ∧ w.alloc (.cells #[.int .i64 n, .int .i64 u] 25) = w' := by
  unfold hold
  go_enter Try.func14, Try.ntmps14
  go_wp2
  all_goals
    go_ret
    refine ⟨?_, rfl⟩
    first | exact ret_i64' (chkH_no (by omega)) | exact ret_i64' (chkH_yes (by omega))
theorem fresh_any (w : World) : Calls Try.prog 15 #[] w fun e w' => e = .returned (acc 0 0 1125899906842624) ∧ Below w.heap.size w w' := by
  unfold acc
  go_enter Try.func15, Try.ntmps15
  go_wp2
  exact bodyPost_ret (v := .agg #[.int .i64 0, .int .i64 0, .int .i64 1125899906842624]) (by simp [results, Try.results15, go_sem]) rfl ⟨rfl, (Below.refl _ _).alloc (Nat.le_refl _) _⟩
theorem rfresh_any (w : World) : Calls Try.prog 16 #[] w fun e w' => e = .returned (acc 0 0 1125899906842624) ∧ Below w.heap.size w w' := by
  unfold acc
  go_enter Try.func16, Try.ntmps16
  go_wp2
  exact bodyPost_ret (v := .agg #[.int .i64 0, .int .i64 0, .int .i64 1125899906842624]) (by simp [results, Try.results16, go_sem]) rfl ⟨rfl, (Below.refl _ _).alloc (Nat.le_refl _) _⟩
theorem bcell {W w1 : World} (hb : Below W.heap.size W w1) : (∀ b o, b < W.heap.size → w1.cell? ⟨b, o, none⟩ = W.cell? ⟨b, o, none⟩) ∧ (∀ b o, b < W.heap.size → w1.frozen? ⟨b, o, none⟩ = W.frozen? ⟨b, o, none⟩) :=
  ⟨fun b o h => hb.cell (p := ⟨b, o, none⟩) h, fun b o h => hb.frozen (p := ⟨b, o, none⟩) h⟩
/-- An account and an error, as a call returns them. -/
def GivesAcc (w : World) (r : Int × Int × Int × Int) (e : Ending) (w' : World) : Prop :=
  e = .returned (.tuple #[acc r.1 r.2.1 r.2.2.1, .int .i64 r.2.2.2]) ∧ Below w.heap.size w w'
namespace Ac
def chg (f h q n least : Int) (g : Int × Int × Int × Int) : Int × Int × Int × Int :=
  if okA f h q then (if least ≤ n ∧ n ≤ 1125899906842624 then g else (0, 0, 0, 1)) else (0, 0, 0, 206)
def more (f h q n : Int) : Int × Int × Int × Int := if 1125899906842624 < f + h + n then (0, 0, 0, 200) else (f + n, h, q, 0)
def less (f h q n : Int) : Int × Int × Int × Int := if f < n then (0, 0, 0, 201) else (f - n, h, q, 0)
end Ac
theorem check_yes {f h q : Int} (hk : Ac.okA f h q = true) (w : World) : Calls Try.prog 11 #[acc f h q] w fun e w' => e = .returned (.int .i64 0) ∧ w.alloc (.cells #[.int .i64 f, .int .i64 h, .int .i64 q] 23) = w' := by
  have := check_any f h q w
  rwa [show chkA f h q = 0 by unfold chkA; rw [hk]; rfl] at this
theorem check_no {f h q : Int} (hk : Ac.okA f h q = false) (w : World) : Calls Try.prog 11 #[acc f h q] w fun e w' => e = .returned (.int .i64 206) ∧ w.alloc (.cells #[.int .i64 f, .int .i64 h, .int .i64 q] 23) = w' := by
  have := check_any f h q w
  rwa [show chkA f h q = 206 by unfold chkA; rw [hk]; rfl] at this
theorem rcheck_yes {f h q : Int} (hk : Ac.okA f h q = true) (w : World) : Calls Try.prog 12 #[acc f h q] w fun e w' => e = .returned (.int .i64 0) ∧ w.alloc (.cells #[.int .i64 f, .int .i64 h, .int .i64 q] 23) = w' := by
  have := rcheck_any f h q w
  rwa [show chkA f h q = 0 by unfold chkA; rw [hk]; rfl] at this
theorem rcheck_no {f h q : Int} (hk : Ac.okA f h q = false) (w : World) : Calls Try.prog 12 #[acc f h q] w fun e w' => e = .returned (.int .i64 206) ∧ w.alloc (.cells #[.int .i64 f, .int .i64 h, .int .i64 q] 23) = w' := by
  have := rcheck_any f h q w
  rwa [show chkA f h q = 206 by unfold chkA; rw [hk]; rfl] at this
theorem within_yes {n a b : Int} (h : a ≤ n ∧ n ≤ b) (w : World) : Calls Try.prog 43 #[.int .i64 n, .int .i64 a, .int .i64 b] w fun e w' => e = .returned (.bool true) ∧ w = w' := by
  have := within_any n a b w
  rwa [show withinB n a b = true by unfold withinB; exact decide_eq_true h] at this
theorem within_no {n a b : Int} (h : ¬ (a ≤ n ∧ n ≤ b)) (w : World) : Calls Try.prog 43 #[.int .i64 n, .int .i64 a, .int .i64 b] w fun e w' => e = .returned (.bool false) ∧ w = w' := by
  have := within_any n a b w
  rwa [show withinB n a b = false by unfold withinB; exact decide_eq_false h] at this
end Go.Proofs.Ytionaciiaahacaa
