/- Which stamps and kinds may be: frame's Check and isKind, and the document's Check. -/
import Derived.Test.YtcckhdmdklholaaBytes
import Derived.LoopN
namespace Go.Proofs.Ytcckhdmdklholaa
open Go.RowKit
set_option linter.unusedVariables false
namespace Fr
/-- May a number stand in a stamp? -/
def okN (n : Int) : Bool := decide (0 ≤ n ∧ n ≤ 2147483647)
def okS (f e i : Int) : Bool := okN f && okN e && okN i
def okK (k : Int) : Bool := decide (1 ≤ k ∧ k ≤ 4)
theorem okN_iff {n : Int} : okN n = true ↔ 0 ≤ n ∧ n ≤ 2147483647 := by unfold okN; exact decide_eq_true_iff
theorem okK_iff {n : Int} : okK n = true ↔ 1 ≤ n ∧ n ≤ 4 := by unfold okK; exact decide_eq_true_iff
theorem okS_iff {f e i : Int} : okS f e i = true ↔ (0 ≤ f ∧ f ≤ 2147483647) ∧ (0 ≤ e ∧ e ≤ 2147483647) ∧ (0 ≤ i ∧ i ≤ 2147483647) := by
  unfold okS; rw [Bool.and_eq_true, Bool.and_eq_true, okN_iff, okN_iff, okN_iff, and_assoc]
theorem okN_no {n : Int} (h : ¬ okN n = true) : n < 0 ∨ (¬ n < 0 ∧ 2147483647 < n) := by rw [okN_iff] at h; omega
end Fr
open Fr
set_option maxRecDepth 100000 in
set_option maxHeartbeats 1000000 in
theorem check_yes (f e i : Int) (w : World) (h : okS f e i = true) : Calls Try.prog 12 #[.agg #[.int .i64 f, .int .i64 e, .int .i64 i]] w fun x w' => x = .returned (.int .i64 0) ∧ Below w.heap.size w w' := by
  obtain ⟨⟨f1, f2⟩, ⟨e1, e2⟩, i1, i2⟩ := okS_iff.1 h
  have f3 : ¬ f < 0 := by omega
  have f4 : ¬ 2147483647 < f := by omega
  have e3 : ¬ e < 0 := by omega
  have e4 : ¬ 2147483647 < e := by omega
  have i3 : ¬ i < 0 := by omega
  have i4 : ¬ 2147483647 < i := by omega
  have x0 : ∀ w, (Instr.index 48 (.agg #[.int .i64 f, .int .i64 e, .int .i64 i]) (.int .i64 0)).run Try.prog w = .ok (.int .i64 f) w := fun _ => by kernel_rfl
  have x1 : ∀ w, (Instr.index 48 (.agg #[.int .i64 f, .int .i64 e, .int .i64 i]) (.int .i64 1)).run Try.prog w = .ok (.int .i64 e) w := fun _ => by kernel_rfl
  have x2 : ∀ w, (Instr.index 48 (.agg #[.int .i64 f, .int .i64 e, .int .i64 i]) (.int .i64 2)).run Try.prog w = .ok (.int .i64 i) w := fun _ => by kernel_rfl
  clear h
  go_enter Try.func12, Try.ntmps12
  go_wp2
  refine wp_loop_rounds 4 ?_
  rw [rounds_succ]
  go_wp2
  rw [rounds_succ]
  go_wp2
  rw [rounds_succ]
  go_wp2
  rw [rounds_succ]
  go_wp2
  go_ret
  exact ⟨rfl, (Below.refl _ _).alloc (Nat.le_refl _) _⟩
set_option maxRecDepth 100000 in
set_option maxHeartbeats 2000000 in
theorem check_no (f e i : Int) (w : World) (h : okS f e i = false) : Calls Try.prog 12 #[.agg #[.int .i64 f, .int .i64 e, .int .i64 i]] w fun x w' => x = .returned (.int .i64 1) ∧ Below w.heap.size w w' := by
  have x0 : ∀ w, (Instr.index 48 (.agg #[.int .i64 f, .int .i64 e, .int .i64 i]) (.int .i64 0)).run Try.prog w = .ok (.int .i64 f) w := fun _ => by kernel_rfl
  have x1 : ∀ w, (Instr.index 48 (.agg #[.int .i64 f, .int .i64 e, .int .i64 i]) (.int .i64 1)).run Try.prog w = .ok (.int .i64 e) w := fun _ => by kernel_rfl
  have x2 : ∀ w, (Instr.index 48 (.agg #[.int .i64 f, .int .i64 e, .int .i64 i]) (.int .i64 2)).run Try.prog w = .ok (.int .i64 i) w := fun _ => by kernel_rfl
  by_cases hf : okN f = true
  · obtain ⟨f1, f2⟩ := okN_iff.1 hf
    have f3 : ¬ f < 0 := by omega
    have f4 : ¬ 2147483647 < f := by omega
    by_cases he : okN e = true
    · obtain ⟨e1, e2⟩ := okN_iff.1 he
      have e3 : ¬ e < 0 := by omega
      have e4 : ¬ 2147483647 < e := by omega
      have hi : ¬ okN i = true := fun hi => by rw [show okS f e i = true by unfold okS; rw [hf, he, hi]; rfl] at h; cases h
      clear h hf he
      rcases okN_no hi with hi | ⟨hi, hi2⟩
      all_goals
        go_enter Try.func12, Try.ntmps12
        go_wp2
        refine wp_loop_rounds 3 ?_
        rw [rounds_succ]
        go_wp2
        rw [rounds_succ]
        go_wp2
        rw [rounds_succ]
        go_wp2
        go_ret
        exact ⟨rfl, (Below.refl _ _).alloc (Nat.le_refl _) _⟩
    · clear h hf
      rcases okN_no he with hi | ⟨hi, hi2⟩
      all_goals
        go_enter Try.func12, Try.ntmps12
        go_wp2
        refine wp_loop_rounds 2 ?_
        rw [rounds_succ]
        go_wp2
        rw [rounds_succ]
        go_wp2
        go_ret
        exact ⟨rfl, (Below.refl _ _).alloc (Nat.le_refl _) _⟩
  · clear h
    rcases okN_no hf with hi | ⟨hi, hi2⟩
    all_goals
      go_enter Try.func12, Try.ntmps12
      go_wp2
      refine wp_loop_rounds 1 ?_
      rw [rounds_succ]
      go_wp2
      go_ret
      exact ⟨rfl, (Below.refl _ _).alloc (Nat.le_refl _) _⟩
set_option maxRecDepth 100000 in
theorem kind_any (k : Int) (w : World) : Calls Try.prog 19 #[.int .i64 k] w fun x w' => x = .returned (.bool (okK k)) ∧ w = w' := by
  by_cases h : okK k = true
  · obtain ⟨h1, h2⟩ := okK_iff.1 h
    rw [h]
    clear h
    go_enter Try.func19, Try.ntmps19
    go_wp2
    go_ret
    exact ⟨rfl, rfl⟩
  · have h0 : okK k = false := by simpa using h
    rw [h0]
    rw [okK_iff] at h
    clear h0
    by_cases h1 : 1 ≤ k
    · have h2 : ¬ k ≤ 4 := by omega
      clear h
      go_enter Try.func19, Try.ntmps19
      go_wp2
      go_ret
      exact ⟨rfl, rfl⟩
    · clear h
      go_enter Try.func19, Try.ntmps19
      go_wp2
      go_ret
      exact ⟨rfl, rfl⟩
end Go.Proofs.Ytcckhdmdklholaa
