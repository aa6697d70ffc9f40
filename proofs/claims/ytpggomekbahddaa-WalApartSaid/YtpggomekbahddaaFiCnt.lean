/- file's counts: the copy that does. -/
import Derived.Test.YtpggomekbahddaaFiRead
import Derived.Test.YtpggomekbahddaaFiDef
namespace Go.Proofs.Ytpggomekbahddaa
open Go.RowKit Fi Fr
set_option linter.unusedVariables false
namespace Fi
/-- Does B count? -/
def sec (b0 b1 : Bool) (e0 e1 : Int) : Bool := !b0 || b1 && decide (e0 < e1)
end Fi
set_option maxRecDepth 100000 in
set_option maxHeartbeats 2000000 in
theorem counts_no (x y e0 e1 : Int) (B0 B1 Q0 Q1 : Option Addr) (n0 c0 n1 c1 : Nat) (w : World) :
    Calls Try.prog 46 #[.agg #[.int .i64 x, .slice B0 128 128, .bool false, .int .i64 e0, .slice Q0 n0 c0, .int .i64 y, .slice B1 128 128, .bool false, .int .i64 e1, .slice Q1 n1 c1]] w fun e w' => e = .panicked (Fi.pan 72) ∧ Below w.heap.size w w' := by
  have z1 := zero_one1
  go_enter Try.func46, Try.ntmps46
  go_wp2_with fail
  go_region
  all_goals (go_wp2_with fail)
  all_goals exact ⟨rfl, rfl, by repeat (first | exact Below.refl _ _ | refine Below.drew ?_ | refine Below.setCell ?_ (by simp) _ | refine Below.alloc ?_ (by simp <;> omega) _)⟩
set_option maxRecDepth 100000 in
set_option maxHeartbeats 2000000 in
theorem counts_yes (x y e0 e1 : Int) (b0 b1 : Bool) (B0 B1 Q0 Q1 : Option Addr) (n0 c0 n1 c1 : Nat) (w : World) (h : (b0 || b1) = true) :
    Calls Try.prog 46 #[.agg #[.int .i64 x, .slice B0 128 128, .bool b0, .int .i64 e0, .slice Q0 n0 c0, .int .i64 y, .slice B1 128 128, .bool b1, .int .i64 e1, .slice Q1 n1 c1]] w fun e w' =>
      e = .returned (if sec b0 b1 e0 e1 then .agg #[.int .i64 y, .slice B1 128 128, .bool b1, .int .i64 e1, .slice Q1 n1 c1] else .agg #[.int .i64 x, .slice B0 128 128, .bool b0, .int .i64 e0, .slice Q0 n0 c0]) ∧ Below w.heap.size w w' := by
  have z1 := zero_one1
  unfold sec
  cases b0 <;> cases b1
  · cases h
  · rw [if_pos (by rfl)]
    go_enter Try.func46, Try.ntmps46
    go_wp2_with fail
    go_region
    all_goals (go_wp2_with fail)
    all_goals (refine bodyPost_ret (v := .agg #[.int .i64 y, .slice B1 128 128, .bool true, .int .i64 e1, .slice Q1 n1 c1]) (by simp [results, Try.results46, go_sem]) rfl ?_)
    all_goals exact ⟨rfl, by repeat (first | exact Below.refl _ _ | refine Below.drew ?_ | refine Below.setCell ?_ (by simp) _ | refine Below.alloc ?_ (by simp <;> omega) _)⟩
  · rw [if_neg (by simp)]
    go_enter Try.func46, Try.ntmps46
    go_wp2_with fail
    go_region
    all_goals (go_wp2_with fail)
    all_goals (refine bodyPost_ret (v := .agg #[.int .i64 x, .slice B0 128 128, .bool true, .int .i64 e0, .slice Q0 n0 c0]) (by simp [results, Try.results46, go_sem]) rfl ?_)
    all_goals exact ⟨rfl, by repeat (first | exact Below.refl _ _ | refine Below.drew ?_ | refine Below.setCell ?_ (by simp) _ | refine Below.alloc ?_ (by simp <;> omega) _)⟩
  · by_cases hl : e0 < e1
    · rw [if_pos (by simp [hl])]
      go_enter Try.func46, Try.ntmps46
      go_wp2_with fail
      go_region
      all_goals (go_wp2_with fail)
      all_goals (refine bodyPost_ret (v := .agg #[.int .i64 y, .slice B1 128 128, .bool true, .int .i64 e1, .slice Q1 n1 c1]) (by simp [results, Try.results46, go_sem]) rfl ?_)
      all_goals exact ⟨rfl, by repeat (first | exact Below.refl _ _ | refine Below.drew ?_ | refine Below.setCell ?_ (by simp) _ | refine Below.alloc ?_ (by simp <;> omega) _)⟩
    · rw [if_neg (by simp; omega)]
      go_enter Try.func46, Try.ntmps46
      go_wp2_with fail
      go_region
      all_goals (go_wp2_with fail)
      all_goals (refine bodyPost_ret (v := .agg #[.int .i64 x, .slice B0 128 128, .bool true, .int .i64 e0, .slice Q0 n0 c0]) (by simp [results, Try.results46, go_sem]) rfl ?_)
      all_goals exact ⟨rfl, by repeat (first | exact Below.refl _ _ | refine Below.drew ?_ | refine Below.setCell ?_ (by simp) _ | refine Below.alloc ?_ (by simp <;> omega) _)⟩
end Go.Proofs.Ytpggomekbahddaa
