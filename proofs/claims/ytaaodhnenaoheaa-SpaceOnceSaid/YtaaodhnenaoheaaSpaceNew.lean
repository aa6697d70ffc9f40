/- What space's New returns. -/
import Derived.Test.YtaaodhnenaoheaaSpace
namespace Go.Proofs.Ytaaodhnenaoheaa
open Go.RowKit
set_option linter.unusedVariables false
set_option maxRecDepth 100000 in
theorem new_no (s : Int) (w : World) (h0 : s ≤ 9223372036854775807) (h : s < 0 ∨ 4096 < s) : Calls Try.prog 12 #[.int .i64 s] w fun e w' => e = .returned (.tuple #[.pointer none, .int .i64 1]) ∧ w = w' := by
  by_cases h1 : s < 0
  · go_enter Try.func12, Try.ntmps12
    go_wp2
    go_ret2
    exact ⟨rfl, rfl⟩
  · have h2 : 4096 < s := by omega
    go_enter Try.func12, Try.ntmps12
    go_wp2
    go_ret2
    exact ⟨rfl, rfl⟩
set_option maxRecDepth 100000 in
theorem new_yes (s : Int) (w : World) (h1 : 0 ≤ s) (h2 : s ≤ 4096) : Calls Try.prog 12 #[.int .i64 s] w fun e w' => e = .returned (.tuple #[.pointer (some ⟨w.heap.size, 0, none⟩), .int .i64 0]) ∧ w.alloc (.cells #[.bool true, .int .i64 (Sp.plots s : Int), .int .u64 0, .int .u64 0, .int .u64 0, .int .u64 0, .int .u64 0, .int .u64 0, .int .u64 0, .int .u64 0] 64) = w' := by
  have hp := fun W => plots_any s W (by omega)
  generalize Sp.plots s = n at *
  have Hp := Lib.hid hp
  clear hp
  go_enter Try.func12, Try.ntmps12
  go_wp2_with (first | (go_at_call 10; refine (Hp.out _).mono ?_; rintro e w' ⟨rfl, rfl⟩))
  go_ret2
  exact ⟨rfl, rfl⟩
end Go.Proofs.Ytaaodhnenaoheaa
