/- What a line adds: books.step. -/
import Derived.Test.YtcoekdfmfjglpaaBoMap
namespace Go.Proofs.Ytcoekdfmfjglpaa
open Go.RowKit
def GivesStep (w : World) (l : Bo.Ln) (e : Ending) (w' : World) : Prop :=
  e = .returned (.tuple #[.complex .f64 (Bo.fl (Bo.dF l)) (Bo.fl (Bo.dH l)), .int .i64 (Bo.dO l)]) ∧ Below w.heap.size w w'
set_option maxRecDepth 100000 in
set_option maxHeartbeats 4000000 in
theorem step_any (x : Bo.Ln) (w : World) (hx : Bo.okL x = true) : Calls Try.prog 27 #[.agg x.cells.toArray] w (GivesStep w x) := by
  obtain ⟨hk, _, hn⟩ := Bo.okL_iff.1 hx
  clear hx
  obtain ⟨kind, key, n⟩ := x
  have HB := Lib.hid (show Below w.heap.size w (w.alloc (.cells #[Value.int .i64 kind, .string key, .int .i64 n] 25)) from (Below.refl _ _).alloc (Nat.le_refl _) _)
  dsimp only at hk hn
  have hfl : floatOfInt .f64 n = Bo.fl n := rfl
  have hng : Op.unary .neg (.float .f64 (Bo.fl n)) = pure (.float .f64 (Bo.fl (-n))) := by
    show (pure (Value.float .f64 (Op.negFloat .f64 (Bo.fl n))) : Sem Value) = _
    rw [Bo.neg_fl (by omega) (by omega)]
  have hz := Lib.hid Bo.fl_zero
  show Calls _ _ #[.agg #[.int .i64 kind, .string key, .int .i64 n]] _ _
  have hall : kind = 1 ∨ kind = 2 ∨ kind = 3 ∨ kind = 4 ∨ kind = 5 ∨ kind = 6 ∨ kind = 7 ∨ kind = 8 := by omega
  clear hk
  rcases hall with rfl | rfl | rfl | rfl | rfl | rfl | rfl | rfl
  · go_enter Try.func27, Try.ntmps27
    go_wp2
    go_ret2
    exact ⟨by simp [Bo.dF, Bo.dH, Bo.dO, hz.out], HB.out⟩
  · go_enter Try.func27, Try.ntmps27
    go_wp2
    go_ret2
    exact ⟨by simp [Bo.dF, Bo.dH, Bo.dO, hz.out], HB.out⟩
  · go_enter Try.func27, Try.ntmps27
    go_wp2
    go_ret2
    exact ⟨by simp [Bo.dF, Bo.dH, Bo.dO], HB.out⟩
  · go_enter Try.func27, Try.ntmps27
    go_wp2
    go_ret2
    exact ⟨by simp [Bo.dF, Bo.dH, Bo.dO, hz.out], HB.out⟩
  · go_enter Try.func27, Try.ntmps27
    go_wp2
    go_ret2
    exact ⟨by simp [Bo.dF, Bo.dH, Bo.dO], HB.out⟩
  · go_enter Try.func27, Try.ntmps27
    go_wp2
    go_region
    all_goals
      go_wp2
      go_ret2
      exact ⟨by simp [Bo.dF, Bo.dH, Bo.dO, hz.out], HB.out.drew⟩
  · go_enter Try.func27, Try.ntmps27
    go_wp2
    go_region
    all_goals
      go_wp2
      go_ret2
      exact ⟨by simp [Bo.dF, Bo.dH, Bo.dO, hz.out], HB.out.drew⟩
  · go_enter Try.func27, Try.ntmps27
    go_wp2
    go_ret2
    exact ⟨by simp [Bo.dF, Bo.dH, Bo.dO, hz.out], HB.out⟩
end Go.Proofs.Ytcoekdfmfjglpaa
