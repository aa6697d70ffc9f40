/- code.Fixed of one byte; frag's kindOf. -/
import Derived.Test.YtpfdacnjikdifaaHolds
import Derived.Test.YtpfdacnjikdifaaFgMath
import Derived.LoopN
namespace Go.Proofs.Ytpfdacnjikdifaa
open Go.RowKit
set_option linter.unusedVariables false
set_option maxRecDepth 100000 in
set_option maxHeartbeats 1000000 in
theorem fixed_one (n : Nat) (hn : n < 256) (w : World) : Calls Try.prog 21 #[.int .u64 (n : Int), .int .i64 1] w (GivesBytes w [n]) := by
  have hmk := make_all 1 (by omega)
  have hz := Own.zeros w w.heap.size 1 (Nat.le_refl _) (by omega)
  have hB : Below w.heap.size w (w.alloc (.cells (madeCells #[.int .u8 0] 1) 5)) := (Below.refl _ _).alloc (Nat.le_refl _) _
  have hc := hz.cell (j := 0) (x := 0) rfl
  have hf := hz.free 0
  have hs : Own (w.alloc (.cells ((madeCells #[.int .u8 0] 1).setIfInBounds 0 (.int .u8 (n : Int))) 5)) w.heap.size (some ⟨w.heap.size, 0, none⟩) 1 1 [n] := by
    have h := Own.lit (base := w.heap.size) w [n] (by simpa using hn) (Nat.le_refl _) (by simp)
    have e : (madeCells #[Value.int .u8 0] 1).setIfInBounds 0 (.int .u8 (n : Int)) = (bv [n]).toArray := by
      have e0 : madeCells #[Value.int .u8 0] 1 = #[.int .u8 0] := by
        apply Array.toList_inj.1
        rw [toList_madeCells_one]; rfl
      rw [e0]; rfl
    rw [e]
    exact h
  have HS := Lib.hid hs
  have hn2 : (n : Int) % 256 = (n : Int) := by omega
  have hmk1 : ∀ w : World, (Instr.makeSlice 29 (.int .i64 1) (.int .i64 1)).run Try.prog w = .ok (.slice (some ⟨w.heap.size, 0, none⟩) 1 1) (w.alloc (.cells (madeCells #[.int .u8 0] 1) 5)) := hmk
  clear hs hz hB hmk
  go_enter Try.func21, Try.ntmps21
  go_wp2
  refine wp_loop_rounds 2 ?_
  rw [rounds_succ]
  go_wp2
  rw [rounds_succ]
  go_wp2
  go_ret
  exact ⟨some ⟨w.heap.size, 0, none⟩, 1, rfl, HS.out, (Below.refl _ _).alloc (Nat.le_refl _) _⟩
set_option maxRecDepth 100000 in
theorem kindOf_any (b o : Bool) (w : World) : Calls Try.prog 26 #[.bool (!b), .bool o] w fun e w' => e = .returned (.int .i64 (Fg.kind b o : Int)) ∧ w = w' := by
  cases b <;> cases o <;>
  · go_enter Try.func26, Try.ntmps26
    go_wp2
    go_ret
    exact ⟨rfl, rfl⟩
end Go.Proofs.Ytpfdacnjikdifaa
