/- A part of bytes: how a slice expression reads. -/
import Derived.Test.YtcckhdmdklholaaBytes
namespace Go.Proofs.Ytcckhdmdklholaa
open Go.RowKit
theorem run_part (g q c n : Nat) (hn : n ≤ 108) (hc : 128 ≤ c) (w : World) : (Instr.slice 24 (.slice (some ⟨g, q, none⟩) 128 c) (some (.int .i64 (16 + (n : Int)))) (some (.int .i64 124)) none).run Try.prog w = .ok (.slice (some ⟨g, q + (16 + n), none⟩) (108 - n) (c - (16 + n))) w := by
  have h1 : ¬ (c : Int) < 124 := by omega
  have h2 : (124 : Int) ≤ (c : Int) := by omega
  have h3 : (0 : Int) ≤ 16 + (n : Int) := by omega
  have h4 : 16 + (n : Int) ≤ 124 := by omega
  have h5 : (16 + (n : Int)).toNat = 16 + n := by omega
  have h6 : 124 - (16 + n) = 108 - n := by omega
  have h7 : ¬ c = 16 + n := by omega
  simp [Instr.slice, run_underlying Try.underlying24, Instr.sliceBounds, Instr.sliceBound, asIntOf, go_sem, h2, h3, h4, h5, h6, h7]
end Go.Proofs.Ytcckhdmdklholaa
