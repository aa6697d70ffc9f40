/- What both Decodes give of any bytes, and both Is. -/
import Derived.Test.YtakocojbpdpflaaFrIsAny
namespace Go.Proofs.Ytakocojbpdpflaa
open Go.RowKit Fr
set_option linter.unusedVariables false
theorem both_dec (A : Option Addr) (c : Nat) (l : List Nat) (hc : l.length ≤ c) (hbig : l.length ≤ 9223372036854775807) :
    ∃ (f e i k : Int) (p : List Nat) (r : Int),
      (∀ W, Rd W A l.length l → Calls Try.prog 60 #[.slice A l.length c] W (GivesDec W f e i k p r)) ∧
      (∀ W, Rd W A l.length l → Calls Try.prog 47 #[.slice A l.length c] W (GivesDec W f e i k p r)) := by
  cases h : isF l with
  | true => exact ⟨_, _, _, _, _, _, fun W hr => decode_any A _ c l W hr hc h, fun W hr => rdecode_yes A _ c l W hr hc h⟩
  | false => exact ⟨_, _, _, _, _, _, fun W hr => decode_no A _ c l W hr hc hbig h, fun W hr => rdecode_no A _ c l W hr hc hbig h⟩
theorem both_is (f e i z : Int) (A : Option Addr) (c : Nat) (l : List Nat) (hc : l.length ≤ c) (hbig : l.length ≤ 9223372036854775807) :
    ∃ b : Bool,
      (∀ W, Rd W A l.length l → Calls Try.prog 59 #[.slice A l.length c, .agg #[.int .i64 f, .int .i64 e, .int .i64 i], .int .i64 z] W fun x w' => x = .returned (.bool b) ∧ Below W.heap.size W w') ∧
      (∀ W, Rd W A l.length l → Calls Try.prog 24 #[.slice A l.length c, .agg #[.int .i64 f, .int .i64 e, .int .i64 i], .int .i64 z] W fun x w' => x = .returned (.bool b) ∧ Below W.heap.size W w') := by
  cases h : isF l with
  | true => exact ⟨_, fun W hr => is_yes f e i z A _ c l W hr hc hbig h, fun W hr => ris_yes f e i z A _ c l W hr hc hbig h⟩
  | false => exact ⟨_, fun W hr => is_no f e i z A _ c l W hr hc hbig h, fun W hr => ris_no f e i z A _ c l W hr hc hbig h⟩
end Go.Proofs.Ytakocojbpdpflaa
