/- Inboxes and intents that came in. -/
import Derived.Test.YtaoiokilnmpniaaIns
import Derived.Test.YtaoiokilnmpniaaBox
import Derived.Lib.SmallJoins
namespace Go.Proofs.Ytaoiokilnmpniaa
open Go.ChangeShapes Go.WideShapes Go.ChangeAt Go.RowKit Go.Joins
/-- An intent as a value. -/
def intentV (s : ByteArray) (n : Int) : Value := .agg #[.string s, .int .i64 n]
section
variable {H : Type} {enc : TypeId × Value → H} {W : World} {base : Nat} {v : Value} {d : DataW H} {p : List MemPlace}
theorem cells_box : Try.prog.cellsOf 24 = 2 := by kernel_rfl
theorem cells_intent : Try.prog.cellsOf 58 = 2 := by kernel_rfl
theorem one_int {f : Nat} {c : Value} {y : DataW H × List MemPlace} {sp : Nat → Bool} {hd : Bool} (h : DataW.trod enc Try.prog W 0 sp hd f 3 [c] = some y) : ∃ n : Int, c = .int .i64 n ∧ -9223372036854775808 ≤ n ∧ n ≤ 9223372036854775807 := by
  obtain ⟨a, e0, _, wa⟩ := DataW.trod_int Try.underlying3 h
  simp at e0
  exact ⟨a, e0, i64_in wa⟩
set_option maxRecDepth 100000 in
theorem one_u64 {f : Nat} {c : Value} {y : DataW H × List MemPlace} {sp : Nat → Bool} {hd : Bool} (h : DataW.trod enc Try.prog W 0 sp hd f 22 [c] = some y) : ∃ n : Nat, c = .int .u64 (n : Int) ∧ n < 18446744073709551616 := by
  obtain ⟨a, e0, _, wa⟩ := DataW.trod_int Try.underlying22 h
  simp at e0
  obtain ⟨n, rfl, hn⟩ := u64_in wa
  exact ⟨n, e0, hn⟩
set_option maxRecDepth 100000 in
theorem one_str {f : Nat} {c : Value} {y : DataW H × List MemPlace} {sp : Nat → Bool} {hd : Bool} (h : DataW.trod enc Try.prog W 0 sp hd f 9 [c] = some y) : ∃ s : ByteArray, c = .string s ∧ s.size ≤ 9223372036854775807 := by
  obtain ⟨a, e0, _, wa⟩ := DataW.trod_string Try.underlying9 h
  simp at e0
  simp only [maxLen] at wa
  exact ⟨a, e0, by omega⟩
set_option maxRecDepth 100000 in
theorem in_inbox (hval : Value.okWide Try.prog W .any base 24 v) (h : Reads enc W 24 v d p) : ∃ (f : Int) (x : Nat), v = boxV f x ∧ -9223372036854775808 ≤ f ∧ f ≤ 9223372036854775807 ∧ x < 18446744073709551616 := by
  obtain ⟨v0, v1, y0, y1, m, rfl, _, _, h0, h1⟩ := open_agg2 Try.underlying24 (by kernel_rfl) cells_box hval h
  obtain ⟨a, rfl, a1, a2⟩ := one_int h0
  obtain ⟨b, rfl, hb⟩ := one_u64 h1
  exact ⟨a, b, rfl, a1, a2, hb⟩
set_option maxRecDepth 100000 in
theorem in_intent (hval : Value.okWide Try.prog W .any base 58 v) (h : Reads enc W 58 v d p) : ∃ (s : ByteArray) (n : Int), v = intentV s n ∧ s.size ≤ 9223372036854775807 ∧ -9223372036854775808 ≤ n ∧ n ≤ 9223372036854775807 := by
  obtain ⟨v0, v1, y0, y1, m, rfl, _, _, h0, h1⟩ := open_agg2 Try.underlying58 (by kernel_rfl) cells_intent hval h
  obtain ⟨s, rfl, hs⟩ := one_str h0
  obtain ⟨b, rfl, b1, b2⟩ := one_int h1
  exact ⟨s, b, rfl, hs, b1, b2⟩
end
end Go.Proofs.Ytaoiokilnmpniaa
