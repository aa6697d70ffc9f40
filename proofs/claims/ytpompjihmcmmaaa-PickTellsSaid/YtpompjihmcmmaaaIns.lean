/- Arguments that came in: numbers, bools, strings, slices of bytes and of strings: what the reading says of memory. -/
import Derived.Test.YtpompjihmcmmaaaBytes
import Derived.SliceStrings
namespace Go.Proofs.Ytpompjihmcmmaaa
open Go.ChangeShapes Go.WideShapes Go.ChangeAt Go.RowKit
open Go.ChangeMaps (open_string shut_string)
/-- What an argument reads as. -/
abbrev Reads {H : Type} (enc : TypeId × Value → H) (W : World) (t : TypeId) (v : Value) (d : DataW H) (p : List MemPlace) : Prop :=
  DataW.Trod enc Try.prog W 0 (fun _ => true) true t v d p
theorem u8_in {a : Int} (h : (Lit.int .u8 a).wf = true) : ∃ c : Nat, a = (c : Int) ∧ c < 256 := by
  simp [Lit.wf, IntKind.min, IntKind.max, IntKind.signed, IntKind.bits] at h
  exact ⟨a.toNat, by omega, by omega⟩
theorem u16_in {a : Int} (h : (Lit.int .u16 a).wf = true) : ∃ c : Nat, a = (c : Int) ∧ c < 65536 := by
  simp [Lit.wf, IntKind.min, IntKind.max, IntKind.signed, IntKind.bits] at h
  exact ⟨a.toNat, by omega, by omega⟩
section
variable {H : Type} {enc : TypeId × Value → H} {W : World} {base : Nat} {v : Value} {d : DataW H} {p : List MemPlace}
set_option maxRecDepth 100000 in theorem in_u64 (hval : Value.okWide Try.prog W .any base 34 v) (h : Reads enc W 34 v d p) : ∃ n : Nat, v = .int .u64 (n : Int) ∧ n < 18446744073709551616 := by obtain ⟨a, rfl, rfl, rfl, wf⟩ := open_int Try.underlying34 hval h; obtain ⟨c, rfl, hc⟩ := u64_in wf; exact ⟨c, rfl, hc⟩
set_option maxRecDepth 100000 in theorem in_uint (hval : Value.okWide Try.prog W .any base 43 v) (h : Reads enc W 43 v d p) : ∃ n : Nat, v = .int .u64 (n : Int) ∧ n < 18446744073709551616 := by obtain ⟨a, rfl, rfl, rfl, wf⟩ := open_int Try.underlying43 hval h; obtain ⟨c, rfl, hc⟩ := u64_in wf; exact ⟨c, rfl, hc⟩
set_option maxRecDepth 100000 in theorem in_u32 (hval : Value.okWide Try.prog W .any base 101 v) (h : Reads enc W 101 v d p) : ∃ n : Nat, v = .int .u32 (n : Int) ∧ n < 4294967296 := by obtain ⟨a, rfl, rfl, rfl, wf⟩ := open_int Try.underlying101 hval h; obtain ⟨c, rfl, hc⟩ := u32_in wf; exact ⟨c, rfl, hc⟩
set_option maxRecDepth 100000 in theorem in_u8 (hval : Value.okWide Try.prog W .any base 5 v) (h : Reads enc W 5 v d p) : ∃ n : Nat, v = .int .u8 (n : Int) ∧ n < 256 := by obtain ⟨a, rfl, rfl, rfl, wf⟩ := open_int Try.underlying5 hval h; obtain ⟨c, rfl, hc⟩ := u8_in wf; exact ⟨c, rfl, hc⟩
set_option maxRecDepth 100000 in theorem in_int (hval : Value.okWide Try.prog W .any base 3 v) (h : Reads enc W 3 v d p) : ∃ n : Int, v = .int .i64 n ∧ -9223372036854775808 ≤ n ∧ n ≤ 9223372036854775807 := by obtain ⟨a, rfl, rfl, rfl, wf⟩ := open_int Try.underlying3 hval h; exact ⟨a, rfl, i64_in wf⟩
set_option maxRecDepth 100000 in theorem in_bool (hval : Value.okWide Try.prog W .any base 4 v) (h : Reads enc W 4 v d p) : ∃ b : Bool, v = .bool b := by obtain ⟨b, rfl, _⟩ := open_bool Try.underlying4 hval h; exact ⟨b, rfl⟩
set_option maxRecDepth 100000 in theorem in_str (hval : Value.okWide Try.prog W .any base 9 v) (h : Reads enc W 9 v d p) : ∃ s : ByteArray, v = .string s ∧ s.size ≤ 9223372036854775807 := by obtain ⟨s, rfl, rfl, rfl, hs⟩ := open_string Try.underlying9 hval h; simp only [maxLen] at hs; exact ⟨s, rfl, by omega⟩
end
end Go.Proofs.Ytpompjihmcmmaaa
