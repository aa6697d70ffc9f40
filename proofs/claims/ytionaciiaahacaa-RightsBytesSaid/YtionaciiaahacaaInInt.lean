/- Arguments of type int, and slices of bytes, that came in. -/
import Derived.Test.YtionaciiaahacaaRead
namespace Go.Proofs.Ytionaciiaahacaa
open Go.ChangeShapes Go.WideShapes Go.ChangeAt Go.RowKit
section
variable {H : Type} {enc : TypeId × Value → H} {W : World} {base : Nat} {v : Value} {d : DataW H} {p : List MemPlace}
theorem in_int (hval : Value.okWide Try.prog W .any base 3 v) (h : Reads enc W 3 v d p) : ∃ n : Int, v = .int .i64 n ∧ -9223372036854775808 ≤ n ∧ n ≤ 9223372036854775807 := by
  obtain ⟨a, rfl, rfl, rfl, wf⟩ := open_int Try.underlying3 hval h
  exact ⟨a, rfl, i64_in wf⟩
theorem in_bytes (hval : Value.okWide Try.prog W .any base 38 v) (h : Reads enc W 38 v d p) : ∃ (A : Option Addr) (n cap : Nat) (l : List Nat), v = .slice A n cap ∧ Rd W A n l ∧ n ≤ cap ∧ n ≤ 9223372036854775807 := by
  obtain ⟨a, len, cap, rfl⟩ := okWide_slice Try.underlying38 hval
  obtain ⟨fuel, hf⟩ := h
  have hz : ∃ zs, IsRow .u8 W a len cap zs := by
    rcases open_ints Try.underlying38 Try.underlying5 (by kernel_rfl) hf with ⟨hcs, _⟩ | ⟨x, l, c, zs, hcs, _, hl, hm, hz, _, hcell, hwz⟩
    · simp [Value.cells] at hcs
      obtain ⟨rfl, rfl, rfl⟩ := hcs
      exact ⟨[], .inl ⟨rfl, rfl, rfl, rfl⟩⟩
    · simp [Value.cells] at hcs
      obtain ⟨rfl, rfl, rfl⟩ := hcs
      exact ⟨zs, .inr ⟨_, rfl, hl, hm, by simpa using hz, hcell, hwz⟩⟩
  obtain ⟨zs, hz⟩ := hz
  obtain ⟨l, hr, hc, hn⟩ := row_rd hz
  exact ⟨a, len, cap, l, rfl, hr, hc, hn⟩
end
end Go.Proofs.Ytionaciiaahacaa
