/- Slices of strings that came in. -/
import Derived.Test.YtpoogjdkjolkhaaIns
import Derived.Test.YtpoogjdkjolkhaaStrs
namespace Go.Proofs.Ytpoogjdkjolkhaa
open Go.ChangeShapes Go.WideShapes Go.ChangeAt Go.RowKit
section
variable {H : Type} {enc : TypeId × Value → H} {W : World} {base : Nat} {v : Value} {d : DataW H} {p : List MemPlace}
theorem in_strs (hval : Value.okWide Try.prog W .any base 22 v) (h : Reads enc W 22 v d p) : ∃ (A : Option Addr) (n cap : Nat) (l : List ByteArray), v = .slice A n cap ∧ RdS W A n l ∧ n ≤ cap ∧ n ≤ 9223372036854775807 ∧ ∀ s ∈ l, s.size ≤ 9223372036854775807 := by
  obtain ⟨a, len, cap, rfl⟩ := okWide_slice Try.underlying22 hval
  obtain ⟨fuel, hf⟩ := h
  rcases open_strings Try.underlying22 Try.underlying9 (by kernel_rfl) hf with ⟨hcs, _⟩ | ⟨x, l, c, ss, hcs, _, hl, hm, hz, _, hcell, hwz⟩
  · simp [Value.cells] at hcs
    obtain ⟨rfl, rfl, rfl⟩ := hcs
    exact ⟨none, 0, 0, [], rfl, RdS.nil W none, Nat.le_refl _, by omega, fun s hs => by cases hs⟩
  · simp [Value.cells] at hcs
    obtain ⟨rfl, rfl, rfl⟩ := hcs
    simp only [maxLen] at hm hwz
    have hzl : ss.length = cap := by simpa using hz
    refine ⟨some x, len, cap, ss.take len, rfl, ⟨by rw [List.length_take]; omega, fun hn => ?_⟩, hl, by omega, fun s hs => by have := hwz s (List.mem_of_mem_take hs); omega⟩
    have hc0 := hcell 0 (by omega)
    obtain ⟨b, off, rfl⟩ : ∃ b o, x = ⟨b, o, none⟩ := by
      obtain ⟨b, o, k⟩ := x
      cases k with
      | none => exact ⟨b, o, rfl⟩
      | some k => simp [Addr.add, World.cell?] at hc0; split at hc0 <;> cases hc0
    have e : ∀ i : Nat, (⟨b, off, none⟩ : Addr).add i = ⟨b, off + i, none⟩ := by intro i; unfold Addr.add; split <;> simp_all
    refine ⟨b, off, rfl, ?_, fun j s hs => ?_⟩
    · rw [e] at hc0
      exact block_lt_of_cell hc0
    · rw [List.getElem?_take] at hs
      split at hs
      · have hj : j < ss.length := by omega
        have := hcell j hj
        rw [e, List.getD_eq_getElem?_getD, hs, Option.getD_some] at this
        exact this
      · cases hs
end
end Go.Proofs.Ytpoogjdkjolkhaa
