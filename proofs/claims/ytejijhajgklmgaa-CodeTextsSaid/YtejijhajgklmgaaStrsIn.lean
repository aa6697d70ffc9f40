/- Arguments that came in: numbers, strings, slices of bytes and of strings: what the reading says of memory; rows of strings of a call's own. -/
import Derived.Test.YtejijhajgklmgaaStrs
import Derived.Test.YtejijhajgklmgaaCodeParts
namespace Go.Proofs.Ytejijhajgklmgaa
open Go.ChangeShapes Go.WideShapes Go.ChangeAt Go.RowKit
open Go.ChangeMaps (open_string shut_string)
/-- What an argument reads as. -/
abbrev Reads {H : Type} (enc : TypeId × Value → H) (W : World) (t : TypeId) (v : Value) (d : DataW H) (p : List MemPlace) : Prop :=
  DataW.Trod enc Try.prog W 0 (fun _ => true) true t v d p
section
variable {H : Type} {enc : TypeId × Value → H} {W : World} {base : Nat} {v : Value} {d : DataW H} {p : List MemPlace}
theorem in_u64 (hval : Value.okWide Try.prog W .any base 22 v) (h : Reads enc W 22 v d p) : ∃ n : Nat, v = .int .u64 (n : Int) ∧ n < 18446744073709551616 := by
  obtain ⟨a, rfl, rfl, rfl, wf⟩ := open_int Try.underlying22 hval h
  obtain ⟨c, rfl, hc⟩ := u64_in wf
  exact ⟨c, rfl, hc⟩
theorem in_int (hval : Value.okWide Try.prog W .any base 3 v) (h : Reads enc W 3 v d p) : ∃ n : Int, v = .int .i64 n ∧ -9223372036854775808 ≤ n ∧ n ≤ 9223372036854775807 := by
  obtain ⟨a, rfl, rfl, rfl, wf⟩ := open_int Try.underlying3 hval h
  exact ⟨a, rfl, i64_in wf⟩
theorem in_str (hval : Value.okWide Try.prog W .any base 9 v) (h : Reads enc W 9 v d p) : ∃ s : ByteArray, v = .string s ∧ s.size ≤ 9223372036854775807 := by
  obtain ⟨s, rfl, rfl, rfl, hs⟩ := open_string Try.underlying9 hval h
  simp only [maxLen] at hs
  exact ⟨s, rfl, by omega⟩
theorem in_bytes (hval : Value.okWide Try.prog W .any base 23 v) (h : Reads enc W 23 v d p) : ∃ (A : Option Addr) (n cap : Nat) (l : List Nat), v = .slice A n cap ∧ Rd W A n l ∧ n ≤ cap ∧ n ≤ 9223372036854775807 := by
  obtain ⟨a, len, cap, rfl⟩ := okWide_slice Try.underlying23 hval
  obtain ⟨fuel, hf⟩ := h
  have hz : ∃ zs, IsRow .u8 W a len cap zs := by
    rcases open_ints Try.underlying23 Try.underlying5 (by kernel_rfl) hf with ⟨hcs, _⟩ | ⟨x, l, c, zs, hcs, _, hl, hm, hz, _, hcell, hwz⟩
    · simp [Value.cells] at hcs
      obtain ⟨rfl, rfl, rfl⟩ := hcs
      exact ⟨[], .inl ⟨rfl, rfl, rfl, rfl⟩⟩
    · simp [Value.cells] at hcs
      obtain ⟨rfl, rfl, rfl⟩ := hcs
      exact ⟨zs, .inr ⟨_, rfl, hl, hm, by simpa using hz, hcell, hwz⟩⟩
  obtain ⟨zs, hz⟩ := hz
  obtain ⟨l, hr, hc, hn⟩ := row_rd hz
  exact ⟨a, len, cap, l, rfl, hr, hc, hn⟩
theorem in_strs (hval : Value.okWide Try.prog W .any base 38 v) (h : Reads enc W 38 v d p) : ∃ (A : Option Addr) (n cap : Nat) (l : List ByteArray), v = .slice A n cap ∧ RdS W A n l ∧ n ≤ cap ∧ n ≤ 9223372036854775807 ∧ ∀ s ∈ l, s.size ≤ 9223372036854775807 := by
  obtain ⟨a, len, cap, rfl⟩ := okWide_slice Try.underlying38 hval
  obtain ⟨fuel, hf⟩ := h
  rcases open_strings Try.underlying38 Try.underlying9 (by kernel_rfl) hf with ⟨hcs, _⟩ | ⟨x, l, c, ss, hcs, _, hl, hm, hz, _, hcell, hwz⟩
  · simp [Value.cells] at hcs
    obtain ⟨rfl, rfl, rfl⟩ := hcs
    exact ⟨none, 0, 0, [], rfl, RdS.nil W none, Nat.le_refl _, by omega, fun s hs => by cases hs⟩
  · simp [Value.cells] at hcs
    obtain ⟨rfl, rfl, rfl⟩ := hcs
    simp only [maxLen] at hm hwz
    have hzl : ss.length = cap := by simpa using hz
    refine ⟨some x, len, cap, ss.take len, rfl, ⟨by rw [List.length_take]; omega, fun hn => ?_⟩, hl, by omega, fun s hs => by have := hwz s (List.mem_of_mem_take hs); omega⟩
    have hc0 := hcell 0 (by omega)
    obtain ⟨b, off, rfl⟩ : ∃ b o, x = ⟨b, o, none⟩ := by
      obtain ⟨b, o, k⟩ := x
      cases k with
      | none => exact ⟨b, o, rfl⟩
      | some k => simp [Addr.add, World.cell?] at hc0; split at hc0 <;> cases hc0
    have e : ∀ i : Nat, (⟨b, off, none⟩ : Addr).add i = ⟨b, off + i, none⟩ := by intro i; unfold Addr.add; split <;> simp_all
    refine ⟨b, off, rfl, ?_, fun j s hs => ?_⟩
    · rw [e] at hc0
      exact block_lt_of_cell hc0
    · rw [List.getElem?_take] at hs
      split at hs
      · have hj : j < ss.length := by omega
        have := hcell j hj
        rw [e, List.getD_eq_getElem?_getD, hs, Option.getD_some] at this
        exact this
      · cases hs
end
end Go.Proofs.Ytejijhajgklmgaa
