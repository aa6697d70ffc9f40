/- Arguments that came in: numbers, bools, strings, slices of bytes and of strings: what the reading says of memory. Slices of ints and slices of byte slices that came in. -/
import Derived.Test.YtpggomekbahddaaBytes
import Derived.SliceStrings
import Derived.Test.YtpggomekbahddaaM06
import Derived.Deep.Matrix
namespace Go.Proofs.Ytpggomekbahddaa
open Go.ChangeShapes Go.WideShapes Go.ChangeAt Go.RowKit
open Go.ChangeMaps (open_string shut_string)
/-- What an argument reads as. -/
abbrev Reads {H : Type} (enc : TypeId × Value → H) (W : World) (t : TypeId) (v : Value) (d : DataW H) (p : List MemPlace) : Prop :=
  DataW.Trod enc Try.prog W 0 (fun _ => true) true t v d p
theorem u8_in {a : Int} (h : (Lit.int .u8 a).wf = true) : ∃ c : Nat, a = (c : Int) ∧ c < 256 := by
  simp [Lit.wf, IntKind.min, IntKind.max, IntKind.signed, IntKind.bits] at h
  exact ⟨a.toNat, by omega, by omega⟩
theorem u16_in {a : Int} (h : (Lit.int .u16 a).wf = true) : ∃ c : Nat, a = (c : Int) ∧ c < 65536 := by
  simp [Lit.wf, IntKind.min, IntKind.max, IntKind.signed, IntKind.bits] at h
  exact ⟨a.toNat, by omega, by omega⟩
section
variable {H : Type} {enc : TypeId × Value → H} {W : World} {base : Nat} {v : Value} {d : DataW H} {p : List MemPlace}
set_option maxRecDepth 100000 in theorem in_u64 (hval : Value.okWide Try.prog W .any base 84 v) (h : Reads enc W 84 v d p) : ∃ n : Nat, v = .int .u64 (n : Int) ∧ n < 18446744073709551616 := by obtain ⟨a, rfl, rfl, rfl, wf⟩ := open_int Try.underlying84 hval h; obtain ⟨c, rfl, hc⟩ := u64_in wf; exact ⟨c, rfl, hc⟩
set_option maxRecDepth 100000 in theorem in_uint (hval : Value.okWide Try.prog W .any base 106 v) (h : Reads enc W 106 v d p) : ∃ n : Nat, v = .int .u64 (n : Int) ∧ n < 18446744073709551616 := by obtain ⟨a, rfl, rfl, rfl, wf⟩ := open_int Try.underlying106 hval h; obtain ⟨c, rfl, hc⟩ := u64_in wf; exact ⟨c, rfl, hc⟩
set_option maxRecDepth 100000 in theorem in_u32 (hval : Value.okWide Try.prog W .any base 108 v) (h : Reads enc W 108 v d p) : ∃ n : Nat, v = .int .u32 (n : Int) ∧ n < 4294967296 := by obtain ⟨a, rfl, rfl, rfl, wf⟩ := open_int Try.underlying108 hval h; obtain ⟨c, rfl, hc⟩ := u32_in wf; exact ⟨c, rfl, hc⟩
set_option maxRecDepth 100000 in theorem in_u8 (hval : Value.okWide Try.prog W .any base 5 v) (h : Reads enc W 5 v d p) : ∃ n : Nat, v = .int .u8 (n : Int) ∧ n < 256 := by obtain ⟨a, rfl, rfl, rfl, wf⟩ := open_int Try.underlying5 hval h; obtain ⟨c, rfl, hc⟩ := u8_in wf; exact ⟨c, rfl, hc⟩
set_option maxRecDepth 100000 in theorem in_int (hval : Value.okWide Try.prog W .any base 3 v) (h : Reads enc W 3 v d p) : ∃ n : Int, v = .int .i64 n ∧ -9223372036854775808 ≤ n ∧ n ≤ 9223372036854775807 := by obtain ⟨a, rfl, rfl, rfl, wf⟩ := open_int Try.underlying3 hval h; exact ⟨a, rfl, i64_in wf⟩
set_option maxRecDepth 100000 in theorem in_bool (hval : Value.okWide Try.prog W .any base 4 v) (h : Reads enc W 4 v d p) : ∃ b : Bool, v = .bool b := by obtain ⟨b, rfl, _⟩ := open_bool Try.underlying4 hval h; exact ⟨b, rfl⟩
set_option maxRecDepth 100000 in theorem in_str (hval : Value.okWide Try.prog W .any base 9 v) (h : Reads enc W 9 v d p) : ∃ s : ByteArray, v = .string s ∧ s.size ≤ 9223372036854775807 := by obtain ⟨s, rfl, rfl, rfl, hs⟩ := open_string Try.underlying9 hval h; simp only [maxLen] at hs; exact ⟨s, rfl, by omega⟩
set_option maxRecDepth 100000 in
theorem in_bytes (hval : Value.okWide Try.prog W .any base 23 v) (h : Reads enc W 23 v d p) : ∃ (A : Option Addr) (n cap : Nat) (l : List Nat), v = .slice A n cap ∧ Rd W A n l ∧ n ≤ cap ∧ n ≤ 9223372036854775807 := by
  obtain ⟨a, len, cap, rfl⟩ := okWide_slice Try.underlying23 hval
  obtain ⟨fuel, hf⟩ := h
  have hz : ∃ zs, IsRow .u8 W a len cap zs := by
    rcases open_ints Try.underlying23 Try.underlying5 (by kernel_rfl) hf with ⟨hcs, _⟩ | ⟨x, l, c, zs, hcs, _, hl, hm, hz, _, hcell, hwz⟩
    · simp [Value.cells] at hcs
      obtain ⟨rfl, rfl, rfl⟩ := hcs
      exact ⟨[], .inl ⟨rfl, rfl, rfl, rfl⟩⟩
    · simp [Value.cells] at hcs
      obtain ⟨rfl, rfl, rfl⟩ := hcs
      exact ⟨zs, .inr ⟨_, rfl, hl, hm, by simpa using hz, hcell, hwz⟩⟩
  obtain ⟨zs, hz⟩ := hz
  obtain ⟨l, hr, hc, hn⟩ := row_rd hz
  exact ⟨a, len, cap, l, rfl, hr, hc, hn⟩
end
end Go.Proofs.Ytpggomekbahddaa
namespace Go.Proofs.Ytpggomekbahddaa
open Go.ChangeShapes Go.WideShapes Go.ChangeAt Go.RowKit Go.Deep
theorem exists_list' {α : Type} {P : Nat → α → Prop} (n : Nat) (h : ∀ i, i < n → ∃ a, P i a) : ∃ l : List α, l.length = n ∧ ∀ i a, l[i]? = some a → P i a := by
  induction n with
  | zero => exact ⟨[], rfl, fun i a e => by cases e⟩
  | succ n ih =>
    obtain ⟨l, hl, hp⟩ := ih fun i hi => h i (by omega)
    obtain ⟨a, ha⟩ := h n (by omega)
    refine ⟨l ++ [a], by simp [hl], fun i x e => ?_⟩
    by_cases hi : i < l.length
    · rw [List.getElem?_append_left hi] at e; exact hp i x e
    · rw [List.getElem?_append_right (by omega)] at e
      have hi2 : i - l.length = 0 := by
        have := (List.getElem?_eq_some_iff.1 e).1
        simp at this; omega
      rw [hi2] at e
      have hin : i = n := by omega
      simp at e
      subst e
      rw [hin]
      exact ha
theorem plain_addr' {w : World} {x : Addr} {v : Value} (h : w.cell? (x.add 0) = some v) : ∃ b o, x = ⟨b, o, none⟩ := by
  obtain ⟨b, o, s⟩ := x
  cases s with
  | none => exact ⟨b, o, rfl⟩
  | some s =>
    unfold World.cell? at h
    split at h
    · simp [Addr.add] at h
    · cases h
theorem plain_add' (b o k : Nat) : (⟨b, o, none⟩ : Addr).add k = ⟨b, o + k, none⟩ := by unfold Addr.add; split <;> simp_all
section
variable {H : Type} {enc : TypeId × Value → H} {W : World} {base : Nat} {v : Value} {d : DataW H} {p : List MemPlace}
set_option maxRecDepth 100000 in
theorem in_rows (hval : Value.okWide Try.prog W .any base 22 v) (h : Reads enc W 22 v d p) : ∃ (A : Option Addr) (n cap : Nat) (L : List (List Nat)), v = .slice A n cap ∧ RdB W A n L ∧ n ≤ cap ∧ n ≤ 9223372036854775807 := by
  obtain ⟨a, len, cap, rfl⟩ := okWide_slice Try.underlying22 hval
  obtain ⟨fuel, hf⟩ := h
  rcases open_int_rows Try.underlying22 Try.underlying23 Try.underlying5 (by kernel_rfl) (by kernel_rfl) hf with ⟨hcs, _⟩ | ⟨x, l, c, A, Ln, C, Z, hcs, _, hl, hm, _, hrow⟩
  · simp [Value.cells] at hcs
    obtain ⟨rfl, rfl, rfl⟩ := hcs
    exact ⟨none, 0, 0, [], rfl, ⟨[], RdV.nil _ _, Items.nil _ _⟩, Nat.le_refl _, by omega⟩
  · simp [Value.cells] at hcs
    obtain ⟨rfl, rfl, rfl⟩ := hcs
    simp only [maxLen] at hm
    by_cases h0 : 0 < len
    · obtain ⟨b, o, rfl⟩ := plain_addr' (hrow 0 (by omega)).1
      have each : ∀ i, i < len → ∃ r : List Nat, W.cell? ⟨b, o + i, none⟩ = some (.slice (A i) r.length (C i)) ∧ Item W (fun _ => True) (.slice (A i) r.length (C i)) r := by
        intro i hi
        obtain ⟨hc, h1, h2, h3, h4, h5, h6⟩ := hrow i (by omega)
        rw [plain_add'] at hc
        have hI : IsRow .u8 W (A i) (Ln i) (C i) (Z i) := by
          cases hA : A i with
          | none =>
            have hC := h5 hA
            exact .inl ⟨rfl, by omega, hC, List.eq_nil_of_length_eq_zero (by omega)⟩
          | some y => exact .inr ⟨y, rfl, h1, h2, h3, fun c hc => (h6 y hA).2 c (by omega), h4⟩
        obtain ⟨r, hr, hrc, hrm⟩ := row_rd hI
        have hrl := hr.1
        rw [← hrl] at hc hr hrc hrm
        exact ⟨r, hc, A i, C i, rfl, hr, hrc, hrm, fun _ _ _ _ => trivial⟩
      obtain ⟨L, hL, hP⟩ := exists_list' (P := fun i r => W.cell? ⟨b, o + i, none⟩ = some (.slice (A i) r.length (C i)) ∧ Item W (fun _ => True) (.slice (A i) r.length (C i)) r) len each
      have hblk : b < W.heap.size := by
        have := (hrow 0 (by omega)).1
        rw [plain_add'] at this
        exact block_lt_of_cell this
      have hvat : ∀ j r, L[j]? = some r → (L.mapIdx fun i r => Value.slice (A i) r.length (C i))[j]? = some (Value.slice (A j) r.length (C j)) := by
        intro j r hr
        rw [List.getElem?_mapIdx, hr]; rfl
      have hvl : ∀ (j : Nat) (u : Value), (L.mapIdx fun i r => Value.slice (A i) r.length (C i))[j]? = some u → ∃ r, L[j]? = some r ∧ u = Value.slice (A j) r.length (C j) := by
        intro j u hu
        rw [List.getElem?_mapIdx] at hu
        cases hr : L[j]? with
        | none => rw [hr] at hu; cases hu
        | some r => rw [hr] at hu; injection hu with hu; exact ⟨r, rfl, hu.symm⟩
      refine ⟨some ⟨b, o, none⟩, len, cap, L, rfl, ⟨L.mapIdx fun i r => Value.slice (A i) r.length (C i), ⟨by rw [List.length_mapIdx, hL], fun _ => ⟨b, o, rfl, hblk, fun j u hu => ?_⟩⟩, by rw [List.length_mapIdx], fun j u r hu hr => ?_⟩, hl, by omega⟩
      · obtain ⟨r, hr, rfl⟩ := hvl j u hu
        exact (hP j r hr).1
      · obtain ⟨r', hr', rfl⟩ := hvl j u hu
        rw [hr] at hr'
        injection hr' with hr'
        subst hr'
        exact (hP j r hr).2
    · have : len = 0 := by omega
      subst this
      exact ⟨some x, 0, cap, [], rfl, ⟨[], RdV.nil _ _, Items.nil _ _⟩, hl, by omega⟩
end
end Go.Proofs.Ytpggomekbahddaa
