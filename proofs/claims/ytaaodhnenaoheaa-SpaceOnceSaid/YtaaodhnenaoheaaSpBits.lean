/- A map's words and its plots: bit p%64 of word p/64 tells whether plot p is taken. -/
import Derived.Test.YtaaodhnenaoheaaBytes
namespace Go.Proofs.Ytaaodhnenaoheaa
open Go.RowKit
theorem toNat_u64 (a : Nat) (ha : a < 18446744073709551616) : (BitVec.ofInt 64 (a : Int)).toNat = a := by
  rw [BitVec.ofInt_natCast, BitVec.toNat_ofNat]; exact Nat.mod_eq_of_lt (by omega)
theorem u64_xor_nat (a b : Nat) (ha : a < 18446744073709551616) (hb : b < 18446744073709551616) : bits .xor .u64 (a : Int) (b : Int) = ((a ^^^ b : Nat) : Int) := by
  have hx : a ^^^ b < 2 ^ 64 := Nat.xor_lt_two_pow (by omega) (by omega)
  show IntKind.u64.wrap ((BitVec.ofInt 64 (a : Int) ^^^ BitVec.ofInt 64 (b : Int)).toNat : Int) = _
  rw [BitVec.toNat_xor, toNat_u64 a ha, toNat_u64 b hb, IntKind.wrap_u64]
  omega
theorem u64_and_nat (a b : Nat) (ha : a < 18446744073709551616) (hb : b < 18446744073709551616) : bits .and .u64 (a : Int) (b : Int) = ((a &&& b : Nat) : Int) := by
  have hx : a &&& b < 2 ^ 64 := Nat.and_lt_two_pow _ (by omega)
  show IntKind.u64.wrap ((BitVec.ofInt 64 (a : Int) &&& BitVec.ofInt 64 (b : Int)).toNat : Int) = _
  rw [BitVec.toNat_and, toNat_u64 a ha, toNat_u64 b hb, IntKind.wrap_u64]
  omega
namespace Sp
theorem bit_one (x r : Nat) (t : Bool) (hx : x < 18446744073709551616) (h : x / 2 ^ r % 2 = if t then 1 else 0) : (bits .and .u64 ((x : Int) / 2 ^ r) 1 == 1) = t := by
  have e : (x : Int) / 2 ^ r = ((x / 2 ^ r : Nat) : Int) := by simp
  have h2 : x / 2 ^ r < 18446744073709551616 := Nat.lt_of_le_of_lt (Nat.div_le_self _ _) hx
  have h1 : bits .and .u64 ((x / 2 ^ r : Nat) : Int) ((1 : Nat) : Int) = _ := u64_and_nat _ _ h2 (by omega)
  rw [e]
  show (bits .and .u64 ((x / 2 ^ r : Nat) : Int) ((1 : Nat) : Int) == 1) = _
  rw [h1, Nat.and_one_is_mod, h]
  cases t <;> rfl
theorem xor_bit (x r : Nat) (hx : x < 18446744073709551616) (hr : r < 64) : bits .xor .u64 (x : Int) (IntKind.u64.wrap (2 ^ r)) = ((x ^^^ 2 ^ r : Nat) : Int) := by
  have h1 : 2 ^ r < 2 ^ 64 := Nat.pow_lt_pow_right (by omega) hr
  have e : IntKind.u64.wrap (2 ^ r) = ((2 ^ r : Nat) : Int) := by
    rw [IntKind.wrap_u64, pow_cast]
    generalize 2 ^ r = y at h1
    omega
  rw [e]
  exact u64_xor_nat _ _ hx h1
structure Bits (xs : List Nat) (T : List Bool) : Prop where
  len : xs.length = 8
  lt : ∀ x ∈ xs, x < 18446744073709551616
  few : T.length ≤ 511
  bit : ∀ p, p < 512 → (xs.getD (p / 64) 0).testBit (p % 64) = T.getD p false
theorem Bits.word {xs : List Nat} {T : List Bool} (h : Bits xs T) {p : Nat} (hp : p < T.length) : ∃ x, xs[p / 64]? = some x ∧ x < 18446744073709551616 ∧ x / 2 ^ (p % 64) % 2 = (if T.getD p false then 1 else 0) := by
  have hf := h.few
  have hi : p / 64 < xs.length := by rw [h.len]; omega
  refine ⟨xs[p / 64], List.getElem?_eq_getElem hi, h.lt _ (List.getElem_mem hi), ?_⟩
  have hb := h.bit p (by omega)
  rw [List.getD_eq_getElem?_getD, List.getElem?_eq_getElem hi, Option.getD_some, Nat.testBit_eq_decide_div_mod_eq] at hb
  rw [← hb]
  by_cases e : xs[p / 64] / 2 ^ (p % 64) % 2 = 1
  · simp [e]
  · simp [e]
    omega
theorem Bits.zero (n : Nat) (hn : n ≤ 511) : Bits (List.replicate 8 0) (List.replicate n false) := by
  refine ⟨by simp, fun x hx => by rw [List.eq_of_mem_replicate hx]; omega, by simpa using hn, fun p hp => ?_⟩
  have h1 : (List.replicate 8 (0 : Nat)).getD (p / 64) 0 = 0 := by
    rw [List.getD_eq_getElem?_getD, List.getElem?_replicate]; split <;> rfl
  have h2 : (List.replicate n false).getD p false = false := by
    rw [List.getD_eq_getElem?_getD, List.getElem?_replicate]; split <;> rfl
  rw [h1, h2, Nat.zero_testBit]
theorem Bits.turn {xs : List Nat} {T : List Bool} (h : Bits xs T) {p x : Nat} (hp : p < T.length) (hx : xs[p / 64]? = some x) : Bits (xs.set (p / 64) (x ^^^ 2 ^ (p % 64))) (T.set p (!T.getD p false)) := by
  have hf := h.few
  have hi : p / 64 < xs.length := by rw [h.len]; omega
  have hxe : xs.getD (p / 64) 0 = x := by rw [List.getD_eq_getElem?_getD, hx]; rfl
  refine ⟨by rw [List.length_set]; exact h.len, fun y hy => ?_, by rw [List.length_set]; exact hf, fun q hq => ?_⟩
  · rcases List.mem_or_eq_of_mem_set hy with h1 | h1
    · exact h.lt _ h1
    · subst h1
      have e1 : x < 2 ^ 64 := h.lt _ (List.mem_of_getElem? hx)
      have e2 : 2 ^ (p % 64) < 2 ^ 64 := Nat.pow_lt_pow_right (by omega) (by omega)
      exact Nat.xor_lt_two_pow e1 e2
  · have hb := h.bit q hq
    rw [List.getD_eq_getElem?_getD, List.getElem?_set, List.getD_eq_getElem?_getD, List.getElem?_set]
    by_cases e : p = q
    · subst e
      rw [if_pos rfl, if_pos hi, if_pos rfl, if_pos hp, Option.getD_some, Option.getD_some, Nat.testBit_xor, Nat.testBit_two_pow_self, ← h.bit p hq, hxe]
      cases x.testBit (p % 64) <;> rfl
    · rw [if_neg e]
      by_cases e2 : p / 64 = q / 64
      · rw [if_pos e2, if_pos hi, Option.getD_some, Nat.testBit_xor, Nat.testBit_two_pow_of_ne (by omega), ← List.getD_eq_getElem?_getD, ← hb, ← e2, hxe]
        simp
      · rw [if_neg e2, ← List.getD_eq_getElem?_getD, ← List.getD_eq_getElem?_getD, hb]
theorem Bits.take {xs : List Nat} {T : List Bool} (h : Bits xs T) {p x : Nat} (hp : p < T.length) (hx : xs[p / 64]? = some x) (ht : T.getD p false = false) : Bits (xs.set (p / 64) (x ^^^ 2 ^ (p % 64))) (T.set p true) := by
  have := h.turn hp hx
  rw [ht] at this
  exact this
theorem Bits.give {xs : List Nat} {T : List Bool} (h : Bits xs T) {p x : Nat} (hp : p < T.length) (hx : xs[p / 64]? = some x) (ht : T.getD p false = true) : Bits (xs.set (p / 64) (x ^^^ 2 ^ (p % 64))) (T.set p false) := by
  have := h.turn hp hx
  rw [ht] at this
  exact this
end Sp
end Go.Proofs.Ytaaodhnenaoheaa
