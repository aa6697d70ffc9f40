/- Layer 2's Fixed, as package block has it. -/
import Derived.Test.YtbfjcpblbmlfcaaCodeMath
import Derived.Test.YtbfjcpblbmlfcaaWrTexts
namespace Go.Proofs.Ytbfjcpblbmlfcaa
open Go.RowKit
theorem fixed_byte (n j : Nat) : (n : Int) / 2 ^ (8 * j) % 256 = ((n / 256 ^ j % 256 : Nat) : Int) := by
  have e : (256 : Nat) ^ j = 2 ^ (8 * j) := by rw [Nat.pow_mul]
  rw [e]; simp
theorem lowTo_at (n : Nat) {k i : Nat} (h : i < k) : (Cd.lowTo n k)[i]? = some (n / 256 ^ i % 256) := by
  induction k with
  | zero => omega
  | succ k ih =>
    show (Cd.lowTo n k ++ [n / 256 ^ k % 256])[i]? = _
    by_cases e : i = k
    · subst e
      rw [List.getElem?_append_right (by rw [Cd.lowTo_length]; exact Nat.le_refl _), Cd.lowTo_length, Nat.sub_self]; rfl
    · rw [List.getElem?_append_left (by rw [Cd.lowTo_length]; omega)]
      exact ih (by omega)
theorem high_at (n : Nat) {k j : Nat} (h : j < k) : (Cd.lowTo n k).reverse[j]? = some (n / 256 ^ (k - 1 - j) % 256) := by
  rw [List.getElem?_reverse (by rw [Cd.lowTo_length]; exact h), Cd.lowTo_length]
  exact lowTo_at n (by omega)
/-- A row of zeros, filled from its head on. -/
theorem fill_set {R : List Nat} {k j y : Nat} (hj : j < k) (h : R[j]? = some y) : (R.take j ++ List.replicate (k - j) 0).set j y = R.take (j + 1) ++ List.replicate (k - (j + 1)) 0 := by
  have hl : (R.take j).length = j := by
    have := (List.getElem?_eq_some_iff.1 h).1
    rw [List.length_take]; omega
  rw [List.set_append_right _ _ (by omega), hl, Nat.sub_self, show k - j = (k - (j + 1)) + 1 by omega, List.replicate_succ, List.set_cons_zero, take_snoc h, List.append_assoc]
  rfl
set_option maxRecDepth 100000 in
theorem fixed_in (n k : Nat) (hn : n < 18446744073709551616) (h1 : 1 ≤ k) (h8 : k ≤ 8) (w : World) :
    Calls Try.prog 20 #[.int .u64 (n : Int), .int .i64 (k : Int)] w (GivesBytes w (Cd.lowTo n k).reverse) := by
  have hk1 : ¬ (k : Int) < 1 := by omega
  have hk8 : ¬ 8 < (k : Int) := by omega
  have Hn := Lib.hid hn
  have hmk := make_all k (by omega)
  have hllen : (Cd.lowTo n k).reverse.length = k := by rw [List.length_reverse, Cd.lowTo_length]
  have Hll := Lib.hid hllen
  clear hn hllen
  go_enter Try.func20, Try.ntmps20
  go_wp2
  clear hmk
  have hz := Own.zeros w w.heap.size k (Nat.le_refl _) (by omega)
  go_loopw [17] (fun i wr => ∃ j : Nat, j ≤ k ∧ i = .int .i64 (j : Int) ∧ Own wr w.heap.size (some ⟨w.heap.size, 0, none⟩) k k ((Cd.lowTo n k).reverse.take j ++ List.replicate (k - j) 0) ∧ Below w.heap.size w wr) (fun i _ => k - (intOf i).toNat)
  case atStart => exact ⟨0, by omega, rfl, by simpa using hz, (Below.refl _ _).alloc (Nat.le_refl _) _⟩
  case round =>
    clear hz
    obtain ⟨j, hj, rfl, ho, hb⟩ := hrel
    by_cases hlt : j < k
    · have hjk : (j : Int) < (k : Int) := by omega
      have hcell : ∃ x, (((Cd.lowTo n k).reverse.take j ++ List.replicate (k - j) 0))[j]? = some x := ⟨_, List.getElem?_eq_getElem (by rw [ho.1]; exact hlt)⟩
      obtain ⟨x, hx⟩ := hcell
      have hc := ho.cell hx
      have hf := ho.free j
      clear hx
      go_wp2
      go_roundw
      case rel =>
        refine ⟨j + 1, by omega, by go_num, ?_, hb.setCell (Nat.le_refl _) _⟩
        rw [fixed_byte]
        have h3 := ho.set j (n / 256 ^ (k - 1 - j) % 256) (Nat.mod_lt _ (by omega))
        rw [fill_set hlt (high_at n hlt)] at h3
        exact h3
      case measure => simp [intOf]; omega
    · have hjk : j = k := by omega
      subst hjk
      have ho2 : Own wr w.heap.size (some ⟨w.heap.size, 0, none⟩) j j (Cd.lowTo n j).reverse := by
        rw [Nat.sub_self, List.replicate_zero, List.append_nil, List.take_of_length_le (Nat.le_of_eq Hll.out)] at ho
        exact ho
      clear ho
      go_wp2
      go_ret
      refine ⟨some ⟨w.heap.size, 0, none⟩, j, ?_⟩
      rw [Hll.out]
      exact ⟨rfl, ho2, hb⟩
end Go.Proofs.Ytbfjcpblbmlfcaa
