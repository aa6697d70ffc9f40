/- What rowsOfBytes of package sum returns: the row of what each byte makes of a register of 0. No condition. -/
import Derived.Test.YtcckhdmdklholaaSumNums
import Derived.BigRegion
import Derived.RegionTactic
import Derived.Laws.Rows
namespace Go.Proofs.Ytcckhdmdklholaa
open Go.RowKit
def rowsTo (k : Nat) : Array Value := Array.ofFn (n := 256) fun i => if i.val < k then .int .u32 (Cr.steps 8 i.val : Int) else .int .u32 0
theorem rowsTo_size (k : Nat) : (rowsTo k).size = 256 := by simp [rowsTo]
theorem rowsTo_at {k j : Nat} (hj : j < k) (hk : k ≤ 256) : (rowsTo k)[j]? = some (.int .u32 (Cr.steps 8 j : Int)) := by
  have h : j < 256 := by omega
  simp [rowsTo, hj, h]
theorem rowsTo_cell {k j : Nat} (hj : j < 256) : ∃ n : Int, (rowsTo k)[j]? = some (.int .u32 n) := by
  by_cases h : j < k
  · exact ⟨_, by simp [rowsTo, hj, h]; rfl⟩
  · exact ⟨_, by simp [rowsTo, hj, h]; rfl⟩
theorem rowsTo_set {k : Nat} : (rowsTo k).setIfInBounds k (.int .u32 (Cr.steps 8 k : Int)) = rowsTo (k + 1) := by
  apply Array.ext
  · simp [rowsTo]
  · intro i h1 h2
    rw [Array.getElem_setIfInBounds (by simpa using h1)]
    simp only [rowsTo, Array.getElem_ofFn]
    by_cases e : k = i
    · subst e; simp
    · have : (i < k + 1) ↔ i < k := by omega
      simp [e, this]
def lowN (k : Nat) : Nat := k &&& (256 - k)
theorem low_val : ∀ k : Fin 256, bits .and .i64 (k.val : Int) (-(k.val : Int)) = (lowN k.val : Int) := by decide +kernel
theorem low_lt : ∀ k : Fin 256, lowN k.val ≤ k.val ∧ k.val ^^^ lowN k.val < 256 ∧ (lowN k.val ≠ k.val → k.val ^^^ lowN k.val < k.val) := by decide +kernel
theorem low_split : ∀ k : Fin 256, lowN k.val ^^^ (k.val ^^^ lowN k.val) = k.val := by decide +kernel
theorem low_val' {k : Nat} (hk : k < 256) : bits .and .i64 (k : Int) (-(k : Int)) = (lowN k : Int) := low_val ⟨k, hk⟩
theorem low_le {k : Nat} (hk : k < 256) : lowN k ≤ k := (low_lt ⟨k, hk⟩).1
theorem low_rest {k : Nat} (hk : k < 256) (h : lowN k ≠ k) : k ^^^ lowN k < k := (low_lt ⟨k, hk⟩).2.2 h
theorem i64_xor_nat (a b : Nat) (ha : a < 9223372036854775808) (hb : b < 9223372036854775808) : bits .xor .i64 (a : Int) (b : Int) = ((a ^^^ b : Nat) : Int) := by
  have hx : a ^^^ b < 2 ^ 63 := Nat.xor_lt_two_pow (by omega) (by omega)
  show IntKind.i64.wrap ((BitVec.ofInt 64 (a : Int) ^^^ BitVec.ofInt 64 (b : Int)).toNat : Int) = _
  rw [BitVec.toNat_xor, ofInt_i64 a ha, ofInt_i64 b hb, IntKind.wrap_i64]
  omega
theorem rows_join {k : Nat} (hk : k < 256) : Cr.steps 8 (lowN k) ^^^ Cr.steps 8 (k ^^^ lowN k) = Cr.steps 8 k := by
  rw [← Cr.steps_xor, low_split ⟨k, hk⟩]
theorem zero43 (w : World) : (zeroValue 54).run Try.prog w = .ok (.agg (rowsTo 0)) w := by kernel_rfl
theorem info43 : (Try.prog.info? 54).map (·.size) = some 256 := by kernel_rfl
theorem rowsTo_one (k : Nat) : (rowsTo k).all (·.oneCell') = true := by
  rw [Array.all_eq_true]
  intro i hi
  simp only [rowsTo, Array.getElem_ofFn]
  split <;> rfl
theorem info43' (k : Nat) : (Try.prog.info? 54).map (·.size) = some (rowsTo k).size := by rw [rowsTo_size]; exact info43
set_option maxRecDepth 100000 in
theorem rows_any (w : World) :
    Calls Try.prog 30 #[] w fun e w' => e = .returned (.agg (rowsTo 256)) ∧ Below w.heap.size w w' := by
  have hz := zero43
  go_enter Try.func30, Try.ntmps30
  go_wp2
  clear hz
  go_loopw [2, 3, 4] (fun _ _ i wr => ∃ k : Nat, k ≤ 256 ∧ i = .int .i64 k ∧ wr.heap[w.heap.size]? = some (.cells (rowsTo 0) 54 (0, 0)) ∧ wr.heap[w.heap.size + 1]? = some (.cells (rowsTo k) 54 (0, 0)) ∧ Below w.heap.size w wr) (fun _ _ i _ => 256 - (intOf i).toNat)
  case atStart =>
    exact ⟨0, by omega, rfl, (Below.heap_alloc _ _ _ (by simp)).trans (heap_alloc_new _ _), by simpa using heap_alloc_new (w.alloc (.cells (rowsTo 0) 54)) (.cells (rowsTo 0) 54), ((Below.refl _ _).alloc (Nat.le_refl _) _).alloc (by simp) _⟩
  case round =>
    obtain ⟨k, hk, rfl, hb0, hb1, hbl⟩ := hrel
    by_cases hk8 : k < 256
    · obtain ⟨n0, hn0⟩ := rowsTo_cell (k := k) hk8
      have hcw : wr.cell? ⟨w.heap.size + 1, k, none⟩ = some (.int .u32 n0) := (cell_of_row _ _ _ _ _ _ hb1).trans hn0
      have hfz : wr.frozen? ⟨w.heap.size + 1, k, none⟩ = false := frozen_of_row _ _ _ _ _ hb1
      have hlow := low_val' hk8
      have hb0' := Lib.hid hb0
      have hb1' := Lib.hid hb1
      have hle := low_le hk8
      by_cases hl : lowN k = k
      · have hne : ((lowN k : Int) != (k : Int)) = false := by rw [bne_eq_false_iff_eq]; omega
        have i3 : (k : Int) < 256 := by omega
        have hk32 : k < 4294967296 := by omega
        have hbl' := Lib.hid hbl
        clear hb0 hb1 hl hn0 hbl
        go_wp2_with (go_at_call 32; refine (eight_any _ hk32 _).mono ?_; rintro e w' ⟨rfl, rfl⟩)
        go_roundw
        case rel =>
          refine ⟨k + 1, by omega, by go_num, ?_, ?_, ?_⟩
          · exact (Below.heap_setCell _ _ _ _ (by simp)).trans hb0'.out
          · rw [← rowsTo_set]; exact heap_setCell_same _ _ _ _ _ _ hb1'.out
          · exact hbl'.out.setCell (by simp) _
        case measure => simp [intOf]; omega
      · have hl2 := low_rest hk8 hl
        have hl3 : lowN k < k := by omega
        have hc1 : wr.cell? ⟨w.heap.size + 1, lowN k, none⟩ = some (.int .u32 (Cr.steps 8 (lowN k) : Int)) := (cell_of_row _ _ _ _ _ _ hb1).trans (rowsTo_at hl3 hk)
        have hc2 : wr.cell? ⟨w.heap.size + 1, k ^^^ lowN k, none⟩ = some (.int .u32 (Cr.steps 8 (k ^^^ lowN k) : Int)) := (cell_of_row _ _ _ _ _ _ hb1).trans (rowsTo_at hl2 hk)
        have hne : ((lowN k : Int) != (k : Int)) = true := by rw [bne_iff_ne]; omega
        have hx : bits .xor .i64 (k : Int) (lowN k : Int) = ((k ^^^ lowN k : Nat) : Int) := i64_xor_nat _ _ (by omega) (by omega)
        have hv : bits .xor .u32 (Cr.steps 8 (lowN k) : Int) (Cr.steps 8 (k ^^^ lowN k) : Int) = (Cr.steps 8 k : Int) := by
          rw [u32_xor_nat _ _ (Cr.steps_lt 8 (by omega)) (Cr.steps_lt 8 (by omega)), rows_join hk8]
        have i1 : (lowN k : Int) < 256 := by omega
        have i2 : ((k ^^^ lowN k : Nat) : Int) < 256 := by omega
        have i3 : (k : Int) < 256 := by omega
        have hbl' := Lib.hid hbl
        clear hb0 hb1 hl hn0 hbl
        go_wp2
        go_region
        go_wp2
        go_roundw
        case rel =>
          refine ⟨k + 1, by omega, by go_num, ?_, ?_, ?_⟩
          · exact (Below.heap_setCell _ _ _ _ (by simp)).trans hb0'.out
          · rw [← rowsTo_set]; exact heap_setCell_same _ _ _ _ _ _ hb1'.out
          · exact (hbl'.out.setCell (p := ⟨w.heap.size + 1, k, none⟩) (by simp) _).drew
        case measure => simp [intOf]; omega
    · have hk8 : k = 256 := by omega
      subst hk8
      have hb1' := Lib.hid hb1
      have hb0' := Lib.hid hb0
      have hbl' := Lib.hid hbl
      clear hb1 hb0 hbl
      go_wp2_with (first | (refine wpList_load_row rfl 54 (.tmp 1) rfl (w.heap.size + 1) rfl 54 (rowsTo 256) (0, 0) _ hb1'.out Try.underlying54 rfl (info43' _) ?_) | (refine wpList_store_row rfl 54 (.tmp 0) (.tmp 31) rfl w.heap.size (rowsTo 256) rfl rfl 54 (rowsTo 0) hb0'.out (info43' _) (by rw [rowsTo_size, rowsTo_size]) (rowsTo_one _) ?_))
      refine bodyPost_ret (results_cell_row rfl _ _ w.heap.size 54 (rowsTo 256) (0, 0) _ rfl (setRow_heap _ _ _ _ _ _ hb0'.out) Try.underlying54 rfl (info43' _)) rfl ⟨rfl, below_setRow hbl'.out (Nat.le_refl _) _⟩
end Go.Proofs.Ytcckhdmdklholaa
