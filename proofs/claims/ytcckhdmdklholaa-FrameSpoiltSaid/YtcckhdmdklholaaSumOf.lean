/- What Of and More of package sum, the document's own Of and More, and the law's cut return, for every slice of at most 1,000,000 bytes that reads as a list. -/
import Derived.Test.YtcckhdmdklholaaSumTable
namespace Go.Proofs.Ytcckhdmdklholaa
open Go.RowKit
theorem not_val (c : Nat) (hc : c < 4294967296) : bits .xor .u32 IntKind.u32.max (c : Int) = ((c ^^^ 4294967295 : Nat) : Int) := by
  rw [Nat.xor_comm]
  exact u32_xor_nat 4294967295 c (by omega) hc
theorem byte_val (R x : Nat) (hx : x < 256) : bits .xor .u8 ((R : Int) % 256) (x : Int) = ((R % 256 ^^^ x : Nat) : Int) := by
  have e : (R : Int) % 256 = ((R % 256 : Nat) : Int) := by omega
  rw [e]; exact u8_xor_nat _ x (by omega) hx
theorem look_val (R x : Nat) (hR : R < 4294967296) (hx : x < 256) : bits .xor .u32 ((R : Int) / 256) (Cr.steps 8 (R % 256 ^^^ x) : Int) = (Cr.inB R x : Int) := by
  have e : (R : Int) / 256 = ((R / 256 : Nat) : Int) := by omega
  rw [e, u32_xor_nat _ _ (by omega) (Cr.steps_lt 8 (Cr.xor_lt (by omega) (by omega))), Cr.inB_look]
set_option maxRecDepth 100000 in
theorem more_any (c : Nat) (hc : c < 4294967296) (A : Option Addr) (n cap : Nat) (l : List Nat) (w : World) (hl : Rd w A n l) (hn : n ≤ 1000000) :
    Calls Try.prog 26 #[.int .u32 (c : Int), .slice A n cap] w fun e w' => e = .returned (.int .u32 (Cr.more c l : Int)) ∧ Below w.heap.size w w' := by
  have hz := zero43
  have hnv := not_val c hc
  have hc1 : c ^^^ 4294967295 < 4294967296 := Cr.xor_lt hc (by omega)
  go_enter Try.func26, Try.ntmps26
  go_wp2_with (first | (go_at_call 30; refine (rows_any _).mono ?_; rintro e w1 ⟨rfl, hb1⟩) | (refine wpList_store_row rfl 54 (.tmp 5) (.tmp 9) rfl w1.heap.size (rowsTo 256) rfl rfl 54 (rowsTo 0) (heap_alloc_new _ _) (info43' _) (by rw [rowsTo_size, rowsTo_size]) (rowsTo_one _) ?_))
  have hg : ((w1.alloc (Obj.cells (rowsTo 0) 54)).setRow w1.heap.size (rowsTo 256)).heap[w1.heap.size]? = some (.cells (rowsTo 256) 54 (0, 0)) := setRow_heap _ _ _ _ _ _ (heap_alloc_new _ _)
  have hb2 : Below w.heap.size w ((w1.alloc (Obj.cells (rowsTo 0) 54)).setRow w1.heap.size (rowsTo 256)) := below_setRow (hb1.alloc hb1.size _) hb1.size _
  generalize ((w1.alloc (Obj.cells (rowsTo 0) 54)).setRow w1.heap.size (rowsTo 256)) = W at hg hb2 ⊢
  have hl2 := hl.below hb2
  have Hg := Lib.hid hg
  have Hb := Lib.hid hb2
  clear hg hb2 hz hnv
  go_loop [6, 14] (fun r i => ∃ k : Nat, k ≤ n ∧ i = .int .i64 k ∧ r = .int .u32 (Cr.run (c ^^^ 4294967295) (l.take k) : Int)) (fun _ i => n - (intOf i).toNat)
  case atStart => exact ⟨0, by omega, rfl, rfl⟩
  case round =>
    obtain ⟨k, hk, rfl, rfl⟩ := hrel
    have hrl : Cr.run (c ^^^ 4294967295) (l.take k) < 4294967296 := Cr.run_lt (fun x hx => hl.lt (List.mem_of_mem_take hx)) hc1
    by_cases hlt : k < n
    · obtain ⟨b, o, x, rfl, hb, hx, hx256, hcell⟩ := hl2.at_ hlt
      have hx2 : (x : Int) < 256 := by omega
      have hix : Cr.run (c ^^^ 4294967295) (l.take k) % 256 ^^^ x < 256 := Nat.xor_lt_two_pow (n := 8) (by omega) (by omega)
      have hxor : bits .xor .u8 ((Cr.run (c ^^^ 4294967295) (l.take k) : Int) % 256) (x : Int) = ((Cr.run (c ^^^ 4294967295) (l.take k) % 256 ^^^ x : Nat) : Int) := byte_val _ x hx256
      have hrow : W.cell? ⟨w1.heap.size, Cr.run (c ^^^ 4294967295) (l.take k) % 256 ^^^ x, none⟩ = some (.int .u32 (Cr.steps 8 (Cr.run (c ^^^ 4294967295) (l.take k) % 256 ^^^ x) : Int)) := (cell_of_row _ _ _ _ _ _ Hg.out).trans (rowsTo_at hix (by omega))
      have hix2 : ((Cr.run (c ^^^ 4294967295) (l.take k) % 256 ^^^ x : Nat) : Int) < 256 := by omega
      have Hx := Lib.hid hx
      clear hx
      go_wp2
      go_round
      case rel => exact ⟨k + 1, by omega, by go_num, by rw [look_val _ x hrl hx256, take_snoc Hx.out, Cr.run_snoc]⟩
      case measure => simp [intOf]; omega
    · have hk8 : k = n := by omega
      have hnv2 := not_val _ hrl
      have HK := Lib.hid hk8
      clear hk8
      go_wp2
      go_ret
      refine ⟨?_, Hb.out⟩
      unfold Cr.more
      rw [HK.out, List.take_of_length_le (Nat.le_of_eq hl2.1)]
      rfl
set_option maxRecDepth 100000 in
theorem of_any (A : Option Addr) (n cap : Nat) (l : List Nat) (w : World) (hl : Rd w A n l) (hn : n ≤ 1000000) :
    Calls Try.prog 21 #[.slice A n cap] w fun e w' => e = .returned (.int .u32 (Cr.more 0 l : Int)) ∧ Below w.heap.size w w' := by
  have h0 := more_any 0 (by omega) A n cap l w hl hn
  have H0 := Lib.hid h0
  clear h0
  go_enter Try.func21, Try.ntmps21
  go_wp2_with (go_at_call 26; refine H0.out.mono ?_; rintro e w1 ⟨rfl, hb1⟩)
  go_ret
  exact ⟨rfl, hb1⟩
theorem rnot_val (c : Nat) (hc : c < 4294967296) : bits .xor .u32 (c : Int) 4294967295 = ((c ^^^ 4294967295 : Nat) : Int) :=
  u32_xor_nat c 4294967295 hc (by omega)
set_option maxRecDepth 100000 in
theorem rmore_any (c : Nat) (hc : c < 4294967296) (A : Option Addr) (n cap : Nat) (l : List Nat) (w : World) (hl : Rd w A n l) (hn : n ≤ 1000000) :
    Calls Try.prog 27 #[.int .u32 (c : Int), .slice A n cap] w fun e w' => e = .returned (.int .u32 (Cr.more c l : Int)) ∧ w = w' := by
  have hnv := rnot_val c hc
  have hc1 : c ^^^ 4294967295 < 4294967296 := Cr.xor_lt hc (by omega)
  go_enter Try.func27, Try.ntmps27
  go_wp2
  clear hnv
  go_loop [0, 5] (fun r i => ∃ k : Nat, k ≤ n ∧ i = .int .i64 k ∧ r = .int .u32 (Cr.run (c ^^^ 4294967295) (l.take k) : Int)) (fun _ i => n - (intOf i).toNat)
  case atStart => exact ⟨0, by omega, rfl, rfl⟩
  case round =>
    obtain ⟨k, hk, rfl, rfl⟩ := hrel
    have hrl : Cr.run (c ^^^ 4294967295) (l.take k) < 4294967296 := Cr.run_lt (fun x hx => hl.lt (List.mem_of_mem_take hx)) hc1
    by_cases hlt : k < n
    · obtain ⟨b, o, x, rfl, hb, hx, hx256, hcell⟩ := hl.at_ hlt
      have hx2 : (x : Int) < 256 := by omega
      have Hx := Lib.hid hx
      clear hx
      go_wp2_with (go_at_call 31; refine (in_any _ _ hrl hx256 _).mono ?_; rintro e w' ⟨rfl, rfl⟩)
      go_round
      case rel => exact ⟨k + 1, by omega, by go_num, by rw [take_snoc Hx.out, Cr.run_snoc]⟩
      case measure => simp [intOf]; omega
    · have hk8 : k = n := by omega
      have hnv2 := rnot_val _ hrl
      have HK := Lib.hid hk8
      clear hk8
      go_wp2
      go_ret
      refine ⟨?_, rfl⟩
      unfold Cr.more
      rw [HK.out, List.take_of_length_le (Nat.le_of_eq hl.1)]
      rfl
set_option maxRecDepth 100000 in
theorem rof_any (A : Option Addr) (n cap : Nat) (l : List Nat) (w : World) (hl : Rd w A n l) (hn : n ≤ 1000000) :
    Calls Try.prog 23 #[.slice A n cap] w fun e w' => e = .returned (.int .u32 (Cr.more 0 l : Int)) ∧ w = w' := by
  have h0 := rmore_any 0 (by omega) A n cap l w hl hn
  have H0 := Lib.hid h0
  clear h0
  go_enter Try.func23, Try.ntmps23
  go_wp2_with (go_at_call 27; refine H0.out.mono ?_; rintro e w1 ⟨rfl, rfl⟩)
  go_ret
  exact ⟨rfl, rfl⟩
end Go.Proofs.Ytcckhdmdklholaa
