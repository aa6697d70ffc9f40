/- The law's fit. -/
import Derived.Test.YtpfdacnjikdifaaFgFew
namespace Go.Proofs.Ytpfdacnjikdifaa
open Go.RowKit
set_option linter.unusedVariables false
namespace Fg
def fit1 (L : List (List Nat)) : List (List Nat) := L.filter fun r => decide (r.length ≤ 8192)
/-- Records that may be cut. -/
def fit (L : List (List Nat)) : List (List Nat) := fit1 (few L)
theorem fit1_yes {L : List (List Nat)} {k : Nat} {r : List Nat} (h : L[k]? = some r) (hr : r.length ≤ 8192) : fit1 (L.take (k + 1)) = fit1 (L.take k) ++ [r] := by
  unfold fit1; rw [List.take_add_one, h, List.filter_append]; simp [hr]
theorem fit1_no {L : List (List Nat)} {k : Nat} {r : List Nat} (h : L[k]? = some r) (hr : ¬ r.length ≤ 8192) : fit1 (L.take (k + 1)) = fit1 (L.take k) := by
  unfold fit1; rw [List.take_add_one, h, List.filter_append]; simp; omega
theorem fit_le (L : List (List Nat)) : ∀ r ∈ fit L, r.length ≤ 8192 := by
  intro r hr
  unfold fit fit1 at hr
  rw [List.mem_filter] at hr
  simpa using hr.2
theorem few_len (L : List (List Nat)) : (few L).length ≤ 40 := by unfold few; rw [List.length_map, List.length_take]; omega
theorem fit1_len (L : List (List Nat)) : (fit1 L).length ≤ L.length := List.length_filter_le _ _
theorem fit_len (L : List (List Nat)) : (fit L).length ≤ 40 := Nat.le_trans (fit1_len _) (few_len L)
end Fg
set_option maxRecDepth 100000 in
set_option maxHeartbeats 2000000 in
theorem fit_any (A : Option Addr) (n c : Nat) (L : List (List Nat)) (w : World) (hr : RdB w A n L) (hn : n ≤ 9223372036854775807) :
    Calls Try.prog 18 #[.slice A n c] w (GivesRow w (Fg.fit L)) := by
  have hfw := few_any A n c L w hr hn
  have hf40 := Fg.few_len L
  unfold Fg.fit
  generalize Fg.few L = M at *
  have HFw := Lib.hid hfw
  clear hfw hr
  go_enter Try.func18, Try.ntmps18
  go_wp2_with fail
  refine HFw.out.mono ?_
  rintro e v0 ⟨A1, c1, rfl, hr1, hc1, _, hb1⟩
  have HR := Lib.hid hr1
  have HB := Lib.hid hb1
  clear hr1 hb1 HFw hc1
  go_wp2_with fail
  go_loopw [3, 4] (fun s ii wr => ∃ (k : Nat) (B : Option Addr) (m d : Nat), k ≤ M.length ∧ ii = .int .i64 (k : Int) ∧ s = .slice B m d ∧ OwnB wr v0.heap.size B m d (Fg.fit1 (M.take k)) (fun b => b < v0.heap.size) ∧ Below v0.heap.size v0 wr) (fun _ ii _ => M.length - (intOf ii).toNat)
  case atStart => exact ⟨0, none, 0, 0, Nat.zero_le _, rfl, rfl, OwnB.none_ _ _ _, Below.refl _ _⟩
  case round =>
    obtain ⟨k, B, m, d, hk, rfl, rfl, hO, hBl⟩ := hrel
    by_cases hkn : k < M.length
    · obtain ⟨b, o, RB, c2, r, rfl, hbb1, hrk, hcell, hrd, hrc, hrm⟩ := HR.out.at_ hkn
      have hcellw := (hBl.cell (p := ⟨b, o + k, none⟩) hbb1).trans hcell
      have hki : (k : Int) < (M.length : Int) := by omega
      have hol := hO.len
      have hm40 : m ≤ 40 := by rw [← hol]; exact Nat.le_trans (Fg.fit1_len _) (by rw [List.length_take]; omega)
      by_cases h8 : r.length ≤ 8192
      · have h8i : (r.length : Int) ≤ 8192 := by omega
        have hsn := Fg.fit1_yes hrk h8
        have hrb := hO.blk
        obtain ⟨vs, hrow, hit⟩ := hO.row
        have hitem : Item wr (fun b => b < v0.heap.size ∧ some b ≠ (Value.slice B m d).ownBlock) (.slice RB r.length c2) r := by
          refine ⟨RB, c2, rfl, hrd.below hBl, hrc, hrm, fun b' o' e hl => ?_⟩
          subst e
          have hbw : b' < v0.heap.size := hrd.lt_blk hl
          refine ⟨hbw, fun e2 => ?_⟩
          have := (hrb b' e2.symm).1
          omega
        have hb2 : Below wr.heap.size wr (wr.alloc (.cells #[.slice RB r.length c2] 29)) := (Below.refl _ _).alloc (Nat.le_refl _) _
        have hsz := hBl.size
        have hn1 : m + 1 ≤ 1000000 := by omega
        have hba : v0.heap.size ≤ (wr.alloc (.cells #[Value.slice RB r.length c2] 29)).heap.size := by simp; omega
        have hrow2 := hrow.below hb2
        have hra := rdv_one wr 29 (.slice RB r.length c2)
        have hone : ∀ u ∈ [Value.slice RB r.length c2], u.oneCell' = true := by intro u hu; rw [List.mem_singleton] at hu; subst hu; rfl
        have HIt := Lib.hid (hit.below hb2)
        have HIm := Lib.hid (hitem.below hb2)
        have HBl2 := Lib.hid (hBl.trans (hb2.mono hBl.size))
        have HSn := Lib.hid hsn
        have HRb := Lib.hid hrb
        have HRow := Lib.hid hrow2
        clear hsn hO hrow hit hitem hb2 hBl hrb hrk hrd hcell hol h8
        go_wp2_with (first | (at_builtin; refine wpList_appV oneB rfl (.tmp 19) (.tmp 24) rfl rfl hrow2 (some ⟨wr.heap.size, 0, none⟩) 1 1 [.slice RB r.length c2] hone rfl hra hn1 hba ?_; intro A8 c8 v8 hg8))
        have hO8 := OwnB.snoc HRow.out HIt.out HIm.out hg8
        have hB8 := hg8.below HBl2.out hba (fun g h => (HRb.out g h).1)
        rw [← HSn.out] at hO8
        clear hg8
        go_roundw
        case rel => exact ⟨k + 1, A8, m + 1, c8, by omega, by go_num, rfl, hO8, hB8⟩
        case measure => simp [intOf]; omega
      · have h8i : ¬ (r.length : Int) ≤ 8192 := by omega
        have hsn := Fg.fit1_no hrk h8
        rw [← hsn] at hO
        have HO := Lib.hid hO
        have HBl := Lib.hid hBl
        clear hsn hO hBl hrk hrd hcell hol h8
        go_wp2_with fail
        go_roundw
        case rel => exact ⟨k + 1, B, m, d, by omega, by go_num, rfl, HO.out, HBl.out⟩
        case measure => simp [intOf]; omega
    · have hkn2 : k = M.length := by omega
      rw [hkn2, List.take_length] at hO
      have hlen := hO.len
      have hm40 : m ≤ 40 := by rw [← hlen]; exact Nat.le_trans (Fg.fit1_len _) hf40
      subst hkn2
      have HO := Lib.hid hO
      have HBl := Lib.hid (below_next HB.out hBl)
      have HLen := Lib.hid hlen
      clear hO hBl hlen
      go_wp2_with fail
      go_ret
      exact ⟨B, d, by rw [HLen.out]; rfl, by rw [HLen.out]; exact HO.out.rd, by rw [HLen.out]; exact HO.out.fits, by rw [HLen.out]; omega, HBl.out⟩
end Go.Proofs.Ytpfdacnjikdifaa
