/- A step of both disks: kind 1. -/
import Derived.Test.YtamdihodconjiaaRkStepB
namespace Go.Proofs.Ytamdihodconjiaa
open Go.RowKit
set_option linter.unusedVariables false
set_option maxRecDepth 100000 in
set_option maxHeartbeats 8000000 in
theorem step_write (s : DOp) (a w : World) (bx d g cnt : Nat) (st : Dk.St) (lab labR : Nat → Tag) (h : Duo a w d g st cnt lab labR) (hx : Holds w bx (duoV d g)) (hl : lab bx = .no ∧ labR bx = .no) (hcnt : cnt ≤ 900) (hmask : s.mask < 256) (hrb : Rd w s.A s.m s.b) (hun : ∀ q o, s.A = some ⟨q, o, none⟩ → 0 < s.m → lab q = .no ∧ labR q = .no) (hmc : s.m ≤ s.c) (hm : s.m ≤ 9223372036854775807) :
    Calls Try.prog 13 #[.pointer (some ⟨bx, 0, none⟩), .agg #[.int .i64 1, .int .i64 s.at_, .slice s.A s.m s.c, .bool s.whole, .int .i64 s.n, .int .i64 s.place, .int .u8 (s.mask : Int), .slice s.F s.fm s.fc]] w (GivesStep a bx (cnt + 1)) := by
  have hob := Holds.new w #[.int .i64 1, .int .i64 s.at_, .slice s.A s.m s.c, .bool s.whole, .int .i64 s.n, .int .i64 s.place, .int .u8 (s.mask : Int), .slice s.F s.fm s.fc] 38
  have hbw : Below w.heap.size w (w.alloc (.cells #[.int .i64 1, .int .i64 s.at_, .slice s.A s.m s.c, .bool s.whole, .int .i64 s.n, .int .i64 s.place, .int .u8 (s.mask : Int), .slice s.F s.fm s.fc] 38)) := (Below.refl _ _).alloc (Nat.le_refl _) _
  have hno := h.new_ (Nat.le_refl _)
  have HD := Lib.hid (h.below hbw)
  have HX := Lib.hid (hx.below hbw)
  have HO := Lib.hid hob
  have HNo := Lib.hid hno
  have HL := Lib.hid hl
  have HM := Lib.hid hmask
  have HRb := Lib.hid (hrb.below hbw)
  have HUn := Lib.hid hun
  clear h hx hob hno hl hmask hrb hun
  go_enter Try.func13, Try.ntmps13
  go_upto_region 1 with fail
  generalize (w.alloc (.cells #[.int .i64 1, .int .i64 s.at_, .slice s.A s.m s.c, .bool s.whole, .int .i64 s.n, .int .i64 s.place, .int .u8 (s.mask : Int), .slice s.F s.fm s.fc] 38)) = w1 at *
  have HCs := Lib.hid (duo_cells HX.out HL.out HO.out HNo.out)
  have o0 := HO.out.at_ 0 rfl
  have o2 := HO.out.at_ 2 rfl
  have o3 := HO.out.at_ 3 rfl
  have ho := HO.out.1
  have hbx := HX.out.1
  have hd0 : Below w1.heap.size w1 w1.drew := (Below.refl _ _).drew
  by_cases h3 : s.m ≤ 300
  · have h3i : (s.m : Int) ≤ 300 := by omega
    have hmin : min (s.m : Int) 300 = (s.m : Int) := by omega
    cases hwh : s.whole
    · rw [hwh] at o3
      go_upto_region 6 with fail
      have HR5 := Lib.hid (HRb.out.take (k := s.m) (by omega))
      have HU5 := Lib.hid (show ∀ q o, s.A = some ⟨q, o, none⟩ → 0 < s.m → lab q = .no ∧ labR q = .no from fun q o e _ => HUn.out q o e (by omega))
      have HS := Lib.hid (fun wx (hf : Fr lab labR w1 wx) => (⟨(HCs.out wx hf).1.at_ 0 rfl, (HCs.out wx hf).1.at_ 1 rfl, (HCs.out wx hf).2.at_ 1 rfl⟩ : wx.cell? ⟨bx, 0, none⟩ = some (.pointer (some ⟨d, 0, none⟩)) ∧ wx.cell? ⟨bx, 1, none⟩ = some (.pointer (some ⟨g, 0, none⟩)) ∧ wx.cell? ⟨w.heap.size, 1, none⟩ = some (.int .i64 s.at_)))
      have HW1 := Lib.hid (fun wx (hb : Below w1.heap.size w1 wx) => write_any s.at_ s.A s.m s.c cnt (s.b.take s.m) wx d lab st (HD.out.below hb).disk (HR5.out.below hb) HD.out.low (by omega) (by omega))
      have HW2 := Lib.hid (fun wx (hf : Fr lab labR w1 wx) (hr : IsRef wx g labR st) => rwrite_any s.at_ s.A s.m s.c cnt (s.b.take s.m) wx g labR st hr (HR5.out.fr HU5.out hf) HD.out.low (by omega) (by omega))
      go_upto_region 7 with fail
      clear o0 o2 o3
      go_region_held3 (fun wx => wx.cell? ⟨bx, 0, none⟩ = some (.pointer (some ⟨d, 0, none⟩)) ∧ wx.cell? ⟨bx, 1, none⟩ = some (.pointer (some ⟨g, 0, none⟩)) ∧ wx.cell? ⟨w.heap.size, 1, none⟩ = some (.int .i64 s.at_)) (first | exact HS.out _ (Fr.of_below hd0) | exact HS.out _ hfr | exact HS.out _ hfr2) (first
        | (go_at_call 16; refine (HW1.out _ hd0).mono ?_; rintro e v1 ⟨rfl, lab1, hD1, hC1, hL1⟩; have hh := (HD.out.below hd0).half hD1 hC1 hL1; have hfr : Fr lab labR w1 v1 := hh.fr.drew)
        | (go_at_call 21; refine (HW2.out v1 hfr hh.ref).mono ?_; rintro e v2 ⟨rfl, hl2⟩; obtain ⟨lab2, hDu, hfr2', hL2⟩ := hh.whole (HD.out.below hd0) hl2 (low_write HD.out.low s.at_ (s.b.take s.m)); have hfr2 : Fr lab labR w1 v2 := hfr2'.drew))
      all_goals
        have HE := Lib.hid (step_end HX.out HL.out hfr2 hDu (hL1.of_le (Nat.le_refl _)) (hL2.of_le hfr.size))
        clear hDu hfr2 hfr hh hl2 hL2 hfr2' hC1 hL1 hD1
        go_wp2
        go_ret
        exact HE.out
    · rw [hwh] at o3
      go_upto_region 6 with fail
      have HR5 := Lib.hid (HRb.out.take (k := s.m) (by omega))
      go_wp2_with fail
      refine (full_any s.A s.m s.c (s.b.take s.m) w1 HR5.out).mono ?_
      rintro e wF ⟨rfl, hbF, hxF⟩
      have hl5 : (Dk.full (s.b.take s.m)).length = 128 := Dk.full_length _
      generalize Dk.full (s.b.take s.m) = X5 at *
      clear HR5
      have HR5 := Lib.hid (show Rd wF (some ⟨w1.heap.size, 0, none⟩) 128 X5 by have h := hxF.all; rw [hl5] at h; exact h)
      have hn5 := HD.out.new_ (Nat.le_refl _)
      have HU5 := Lib.hid (show ∀ q o, (some ⟨w1.heap.size, 0, none⟩ : Option Addr) = some ⟨q, o, none⟩ → 0 < 128 → lab q = .no ∧ labR q = .no from fun q o e _ => by injection e with e; injection e with e; subst e; exact hn5)
      have HD2 := Lib.hid (HD.out.below hbF)
      have HX2 := Lib.hid (HX.out.below hbF)
      have HO2 := Lib.hid (HO.out.below hbF)
      have hoF := HO2.out.1
      have hbxF := HX2.out.1
      have o0F := HO2.out.at_ 0 rfl
      clear HCs hd0 hbF hxF hn5 hl5 o0 o2 o3 HD HX HO
      have HD := HD2
      have HX := HX2
      have HO := HO2
      have o0 := o0F
      clear o0F HD2 HX2 HO2
      have hd0 : Below wF.heap.size wF wF.drew := (Below.refl _ _).drew
      have HCs := Lib.hid (duo_cells HX.out HL.out HO.out HNo.out)
      generalize w1.heap.size = q5 at *
      have HS := Lib.hid (fun wx (hf : Fr lab labR wF wx) => (⟨(HCs.out wx hf).1.at_ 0 rfl, (HCs.out wx hf).1.at_ 1 rfl, (HCs.out wx hf).2.at_ 1 rfl⟩ : wx.cell? ⟨bx, 0, none⟩ = some (.pointer (some ⟨d, 0, none⟩)) ∧ wx.cell? ⟨bx, 1, none⟩ = some (.pointer (some ⟨g, 0, none⟩)) ∧ wx.cell? ⟨w.heap.size, 1, none⟩ = some (.int .i64 s.at_)))
      have HW1 := Lib.hid (fun wx (hb : Below wF.heap.size wF wx) => write_any s.at_ (some ⟨q5, 0, none⟩) 128 128 cnt X5 wx d lab st (HD.out.below hb).disk (HR5.out.below hb) HD.out.low (by omega) (by omega))
      have HW2 := Lib.hid (fun wx (hf : Fr lab labR wF wx) (hr : IsRef wx g labR st) => rwrite_any s.at_ (some ⟨q5, 0, none⟩) 128 128 cnt X5 wx g labR st hr (HR5.out.fr HU5.out hf) HD.out.low (by omega) (by omega))
      go_upto_region 7 with fail
      clear o0
      go_region_held3 (fun wx => wx.cell? ⟨bx, 0, none⟩ = some (.pointer (some ⟨d, 0, none⟩)) ∧ wx.cell? ⟨bx, 1, none⟩ = some (.pointer (some ⟨g, 0, none⟩)) ∧ wx.cell? ⟨w.heap.size, 1, none⟩ = some (.int .i64 s.at_)) (first | exact HS.out _ (Fr.of_below hd0) | exact HS.out _ hfr | exact HS.out _ hfr2) (first
        | (go_at_call 16; refine (HW1.out _ hd0).mono ?_; rintro e v1 ⟨rfl, lab1, hD1, hC1, hL1⟩; have hh := (HD.out.below hd0).half hD1 hC1 hL1; have hfr : Fr lab labR wF v1 := hh.fr.drew)
        | (go_at_call 21; refine (HW2.out v1 hfr hh.ref).mono ?_; rintro e v2 ⟨rfl, hl2⟩; obtain ⟨lab2, hDu, hfr2', hL2⟩ := hh.whole (HD.out.below hd0) hl2 (low_write HD.out.low s.at_ X5); have hfr2 : Fr lab labR wF v2 := hfr2'.drew))
      all_goals
        have HE := Lib.hid (step_end HX.out HL.out hfr2 hDu (hL1.of_le (Nat.le_refl _)) (hL2.of_le hfr.size))
        clear hDu hfr2 hfr hh hl2 hL2 hfr2' hC1 hL1 hD1
        go_wp2
        go_ret
        exact HE.out
  · have h3i : ¬ (s.m : Int) ≤ 300 := by omega
    have hmin : min (s.m : Int) 300 = 300 := by omega
    cases hwh : s.whole
    · rw [hwh] at o3
      go_upto_region 6 with fail
      have HR5 := Lib.hid (HRb.out.take (k := 300) (by omega))
      have HU5 := Lib.hid (show ∀ q o, s.A = some ⟨q, o, none⟩ → 0 < 300 → lab q = .no ∧ labR q = .no from fun q o e _ => HUn.out q o e (by omega))
      have HS := Lib.hid (fun wx (hf : Fr lab labR w1 wx) => (⟨(HCs.out wx hf).1.at_ 0 rfl, (HCs.out wx hf).1.at_ 1 rfl, (HCs.out wx hf).2.at_ 1 rfl⟩ : wx.cell? ⟨bx, 0, none⟩ = some (.pointer (some ⟨d, 0, none⟩)) ∧ wx.cell? ⟨bx, 1, none⟩ = some (.pointer (some ⟨g, 0, none⟩)) ∧ wx.cell? ⟨w.heap.size, 1, none⟩ = some (.int .i64 s.at_)))
      have HW1 := Lib.hid (fun wx (hb : Below w1.heap.size w1 wx) => write_any s.at_ s.A 300 s.c cnt (s.b.take 300) wx d lab st (HD.out.below hb).disk (HR5.out.below hb) HD.out.low (by omega) (by omega))
      have HW2 := Lib.hid (fun wx (hf : Fr lab labR w1 wx) (hr : IsRef wx g labR st) => rwrite_any s.at_ s.A 300 s.c cnt (s.b.take 300) wx g labR st hr (HR5.out.fr HU5.out hf) HD.out.low (by omega) (by omega))
      go_upto_region 7 with fail
      clear o0 o2 o3
      go_region_held3 (fun wx => wx.cell? ⟨bx, 0, none⟩ = some (.pointer (some ⟨d, 0, none⟩)) ∧ wx.cell? ⟨bx, 1, none⟩ = some (.pointer (some ⟨g, 0, none⟩)) ∧ wx.cell? ⟨w.heap.size, 1, none⟩ = some (.int .i64 s.at_)) (first | exact HS.out _ (Fr.of_below hd0) | exact HS.out _ hfr | exact HS.out _ hfr2) (first
        | (go_at_call 16; refine (HW1.out _ hd0).mono ?_; rintro e v1 ⟨rfl, lab1, hD1, hC1, hL1⟩; have hh := (HD.out.below hd0).half hD1 hC1 hL1; have hfr : Fr lab labR w1 v1 := hh.fr.drew)
        | (go_at_call 21; refine (HW2.out v1 hfr hh.ref).mono ?_; rintro e v2 ⟨rfl, hl2⟩; obtain ⟨lab2, hDu, hfr2', hL2⟩ := hh.whole (HD.out.below hd0) hl2 (low_write HD.out.low s.at_ (s.b.take 300)); have hfr2 : Fr lab labR w1 v2 := hfr2'.drew))
      all_goals
        have HE := Lib.hid (step_end HX.out HL.out hfr2 hDu (hL1.of_le (Nat.le_refl _)) (hL2.of_le hfr.size))
        clear hDu hfr2 hfr hh hl2 hL2 hfr2' hC1 hL1 hD1
        go_wp2
        go_ret
        exact HE.out
    · rw [hwh] at o3
      go_upto_region 6 with fail
      have HR5 := Lib.hid (HRb.out.take (k := 300) (by omega))
      go_wp2_with fail
      refine (full_any s.A 300 s.c (s.b.take 300) w1 HR5.out).mono ?_
      rintro e wF ⟨rfl, hbF, hxF⟩
      have hl5 : (Dk.full (s.b.take 300)).length = 128 := Dk.full_length _
      generalize Dk.full (s.b.take 300) = X5 at *
      clear HR5
      have HR5 := Lib.hid (show Rd wF (some ⟨w1.heap.size, 0, none⟩) 128 X5 by have h := hxF.all; rw [hl5] at h; exact h)
      have hn5 := HD.out.new_ (Nat.le_refl _)
      have HU5 := Lib.hid (show ∀ q o, (some ⟨w1.heap.size, 0, none⟩ : Option Addr) = some ⟨q, o, none⟩ → 0 < 128 → lab q = .no ∧ labR q = .no from fun q o e _ => by injection e with e; injection e with e; subst e; exact hn5)
      have HD2 := Lib.hid (HD.out.below hbF)
      have HX2 := Lib.hid (HX.out.below hbF)
      have HO2 := Lib.hid (HO.out.below hbF)
      have hoF := HO2.out.1
      have hbxF := HX2.out.1
      have o0F := HO2.out.at_ 0 rfl
      clear HCs hd0 hbF hxF hn5 hl5 o0 o2 o3 HD HX HO
      have HD := HD2
      have HX := HX2
      have HO := HO2
      have o0 := o0F
      clear o0F HD2 HX2 HO2
      have hd0 : Below wF.heap.size wF wF.drew := (Below.refl _ _).drew
      have HCs := Lib.hid (duo_cells HX.out HL.out HO.out HNo.out)
      generalize w1.heap.size = q5 at *
      have HS := Lib.hid (fun wx (hf : Fr lab labR wF wx) => (⟨(HCs.out wx hf).1.at_ 0 rfl, (HCs.out wx hf).1.at_ 1 rfl, (HCs.out wx hf).2.at_ 1 rfl⟩ : wx.cell? ⟨bx, 0, none⟩ = some (.pointer (some ⟨d, 0, none⟩)) ∧ wx.cell? ⟨bx, 1, none⟩ = some (.pointer (some ⟨g, 0, none⟩)) ∧ wx.cell? ⟨w.heap.size, 1, none⟩ = some (.int .i64 s.at_)))
      have HW1 := Lib.hid (fun wx (hb : Below wF.heap.size wF wx) => write_any s.at_ (some ⟨q5, 0, none⟩) 128 128 cnt X5 wx d lab st (HD.out.below hb).disk (HR5.out.below hb) HD.out.low (by omega) (by omega))
      have HW2 := Lib.hid (fun wx (hf : Fr lab labR wF wx) (hr : IsRef wx g labR st) => rwrite_any s.at_ (some ⟨q5, 0, none⟩) 128 128 cnt X5 wx g labR st hr (HR5.out.fr HU5.out hf) HD.out.low (by omega) (by omega))
      go_upto_region 7 with fail
      clear o0
      go_region_held3 (fun wx => wx.cell? ⟨bx, 0, none⟩ = some (.pointer (some ⟨d, 0, none⟩)) ∧ wx.cell? ⟨bx, 1, none⟩ = some (.pointer (some ⟨g, 0, none⟩)) ∧ wx.cell? ⟨w.heap.size, 1, none⟩ = some (.int .i64 s.at_)) (first | exact HS.out _ (Fr.of_below hd0) | exact HS.out _ hfr | exact HS.out _ hfr2) (first
        | (go_at_call 16; refine (HW1.out _ hd0).mono ?_; rintro e v1 ⟨rfl, lab1, hD1, hC1, hL1⟩; have hh := (HD.out.below hd0).half hD1 hC1 hL1; have hfr : Fr lab labR wF v1 := hh.fr.drew)
        | (go_at_call 21; refine (HW2.out v1 hfr hh.ref).mono ?_; rintro e v2 ⟨rfl, hl2⟩; obtain ⟨lab2, hDu, hfr2', hL2⟩ := hh.whole (HD.out.below hd0) hl2 (low_write HD.out.low s.at_ X5); have hfr2 : Fr lab labR wF v2 := hfr2'.drew))
      all_goals
        have HE := Lib.hid (step_end HX.out HL.out hfr2 hDu (hL1.of_le (Nat.le_refl _)) (hL2.of_le hfr.size))
        clear hDu hfr2 hfr hh hl2 hL2 hfr2' hC1 hL1 hD1
        go_wp2
        go_ret
        exact HE.out
end Go.Proofs.Ytamdihodconjiaa
