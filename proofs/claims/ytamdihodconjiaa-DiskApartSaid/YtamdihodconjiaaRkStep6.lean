/- A step of both disks: kind 6. -/
import Derived.Test.YtamdihodconjiaaRkStep5
namespace Go.Proofs.Ytamdihodconjiaa
open Go.RowKit
set_option linter.unusedVariables false
set_option maxRecDepth 100000 in
set_option maxHeartbeats 8000000 in
theorem step_fit (s : DOp) (a w : World) (bx d g cnt : Nat) (st : Dk.St) (lab labR : Nat → Tag) (h : Duo a w d g st cnt lab labR) (hx : Holds w bx (duoV d g)) (hl : lab bx = .no ∧ labR bx = .no) (hcnt : cnt ≤ 900) (hmask : s.mask < 256) (hab : a.heap.size ≤ bx) (hrf : RdC 2 w s.F s.fm (flatFa s.fs)) (hfl : s.fs.length = s.fm) (hm : s.fm ≤ 9223372036854775807) :
    Calls Try.prog 13 #[.pointer (some ⟨bx, 0, none⟩), .agg #[.int .i64 6, .int .i64 s.at_, .slice s.A s.m s.c, .bool s.whole, .int .i64 s.n, .int .i64 s.place, .int .u8 (s.mask : Int), .slice s.F s.fm s.fc]] w (GivesStep a bx (cnt + 1)) := by
  have hob := Holds.new w #[.int .i64 6, .int .i64 s.at_, .slice s.A s.m s.c, .bool s.whole, .int .i64 s.n, .int .i64 s.place, .int .u8 (s.mask : Int), .slice s.F s.fm s.fc] 38
  have hbw : Below w.heap.size w (w.alloc (.cells #[.int .i64 6, .int .i64 s.at_, .slice s.A s.m s.c, .bool s.whole, .int .i64 s.n, .int .i64 s.place, .int .u8 (s.mask : Int), .slice s.F s.fm s.fc] 38)) := (Below.refl _ _).alloc (Nat.le_refl _) _
  have hno := h.new_ (Nat.le_refl _)
  have HD := Lib.hid (h.below hbw)
  have HX := Lib.hid (hx.below hbw)
  have HO := Lib.hid hob
  have HNo := Lib.hid hno
  have HL := Lib.hid hl
  have HM := Lib.hid hmask
  have HF0 := Lib.hid (hrf.below hbw)
  clear h hx hob hno hl hmask hrf
  go_enter Try.func13, Try.ntmps13
  go_upto_region 1 with fail
  generalize (w.alloc (.cells #[.int .i64 6, .int .i64 s.at_, .slice s.A s.m s.c, .bool s.whole, .int .i64 s.n, .int .i64 s.place, .int .u8 (s.mask : Int), .slice s.F s.fm s.fc] 38)) = w1 at *
  have HCs := Lib.hid (duo_cells HX.out HL.out HO.out HNo.out)
  have o0 := HO.out.at_ 0 rfl
  have o7 := HO.out.at_ 7 rfl
  have b0 := HX.out.at_ 0 rfl
  have b1 := HX.out.at_ 1 rfl
  have ho := HO.out.1
  have hbx := HX.out.1
  have hd0 : Below w1.heap.size w1 w1.drew := (Below.refl _ _).drew
  go_wp2_with fail
  refine (rloose_any w1 g labR st HD.out.ref).mono ?_
  rintro e u1 ⟨A6, c6, rfl, ho6, hb6⟩
  have HO6 := Lib.hid ho6.rd
  have HB6 := Lib.hid hb6
  have HFw := Lib.hid (ref_few HD.out.ref)
  have HF1 := Lib.hid (HF0.out.below hb6)
  clear ho6 hb6
  go_wp2_with fail
  refine (fit_any A6 st.loose.length c6 st.loose s.F s.fm s.fc s.fs u1 HO6.out rfl HFw.out.2 HF1.out hfl (by have := HFw.out.1; omega) hm).mono ?_
  rintro e u2 ⟨A7, c7, fs7, rfl, ho7, hft, hb7⟩
  have HBU := Lib.hid (below_next HB6.out hb7)
  obtain ⟨n7, hn7⟩ : ∃ n7, n7 = min s.fm st.loose.length := ⟨_, rfl⟩
  have hn7m : n7 ≤ s.fm := by omega
  rw [← hn7] at ho7 hft ⊢
  have hfl7 : fs7.length = n7 := hft.1
  have HF5 := Lib.hid ho7.rd
  have HDu := Lib.hid (HD.out.below HBU.out)
  have HXu := Lib.hid (HX.out.below HBU.out)
  have b1u := HXu.out.at_ 1 rfl
  have b0u := HXu.out.at_ 0 rfl
  clear hn7 ho7 hft hb7 HF0 HF1 hfl HD HX HCs hd0 hbx b0 b1 o0 o7 ho HO HO6
  have HD := HDu
  have HX := HXu
  have hfl := hfl7
  clear HDu HXu hfl7
  go_wp2_with fail
  refine (crash_any u2 d lab st HD.out.disk A7 n7 c7 fs7 HF5.out hfl (by omega)).mono ?_
  intro e v1 hg1
  rcases hg1 with ⟨hE, g1, rfl, lab3, hG, hb1, hl3⟩ | ⟨hE, rfl, hb1⟩
  · have HG := Lib.hid (And.intro hG (And.intro hb1 hl3))
    have HD1 := Lib.hid (HD.out.below hb1)
    have HX1 := Lib.hid (HX.out.below hb1)
    have b11 := HX1.out.at_ 1 rfl
    have HF1 := Lib.hid (HF5.out.below hb1)
    have HE := Lib.hid hE
    clear hG hb1 hl3 hE
    go_wp2_with fail
    refine (rcrash_any v1 g labR st HD1.out.ref A7 n7 c7 fs7 HF1.out hfl (by omega)).mono ?_
    rintro e v2 (⟨_, g2, lab4, rfl, hR, hb2, hl4⟩ | ⟨hne, _⟩)
    · have HR := Lib.hid (And.intro hR (And.intro hb2 hl4))
      have HD2 := Lib.hid (HD1.out.below hb2)
      have HX2 := Lib.hid (HX1.out.below hb2)
      clear hR hb2 hl4 b11
      have hb0 : Below v2.heap.size v2 v2.drew := (Below.refl _ _).drew
      have HS := Lib.hid (fun wx (hb : Below v2.heap.size v2 wx) => (⟨(HX2.out.below hb).at_ 0 rfl, (HX2.out.below hb).at_ 1 rfl⟩ : wx.cell? ⟨bx, 0, none⟩ = some (.pointer (some ⟨d, 0, none⟩)) ∧ wx.cell? ⟨bx, 1, none⟩ = some (.pointer (some ⟨g, 0, none⟩))))
      have HSm := Lib.hid (fun wx (hb : Below v2.heap.size v2 wx) => same_any wx d g lab labR st (HD2.out.below hb).disk (HD2.out.below hb).ref)
      go_upto_region 21 with fail
      go_cut [152] from 131 to 152 (fun t wx => t = .bool false ∧ Hid (Below v2.heap.size v2 wx))
      case first =>
        go_region_held3 (fun wx => wx.cell? ⟨bx, 0, none⟩ = some (.pointer (some ⟨d, 0, none⟩)) ∧ wx.cell? ⟨bx, 1, none⟩ = some (.pointer (some ⟨g, 0, none⟩))) (first | exact HS.out _ hb0 | exact HS.out _ hk3) (first | (go_at_call 14; refine (HSm.out _ hb0).mono ?_; rintro e v3 ⟨rfl, hb3⟩; have hk3 : Below v2.heap.size v2 v3 := below_next hb0 hb3))
        all_goals
          have HK := Lib.hid hk3
          clear hk3 hb3 HS
          go_wp2_with fail
          go_meet
          case rel => exact ⟨rfl, HK⟩
      case rest =>
        obtain ⟨rfl, HB3⟩ := hcut
        have hX3 := HX2.out.below HB3.out
        have q0 := hX3.at_ 0 rfl
        have q1 := hX3.at_ 1 rfl
        have f0 := hX3.2.2 0
        have f1 := hX3.2.2 1
        have HEnd := Lib.hid (crash_end (cnt' := cnt + 1) HD.out HX.out hab HG.out.1 HG.out.2.1 HG.out.2.2 HR.out.1 HR.out.2.1 HR.out.2.2 HB3.out)
        clear hX3 HS HSm hb0
        go_wp2
        go_ret
        exact HEnd.out
    · exact absurd HE.out hne
  · have HD1 := Lib.hid (HD.out.below hb1)
    have HX1 := Lib.hid (HX.out.below hb1)
    have b11 := HX1.out.at_ 1 rfl
    have HF1 := Lib.hid (HF5.out.below hb1)
    have HE := Lib.hid hE
    clear hb1 hE
    go_wp2_with fail
    refine (rcrash_any v1 g labR st HD1.out.ref A7 n7 c7 fs7 HF1.out hfl (by omega)).mono ?_
    rintro e v2 (⟨h0, _⟩ | ⟨_, rfl, hb2⟩)
    · exact absurd h0 HE.out
    · have HD2 := Lib.hid (HD1.out.below hb2)
      have HX2 := Lib.hid (HX1.out.below hb2)
      clear hb2 b11
      generalize st.crashE fs7 = E at *
      have hb0 : Below v2.heap.size v2 v2.drew := (Below.refl _ _).drew
      have HS := Lib.hid (fun wx (hb : Below v2.heap.size v2 wx) => (⟨(HX2.out.below hb).at_ 0 rfl, (HX2.out.below hb).at_ 1 rfl⟩ : wx.cell? ⟨bx, 0, none⟩ = some (.pointer (some ⟨d, 0, none⟩)) ∧ wx.cell? ⟨bx, 1, none⟩ = some (.pointer (some ⟨g, 0, none⟩))))
      have HSm := Lib.hid (fun wx (hb : Below v2.heap.size v2 wx) => same_any wx d g lab labR st (HD2.out.below hb).disk (HD2.out.below hb).ref)
      go_upto_region 21 with fail
      go_cut [152] from 131 to 152 (fun t wx => t = .bool false ∧ Hid (Below v2.heap.size v2 wx))
      case first =>
        go_region_held3 (fun wx => wx.cell? ⟨bx, 0, none⟩ = some (.pointer (some ⟨d, 0, none⟩)) ∧ wx.cell? ⟨bx, 1, none⟩ = some (.pointer (some ⟨g, 0, none⟩))) (first | exact HS.out _ hb0 | exact HS.out _ hk3) (first | (go_at_call 14; refine (HSm.out _ hb0).mono ?_; rintro e v3 ⟨rfl, hb3⟩; have hk3 : Below v2.heap.size v2 v3 := below_next hb0 hb3))
        all_goals
          have HK := Lib.hid hk3
          clear hk3 hb3 HS
          go_wp2_with fail
          go_meet
          case rel => exact ⟨rfl, HK⟩
      case rest =>
        obtain ⟨rfl, HB3⟩ := hcut
        have HEnd := Lib.hid (show GivesStep a bx (cnt + 1) (.returned (.bool true)) wc from ⟨rfl, d, g, st, lab, labR, (HD2.out.below HB3.out).more, HX2.out.below HB3.out, HL.out⟩)
        clear HS HSm hb0
        go_wp2
        go_ret
        exact HEnd.out
end Go.Proofs.Ytamdihodconjiaa
