/- For every list of payloads and every order: what was written is read, frame by frame, whatever is written to the others (P7.6, P7.9), and the example at the head holds; the arguments stay as they were. No condition. -/
import Derived.Test.YtakocojbpdpflaaFiBk
import Derived.Test.YtakocojbpdpflaaInRows
import Derived.Test.YtakocojbpdpflaaIns
import Derived.Test.YtakocojbpdpflaaSuA
import Derived.WalkKit
import Derived.ProofKit
import Derived.OpenShut
import Derived.ShutString
import Derived.ChangeOld
import Derived.Below
import Derived.Deep.RegionHeld
namespace Go.Proofs.Ytakocojbpdpflaa.fileBack
open Go.ChangeShapes Go.WideShapes Go.ChangeAt Go.RowKit
set_option linter.unusedVariables false
theorem own : ownKnob Try.prog.godebug = none := by kernel_rfl
theorem laidOut : laidOutB Try.prog = true := by kernel_rfl
open Fr Fi
set_option maxRecDepth 100000 in
set_option maxHeartbeats 8000000 in
theorem walk (A0 : Option Addr) (m0 c0 : Nat) (l0 : List (List Nat)) (A1 : Option Addr) (m1 c1 : Nat) (l1 : List Nat) (w : World) (r0 : RdB w A0 m0 l0) (wc0 : m0 ≤ c0) (w0 : m0 ≤ 9223372036854775807) (r1 : Rd w A1 m1 l1) (wc1 : m1 ≤ c1) (w1 : m1 ≤ 9223372036854775807) :
    Calls Try.prog 4 #[.slice A0 m0 c0, .slice A1 m1 c1] w fun e w' => e = .returned (.bool true) ∧ Below w.heap.size w w' := by
  -- heartbeats 8000000
  have HO := Lib.hid r1
  have HP := Lib.hid r0
  have HM := Lib.hid (And.intro w0 w1)
  clear r0 r1 wc0 wc1
  go_enter Try.func4, Try.ntmps4
  go_wp2_with fail
  refine (awake_any _).mono ?_
  rintro e v0 ⟨rfl, hb0⟩
  go_wp2_with fail
  refine (new_any 36 _).mono ?_
  rintro e v1 hN
  rcases hN with ⟨_, _, d, lab, rfl, hD, hb1, hnl⟩ | ⟨hx, _⟩
  rotate_left
  · exact absurd ⟨by omega, by omega⟩ hx
  have HD1 := Lib.hid (show Ds w v1 d lab (Dk.St.new 36) [] from ⟨hb0.trans (hb1.mono hb0.size), hD, fun k hk => Nat.le_trans hb0.size (hnl k hk), fun u hu => by cases hu⟩)
  clear hb0 hb1 hD hnl
  go_wp2_with fail
  refine (two_any 5 3 _).mono ?_
  rintro e v2 ⟨bt, rfl, hrt, hbt, hb2⟩
  have hnew := bs_new HD1.out hb2 hrt hbt
  have HNew := Lib.hid hnew
  clear hnew hrt hbt hb2 HD1
  go_wp2_with fail
  generalize (((v2.alloc _).alloc _).alloc _) = v3 at *
  generalize v2.heap.size = gb at *
  go_loopw [10] (fun ii v => ∃ (j : Nat) (lab : Nat → Tag) (st : Dk.St) (Ws Ts : List Value), j ≤ 40 ∧ ii = .int .i64 (j : Int) ∧ Hid (Bs w v d bt gb lab st Ws Ts) ∧ Hid (st.low (2 * j))) (fun ii _ => 40 - (intOf ii).toNat)
  case atStart => exact ⟨0, _, _, _, _, by omega, rfl, HNew, Lib.hid (low_new 36)⟩
  case round =>
    obtain ⟨j, lab, st, Ws, Ts, hj, rfl, HB, HL⟩ := hrel
    clear HNew
    by_cases hall : j < m0 ∧ j < m1 ∧ j < 40
    · obtain ⟨h1, h2, h3⟩ := hall
      have g1 : (j : Int) < (m0 : Int) := by omega
      have g2 : (j : Int) < (m1 : Int) := by omega
      have g3 : (j : Int) < 40 := by omega
      obtain ⟨pb, po, B, c, l, rfl, hpb, hlj, hcell, hrd, hlc, hlm⟩ := (HP.out.below HB.out.ds.below).at_ h1
      obtain ⟨ob, oo, x, rfl, hob, hox, hx, hcx⟩ := (HO.out.below HB.out.ds.below).at_ h2
      obtain ⟨ma, hma⟩ : ∃ mm, mm = if 108 < l.length then 108 else l.length := ⟨_, rfl⟩
      have hia : (if (108 : Int) < (l.length : Int) then (108 : Int) else (l.length : Int)) = (ma : Int) := by rw [hma]; split <;> split <;> omega
      have hja : min (l.length : Int) 108 = (ma : Int) := by rw [hma]; split <;> omega
      have h1a : ma ≤ l.length := by rw [hma]; split <;> omega
      have h2a : ma ≤ 108 := by rw [hma]; split <;> omega
      have hca : (ma : Int) ≤ (c : Int) := by omega
      obtain ⟨k, hk⟩ : ∃ k, k = x % 16 := ⟨_, rfl⟩
      have q1 : (x : Int) % 16 = (k : Int) := by omega
      have HK16 := Lib.hid (show k < 16 by omega)
      have hra := hrd.take h1a
      have hrw : Rd w B l.length l := by
        obtain ⟨pb', po', B', c', l', e1, hpb', hlj', hcell', hrd', _⟩ := HP.out.at_ h1
        injection e1 with e1; injection e1 with e1 e2; subst e1 e2
        rw [hlj] at hlj'; injection hlj' with hlj'; subst hlj'
        rw [HB.out.ds.below.cell (p := ⟨_, _, none⟩) hpb'] at hcell
        rw [hcell'] at hcell; injection hcell with hcell; injection hcell with f1 f2 f3; subst f1; exact hrd'
      obtain ⟨pa, hpa⟩ : ∃ p, p = l.take ma := ⟨_, rfl⟩
      have hrwa := hrw.take h1a
      rw [← hpa] at hra hrwa
      have hpl : pa.length = ma := hra.1
      have HRw := Lib.hid hrwa
      have HPl := Lib.hid (And.intro hpl h2a)
      have y0 := HB.out.box.at_ 0 rfl
      have y1 := HB.out.box.at_ 1 rfl
      have y2 := HB.out.box.at_ 2 rfl
      obtain ⟨xy1, xy2, xy3⟩ := pxy HK16.out
      have HW := Lib.hid (show ∀ v, Below wr.heap.size wr v → Calls Try.prog 19 #[.pointer (some ⟨d, 0, none⟩), .agg #[.int .i64 5, .int .i64 3, .slice (some ⟨bt, 0, none⟩) 2 2], .int .i64 3, .int .i64 3, .int .i64 (k : Int), .slice B ma c] v (fun e w' => e = .returned (.int .i64 0) ∧ Left lab d ((st.write (px k : Int) (frame 3 5 3 k pa)).write (py k : Int) (frame 3 5 3 k pa)) v w') from fun v hv => by
        have hW := fwrite_any (P2 5 3) (some ⟨bt, 0, none⟩) 2 3 3 5 k rfl (px k : Int) (py k : Int) v d lab st (2 * j) HL.out (by omega) (HB.out.next hv).ds.disk (HB.out.next hv).rt (by rw [HB.out.bk.free.len]; exact P2_ok (by omega) (by omega) (by omega) (by omega)) (by omega) ⟨by show (3 : Int) ≤ 3; omega, by omega⟩ (by have := HK16.out; omega) (P2_fr 5 3 HK16.out) ⟨by rw [HB.out.bk.free.len]; omega, by rw [HB.out.bk.free.len]; omega⟩ B c pa (by rw [hpl]; exact hra.below hv) (by omega) (HB.out.bk.free.ready xy1) ((HB.out.bk.free.write xy1 (frame_len (by omega))).1.ready xy2)
        rw [hpl] at hW
        exact hW)
      clear xy1 xy2 xy3 hra hrw hrwa hpa hpl hma hk hrd hlj hox
      go_upto_region 12 with fail
      go_region
      go_wp2_with fail
      have hd : Below wr.heap.size wr wr.drew := (Below.refl _ _).drew
      refine (HW.out _ hd).mono ?_
      rintro e v4 ⟨rfl, hL⟩
      obtain ⟨⟨k2, k3⟩, lab4, hB4⟩ := (HB.out.next hd).put HK16.out (c := c) (by rw [HPl.out.1]; exact HRw.out) (by rw [HPl.out.1]; exact HPl.out.2) hL
      have HL4 := Lib.hid (show ((st.write (px k : Int) (frame 3 5 3 k pa)).write (py k : Int) (frame 3 5 3 k pa)).low (2 * (j + 1)) from low_write (low_write HL.out _ _) _ _)
      rw [HPl.out.1] at hB4
      have HB4 := Lib.hid hB4
      have hk16 : (k : Int) < 16 := by have := HK16.out; omega
      obtain ⟨x1, hx1⟩ : ∃ x1, Ws[k]? = some x1 := ⟨_, List.getElem?_eq_getElem (by rw [HB.out.bk.wl]; exact HK16.out)⟩
      obtain ⟨x2, hx2⟩ : ∃ x2, Ts[k]? = some x2 := ⟨_, List.getElem?_eq_getElem (by rw [HB.out.bk.tl]; exact HK16.out)⟩
      have z1 := k2.at_ k hx1
      have f1 := k2.2.2 k
      have k3b := k3.other (b := gb + 1) (i := k) (v := .slice B ma c) (by omega)
      have z2 := k3b.at_ k hx2
      have f2 := k3b.2.2 k
      clear hB4 hL hd k2 k3 k3b HW HB HL HO HP hcell hcx y0 y1 y2 hx1 hx2
      go_wp2_with fail
      go_roundw
      case rel => exact ⟨j + 1, lab4, _, _, _, by omega, by go_num, HB4, HL4⟩
      case measure => simp [intOf]; omega
    · have hx : ¬ j < m0 ∨ (j < m0 ∧ ¬ j < m1) ∨ (j < m0 ∧ j < m1 ∧ ¬ j < 40) := by omega
      clear HO HP HL hall
      rcases hx with hx | ⟨h1, hx⟩ | ⟨h1, h2, hx⟩
      · have g1 : ¬ ((j : Int) < (m0 : Int)) := by omega
        clear hx
        go_wp2_with fail
        obtain ⟨v5, rfl⟩ : ∃ v5, v5 = wr := ⟨wr, rfl⟩
        go_loopw [13] (fun kk v => ∃ k : Nat, k ≤ 16 ∧ kk = .int .i64 (k : Int) ∧ Hid (Below v5.heap.size v5 v)) (fun kk _ => 16 - (intOf kk).toNat)
        case atStart => exact ⟨0, by omega, rfl, Lib.hid (Below.refl _ _)⟩
        case round =>
          obtain ⟨k, hk, rfl, HX⟩ := hrel
          have HBv := Lib.hid (HB.out.next HX.out)
          by_cases hk16 : k < 16
          · have hki : (k : Int) < 16 := by omega
            obtain ⟨x1, x2, x3⟩ := pxy hk16
            have hln := HB.out.bk.free.len
            have hxr := HB.out.bk.free.ready x1
            have hyr := HB.out.bk.free.ready x2
            have hR := fread_any (P2 5 3) (some ⟨bt, 0, none⟩) 2 3 k (px k : Int) (py k : Int) wr d lab st HBv.out.ds.disk HBv.out.rt (by rw [hln]; exact P2_ok (by omega) (by omega) (by omega) (by omega)) ⟨by omega, by omega⟩ (P2_fr 5 3 hk16) ⟨by rw [hln]; omega, by rw [hln]; omega⟩ hxr hyr
            have y0 := HBv.out.box.at_ 0 rfl
            have y1 := HBv.out.box.at_ 1 rfl
            have y2 := HBv.out.box.at_ 2 rfl
            rcases HB.out.bk.each k hk16 with ⟨A, c, p, e1, e2, e3, e4, e5, e6⟩ | ⟨e1, e2, e5, e6⟩
            · obtain ⟨i1, i2, i3⟩ := frame_isB 3 5 3 k 3 (p := p) (okS_iff.2 ⟨by omega, by omega, by omega⟩) (okK_iff.2 ⟨by omega, by omega⟩) e3.2.1 e4 (by omega)
              rw [e5, e6, show isB (frame 3 5 3 k p) (P2 5 3).i (P2 5 3).e (k : Int) 3 = true from i1] at hR
              have HR := Lib.hid (show Calls Try.prog 20 #[.pointer (some ⟨d, 0, none⟩), .agg #[.int .i64 5, .int .i64 3, .slice (some ⟨bt, 0, none⟩) 2 2], .int .i64 3, .int .i64 (k : Int)] wr (GivesRd wr (frame 3 5 3 k p) (frame 3 5 3 k p) true true) from hR)
              have HI := Lib.hid (And.intro i2 i3)
              have HE := Lib.hid (And.intro e1 (And.intro e2 (e3.below HBv.out.ds.below)))
              clear hR x1 x2 x3 hln hxr hyr i1 i2 i3 e1 e2 e3 e4 e5 e6
              go_wp2_with fail
              refine HR.out.mono ?_
              rintro e v10 ⟨hb, ⟨hx, _⟩ | ⟨_, Q, cq, l, hl, rfl, hq⟩⟩
              · cases hx
              rw [ite_self] at hl
              subst hl
              rw [HI.out.1] at hq ⊢
              rw [HI.out.2]
              have HX10 := Lib.hid (below_next HX.out hb)
              have HC := Lib.hid (show ∀ wx, Below v10.heap.size v10 wx → wx.cell? ⟨gb + 1 + 1, k, none⟩ = some (.bool true) ∧ wx.cell? ⟨gb + 1, k, none⟩ = some (.slice A p.length c) from fun wx hx => ⟨((HBv.out.ht.below hb).below hx).at_ k HE.out.2.1, ((HBv.out.hw.below hb).below hx).at_ k HE.out.1⟩)
              have HS1 := Lib.hid (fun wx (hx : Below v10.heap.size v10 wx) => run_str (cap := cq) (hq.below hx))
              have HS2 := Lib.hid (fun wx (hx : Below v10.heap.size v10 wx) => run_str (cap := c) ((HE.out.2.2.below hb).below hx))
              clear y0 y1 y2 HR hb hq HE HI
              go_upto_region 21 with fail
              refine region_class (fun w' => Below v10.heap.size v10 w') (by kernel_rfl) (by kernel_rfl) ((Below.refl _ _).drew) ?_
              repeat (go_big_quiet_step ((first | (intro _; with_reducible rfl) | (intro hq; obtain ⟨e0, e1⟩ := HC.out _ hq; simp [e0, e1, HS1.out _ hq, HS2.out _ hq, Result.andThen]; with_reducible rfl))))
              refine wpQuiet_nil ?_
              intro v11 hv11
              have HX11 := Lib.hid (below_next HX10.out hv11)
              clear HC HS1 HS2 hv11
              go_wp2_with fail
              go_roundw
              case rel => exact ⟨k + 1, by omega, by go_num, HX11⟩
              case measure => simp [intOf]; omega
            · have i0 := zeros_isB 5 3 (k : Int) 3
              rw [e5, e6, show isB Dk.zeros (P2 5 3).i (P2 5 3).e (k : Int) 3 = false from i0] at hR
              have HR := Lib.hid (show Calls Try.prog 20 #[.pointer (some ⟨d, 0, none⟩), .agg #[.int .i64 5, .int .i64 3, .slice (some ⟨bt, 0, none⟩) 2 2], .int .i64 3, .int .i64 (k : Int)] wr (GivesRd wr Dk.zeros Dk.zeros false false) from hR)
              have HE := Lib.hid e2
              clear hR x1 x2 x3 hln hxr hyr i0 e1 e2 e5 e6
              go_wp2_with fail
              refine HR.out.mono ?_
              rintro e v10 ⟨hb, ⟨_, rfl⟩ | ⟨hx, _⟩⟩
              rotate_left
              · cases hx
              have HX10 := Lib.hid (below_next HX.out hb)
              have HC := Lib.hid (show ∀ wx, Below v10.heap.size v10 wx → wx.cell? ⟨gb + 1 + 1, k, none⟩ = some (.bool false) from fun wx hx => ((HBv.out.ht.below hb).below hx).at_ k HE.out)
              clear y0 y1 y2 HR hb HE
              go_upto_region 21 with fail
              refine region_class (fun w' => Below v10.heap.size v10 w') (by kernel_rfl) (by kernel_rfl) ((Below.refl _ _).drew) ?_
              repeat (go_big_quiet_step ((first | (intro _; with_reducible rfl) | (intro hq; have e0 := HC.out _ hq; simp [e0, Result.andThen]; with_reducible rfl))))
              refine wpQuiet_nil ?_
              intro v11 hv11
              have HX11 := Lib.hid (below_next HX10.out hv11)
              clear HC hv11
              go_wp2_with fail
              go_roundw
              case rel => exact ⟨k + 1, by omega, by go_num, HX11⟩
              case measure => simp [intOf]; omega
          · have hki : ¬ ((k : Int) < 16) := by omega
            have HF := Lib.hid (HBv.out.ds.below)
            go_wp2_with fail
            go_ret
            exact ⟨rfl, HF.out⟩
      · have g1 : (j : Int) < (m0 : Int) := by omega
        have g2 : ¬ ((j : Int) < (m1 : Int)) := by omega
        clear hx
        go_wp2_with fail
        obtain ⟨v5, rfl⟩ : ∃ v5, v5 = wr := ⟨wr, rfl⟩
        go_loopw [13] (fun kk v => ∃ k : Nat, k ≤ 16 ∧ kk = .int .i64 (k : Int) ∧ Hid (Below v5.heap.size v5 v)) (fun kk _ => 16 - (intOf kk).toNat)
        case atStart => exact ⟨0, by omega, rfl, Lib.hid (Below.refl _ _)⟩
        case round =>
          obtain ⟨k, hk, rfl, HX⟩ := hrel
          have HBv := Lib.hid (HB.out.next HX.out)
          by_cases hk16 : k < 16
          · have hki : (k : Int) < 16 := by omega
            obtain ⟨x1, x2, x3⟩ := pxy hk16
            have hln := HB.out.bk.free.len
            have hxr := HB.out.bk.free.ready x1
            have hyr := HB.out.bk.free.ready x2
            have hR := fread_any (P2 5 3) (some ⟨bt, 0, none⟩) 2 3 k (px k : Int) (py k : Int) wr d lab st HBv.out.ds.disk HBv.out.rt (by rw [hln]; exact P2_ok (by omega) (by omega) (by omega) (by omega)) ⟨by omega, by omega⟩ (P2_fr 5 3 hk16) ⟨by rw [hln]; omega, by rw [hln]; omega⟩ hxr hyr
            have y0 := HBv.out.box.at_ 0 rfl
            have y1 := HBv.out.box.at_ 1 rfl
            have y2 := HBv.out.box.at_ 2 rfl
            rcases HB.out.bk.each k hk16 with ⟨A, c, p, e1, e2, e3, e4, e5, e6⟩ | ⟨e1, e2, e5, e6⟩
            · obtain ⟨i1, i2, i3⟩ := frame_isB 3 5 3 k 3 (p := p) (okS_iff.2 ⟨by omega, by omega, by omega⟩) (okK_iff.2 ⟨by omega, by omega⟩) e3.2.1 e4 (by omega)
              rw [e5, e6, show isB (frame 3 5 3 k p) (P2 5 3).i (P2 5 3).e (k : Int) 3 = true from i1] at hR
              have HR := Lib.hid (show Calls Try.prog 20 #[.pointer (some ⟨d, 0, none⟩), .agg #[.int .i64 5, .int .i64 3, .slice (some ⟨bt, 0, none⟩) 2 2], .int .i64 3, .int .i64 (k : Int)] wr (GivesRd wr (frame 3 5 3 k p) (frame 3 5 3 k p) true true) from hR)
              have HI := Lib.hid (And.intro i2 i3)
              have HE := Lib.hid (And.intro e1 (And.intro e2 (e3.below HBv.out.ds.below)))
              clear hR x1 x2 x3 hln hxr hyr i1 i2 i3 e1 e2 e3 e4 e5 e6
              go_wp2_with fail
              refine HR.out.mono ?_
              rintro e v10 ⟨hb, ⟨hx, _⟩ | ⟨_, Q, cq, l, hl, rfl, hq⟩⟩
              · cases hx
              rw [ite_self] at hl
              subst hl
              rw [HI.out.1] at hq ⊢
              rw [HI.out.2]
              have HX10 := Lib.hid (below_next HX.out hb)
              have HC := Lib.hid (show ∀ wx, Below v10.heap.size v10 wx → wx.cell? ⟨gb + 1 + 1, k, none⟩ = some (.bool true) ∧ wx.cell? ⟨gb + 1, k, none⟩ = some (.slice A p.length c) from fun wx hx => ⟨((HBv.out.ht.below hb).below hx).at_ k HE.out.2.1, ((HBv.out.hw.below hb).below hx).at_ k HE.out.1⟩)
              have HS1 := Lib.hid (fun wx (hx : Below v10.heap.size v10 wx) => run_str (cap := cq) (hq.below hx))
              have HS2 := Lib.hid (fun wx (hx : Below v10.heap.size v10 wx) => run_str (cap := c) ((HE.out.2.2.below hb).below hx))
              clear y0 y1 y2 HR hb hq HE HI
              go_upto_region 21 with fail
              refine region_class (fun w' => Below v10.heap.size v10 w') (by kernel_rfl) (by kernel_rfl) ((Below.refl _ _).drew) ?_
              repeat (go_big_quiet_step ((first | (intro _; with_reducible rfl) | (intro hq; obtain ⟨e0, e1⟩ := HC.out _ hq; simp [e0, e1, HS1.out _ hq, HS2.out _ hq, Result.andThen]; with_reducible rfl))))
              refine wpQuiet_nil ?_
              intro v11 hv11
              have HX11 := Lib.hid (below_next HX10.out hv11)
              clear HC HS1 HS2 hv11
              go_wp2_with fail
              go_roundw
              case rel => exact ⟨k + 1, by omega, by go_num, HX11⟩
              case measure => simp [intOf]; omega
            · have i0 := zeros_isB 5 3 (k : Int) 3
              rw [e5, e6, show isB Dk.zeros (P2 5 3).i (P2 5 3).e (k : Int) 3 = false from i0] at hR
              have HR := Lib.hid (show Calls Try.prog 20 #[.pointer (some ⟨d, 0, none⟩), .agg #[.int .i64 5, .int .i64 3, .slice (some ⟨bt, 0, none⟩) 2 2], .int .i64 3, .int .i64 (k : Int)] wr (GivesRd wr Dk.zeros Dk.zeros false false) from hR)
              have HE := Lib.hid e2
              clear hR x1 x2 x3 hln hxr hyr i0 e1 e2 e5 e6
              go_wp2_with fail
              refine HR.out.mono ?_
              rintro e v10 ⟨hb, ⟨_, rfl⟩ | ⟨hx, _⟩⟩
              rotate_left
              · cases hx
              have HX10 := Lib.hid (below_next HX.out hb)
              have HC := Lib.hid (show ∀ wx, Below v10.heap.size v10 wx → wx.cell? ⟨gb + 1 + 1, k, none⟩ = some (.bool false) from fun wx hx => ((HBv.out.ht.below hb).below hx).at_ k HE.out)
              clear y0 y1 y2 HR hb HE
              go_upto_region 21 with fail
              refine region_class (fun w' => Below v10.heap.size v10 w') (by kernel_rfl) (by kernel_rfl) ((Below.refl _ _).drew) ?_
              repeat (go_big_quiet_step ((first | (intro _; with_reducible rfl) | (intro hq; have e0 := HC.out _ hq; simp [e0, Result.andThen]; with_reducible rfl))))
              refine wpQuiet_nil ?_
              intro v11 hv11
              have HX11 := Lib.hid (below_next HX10.out hv11)
              clear HC hv11
              go_wp2_with fail
              go_roundw
              case rel => exact ⟨k + 1, by omega, by go_num, HX11⟩
              case measure => simp [intOf]; omega
          · have hki : ¬ ((k : Int) < 16) := by omega
            have HF := Lib.hid (HBv.out.ds.below)
            go_wp2_with fail
            go_ret
            exact ⟨rfl, HF.out⟩
      · have g1 : (j : Int) < (m0 : Int) := by omega
        have g2 : (j : Int) < (m1 : Int) := by omega
        have g3 : ¬ ((j : Int) < 40) := by omega
        clear hx
        go_wp2_with fail
        obtain ⟨v5, rfl⟩ : ∃ v5, v5 = wr := ⟨wr, rfl⟩
        go_loopw [13] (fun kk v => ∃ k : Nat, k ≤ 16 ∧ kk = .int .i64 (k : Int) ∧ Hid (Below v5.heap.size v5 v)) (fun kk _ => 16 - (intOf kk).toNat)
        case atStart => exact ⟨0, by omega, rfl, Lib.hid (Below.refl _ _)⟩
        case round =>
          obtain ⟨k, hk, rfl, HX⟩ := hrel
          have HBv := Lib.hid (HB.out.next HX.out)
          by_cases hk16 : k < 16
          · have hki : (k : Int) < 16 := by omega
            obtain ⟨x1, x2, x3⟩ := pxy hk16
            have hln := HB.out.bk.free.len
            have hxr := HB.out.bk.free.ready x1
            have hyr := HB.out.bk.free.ready x2
            have hR := fread_any (P2 5 3) (some ⟨bt, 0, none⟩) 2 3 k (px k : Int) (py k : Int) wr d lab st HBv.out.ds.disk HBv.out.rt (by rw [hln]; exact P2_ok (by omega) (by omega) (by omega) (by omega)) ⟨by omega, by omega⟩ (P2_fr 5 3 hk16) ⟨by rw [hln]; omega, by rw [hln]; omega⟩ hxr hyr
            have y0 := HBv.out.box.at_ 0 rfl
            have y1 := HBv.out.box.at_ 1 rfl
            have y2 := HBv.out.box.at_ 2 rfl
            rcases HB.out.bk.each k hk16 with ⟨A, c, p, e1, e2, e3, e4, e5, e6⟩ | ⟨e1, e2, e5, e6⟩
            · obtain ⟨i1, i2, i3⟩ := frame_isB 3 5 3 k 3 (p := p) (okS_iff.2 ⟨by omega, by omega, by omega⟩) (okK_iff.2 ⟨by omega, by omega⟩) e3.2.1 e4 (by omega)
              rw [e5, e6, show isB (frame 3 5 3 k p) (P2 5 3).i (P2 5 3).e (k : Int) 3 = true from i1] at hR
              have HR := Lib.hid (show Calls Try.prog 20 #[.pointer (some ⟨d, 0, none⟩), .agg #[.int .i64 5, .int .i64 3, .slice (some ⟨bt, 0, none⟩) 2 2], .int .i64 3, .int .i64 (k : Int)] wr (GivesRd wr (frame 3 5 3 k p) (frame 3 5 3 k p) true true) from hR)
              have HI := Lib.hid (And.intro i2 i3)
              have HE := Lib.hid (And.intro e1 (And.intro e2 (e3.below HBv.out.ds.below)))
              clear hR x1 x2 x3 hln hxr hyr i1 i2 i3 e1 e2 e3 e4 e5 e6
              go_wp2_with fail
              refine HR.out.mono ?_
              rintro e v10 ⟨hb, ⟨hx, _⟩ | ⟨_, Q, cq, l, hl, rfl, hq⟩⟩
              · cases hx
              rw [ite_self] at hl
              subst hl
              rw [HI.out.1] at hq ⊢
              rw [HI.out.2]
              have HX10 := Lib.hid (below_next HX.out hb)
              have HC := Lib.hid (show ∀ wx, Below v10.heap.size v10 wx → wx.cell? ⟨gb + 1 + 1, k, none⟩ = some (.bool true) ∧ wx.cell? ⟨gb + 1, k, none⟩ = some (.slice A p.length c) from fun wx hx => ⟨((HBv.out.ht.below hb).below hx).at_ k HE.out.2.1, ((HBv.out.hw.below hb).below hx).at_ k HE.out.1⟩)
              have HS1 := Lib.hid (fun wx (hx : Below v10.heap.size v10 wx) => run_str (cap := cq) (hq.below hx))
              have HS2 := Lib.hid (fun wx (hx : Below v10.heap.size v10 wx) => run_str (cap := c) ((HE.out.2.2.below hb).below hx))
              clear y0 y1 y2 HR hb hq HE HI
              go_upto_region 21 with fail
              refine region_class (fun w' => Below v10.heap.size v10 w') (by kernel_rfl) (by kernel_rfl) ((Below.refl _ _).drew) ?_
              repeat (go_big_quiet_step ((first | (intro _; with_reducible rfl) | (intro hq; obtain ⟨e0, e1⟩ := HC.out _ hq; simp [e0, e1, HS1.out _ hq, HS2.out _ hq, Result.andThen]; with_reducible rfl))))
              refine wpQuiet_nil ?_
              intro v11 hv11
              have HX11 := Lib.hid (below_next HX10.out hv11)
              clear HC HS1 HS2 hv11
              go_wp2_with fail
              go_roundw
              case rel => exact ⟨k + 1, by omega, by go_num, HX11⟩
              case measure => simp [intOf]; omega
            · have i0 := zeros_isB 5 3 (k : Int) 3
              rw [e5, e6, show isB Dk.zeros (P2 5 3).i (P2 5 3).e (k : Int) 3 = false from i0] at hR
              have HR := Lib.hid (show Calls Try.prog 20 #[.pointer (some ⟨d, 0, none⟩), .agg #[.int .i64 5, .int .i64 3, .slice (some ⟨bt, 0, none⟩) 2 2], .int .i64 3, .int .i64 (k : Int)] wr (GivesRd wr Dk.zeros Dk.zeros false false) from hR)
              have HE := Lib.hid e2
              clear hR x1 x2 x3 hln hxr hyr i0 e1 e2 e5 e6
              go_wp2_with fail
              refine HR.out.mono ?_
              rintro e v10 ⟨hb, ⟨_, rfl⟩ | ⟨hx, _⟩⟩
              rotate_left
              · cases hx
              have HX10 := Lib.hid (below_next HX.out hb)
              have HC := Lib.hid (show ∀ wx, Below v10.heap.size v10 wx → wx.cell? ⟨gb + 1 + 1, k, none⟩ = some (.bool false) from fun wx hx => ((HBv.out.ht.below hb).below hx).at_ k HE.out)
              clear y0 y1 y2 HR hb HE
              go_upto_region 21 with fail
              refine region_class (fun w' => Below v10.heap.size v10 w') (by kernel_rfl) (by kernel_rfl) ((Below.refl _ _).drew) ?_
              repeat (go_big_quiet_step ((first | (intro _; with_reducible rfl) | (intro hq; have e0 := HC.out _ hq; simp [e0, Result.andThen]; with_reducible rfl))))
              refine wpQuiet_nil ?_
              intro v11 hv11
              have HX11 := Lib.hid (below_next HX10.out hv11)
              clear HC hv11
              go_wp2_with fail
              go_roundw
              case rel => exact ⟨k + 1, by omega, by go_num, HX11⟩
              case measure => simp [intOf]; omega
          · have hki : ¬ ((k : Int) < 16) := by omega
            have HF := Lib.hid (HBv.out.ds.below)
            go_wp2_with fail
            go_ret
            exact ⟨rfl, HF.out⟩
set_option maxRecDepth 100000 in
theorem lifted (os : Os) (started : os.Started) (H : Type) (enc : TypeId × Value → H) :
    ReturnsInHanded {} Try.checked os 4 .any (Rows.fileBackSpec.pre6 enc Try.prog Try.f4 Rows.fileBackRow.domain false) (Rows.fileBackSpec.post enc Try.prog Try.f4 false true false false) := by
  refine returnsInHanded_of_change (C := Try.checked) own started (by kernel_rfl) Try.func4
    (ChangeSpec.witness6 (enc := enc) (C := Try.checked) false ⟨#[], #[.slice none 0 0, .slice none 0 0], []⟩ 8 (by kernel_rfl) (by kernel_rfl) (by kernel_rfl) (by kernel_rfl)) ?_
  intro W base args ds gs before hval0 hW hcnd _
  have hval : ∀ (j : Nat) t v, Try.f4.params[j]? = some t → args[j]? = some v → Value.okWide Try.prog W .any base t v := hval0
  have hW' := hW
  obtain ⟨p, q, hA0, hV, rfl, hfz, hnd⟩ := hW
  have hA : DataW.TrodAll enc Try.prog W 0 (fun _ => true) true Try.f4.params.toList args.toList ds p := hA0
  rw [Try.params4] at hA hval
  obtain ⟨v0, vs0, d0, ds0, p0, q0, hargs, rfl, rfl, h0, t0⟩ := trodAll_cons hA
  obtain ⟨v1, vs1, d1, ds1, p1, q1, rfl, rfl, rfl, h1, t1⟩ := trodAll_cons t0
  obtain ⟨rfl, rfl, rfl⟩ := trodAll_nil t1
  obtain rfl : args = #[v0, v1] := by cases args; simp_all
  obtain ⟨rfl, rfl⟩ := trodVars_none hV
  have k0 : Reads enc W 36 v0 d0 p0 := h0
  have lt0 : ∀ x ∈ p0, x.block < W.heap.size := by obtain ⟨m, hm⟩ := k0; exact DataW.trod_lt m _ _ _ hm
  obtain ⟨A0, m0, c0, l0, rfl, r0, wc0, w0⟩ := in_rows (hval 0 36 v0 rfl rfl) k0
  have k1 : Reads enc W 37 v1 d1 p1 := h1
  have lt1 : ∀ x ∈ p1, x.block < W.heap.size := by obtain ⟨m, hm⟩ := k1; exact DataW.trod_lt m _ _ _ hm
  obtain ⟨A1, m1, c1, l1, rfl, r1, wc1, w1⟩ := in_bytes (hval 1 37 v1 rfl rfl) k1
  clear hA0 hval0
  refine (walk A0 m0 c0 l0 A1 m1 c1 l1 W r0 wc0 w0 r1 wc1 w1).mono fun e W' ⟨he, bel⟩ => ?_
  subst he
  exact ⟨_, rfl, _, _, _, [], _, [], hW', trodAll_mk1 (shut_bool Try.underlying4 _), (trodAll_cons_mk (Below.trod laidOut (by kernel_rfl) (of_decide_eq_true (by kernel_rfl)) k0 bel lt0) (trodAll_cons_mk (Below.trod laidOut (by kernel_rfl) (of_decide_eq_true (by kernel_rfl)) k1 bel lt1) trodAll_mk0)), rfl, bel.frame _, fun h => by cases h⟩
theorem over : Rows.fileBackRow.holds Try.pinned (OpenSpec.ofChange Rows.fileBackSpec) :=
  OpenClaim.holds_of_wide 4 Try.f4 rfl rfl rfl rfl rfl rfl rfl ⟨rfl, rfl, rfl, rfl, rfl⟩ rfl rfl rfl rfl rfl (by kernel_rfl) Try.func4 (by kernel_rfl)
    (of_decide_eq_true (by kernel_rfl)) (by unfold Func.isWrapper; first | (rw [if_pos (by decide +kernel)]; kernel_rfl) | (rw [if_neg (by decide +kernel)]; exact ⟨rfl, rfl⟩))
    (fun os started H enc _ => lifted os started H enc)
theorem proved : Rows.FileBackSaid := over
end Go.Proofs.Ytakocojbpdpflaa.fileBack
