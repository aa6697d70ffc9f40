/- For every payload, frame, copy, place and mask: if one copy of a frame is spoilt what was written is read still, and both copies are whole and alike behind a mending, unless what is spoilt is the frame by chance (P7.7), and the example at the head holds; the arguments stay as they were. No condition. -/
import Derived.Test.YtakocojbpdpflaaFiCp
import Derived.Test.YtakocojbpdpflaaFrTwo
import Derived.Test.YtakocojbpdpflaaIns
import Derived.Test.YtakocojbpdpflaaSuA
import Derived.WalkKit
import Derived.ProofKit
import Derived.OpenShut
import Derived.ShutString
import Derived.ChangeOld
import Derived.Below
import Derived.Deep.RegionHeld
namespace Go.Proofs.Ytakocojbpdpflaa.fileCopy
open Go.ChangeShapes Go.WideShapes Go.ChangeAt Go.RowKit
set_option linter.unusedVariables false
theorem own : ownKnob Try.prog.godebug = none := by kernel_rfl
theorem laidOut : laidOutB Try.prog = true := by kernel_rfl
open Fr Fi
set_option maxRecDepth 100000 in
set_option maxHeartbeats 8000000 in
theorem walk (A0 : Option Addr) (m0 c0 : Nat) (l0 : List Nat) (n1 : Nat) (b2 : Bool) (n3 : Nat) (n4 : Nat) (w : World) (r0 : Rd w A0 m0 l0) (wc0 : m0 ≤ c0) (w0 : m0 ≤ 9223372036854775807) (w1 : n1 < 256) (w3 : n3 < 18446744073709551616) (w4 : n4 < 256) :
    Calls Try.prog 5 #[.slice A0 m0 c0, .int .u8 (n1 : Int), .bool b2, .int .u64 (n3 : Int), .int .u8 (n4 : Int)] w fun e w' => e = .returned (.bool true) ∧ Below w.heap.size w w' := by
  -- heartbeats 8000000
  obtain ⟨ma, hma⟩ : ∃ mm, mm = if 108 < m0 then 108 else m0 := ⟨_, rfl⟩
  have hia : (if (108 : Int) < (m0 : Int) then (108 : Int) else (m0 : Int)) = (ma : Int) := by rw [hma]; split <;> split <;> omega
  have hja : min (m0 : Int) 108 = (ma : Int) := by rw [hma]; split <;> omega
  have h1a : ma ≤ m0 := by rw [hma]; split <;> omega
  have h2a : ma ≤ 108 := by rw [hma]; split <;> omega
  have hca : (ma : Int) ≤ (c0 : Int) := by omega
  have hra := r0.take h1a
  obtain ⟨pa, hpa⟩ : ∃ p, p = l0.take ma := ⟨_, rfl⟩
  rw [← hpa] at hra
  have HRa := Lib.hid hra
  have HLa := Lib.hid (And.intro hra.1 h2a)
  obtain ⟨k, hk⟩ : ∃ k, k = n1 % 16 := ⟨_, rfl⟩
  have q1 : (n1 : Int) % 16 = (k : Int) := by omega
  have HK16 := Lib.hid (show k < 16 by omega)
  obtain ⟨np, hnp⟩ : ∃ k, k = n3 % 128 := ⟨_, rfl⟩
  have q3 : (n3 : Int) % 128 = (np : Int) := by omega
  have HNp := Lib.hid (show np < 128 by omega)
  have HM4 := Lib.hid w4
  clear hma hpa hra h1a h2a r0 wc0 w0 hk hnp
  go_enter Try.func5, Try.ntmps5
  go_wp2_with fail
  refine (awake_any _).mono ?_
  rintro e v0 ⟨rfl, hb0⟩
  by_cases hm : n4 = 0
  · have hm0 : (n4 : Int) = 0 := by omega
    rw [hm0]
    clear hm hm0
    go_wp2_with fail
    refine (awake_any _).mono ?_
    rintro e v1 ⟨rfl, hb1⟩
    have HF := Lib.hid (hb0.trans (hb1.mono hb0.size))
    clear hb0 hb1
    go_wp2_with fail
    go_ret
    exact ⟨rfl, HF.out⟩
  have hmb : ((n4 : Int) == 0) = false := by rw [beq_eq_false_iff_ne]; omega
  have HMn := Lib.hid hm
  clear hm
  go_wp2_with fail
  clear hmb
  refine (new_any 36 _).mono ?_
  rintro e v1 hN
  rcases hN with ⟨_, _, d, lab, rfl, hD, hb1, hnl⟩ | ⟨hx, _⟩
  rotate_left
  · exact absurd ⟨by omega, by omega⟩ hx
  have HD1 := Lib.hid (show Ds w v1 d lab (Dk.St.new 36) [] from ⟨hb0.trans (hb1.mono hb0.size), hD, fun k hk => Nat.le_trans hb0.size (hnl k hk), fun u hu => by cases hu⟩)
  clear hb0 hb1 hD hnl
  go_wp2_with fail
  refine (two_any 9 2 _).mono ?_
  rintro e v2 ⟨bt, rfl, hrt, hbt, hb2⟩
  have hlb : lab bt = .no := HD1.out.disk.new_ hbt
  have hbl : bt < v2.heap.size := by obtain ⟨b, o, e, hb, _⟩ := hrt.2 (by omega); injection e with e; injection e with e; omega
  have hd2 := HD1.out.next hb2
  have hd3 := hd2.add (.cells #[.int .i64 9, .int .i64 2, .slice (some ⟨bt, 0, none⟩) 2 2] 24)
  have HD3 := Lib.hid (show Ds w (v2.alloc (.cells #[.int .i64 9, .int .i64 2, .slice (some ⟨bt, 0, none⟩) 2 2] 24)) d lab (Dk.St.new 36) [v2.heap.size, bt] from ⟨hd3.below, hd3.disk, hd3.labs, fun u hu => by rcases List.mem_cons.1 hu with rfl | hu; exact hd3.un _ (by simp); simp at hu; subst hu; exact ⟨hlb, by simp; omega⟩⟩)
  have HT3 := Lib.hid (hrt.alloc (.cells #[.int .i64 9, .int .i64 2, .slice (some ⟨bt, 0, none⟩) 2 2] 24))
  have hk3 := Holds.new v2 #[.int .i64 9, .int .i64 2, .slice (some ⟨bt, 0, none⟩) 2 2] 24
  have HK3 := Lib.hid hk3
  have y0 := hk3.at_ 0 rfl
  have y1 := hk3.at_ 1 rfl
  have y2 := hk3.at_ 2 rfl
  clear hlb hbl hd2 hd3 hrt hbt hb2 HD1 hk3
  go_wp2_with fail
  generalize (v2.alloc (.cells #[.int .i64 9, .int .i64 2, .slice (some ⟨bt, 0, none⟩) 2 2] 24)) = v3 at *
  generalize v2.heap.size = gb at *
  have hfr := P2_fr 9 2 HK16.out
  obtain ⟨xy1, xy2, xy3⟩ := pxy HK16.out
  generalize px k = X at *
  generalize py k = Y at *
  have HFr := Lib.hid hfr
  obtain ⟨FB, hF⟩ : ∃ FB, FB = frame 4 9 4 k pa := ⟨_, rfl⟩
  have hFl : FB.length = 128 := by rw [hF]; exact frame_len (by rw [HLa.out.1]; exact HLa.out.2)
  have HFl := Lib.hid hFl
  have hoS : okS ((9 : Nat) : Int) ((4 : Nat) : Int) (k : Int) = true := okS_iff.2 ⟨by omega, by omega, by have := HK16.out; omega⟩
  obtain ⟨e1, e2, e3⟩ := frame_isB 4 9 4 k 2 (p := pa) hoS (okK_iff.2 ⟨by omega, by omega⟩) HRa.out.2.1 (by rw [HLa.out.1]; exact HLa.out.2) (by omega)
  obtain ⟨g1, _, _⟩ := frame_isB 4 9 4 k 4 (p := pa) hoS (okK_iff.2 ⟨by omega, by omega⟩) HRa.out.2.1 (by rw [HLa.out.1]; exact HLa.out.2) (by omega)
  rw [← hF] at e1 e2 e3 g1
  have HI := Lib.hid (And.intro e1 (And.intro e2 (And.intro e3 g1)))
  obtain ⟨at_, ot, hat⟩ : ∃ a o : Nat, a = (if b2 then Y else X) ∧ o = (if b2 then X else Y) := ⟨_, _, rfl, rfl⟩
  obtain ⟨s1, s2, s3, s4, hcp⟩ := cpd (a := at_) (o := ot) (p := np) xy1 xy2 xy3 (by rw [hat.1, hat.2]; cases b2 <;> simp) hFl HNp.out HMn.out
  obtain ⟨T, hT⟩ : ∃ T, T = Dk.turn FB np n4 := ⟨_, rfl⟩
  rw [← hT] at hcp
  have HCp := Lib.hid hcp
  have HXY := Lib.hid (And.intro xy1 (And.intro xy2 xy3))
  have HAt := Lib.hid (show at_ < 36 by rw [hat.1]; cases b2 <;> simp <;> omega)
  have hw := fwrite_any (P2 9 2) (some ⟨bt, 0, none⟩) 2 4 4 9 k rfl (X : Int) (Y : Int) v3 d lab _ 0 (low_new 36) (by omega) HD3.out.disk HT3.out (by show ok (P2 9 2) (Sp.plots ((Dk.St.new 36).s.length : Int)) = true; exact P2_ok (by omega) (by omega) (by omega) (by omega)) (by omega) ⟨by show (2 : Int) ≤ 4; omega, by omega⟩ (by have := HK16.out; omega) hfr ⟨by decide +kernel, by decide +kernel⟩ A0 c0 pa (by rw [HLa.out.1]; exact HRa.out.below HD3.out.below) (by rw [HLa.out.1]; exact HLa.out.2) hcp.rx.1 (by rw [← hF]; exact hcp.rx.2)
  rw [← hF, hcp.w, HLa.out.1] at hw
  have HW := Lib.hid (show Calls Try.prog 19 #[.pointer (some ⟨d, 0, none⟩), .agg #[.int .i64 9, .int .i64 2, .slice (some ⟨bt, 0, none⟩) 2 2], .int .i64 4, .int .i64 4, .int .i64 (k : Int), .slice A0 ma c0] v3 (fun e w' => e = .returned (.int .i64 0) ∧ Left lab d s1 v3 w') from hw)
  clear hfr xy1 xy2 xy3 hF hFl hoS e1 e2 e3 g1 hcp hT hw hia hja hca
  refine HW.out.mono ?_
  rintro e v4 ⟨rfl, hL⟩
  obtain ⟨lab4, h4, hc4⟩ := HD3.out.left hL
  have u1 := (HD3.out.un gb (by simp)).1
  have u0 := (HD3.out.un bt (by simp)).1
  have HD4 := Lib.hid h4
  have HT4 := Lib.hid (hc4.rdc HT3.out (fun b o e => by injection e with e; injection e with e; rw [← e]; exact u0))
  have HK4 := Lib.hid (hc4.holds HK3.out u1)
  clear hL h4 hc4 u0 u1 HD3 HT3 HK3
  clear HW y0 y1 y2
  go_wp2_with fail
  refine (flush_any 2 v4 d lab4 s1 HD4.out.disk HCp.out.low.1 (by omega)).mono ?_
  rintro e v5 ⟨rfl, hL⟩
  rw [HCp.out.f.1] at hL
  rw [HCp.out.f.2]
  obtain ⟨lab5, h5, hc5⟩ := HD4.out.left hL
  have u1 := (HD4.out.un gb (by simp)).1
  have u0 := (HD4.out.un bt (by simp)).1
  have HD5 := Lib.hid h5
  have HT5 := Lib.hid (hc5.rdc HT4.out (fun b o e => by injection e with e; injection e with e; rw [← e]; exact u0))
  have HK5 := Lib.hid (hc5.holds HK4.out u1)
  clear hL h5 hc5 u0 u1 HD4 HT4 HK4
  have y0 := HK5.out.at_ 0 rfl
  have y1 := HK5.out.at_ 1 rfl
  have y2 := HK5.out.at_ 2 rfl
  have hse := rsectors_any (P2 9 2) (k : Int) (some ⟨bt, 0, none⟩) 2 v5 (by show 2 ≤ 1000; omega) HT5.out
  rw [HFr.out] at hse
  have HSe := Lib.hid (show Calls Try.prog 11 #[.agg #[.int .i64 9, .int .i64 2, .slice (some ⟨bt, 0, none⟩) 2 2], .int .i64 (k : Int)] v5 (fun e w' => e = .returned (.tuple #[.int .i64 (X : Int), .int .i64 (Y : Int), .int .i64 0]) ∧ Below v5.heap.size v5 w') from hse)
  clear hse
  go_wp2_with fail
  refine HSe.out.mono ?_
  rintro e v6 ⟨rfl, hb⟩
  have HD6 := Lib.hid (HD5.out.next hb)
  have HT6 := Lib.hid (HT5.out.below hb)
  have HK6 := Lib.hid (HK5.out.below hb)
  clear hb HD5 HT5 HK5
  clear HSe y0 y1 y2
  have HRo := Lib.hid (rot_any (at_ : Int) (np : Int) n4 HM4.out v6 d lab5 s2 HD6.out.disk)
  rw [HCp.out.r.1, HCp.out.r.2] at HRo
  cases b2 with
  | false =>
    have ha : at_ = X := hat.1
    have ho : ot = Y := hat.2
    clear hat
    subst ha ho
    go_wp2_with fail
    refine HRo.out.mono ?_
    rintro e v7 ⟨rfl, hL⟩
    obtain ⟨lab7, h7, hc7⟩ := HD6.out.left hL
    have u1 := (HD6.out.un gb (by simp)).1
    have u0 := (HD6.out.un bt (by simp)).1
    have HD7 := Lib.hid h7
    have HT7 := Lib.hid (hc7.rdc HT6.out (fun b o e => by injection e with e; injection e with e; rw [← e]; exact u0))
    have HK7 := Lib.hid (hc7.holds HK6.out u1)
    clear hL h7 hc7 u0 u1 HD6 HT6 HK6
    clear HRo
    have hrd := HCp.out.fr.ready HAt.out
    go_wp2_with fail
    refine (read_any (at_ : Int) v7 d lab7 s3 HD7.out.disk).mono ?_
    rintro e v8 ⟨A9, n9, c9, he, hr9, hb, hn9, hbuf⟩
    obtain ⟨rfl, rfl, rfl, hbuf⟩ := hbuf hrd
    rw [hrd] at he
    rw [HCp.out.at_] at hr9
    subst he
    have HRs := Lib.hid hr9
    have HD8 := Lib.hid (HD7.out.next hb)
    have HT8 := Lib.hid (HT7.out.below hb)
    have HK8 := Lib.hid (HK7.out.below hb)
    clear hb HD7 HT7 HK7
    clear hrd hr9 hn9 hbuf
    generalize v7.heap.size = g7 at *
    have hI := (show ∀ b, isB T 9 2 (k : Int) 4 = b → Calls Try.prog 24 #[.slice (some ⟨g7, 0, none⟩) 128 128, .agg #[.int .i64 9, .int .i64 2, .int .i64 (k : Int)], .int .i64 4] v8 (fun x w' => x = .returned (.bool b) ∧ Below v8.heap.size v8 w') from fun b hb => by
      rw [← hb]
      cases hh : isF T with
      | true => exact ris_yes 9 2 (k : Int) 4 _ 128 128 T v8 HRs.out (by omega) (by omega) hh
      | false => have h9 : isB T 9 2 (k : Int) 4 = false := (by unfold isB; rw [hh]; rfl); rw [h9]; exact ris_no 9 2 (k : Int) 4 _ 128 128 T v8 HRs.out (by omega) (by omega) hh)
    cases hb : isB T 9 2 (k : Int) 4 with
    | true =>
      have HIs := Lib.hid (hI true hb)
      clear hI hb
      go_wp2_with fail
      refine HIs.out.mono ?_
      rintro e v9 ⟨rfl, hb⟩
      have HF := Lib.hid (HD8.out.below.trans (hb.mono HD8.out.below.size))
      clear hb
      go_wp2_with fail
      go_ret
      exact ⟨rfl, HF.out⟩
    | false =>
      have HIs := Lib.hid (hI false hb)
      have HBt := Lib.hid hb
      clear hI hb
      go_wp2_with fail
      refine HIs.out.mono ?_
      rintro e v9 ⟨rfl, hb⟩
      have HD9 := Lib.hid (HD8.out.next hb)
      have HT9 := Lib.hid (HT8.out.below hb)
      have HK9 := Lib.hid (HK8.out.below hb)
      clear hb HD8 HT8 HK8
      clear HIs HRs
      have y0 := HK9.out.at_ 0 rfl
      have y1 := HK9.out.at_ 1 rfl
      have y2 := HK9.out.at_ 2 rfl
      have hrX : s3.readB (at_ : Int) = T := HCp.out.at_
      have hrY : s3.readB (ot : Int) = FB := HCp.out.ot
      have hxr := HCp.out.fr.ready HXY.out.1
      have hyr := HCp.out.fr.ready HXY.out.2.1
      have hln := HCp.out.fr.len
      have hoP : ok (P2 9 2) (Sp.plots s3.s.length) = true := by rw [hln]; exact P2_ok (by omega) (by omega) (by omega) (by omega)
      have hT2 : isB T (P2 9 2).i (P2 9 2).e (k : Int) 4 = false := HBt.out
      have hF2 : isB FB (P2 9 2).i (P2 9 2).e (k : Int) 4 = true := HI.out.1
      have hR := fread_any (P2 9 2) (some ⟨bt, 0, none⟩) 2 4 k (at_ : Int) (ot : Int) v9 d lab7 s3 HD9.out.disk HT9.out hoP ⟨by omega, by omega⟩ HFr.out ⟨by rw [hln]; omega, by rw [hln]; omega⟩ hxr hyr
      rw [hrX, hrY, hT2, hF2] at hR
      have HR := Lib.hid (show Calls Try.prog 20 #[.pointer (some ⟨d, 0, none⟩), .agg #[.int .i64 9, .int .i64 2, .slice (some ⟨bt, 0, none⟩) 2 2], .int .i64 4, .int .i64 (k : Int)] v9 (GivesRd v9 T FB false true) from hR)
      have HWh := Lib.hid (show ∀ v, IsDisk v d lab7 s3 → RdC 2 v (some ⟨bt, 0, none⟩) 2 (pv [(3, 1), (0, 2)]) → Calls Try.prog 25 #[.pointer (some ⟨d, 0, none⟩), .agg #[.int .i64 9, .int .i64 2, .slice (some ⟨bt, 0, none⟩) 2 2], .int .i64 4, .int .i64 (k : Int)] v (fun e w' => e = .returned (.tuple #[.bool false, .bool true, .int .i64 0]) ∧ Below v.heap.size v w') from fun v hd hc => by have h := fwhole_any (P2 9 2) (some ⟨bt, 0, none⟩) 2 4 k (at_ : Int) (ot : Int) v d lab7 s3 hd hc hoP ⟨by omega, by omega⟩ HFr.out ⟨by rw [hln]; omega, by rw [hln]; omega⟩ hxr hyr; rw [hrX, hrY, hT2, hF2] at h; exact h)
      have HMe := Lib.hid (show ∀ v, IsDisk v d lab7 s3 → RdC 2 v (some ⟨bt, 0, none⟩) 2 (pv [(3, 1), (0, 2)]) → Calls Try.prog 26 #[.pointer (some ⟨d, 0, none⟩), .agg #[.int .i64 9, .int .i64 2, .slice (some ⟨bt, 0, none⟩) 2 2], .int .i64 4, .int .i64 (k : Int)] v (fun e w' => e = .returned (.tuple #[.int .i64 1, .int .i64 0]) ∧ Left lab7 d s4 v w') from fun v hd hc => by have h := fmend_a (P2 9 2) (some ⟨bt, 0, none⟩) 2 4 k (at_ : Int) (ot : Int) v d lab7 s3 4 HCp.out.low.2.2 (by omega) hd hc hoP ⟨by omega, by omega⟩ HFr.out ⟨by rw [hln]; omega, by rw [hln]; omega⟩ hxr hyr (by rw [hrX, hrY]; exact HCp.out.ne) (by rw [hrX]; exact hT2) (by rw [hrY]; exact hF2) (by rw [hrY]; exact HFl.out); rw [hrY, HCp.out.m] at h; exact h)
      clear hR hrX hrY hxr hyr hln hoP hT2 hF2
      go_wp2_with fail
      refine HR.out.mono ?_
      rintro e v10 ⟨hb, ⟨hx, _⟩ | ⟨_, Q, cq, l, hl, rfl, hq⟩⟩
      · cases hx
      rw [if_pos (by rfl)] at hl
      replace hl := hl.symm
      subst hl
      rw [HI.out.2.1] at hq ⊢
      rw [HI.out.2.2.1]
      have HQ := Lib.hid hq
      clear y0 y1 y2 HR hq
      have HD10 := Lib.hid (HD9.out.next hb)
      have HT10 := Lib.hid (HT9.out.below hb)
      have HK10 := Lib.hid (HK9.out.below hb)
      clear hb HD9 HT9 HK9
      have y0 := HK10.out.at_ 0 rfl
      have y1 := HK10.out.at_ 1 rfl
      have y2 := HK10.out.at_ 2 rfl
      go_wp2_with fail
      refine (HWh.out _ HD10.out.disk HT10.out).mono ?_
      rintro e v11 ⟨rfl, hb⟩
      have hs1 := run_str (cap := cq) (HQ.out.below hb)
      clear y0 y1 y2 HWh HQ
      have HD11 := Lib.hid (HD10.out.next hb)
      have HT11 := Lib.hid (HT10.out.below hb)
      have HK11 := Lib.hid (HK10.out.below hb)
      clear hb HD10 HT10 HK10
      have hs2 := run_str (cap := c0) (HRa.out.below HD11.out.below)
      rw [HLa.out.1] at hs1 ⊢
      have y0 := HK11.out.at_ 0 rfl
      have y1 := HK11.out.at_ 1 rfl
      have y2 := HK11.out.at_ 2 rfl
      go_wp2_with fail
      clear hs1 hs2
      refine (HMe.out _ HD11.out.disk HT11.out).mono ?_
      rintro e v12 ⟨rfl, hL⟩
      clear y0 y1 y2 HMe
      obtain ⟨lab12, h12, hc12⟩ := HD11.out.left hL
      have u1 := (HD11.out.un gb (by simp)).1
      have u0 := (HD11.out.un bt (by simp)).1
      have HD12 := Lib.hid h12
      have HT12 := Lib.hid (hc12.rdc HT11.out (fun b o e => by injection e with e; injection e with e; rw [← e]; exact u0))
      have HK12 := Lib.hid (hc12.holds HK11.out u1)
      clear hL h12 hc12 u0 u1 HD11 HT11 HK11
      have hxr := HCp.out.fr4.ready HXY.out.1
      have hyr := HCp.out.fr4.ready HXY.out.2.1
      have hrX : s4.readB (at_ : Int) = FB := HCp.out.all.1
      have hrY : s4.readB (ot : Int) = FB := HCp.out.all.2
      go_wp2_with fail
      refine (read_any (at_ : Int) v12 d lab12 s4 HD12.out.disk).mono ?_
      rintro e v13 ⟨A9, n9, c9, he, hr9, hb, hn9, hbuf⟩
      obtain ⟨rfl, rfl, rfl, hbuf⟩ := hbuf hxr
      rw [hxr] at he
      rw [hrX] at hr9
      subst he
      have HRx := Lib.hid hr9
      clear hxr hrX hr9 hn9 hbuf
      have HD13 := Lib.hid (HD12.out.next hb)
      have HT13 := Lib.hid (HT12.out.below hb)
      have HK13 := Lib.hid (HK12.out.below hb)
      clear hb HD12 HT12 HK12
      generalize v12.heap.size = g12 at *
      go_wp2_with fail
      refine (read_any (ot : Int) v13 d lab12 s4 HD13.out.disk).mono ?_
      rintro e v14 ⟨A9, n9, c9, he, hr9, hb, hn9, hbuf⟩
      obtain ⟨rfl, rfl, rfl, hbuf⟩ := hbuf hyr
      rw [hyr] at he
      rw [hrY] at hr9
      subst he
      have hs1 := run_str (cap := 128) hr9
      have hrx := HRx.out.below hb
      have hs2 := run_str (cap := 128) hrx
      have HRz := Lib.hid hrx
      clear hyr hrY hr9 hn9 hbuf hrx
      have HD14 := Lib.hid (HD13.out.next hb)
      have HT14 := Lib.hid (HT13.out.below hb)
      have HK14 := Lib.hid (HK13.out.below hb)
      clear hb HD13 HT13 HK13
      have hF4 : isB FB 9 4 (k : Int) 4 = true := HI.out.2.2.2
      have hFF : isF FB = true := by unfold isB at hF4; cases hh : isF FB with | true => rfl | false => rw [hh] at hF4; cases hF4
      have hIs := ris_yes 9 4 (k : Int) 4 _ 128 128 FB v14 HRz.out (by omega) (by omega) hFF
      rw [hF4] at hIs
      have HIs := Lib.hid hIs
      clear hF4 hFF hIs
      generalize v13.heap.size = g13 at *
      go_wp2_with fail
      refine HIs.out.mono ?_
      rintro e v15 ⟨rfl, hb⟩
      have HF := Lib.hid (HD14.out.below.trans (hb.mono HD14.out.below.size))
      clear hb hs1 hs2
      go_wp2_with fail
      go_ret
      exact ⟨rfl, HF.out⟩
  | true =>
    have ha : at_ = Y := hat.1
    have ho : ot = X := hat.2
    clear hat
    subst ha ho
    go_wp2_with fail
    refine HRo.out.mono ?_
    rintro e v7 ⟨rfl, hL⟩
    obtain ⟨lab7, h7, hc7⟩ := HD6.out.left hL
    have u1 := (HD6.out.un gb (by simp)).1
    have u0 := (HD6.out.un bt (by simp)).1
    have HD7 := Lib.hid h7
    have HT7 := Lib.hid (hc7.rdc HT6.out (fun b o e => by injection e with e; injection e with e; rw [← e]; exact u0))
    have HK7 := Lib.hid (hc7.holds HK6.out u1)
    clear hL h7 hc7 u0 u1 HD6 HT6 HK6
    clear HRo
    have hrd := HCp.out.fr.ready HAt.out
    go_wp2_with fail
    refine (read_any (at_ : Int) v7 d lab7 s3 HD7.out.disk).mono ?_
    rintro e v8 ⟨A9, n9, c9, he, hr9, hb, hn9, hbuf⟩
    obtain ⟨rfl, rfl, rfl, hbuf⟩ := hbuf hrd
    rw [hrd] at he
    rw [HCp.out.at_] at hr9
    subst he
    have HRs := Lib.hid hr9
    have HD8 := Lib.hid (HD7.out.next hb)
    have HT8 := Lib.hid (HT7.out.below hb)
    have HK8 := Lib.hid (HK7.out.below hb)
    clear hb HD7 HT7 HK7
    clear hrd hr9 hn9 hbuf
    generalize v7.heap.size = g7 at *
    have hI := (show ∀ b, isB T 9 2 (k : Int) 4 = b → Calls Try.prog 24 #[.slice (some ⟨g7, 0, none⟩) 128 128, .agg #[.int .i64 9, .int .i64 2, .int .i64 (k : Int)], .int .i64 4] v8 (fun x w' => x = .returned (.bool b) ∧ Below v8.heap.size v8 w') from fun b hb => by
      rw [← hb]
      cases hh : isF T with
      | true => exact ris_yes 9 2 (k : Int) 4 _ 128 128 T v8 HRs.out (by omega) (by omega) hh
      | false => have h9 : isB T 9 2 (k : Int) 4 = false := (by unfold isB; rw [hh]; rfl); rw [h9]; exact ris_no 9 2 (k : Int) 4 _ 128 128 T v8 HRs.out (by omega) (by omega) hh)
    cases hb : isB T 9 2 (k : Int) 4 with
    | true =>
      have HIs := Lib.hid (hI true hb)
      clear hI hb
      go_wp2_with fail
      refine HIs.out.mono ?_
      rintro e v9 ⟨rfl, hb⟩
      have HF := Lib.hid (HD8.out.below.trans (hb.mono HD8.out.below.size))
      clear hb
      go_wp2_with fail
      go_ret
      exact ⟨rfl, HF.out⟩
    | false =>
      have HIs := Lib.hid (hI false hb)
      have HBt := Lib.hid hb
      clear hI hb
      go_wp2_with fail
      refine HIs.out.mono ?_
      rintro e v9 ⟨rfl, hb⟩
      have HD9 := Lib.hid (HD8.out.next hb)
      have HT9 := Lib.hid (HT8.out.below hb)
      have HK9 := Lib.hid (HK8.out.below hb)
      clear hb HD8 HT8 HK8
      clear HIs HRs
      have y0 := HK9.out.at_ 0 rfl
      have y1 := HK9.out.at_ 1 rfl
      have y2 := HK9.out.at_ 2 rfl
      have hrX : s3.readB (ot : Int) = FB := HCp.out.ot
      have hrY : s3.readB (at_ : Int) = T := HCp.out.at_
      have hxr := HCp.out.fr.ready HXY.out.1
      have hyr := HCp.out.fr.ready HXY.out.2.1
      have hln := HCp.out.fr.len
      have hoP : ok (P2 9 2) (Sp.plots s3.s.length) = true := by rw [hln]; exact P2_ok (by omega) (by omega) (by omega) (by omega)
      have hT2 : isB T (P2 9 2).i (P2 9 2).e (k : Int) 4 = false := HBt.out
      have hF2 : isB FB (P2 9 2).i (P2 9 2).e (k : Int) 4 = true := HI.out.1
      have hR := fread_any (P2 9 2) (some ⟨bt, 0, none⟩) 2 4 k (ot : Int) (at_ : Int) v9 d lab7 s3 HD9.out.disk HT9.out hoP ⟨by omega, by omega⟩ HFr.out ⟨by rw [hln]; omega, by rw [hln]; omega⟩ hxr hyr
      rw [hrX, hrY, hT2, hF2] at hR
      have HR := Lib.hid (show Calls Try.prog 20 #[.pointer (some ⟨d, 0, none⟩), .agg #[.int .i64 9, .int .i64 2, .slice (some ⟨bt, 0, none⟩) 2 2], .int .i64 4, .int .i64 (k : Int)] v9 (GivesRd v9 FB T true false) from hR)
      have HWh := Lib.hid (show ∀ v, IsDisk v d lab7 s3 → RdC 2 v (some ⟨bt, 0, none⟩) 2 (pv [(3, 1), (0, 2)]) → Calls Try.prog 25 #[.pointer (some ⟨d, 0, none⟩), .agg #[.int .i64 9, .int .i64 2, .slice (some ⟨bt, 0, none⟩) 2 2], .int .i64 4, .int .i64 (k : Int)] v (fun e w' => e = .returned (.tuple #[.bool true, .bool false, .int .i64 0]) ∧ Below v.heap.size v w') from fun v hd hc => by have h := fwhole_any (P2 9 2) (some ⟨bt, 0, none⟩) 2 4 k (ot : Int) (at_ : Int) v d lab7 s3 hd hc hoP ⟨by omega, by omega⟩ HFr.out ⟨by rw [hln]; omega, by rw [hln]; omega⟩ hxr hyr; rw [hrX, hrY, hT2, hF2] at h; exact h)
      have HMe := Lib.hid (show ∀ v, IsDisk v d lab7 s3 → RdC 2 v (some ⟨bt, 0, none⟩) 2 (pv [(3, 1), (0, 2)]) → Calls Try.prog 26 #[.pointer (some ⟨d, 0, none⟩), .agg #[.int .i64 9, .int .i64 2, .slice (some ⟨bt, 0, none⟩) 2 2], .int .i64 4, .int .i64 (k : Int)] v (fun e w' => e = .returned (.tuple #[.int .i64 1, .int .i64 0]) ∧ Left lab7 d s4 v w') from fun v hd hc => by have h := fmend_b (P2 9 2) (some ⟨bt, 0, none⟩) 2 4 k (ot : Int) (at_ : Int) v d lab7 s3 4 HCp.out.low.2.2 (by omega) hd hc hoP ⟨by omega, by omega⟩ HFr.out ⟨by rw [hln]; omega, by rw [hln]; omega⟩ hxr hyr (by rw [hrX, hrY]; exact fun e => HCp.out.ne e.symm) (by rw [hrX]; exact hF2) (by rw [hrY]; exact hT2) (by rw [hrX]; exact HFl.out); rw [hrX, HCp.out.m] at h; exact h)
      clear hR hrX hrY hxr hyr hln hoP hT2 hF2
      go_wp2_with fail
      refine HR.out.mono ?_
      rintro e v10 ⟨hb, ⟨hx, _⟩ | ⟨_, Q, cq, l, hl, rfl, hq⟩⟩
      · cases hx
      rw [if_neg (by simp [sec])] at hl
      replace hl := hl.symm
      subst hl
      rw [HI.out.2.1] at hq ⊢
      rw [HI.out.2.2.1]
      have HQ := Lib.hid hq
      clear y0 y1 y2 HR hq
      have HD10 := Lib.hid (HD9.out.next hb)
      have HT10 := Lib.hid (HT9.out.below hb)
      have HK10 := Lib.hid (HK9.out.below hb)
      clear hb HD9 HT9 HK9
      have y0 := HK10.out.at_ 0 rfl
      have y1 := HK10.out.at_ 1 rfl
      have y2 := HK10.out.at_ 2 rfl
      go_wp2_with fail
      refine (HWh.out _ HD10.out.disk HT10.out).mono ?_
      rintro e v11 ⟨rfl, hb⟩
      have hs1 := run_str (cap := cq) (HQ.out.below hb)
      clear y0 y1 y2 HWh HQ
      have HD11 := Lib.hid (HD10.out.next hb)
      have HT11 := Lib.hid (HT10.out.below hb)
      have HK11 := Lib.hid (HK10.out.below hb)
      clear hb HD10 HT10 HK10
      have hs2 := run_str (cap := c0) (HRa.out.below HD11.out.below)
      rw [HLa.out.1] at hs1 ⊢
      have y0 := HK11.out.at_ 0 rfl
      have y1 := HK11.out.at_ 1 rfl
      have y2 := HK11.out.at_ 2 rfl
      go_wp2_with fail
      clear hs1 hs2
      refine (HMe.out _ HD11.out.disk HT11.out).mono ?_
      rintro e v12 ⟨rfl, hL⟩
      clear y0 y1 y2 HMe
      obtain ⟨lab12, h12, hc12⟩ := HD11.out.left hL
      have u1 := (HD11.out.un gb (by simp)).1
      have u0 := (HD11.out.un bt (by simp)).1
      have HD12 := Lib.hid h12
      have HT12 := Lib.hid (hc12.rdc HT11.out (fun b o e => by injection e with e; injection e with e; rw [← e]; exact u0))
      have HK12 := Lib.hid (hc12.holds HK11.out u1)
      clear hL h12 hc12 u0 u1 HD11 HT11 HK11
      have hxr := HCp.out.fr4.ready HXY.out.1
      have hyr := HCp.out.fr4.ready HXY.out.2.1
      have hrX : s4.readB (ot : Int) = FB := HCp.out.all.2
      have hrY : s4.readB (at_ : Int) = FB := HCp.out.all.1
      go_wp2_with fail
      refine (read_any (ot : Int) v12 d lab12 s4 HD12.out.disk).mono ?_
      rintro e v13 ⟨A9, n9, c9, he, hr9, hb, hn9, hbuf⟩
      obtain ⟨rfl, rfl, rfl, hbuf⟩ := hbuf hxr
      rw [hxr] at he
      rw [hrX] at hr9
      subst he
      have HRx := Lib.hid hr9
      clear hxr hrX hr9 hn9 hbuf
      have HD13 := Lib.hid (HD12.out.next hb)
      have HT13 := Lib.hid (HT12.out.below hb)
      have HK13 := Lib.hid (HK12.out.below hb)
      clear hb HD12 HT12 HK12
      generalize v12.heap.size = g12 at *
      go_wp2_with fail
      refine (read_any (at_ : Int) v13 d lab12 s4 HD13.out.disk).mono ?_
      rintro e v14 ⟨A9, n9, c9, he, hr9, hb, hn9, hbuf⟩
      obtain ⟨rfl, rfl, rfl, hbuf⟩ := hbuf hyr
      rw [hyr] at he
      rw [hrY] at hr9
      subst he
      have hs1 := run_str (cap := 128) hr9
      have hrx := HRx.out.below hb
      have hs2 := run_str (cap := 128) hrx
      have HRz := Lib.hid hrx
      clear hyr hrY hr9 hn9 hbuf hrx
      have HD14 := Lib.hid (HD13.out.next hb)
      have HT14 := Lib.hid (HT13.out.below hb)
      have HK14 := Lib.hid (HK13.out.below hb)
      clear hb HD13 HT13 HK13
      have hF4 : isB FB 9 4 (k : Int) 4 = true := HI.out.2.2.2
      have hFF : isF FB = true := by unfold isB at hF4; cases hh : isF FB with | true => rfl | false => rw [hh] at hF4; cases hF4
      have hIs := ris_yes 9 4 (k : Int) 4 _ 128 128 FB v14 HRz.out (by omega) (by omega) hFF
      rw [hF4] at hIs
      have HIs := Lib.hid hIs
      clear hF4 hFF hIs
      generalize v13.heap.size = g13 at *
      go_wp2_with fail
      refine HIs.out.mono ?_
      rintro e v15 ⟨rfl, hb⟩
      have HF := Lib.hid (HD14.out.below.trans (hb.mono HD14.out.below.size))
      clear hb hs1 hs2
      go_wp2_with fail
      go_ret
      exact ⟨rfl, HF.out⟩
set_option maxRecDepth 100000 in
theorem lifted (os : Os) (started : os.Started) (H : Type) (enc : TypeId × Value → H) :
    ReturnsInHanded {} Try.checked os 5 .any (Rows.fileCopySpec.pre6 enc Try.prog Try.f5 Rows.fileCopyRow.domain false) (Rows.fileCopySpec.post enc Try.prog Try.f5 false true false false) := by
  refine returnsInHanded_of_change (C := Try.checked) own started (by kernel_rfl) Try.func5
    (ChangeSpec.witness6 (enc := enc) (C := Try.checked) false ⟨#[], #[.slice none 0 0, .int .u8 0, .bool false, .int .u64 0, .int .u8 0], []⟩ 8 (by kernel_rfl) (by kernel_rfl) (by kernel_rfl) (by kernel_rfl)) ?_
  intro W base args ds gs before hval0 hW hcnd _
  have hval : ∀ (j : Nat) t v, Try.f5.params[j]? = some t → args[j]? = some v → Value.okWide Try.prog W .any base t v := hval0
  have hW' := hW
  obtain ⟨p, q, hA0, hV, rfl, hfz, hnd⟩ := hW
  have hA : DataW.TrodAll enc Try.prog W 0 (fun _ => true) true Try.f5.params.toList args.toList ds p := hA0
  rw [Try.params5] at hA hval
  obtain ⟨v0, vs0, d0, ds0, p0, q0, hargs, rfl, rfl, h0, t0⟩ := trodAll_cons hA
  obtain ⟨v1, vs1, d1, ds1, p1, q1, rfl, rfl, rfl, h1, t1⟩ := trodAll_cons t0
  obtain ⟨v2, vs2, d2, ds2, p2, q2, rfl, rfl, rfl, h2, t2⟩ := trodAll_cons t1
  obtain ⟨v3, vs3, d3, ds3, p3, q3, rfl, rfl, rfl, h3, t3⟩ := trodAll_cons t2
  obtain ⟨v4, vs4, d4, ds4, p4, q4, rfl, rfl, rfl, h4, t4⟩ := trodAll_cons t3
  obtain ⟨rfl, rfl, rfl⟩ := trodAll_nil t4
  obtain rfl : args = #[v0, v1, v2, v3, v4] := by cases args; simp_all
  obtain ⟨rfl, rfl⟩ := trodVars_none hV
  have k0 : Reads enc W 37 v0 d0 p0 := h0
  have lt0 : ∀ x ∈ p0, x.block < W.heap.size := by obtain ⟨m, hm⟩ := k0; exact DataW.trod_lt m _ _ _ hm
  obtain ⟨A0, m0, c0, l0, rfl, r0, wc0, w0⟩ := in_bytes (hval 0 37 v0 rfl rfl) k0
  have k1 : Reads enc W 5 v1 d1 p1 := h1
  have lt1 : ∀ x ∈ p1, x.block < W.heap.size := by obtain ⟨m, hm⟩ := k1; exact DataW.trod_lt m _ _ _ hm
  obtain ⟨n1, rfl, w1⟩ := in_u8 (hval 1 5 v1 rfl rfl) k1
  have k2 : Reads enc W 4 v2 d2 p2 := h2
  have lt2 : ∀ x ∈ p2, x.block < W.heap.size := by obtain ⟨m, hm⟩ := k2; exact DataW.trod_lt m _ _ _ hm
  obtain ⟨b2, rfl⟩ := in_bool (hval 2 4 v2 rfl rfl) k2
  have k3 : Reads enc W 49 v3 d3 p3 := h3
  have lt3 : ∀ x ∈ p3, x.block < W.heap.size := by obtain ⟨m, hm⟩ := k3; exact DataW.trod_lt m _ _ _ hm
  obtain ⟨n3, rfl, w3⟩ := in_uint (hval 3 49 v3 rfl rfl) k3
  have k4 : Reads enc W 5 v4 d4 p4 := h4
  have lt4 : ∀ x ∈ p4, x.block < W.heap.size := by obtain ⟨m, hm⟩ := k4; exact DataW.trod_lt m _ _ _ hm
  obtain ⟨n4, rfl, w4⟩ := in_u8 (hval 4 5 v4 rfl rfl) k4
  clear hA0 hval0
  refine (walk A0 m0 c0 l0 n1 b2 n3 n4 W r0 wc0 w0 w1 w3 w4).mono fun e W' ⟨he, bel⟩ => ?_
  subst he
  exact ⟨_, rfl, _, _, _, [], _, [], hW', trodAll_mk1 (shut_bool Try.underlying4 _), (trodAll_cons_mk (Below.trod laidOut (by kernel_rfl) (of_decide_eq_true (by kernel_rfl)) k0 bel lt0) (trodAll_cons_mk (Below.trod laidOut (by kernel_rfl) (of_decide_eq_true (by kernel_rfl)) k1 bel lt1) (trodAll_cons_mk (Below.trod laidOut (by kernel_rfl) (of_decide_eq_true (by kernel_rfl)) k2 bel lt2) (trodAll_cons_mk (Below.trod laidOut (by kernel_rfl) (of_decide_eq_true (by kernel_rfl)) k3 bel lt3) (trodAll_cons_mk (Below.trod laidOut (by kernel_rfl) (of_decide_eq_true (by kernel_rfl)) k4 bel lt4) trodAll_mk0))))), rfl, bel.frame _, fun h => by cases h⟩
theorem over : Rows.fileCopyRow.holds Try.pinned (OpenSpec.ofChange Rows.fileCopySpec) :=
  OpenClaim.holds_of_wide 5 Try.f5 rfl rfl rfl rfl rfl rfl rfl ⟨rfl, rfl, rfl, rfl, rfl⟩ rfl rfl rfl rfl rfl (by kernel_rfl) Try.func5 (by kernel_rfl)
    (of_decide_eq_true (by kernel_rfl)) (by unfold Func.isWrapper; first | (rw [if_pos (by decide +kernel)]; kernel_rfl) | (rw [if_neg (by decide +kernel)]; exact ⟨rfl, rfl⟩))
    (fun os started H enc _ => lifted os started H enc)
theorem proved : Rows.FileCopySaid := over
end Go.Proofs.Ytakocojbpdpflaa.fileCopy
