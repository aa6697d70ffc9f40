/- For every two byte slices and two numbers: of two whole copies Read gives the one of the later epoch, and that of A if they are of one (P7.8), and the example at the head holds; the arguments stay as they were. No condition. -/
import Derived.Test.YtakocojbpdpflaaFiTwo
import Derived.Test.YtakocojbpdpflaaIns
import Derived.Test.YtakocojbpdpflaaSuA
import Derived.WalkKit
import Derived.ProofKit
import Derived.OpenShut
import Derived.ShutString
import Derived.ChangeOld
import Derived.Below
import Derived.Deep.RegionHeld
namespace Go.Proofs.Ytakocojbpdpflaa.fileLater
open Go.ChangeShapes Go.WideShapes Go.ChangeAt Go.RowKit
set_option linter.unusedVariables false
theorem own : ownKnob Try.prog.godebug = none := by kernel_rfl
theorem laidOut : laidOutB Try.prog = true := by kernel_rfl
open Fr Fi
set_option maxRecDepth 100000 in
set_option maxHeartbeats 8000000 in
theorem walk (A0 : Option Addr) (m0 c0 : Nat) (l0 : List Nat) (A1 : Option Addr) (m1 c1 : Nat) (l1 : List Nat) (n2 : Nat) (n3 : Nat) (w : World) (r0 : Rd w A0 m0 l0) (wc0 : m0 ≤ c0) (w0 : m0 ≤ 9223372036854775807) (r1 : Rd w A1 m1 l1) (wc1 : m1 ≤ c1) (w1 : m1 ≤ 9223372036854775807) (w2 : n2 < 256) (w3 : n3 < 256) :
    Calls Try.prog 6 #[.slice A0 m0 c0, .slice A1 m1 c1, .int .u8 (n2 : Int), .int .u8 (n3 : Int)] w fun e w' => e = .returned (.bool true) ∧ Below w.heap.size w w' := by
  -- heartbeats 8000000
  obtain ⟨ma, hma⟩ : ∃ mm, mm = if 108 < m0 then 108 else m0 := ⟨_, rfl⟩
  have hia : (if (108 : Int) < (m0 : Int) then (108 : Int) else (m0 : Int)) = (ma : Int) := by rw [hma]; split <;> split <;> omega
  have hja : min (m0 : Int) 108 = (ma : Int) := by rw [hma]; split <;> omega
  have h1a : ma ≤ m0 := by rw [hma]; split <;> omega
  have h2a : ma ≤ 108 := by rw [hma]; split <;> omega
  have hca : (ma : Int) ≤ (c0 : Int) := by omega
  have hra := r0.take h1a
  obtain ⟨pa, hpa⟩ : ∃ p, p = l0.take ma := ⟨_, rfl⟩
  rw [← hpa] at hra
  have hla : pa.length = ma := hra.1
  have HRa := Lib.hid hra
  have HLa := Lib.hid (And.intro hla h2a)
  clear hma hpa hra hla h1a r0
  obtain ⟨mb, hmb⟩ : ∃ mm, mm = if 108 < m1 then 108 else m1 := ⟨_, rfl⟩
  have hib : (if (108 : Int) < (m1 : Int) then (108 : Int) else (m1 : Int)) = (mb : Int) := by rw [hmb]; split <;> split <;> omega
  have hjb : min (m1 : Int) 108 = (mb : Int) := by rw [hmb]; split <;> omega
  have h1b : mb ≤ m1 := by rw [hmb]; split <;> omega
  have h2b : mb ≤ 108 := by rw [hmb]; split <;> omega
  have hcb : (mb : Int) ≤ (c1 : Int) := by omega
  have hrb := r1.take h1b
  obtain ⟨pb, hpb⟩ : ∃ p, p = l1.take mb := ⟨_, rfl⟩
  rw [← hpb] at hrb
  have hlb : pb.length = mb := hrb.1
  have HRb := Lib.hid hrb
  have HLb := Lib.hid (And.intro hlb h2b)
  clear hmb hpb hrb hlb h1b r1
  clear wc0 wc1 w0 w1
  go_enter Try.func6, Try.ntmps6
  go_wp2_with fail
  refine (awake_any _).mono ?_
  rintro e v0 ⟨rfl, hb0⟩
  go_wp2_with fail
  refine (new_any 36 _).mono ?_
  rintro e v1 hN
  rcases hN with ⟨_, _, d, lab, rfl, hD, hb1, hnl⟩ | ⟨hx, _⟩
  rotate_left
  · exact absurd ⟨by omega, by omega⟩ hx
  have HD1 := Lib.hid (show Ds w v1 d lab (Dk.St.new 36) [] from ⟨hb0.trans (hb1.mono hb0.size), hD, fun k hk => Nat.le_trans hb0.size (hnl k hk), fun u hu => by cases hu⟩)
  clear hb0 hb1 hD hnl
  go_wp2_with fail
  refine (two_any 4 1 _).mono ?_
  rintro e v2 ⟨bt, rfl, hrt, hbt, hb2⟩
  have hlb : lab bt = .no := HD1.out.disk.new_ hbt
  have hbl : bt < v2.heap.size := by obtain ⟨b, o, e, hb, _⟩ := hrt.2 (by omega); injection e with e; injection e with e; omega
  have hd2 := HD1.out.next hb2
  have hd3 := hd2.add (.cells #[.int .i64 4, .int .i64 1, .slice (some ⟨bt, 0, none⟩) 2 2] 24)
  have HD3 := Lib.hid (show Ds w (v2.alloc (.cells #[.int .i64 4, .int .i64 1, .slice (some ⟨bt, 0, none⟩) 2 2] 24)) d lab (Dk.St.new 36) [v2.heap.size, bt] from ⟨hd3.below, hd3.disk, hd3.labs, fun u hu => by rcases List.mem_cons.1 hu with rfl | hu; exact hd3.un _ (by simp); simp at hu; subst hu; exact ⟨hlb, by simp; omega⟩⟩)
  have HT3 := Lib.hid (hrt.alloc (.cells #[.int .i64 4, .int .i64 1, .slice (some ⟨bt, 0, none⟩) 2 2] 24))
  have HK3 := Lib.hid (Holds.new v2 #[.int .i64 4, .int .i64 1, .slice (some ⟨bt, 0, none⟩) 2 2] 24)
  clear hlb hbl hd2 hd3 hrt hbt hb2 HD1
  go_upto_region 5 with fail
  generalize (v2.alloc (.cells #[.int .i64 4, .int .i64 1, .slice (some ⟨bt, 0, none⟩) 2 2] 24)) = v3 at *
  generalize v2.heap.size = gb at *
  go_region
  replace HD3 := Lib.hid (HD3.out.next (Below.refl v3.heap.size v3).drew)
  replace HT3 := Lib.hid HT3.out.drew
  replace HK3 := Lib.hid (HK3.out.below (Below.refl v3.heap.size v3).drew)
  generalize v3.drew = vd at *
  have HBg := Lib.hid (And.intro w2 w3)
  go_wp2_with fail
  obtain ⟨Fa, hFa⟩ : ∃ F, F = frame 2 4 (n2 + 1) 9 pa := ⟨_, rfl⟩
  have hFla : Fa.length = 128 := by rw [hFa]; exact frame_len (by rw [HLa.out.1]; exact HLa.out.2)
  have HFla := Lib.hid hFla
  have HEna := Lib.hid (show ∀ v, Below w.heap.size w v → Calls Try.prog 27 #[.agg #[.int .i64 4, .int .i64 ((n2 : Int) + 1), .int .i64 9], .int .i64 2, .slice A0 ma c0] v (GivesEncN v Fa 0) from fun v hv => by
    have h := rencode_new 4 (n2 + 1) 9 2 A0 c0 pa v (okS_iff.2 ⟨by omega, by have := HBg.out; omega, by omega⟩) (okK_iff.2 ⟨by omega, by omega⟩) (by rw [HLa.out.1]; exact HRa.out.below hv) (by rw [HLa.out.1]; exact HLa.out.2)
    rw [HLa.out.1, ← hFa, show ((n2 + 1 : Nat) : Int) = (n2 : Int) + 1 by omega] at h
    exact h)
  obtain ⟨i1a, i2a, i3a⟩ := frame_isB 2 4 (n2 + 1) 9 1 (p := pa) (okS_iff.2 ⟨by omega, by have := HBg.out; omega, by omega⟩) (okK_iff.2 ⟨by omega, by omega⟩) (HRa.out.2.1) (by rw [HLa.out.1]; exact HLa.out.2) (by omega)
  rw [← hFa] at i1a i2a i3a
  rw [show ((n2 + 1 : Nat) : Int) = (n2 : Int) + 1 by omega] at i3a
  have HIa := Lib.hid (And.intro i1a (And.intro i2a i3a))
  clear hFa i1a i2a i3a
  obtain ⟨Fb, hFb⟩ : ∃ F, F = frame 2 4 (n3 + 1) 9 pb := ⟨_, rfl⟩
  have hFlb : Fb.length = 128 := by rw [hFb]; exact frame_len (by rw [HLb.out.1]; exact HLb.out.2)
  have HFlb := Lib.hid hFlb
  have HEnb := Lib.hid (show ∀ v, Below w.heap.size w v → Calls Try.prog 27 #[.agg #[.int .i64 4, .int .i64 ((n3 : Int) + 1), .int .i64 9], .int .i64 2, .slice A1 mb c1] v (GivesEncN v Fb 0) from fun v hv => by
    have h := rencode_new 4 (n3 + 1) 9 2 A1 c1 pb v (okS_iff.2 ⟨by omega, by have := HBg.out; omega, by omega⟩) (okK_iff.2 ⟨by omega, by omega⟩) (by rw [HLb.out.1]; exact HRb.out.below hv) (by rw [HLb.out.1]; exact HLb.out.2)
    rw [HLb.out.1, ← hFb, show ((n3 + 1 : Nat) : Int) = (n3 : Int) + 1 by omega] at h
    exact h)
  obtain ⟨i1b, i2b, i3b⟩ := frame_isB 2 4 (n3 + 1) 9 1 (p := pb) (okS_iff.2 ⟨by omega, by have := HBg.out; omega, by omega⟩) (okK_iff.2 ⟨by omega, by omega⟩) (HRb.out.2.1) (by rw [HLb.out.1]; exact HLb.out.2) (by omega)
  rw [← hFb] at i1b i2b i3b
  rw [show ((n3 + 1 : Nat) : Int) = (n3 : Int) + 1 by omega] at i3b
  have HIb := Lib.hid (And.intro i1b (And.intro i2b i3b))
  clear hFb i1b i2b i3b
  have hf0 := Free.new 36
  obtain ⟨f1, f2, f3⟩ := hf0.write (a := 5) (by omega) hFla
  obtain ⟨g1, g2, g3⟩ := f1.write (a := 21) (by omega) hFlb
  have g5 := (g3 5 (by omega) (by omega)).trans f2
  have hw1 : (Dk.St.new 36).writeE 5 Fa.length = 0 := hf0.writeE (a := 5) (by omega) hFla
  have hw2 : ((Dk.St.new 36).write 5 Fa).writeE 21 Fb.length = 0 := f1.writeE (a := 21) (by omega) hFlb
  have lo1 := low_write (low_new 36) 5 Fa
  obtain ⟨s1, hs1⟩ : ∃ s, s = (Dk.St.new 36).write 5 Fa := ⟨_, rfl⟩
  have HS1 := Lib.hid hs1
  have hs1' : s1 = (Dk.St.new 36).write (((5 : Nat)) : Int) Fa := hs1
  rw [← hs1'] at g1 g2 g5
  rw [← hs1] at hw2 lo1
  obtain ⟨s2, hs2⟩ : ∃ s, s = s1.write 21 Fb := ⟨_, rfl⟩
  have HS2 := Lib.hid hs2
  have hs2' : s2 = s1.write (((21 : Nat)) : Int) Fb := hs2
  rw [← hs2'] at g1 g2 g5
  have HG := Lib.hid (And.intro g1 (And.intro g5 g2))
  have HW := Lib.hid (And.intro hw1 (And.intro hw2 lo1))
  clear hf0 f1 f2 f3 g1 g2 g3 g5 hw1 hw2 lo1 hs1 hs1' hs2 hs2' hFla hFlb w2 w3 hia hja hca hib hjb hcb
  refine (HEna.out _ HD3.out.below).mono ?_
  rintro e v4 ⟨A4, c4, rfl, hr4, hc4, hn4, hb4⟩
  rw [HFla.out] at hr4 hc4 ⊢
  have HD4 := Lib.hid (HD3.out.next hb4)
  have HT4 := Lib.hid (HT3.out.below hb4)
  have HK4 := Lib.hid (HK3.out.below hb4)
  have HRf := Lib.hid hr4
  have HCf := Lib.hid hc4
  clear hr4 hc4 hn4 hb4 HD3 HT3 HK3 HEna
  go_wp2_with fail
  refine (HEnb.out _ HD4.out.below).mono ?_
  rintro e v5 ⟨A5, c5, rfl, hr5, hc5, hn5, hb5⟩
  rw [HFlb.out] at hr5 hc5 ⊢
  have HN5 := Lib.hid (show ∀ b o, A5 = some ⟨b, o, none⟩ → lab b = .no from fun b o e => HD4.out.disk.new_ (hn5 b o e))
  have HD5 := Lib.hid (HD4.out.next hb5)
  have HT5 := Lib.hid (HT4.out.below hb5)
  have HK5 := Lib.hid (HK4.out.below hb5)
  have HRf5 := Lib.hid (HRf.out.below hb5)
  have HRg := Lib.hid hr5
  have HCg := Lib.hid hc5
  have y0 := HK5.out.at_ 0 rfl
  have y1 := HK5.out.at_ 1 rfl
  have y2 := HK5.out.at_ 2 rfl
  clear hr5 hc5 hn5 hb5 HD4 HT4 HK4 HRf HEnb
  have hse := rsectors_any (P2 4 1) ((9 : Nat) : Int) (some ⟨bt, 0, none⟩) 2 v5 (by show 2 ≤ 1000; omega) HT5.out
  rw [P2_fr 4 1 (by omega : 9 < 16)] at hse
  have HSe := Lib.hid (show Calls Try.prog 11 #[.agg #[.int .i64 4, .int .i64 1, .slice (some ⟨bt, 0, none⟩) 2 2], .int .i64 9] v5 (fun e w' => e = .returned (.tuple #[.int .i64 5, .int .i64 21, .int .i64 0]) ∧ Below v5.heap.size v5 w') from hse)
  clear hse
  go_wp2_with fail
  refine HSe.out.mono ?_
  rintro e v6 ⟨rfl, hb⟩
  have HD6 := Lib.hid (HD5.out.next hb)
  have HT6 := Lib.hid (HT5.out.below hb)
  have HK6 := Lib.hid (HK5.out.below hb)
  have HRf6 := Lib.hid (HRf5.out.below hb)
  have HRg6 := Lib.hid (HRg.out.below hb)
  clear hb HD5 HT5 HK5 HRf5 HRg HSe y0 y1 y2
  go_wp2_with fail
  refine (write_any 5 A4 128 c4 0 Fa v6 d lab _ HD6.out.disk HRf6.out (low_new 36) (by omega) (by omega)).mono ?_
  rintro e v7 ⟨rfl, hL⟩
  have hw1 := HW.out.1
  have hL : Left lab d s1 v6 v7 := by rw [HS1.out]; exact hL
  obtain ⟨lab7, h7, hc7⟩ := HD6.out.left hL
  have u1 := (HD6.out.un gb (by simp)).1
  have u0 := (HD6.out.un bt (by simp)).1
  have HD7 := Lib.hid h7
  have HT7 := Lib.hid (hc7.rdc HT6.out (fun b o e => by injection e with e; injection e with e; rw [← e]; exact u0))
  have HK7 := Lib.hid (hc7.holds HK6.out u1)
  have HRg7 := Lib.hid (hc7.rd HRg6.out HN5.out)
  clear hL h7 hc7 u0 u1 HD6 HT6 HK6 HRf6 HRg6 HN5
  rw [hw1]
  clear hw1
  go_wp2_with fail
  refine (write_any 21 A5 128 c5 1 Fb v7 d lab7 _ HD7.out.disk HRg7.out HW.out.2.2 (by omega) (by omega)).mono ?_
  rintro e v8 ⟨rfl, hL⟩
  rw [← HS2.out] at hL
  rw [HW.out.2.1]
  obtain ⟨lab8, h8, hc8⟩ := HD7.out.left hL
  have u1 := (HD7.out.un gb (by simp)).1
  have u0 := (HD7.out.un bt (by simp)).1
  have HD8 := Lib.hid h8
  have HT8 := Lib.hid (hc8.rdc HT7.out (fun b o e => by injection e with e; injection e with e; rw [← e]; exact u0))
  have hk8 := hc8.holds HK7.out u1
  have y0 := hk8.at_ 0 rfl
  have y1 := hk8.at_ 1 rfl
  have y2 := hk8.at_ 2 rfl
  clear hL h8 hc8 u0 u1 hk8 HD7 HT7 HK7 HRg7
  have hfr := HG.out.1
  have hR := fread_any (P2 4 1) (some ⟨bt, 0, none⟩) 2 2 9 5 21 v8 d lab8 s2 HD8.out.disk HT8.out (by rw [hfr.len]; exact P2_ok (by omega) (by omega) (by omega) (by omega)) ⟨by omega, by omega⟩ (P2_fr 4 1 (by omega : 9 < 16)) ⟨by rw [hfr.len]; omega, by rw [hfr.len]; omega⟩ (hfr.ready (a := 5) (by omega)) (hfr.ready (a := 21) (by omega))
  have hra : s2.readB 5 = Fa := HG.out.2.1
  have hrb : s2.readB 21 = Fb := HG.out.2.2
  rw [hra, hrb] at hR
  have hia : isB Fa (P2 4 1).i (P2 4 1).e ((9 : Nat) : Int) 2 = true := HIa.out.1
  have hib : isB Fb (P2 4 1).i (P2 4 1).e ((9 : Nat) : Int) 2 = true := HIb.out.1
  rw [hia, hib] at hR
  have HR := Lib.hid (show Calls Try.prog 20 #[.pointer (some ⟨d, 0, none⟩), .agg #[.int .i64 4, .int .i64 1, .slice (some ⟨bt, 0, none⟩) 2 2], .int .i64 2, .int .i64 9] v8 (GivesRd v8 Fa Fb true true) from hR)
  clear hR hfr hra hrb hia hib
  go_wp2_with fail
  refine HR.out.mono ?_
  rintro e v9 ⟨hb9, ⟨hx, _⟩ | ⟨_, Q, cq, l, hl, rfl, hq⟩⟩
  · cases hx
  rw [HIa.out.2.2, HIb.out.2.2] at hl
  have HB9 := Lib.hid (HD8.out.below.trans (hb9.mono HD8.out.below.size))
  clear y0 y1 y2 HR hb9 HD8 HT8
  by_cases hlt : n2 < n3
  · rw [if_pos (by unfold sec; simp; omega)] at hl
    subst hl
    rw [HIb.out.2.1] at hq ⊢
    rw [HIb.out.2.2]
    have hs1 := run_str (cap := cq) hq
    have hs2 := run_str (cap := c1) (HRb.out.below HB9.out)
    rw [HLb.out.1] at hs1 ⊢
    have hcmp : (n2 : Int) + 1 < (n3 : Int) + 1 := by omega
    clear hq hlt
    go_wp2_with fail
    go_ret
    exact ⟨rfl, HB9.out⟩
  · rw [if_neg (by unfold sec; simp; omega)] at hl
    subst hl
    rw [HIa.out.2.1] at hq ⊢
    rw [HIa.out.2.2]
    have hs1 := run_str (cap := cq) hq
    have hs2 := run_str (cap := c0) (HRa.out.below HB9.out)
    rw [HLa.out.1] at hs1 ⊢
    have hcmp : ¬ (n2 : Int) + 1 < (n3 : Int) + 1 := by omega
    clear hq hlt
    go_wp2_with fail
    go_ret
    exact ⟨rfl, HB9.out⟩
set_option maxRecDepth 100000 in
theorem lifted (os : Os) (started : os.Started) (H : Type) (enc : TypeId × Value → H) :
    ReturnsInHanded {} Try.checked os 6 .any (Rows.fileLaterSpec.pre6 enc Try.prog Try.f6 Rows.fileLaterRow.domain false) (Rows.fileLaterSpec.post enc Try.prog Try.f6 false true false false) := by
  refine returnsInHanded_of_change (C := Try.checked) own started (by kernel_rfl) Try.func6
    (ChangeSpec.witness6 (enc := enc) (C := Try.checked) false ⟨#[], #[.slice none 0 0, .slice none 0 0, .int .u8 0, .int .u8 0], []⟩ 8 (by kernel_rfl) (by kernel_rfl) (by kernel_rfl) (by kernel_rfl)) ?_
  intro W base args ds gs before hval0 hW hcnd _
  have hval : ∀ (j : Nat) t v, Try.f6.params[j]? = some t → args[j]? = some v → Value.okWide Try.prog W .any base t v := hval0
  have hW' := hW
  obtain ⟨p, q, hA0, hV, rfl, hfz, hnd⟩ := hW
  have hA : DataW.TrodAll enc Try.prog W 0 (fun _ => true) true Try.f6.params.toList args.toList ds p := hA0
  rw [Try.params6] at hA hval
  obtain ⟨v0, vs0, d0, ds0, p0, q0, hargs, rfl, rfl, h0, t0⟩ := trodAll_cons hA
  obtain ⟨v1, vs1, d1, ds1, p1, q1, rfl, rfl, rfl, h1, t1⟩ := trodAll_cons t0
  obtain ⟨v2, vs2, d2, ds2, p2, q2, rfl, rfl, rfl, h2, t2⟩ := trodAll_cons t1
  obtain ⟨v3, vs3, d3, ds3, p3, q3, rfl, rfl, rfl, h3, t3⟩ := trodAll_cons t2
  obtain ⟨rfl, rfl, rfl⟩ := trodAll_nil t3
  obtain rfl : args = #[v0, v1, v2, v3] := by cases args; simp_all
  obtain ⟨rfl, rfl⟩ := trodVars_none hV
  have k0 : Reads enc W 37 v0 d0 p0 := h0
  have lt0 : ∀ x ∈ p0, x.block < W.heap.size := by obtain ⟨m, hm⟩ := k0; exact DataW.trod_lt m _ _ _ hm
  obtain ⟨A0, m0, c0, l0, rfl, r0, wc0, w0⟩ := in_bytes (hval 0 37 v0 rfl rfl) k0
  have k1 : Reads enc W 37 v1 d1 p1 := h1
  have lt1 : ∀ x ∈ p1, x.block < W.heap.size := by obtain ⟨m, hm⟩ := k1; exact DataW.trod_lt m _ _ _ hm
  obtain ⟨A1, m1, c1, l1, rfl, r1, wc1, w1⟩ := in_bytes (hval 1 37 v1 rfl rfl) k1
  have k2 : Reads enc W 5 v2 d2 p2 := h2
  have lt2 : ∀ x ∈ p2, x.block < W.heap.size := by obtain ⟨m, hm⟩ := k2; exact DataW.trod_lt m _ _ _ hm
  obtain ⟨n2, rfl, w2⟩ := in_u8 (hval 2 5 v2 rfl rfl) k2
  have k3 : Reads enc W 5 v3 d3 p3 := h3
  have lt3 : ∀ x ∈ p3, x.block < W.heap.size := by obtain ⟨m, hm⟩ := k3; exact DataW.trod_lt m _ _ _ hm
  obtain ⟨n3, rfl, w3⟩ := in_u8 (hval 3 5 v3 rfl rfl) k3
  clear hA0 hval0
  refine (walk A0 m0 c0 l0 A1 m1 c1 l1 n2 n3 W r0 wc0 w0 r1 wc1 w1 w2 w3).mono fun e W' ⟨he, bel⟩ => ?_
  subst he
  exact ⟨_, rfl, _, _, _, [], _, [], hW', trodAll_mk1 (shut_bool Try.underlying4 _), (trodAll_cons_mk (Below.trod laidOut (by kernel_rfl) (of_decide_eq_true (by kernel_rfl)) k0 bel lt0) (trodAll_cons_mk (Below.trod laidOut (by kernel_rfl) (of_decide_eq_true (by kernel_rfl)) k1 bel lt1) (trodAll_cons_mk (Below.trod laidOut (by kernel_rfl) (of_decide_eq_true (by kernel_rfl)) k2 bel lt2) (trodAll_cons_mk (Below.trod laidOut (by kernel_rfl) (of_decide_eq_true (by kernel_rfl)) k3 bel lt3) trodAll_mk0)))), rfl, bel.frame _, fun h => by cases h⟩
theorem over : Rows.fileLaterRow.holds Try.pinned (OpenSpec.ofChange Rows.fileLaterSpec) :=
  OpenClaim.holds_of_wide 6 Try.f6 rfl rfl rfl rfl rfl rfl rfl ⟨rfl, rfl, rfl, rfl, rfl⟩ rfl rfl rfl rfl rfl (by kernel_rfl) Try.func6 (by kernel_rfl)
    (of_decide_eq_true (by kernel_rfl)) (by unfold Func.isWrapper; first | (rw [if_pos (by decide +kernel)]; kernel_rfl) | (rw [if_neg (by decide +kernel)]; exact ⟨rfl, rfl⟩))
    (fun os started H enc _ => lifted os started H enc)
theorem proved : Rows.FileLaterSaid := over
end Go.Proofs.Ytakocojbpdpflaa.fileLater
