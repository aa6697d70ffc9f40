/- The law's example. -/
import Derived.Test.YtakocojbpdpflaaFiDs
import Derived.Lib.SlBytesConst
namespace Go.Proofs.Ytakocojbpdpflaa
open Go.RowKit Fi Fr
set_option linter.unusedVariables false
namespace Fi
/-- The example's place. -/
def exP : Pl := ⟨1, 1, [(0, 1)]⟩
theorem exP_ok : ok exP (Sp.plots 36) = true := by decide +kernel
theorem exP_no : ok exP (Sp.plots 12) = false := by decide +kernel
theorem exP_3 : fr exP ((3 : Nat) : Int) = (7, 15, 0) := by decide +kernel
theorem exP_2 : fr exP ((2 : Nat) : Int) = (6, 14, 0) := by decide +kernel
end Fi
theorem ex_st (F : List Nat) (hF : F.length = 128) : Free (((Dk.St.new 36).write 7 F).write 15 F) 36 ∧ (((Dk.St.new 36).write 7 F).write 15 F).readB 7 = F ∧ (((Dk.St.new 36).write 7 F).write 15 F).readB 15 = F ∧ (((Dk.St.new 36).write 7 F).write 15 F).readB 6 = Dk.zeros ∧ (((Dk.St.new 36).write 7 F).write 15 F).readB 14 = Dk.zeros ∧ ((Dk.St.new 36).write 7 F).ready 15 = 0 ∧ (Dk.St.new 36).ready 7 = 0 := by
  have h0 := Free.new 36
  obtain ⟨h1, h2, h3⟩ := h0.write (a := 7) (by omega) hF
  obtain ⟨k1, k2, k3⟩ := h1.write (a := 15) (by omega) hF
  refine ⟨k1, (k3 7 (by omega) (by omega)).trans h2, k2, ((k3 6 (by omega) (by omega)).trans (h3 6 (by omega) (by omega))).trans (new_zeros (by omega)), ((k3 14 (by omega) (by omega)).trans (h3 14 (by omega) (by omega))).trans (new_zeros (by omega)), h1.ready (a := 15) (by omega), h0.ready (a := 7) (by omega)⟩
theorem low_new (n : Nat) : (Dk.St.new n).low 0 := ⟨Int.le_refl _, Int.le_refl _, Int.le_refl _, by show (0 : Int) ≤ 1048576; decide, fun s hs => by unfold Dk.St.new at hs; simp at hs; rw [hs.2]; simp⟩
theorem rdc_pair (w : World) (x y : Int) (t : TypeId) : RdC 2 (w.alloc (.cells #[.int .i64 x, .int .i64 y] t)) (some ⟨w.heap.size, 0, none⟩) 1 (pv [(x, y)]) := by
  refine ⟨rfl, fun _ => ⟨w.heap.size, 0, rfl, by simp, fun j v hv => ?_⟩⟩
  rw [Nat.zero_add, World.cell?_alloc_mark]
  simpa [pv, flat] using hv
set_option maxRecDepth 100000 in
set_option maxHeartbeats 4000000 in
theorem awake_any (w : World) : Calls Try.prog 16 #[] w fun e w' => e = .returned (.bool true) ∧ Below w.heap.size w w' := by
  go_enter Try.func16, Try.ntmps16
  go_wp2_with fail
  refine (new_any 36 _).mono ?_
  rintro e v0 hN
  rcases hN with ⟨_, _, d, lab, rfl, hD, hb0, hnl⟩ | ⟨hx, _⟩
  rotate_left
  · exact absurd ⟨by omega, by omega⟩ hx
  have hds : Ds w v0 d lab (Dk.St.new 36) [] := ⟨hb0, hD, hnl, fun u hu => by cases hu⟩
  clear hb0 hD hnl
  have h1 := (hds.add (.cells #[.int .i64 0, .int .i64 1] 73)).add (.cells #[.int .i64 1, .int .i64 1, .slice (some ⟨v0.heap.size, 0, none⟩) 1 1] 24)
  have r1 := (rdc_pair v0 0 1 73).alloc (.cells #[.int .i64 1, .int .i64 1, .slice (some ⟨v0.heap.size, 0, none⟩) 1 1] 24)
  have k1 := Holds.new (v0.alloc (.cells #[.int .i64 0, .int .i64 1] 73)) #[.int .i64 1, .int .i64 1, .slice (some ⟨v0.heap.size, 0, none⟩) 1 1] 24
  rw [show (v0.alloc (.cells #[.int .i64 0, .int .i64 1] 73)).heap.size = v0.heap.size + 1 by simp] at h1 k1
  have H1 := Lib.hid h1
  have R1 := Lib.hid r1
  have K1 := Lib.hid k1
  have y0 := k1.at_ 0 rfl
  have y1 := k1.at_ 1 rfl
  have y2 := k1.at_ 2 rfl
  clear hds h1 r1 k1
  go_wp2_with fail
  generalize ((v0.alloc (.cells #[.int .i64 0, .int .i64 1] 73)).alloc (.cells #[.int .i64 1, .int .i64 1, .slice (some ⟨v0.heap.size, 0, none⟩) 1 1] 24)) = v1 at *
  generalize v0.heap.size = g at *
  have HSe := Lib.hid (sectors_any exP ((3 : Nat) : Int) (some ⟨g, 0, none⟩) 1 v1 (by decide) R1.out)
  rw [exP_3] at HSe
  unfold Fi.val at HSe
  refine HSe.out.mono ?_
  rintro e v2 ⟨rfl, hb⟩
  have H2 := Lib.hid (H1.out.next hb)
  have R2 := Lib.hid (R1.out.below hb)
  have k2 := K1.out.below hb
  have K2 := Lib.hid k2
  clear y0 y1 y2 hb H1 R1 K1 HSe
  have H3 := Lib.hid (H2.out.add (.cells #[.int .u8 120] 5 (1, 2)))
  have R3 := Lib.hid (R2.out.alloc (.cells #[.int .u8 120] 5 (1, 2)))
  have k3 := k2.alloc (.cells #[.int .u8 120] 5 (1, 2))
  have K3 := Lib.hid k3
  have hp : Rd (v2.alloc (.cells #[.int .u8 120] 5 (1, 2))) (some ⟨v2.heap.size, 0, none⟩) 1 [120] := rd_new v2 [120] (by decide) (1, 2)
  have kc := fun (w : World) (C : Array Value) (n c : Nat) => Lib.run_convert_bytes_const (P := Try.prog) w 37 5 C n c Try.underlying37 Try.underlying5
  have HP := Lib.hid hp
  have y0 := k3.at_ 0 rfl
  have y1 := k3.at_ 1 rfl
  have y2 := k3.at_ 2 rfl
  have x0 := k2.at_ 0 rfl
  have x1 := k2.at_ 1 rfl
  have x2 := k2.at_ 2 rfl
  clear k2 k3 hp H2 R2 K2
  go_wp2_with fail
  have hgb : ∃ gb, gb = v2.heap.size := ⟨_, rfl⟩
  obtain ⟨F, hF⟩ : ∃ F, F = frame 2 1 2 3 [120] := ⟨_, rfl⟩
  have hFl : F.length = 128 := by rw [hF]; exact frame_len (by decide)
  obtain ⟨e1, e2, e3, e4, e5, e6, e7⟩ := ex_st F hFl
  obtain ⟨b1, b2, b3⟩ := frame_isB 2 1 2 3 1 (p := [120]) (okS_iff.2 ⟨by omega, by omega, by omega⟩) (okK_iff.2 ⟨by omega, by omega⟩) (by intro x hx; simp at hx; omega) (by decide) (by decide)
  have hw := fwrite_any exP (some ⟨g, 0, none⟩) 1 2 2 1 3 rfl 7 15 _ d lab (Dk.St.new 36) 0 (low_new 36) (by omega) H3.out.disk R3.out (by decide +kernel) (by omega) ⟨by decide, by omega⟩ (by omega) exP_3 ⟨by decide +kernel, by decide +kernel⟩ (some ⟨v2.heap.size, 0, none⟩) 1 [120] HP.out (by decide) e7 (by rw [← hF]; exact e6)
  rw [← hF] at hw b1 b2 b3
  have HW := Lib.hid (show Calls Try.prog 19 #[.pointer (some ⟨d, 0, none⟩), .agg #[.int .i64 1, .int .i64 1, .slice (some ⟨g, 0, none⟩) 1 1], .int .i64 2, .int .i64 2, .int .i64 3, .slice (some ⟨v2.heap.size, 0, none⟩) 1 1] (v2.alloc (.cells #[.int .u8 120] 5 (1, 2))) (fun e w' => e = .returned (.int .i64 0) ∧ Left lab d (((Dk.St.new 36).write 7 F).write 15 F) (v2.alloc (.cells #[.int .u8 120] 5 (1, 2))) w') from hw)
  obtain ⟨st, hst⟩ : ∃ st, st = ((Dk.St.new 36).write 7 F).write 15 F := ⟨_, rfl⟩
  rw [← hst] at HW e1 e2 e3 e4 e5
  have HE := Lib.hid (And.intro e1 (And.intro e2 (And.intro e3 (And.intro e4 e5))))
  have HI := Lib.hid (And.intro b1 (And.intro b2 b3))
  clear hw hst e1 e2 e3 e4 e5 e6 e7 b1 b2 b3 hF hFl hgb HP x0 x1 x2 kc
  refine HW.out.mono ?_
  generalize (v2.alloc (.cells #[.int .u8 120] 5 (1, 2))) = v3 at *
  rintro e v4 ⟨rfl, hL⟩
  obtain ⟨lab4, h4, hc4⟩ := H3.out.left hL
  have u1 := (H3.out.un (g + 1) (by simp)).1
  have u0 := (H3.out.un g (by simp)).1
  have HD4 := Lib.hid h4.disk
  have HB4 := Lib.hid h4.below
  have K4 := Lib.hid (hc4.holds K3.out u1)
  have R4 := Lib.hid (hc4.rdc R3.out (fun b o e => by injection e with e; injection e with e; rw [← e]; exact u0))
  clear hL h4 hc4 u0 u1 H3 R3 K3 HW y0 y1 y2
  have y0 := K4.out.at_ 0 rfl
  have y1 := K4.out.at_ 1 rfl
  have y2 := K4.out.at_ 2 rfl
  have hfr := HE.out.1
  have hR := fread_any exP (some ⟨g, 0, none⟩) 1 2 3 7 15 v4 d lab4 st HD4.out R4.out (by rw [hfr.len]; decide +kernel) ⟨by omega, by omega⟩ exP_3 ⟨by rw [hfr.len]; omega, by rw [hfr.len]; omega⟩ (hfr.ready (a := 7) (by omega)) (hfr.ready (a := 15) (by omega))
  rw [HE.out.2.1, HE.out.2.2.1] at hR
  have hR : Calls Try.prog 20 #[.pointer (some ⟨d, 0, none⟩), .agg #[.int .i64 1, .int .i64 1, .slice (some ⟨g, 0, none⟩) 1 1], .int .i64 2, .int .i64 3] v4 (GivesRd v4 F F true true) := by have := HI.out.1; rw [← this]; exact hR
  have HR := Lib.hid hR
  clear hR hfr
  go_wp2_with fail
  refine HR.out.mono ?_
  rintro e v5 ⟨hb5, ⟨hx, _⟩ | ⟨_, Q, cq, l, hl, rfl, hq⟩⟩
  · cases hx
  rw [ite_self] at hl
  subst hl
  rw [HI.out.2.1] at hq ⊢
  rw [HI.out.2.2]
  have HQ := Lib.hid hq
  have HD5 := Lib.hid (HD4.out.below hb5)
  have HB5 := Lib.hid (HB4.out.trans (hb5.mono HB4.out.size))
  have K5 := Lib.hid (K4.out.below hb5)
  have R5 := Lib.hid (R4.out.below hb5)
  clear hq hb5 HD4 HB4 K4 R4 HR y0 y1 y2
  have y0 := K5.out.at_ 0 rfl
  have y1 := K5.out.at_ 1 rfl
  have y2 := K5.out.at_ 2 rfl
  have hfr := HE.out.1
  have hR := fread_any exP (some ⟨g, 0, none⟩) 1 2 2 6 14 v5 d lab4 st HD5.out R5.out (by rw [hfr.len]; decide +kernel) ⟨by omega, by omega⟩ exP_2 ⟨by rw [hfr.len]; omega, by rw [hfr.len]; omega⟩ (hfr.ready (a := 6) (by omega)) (hfr.ready (a := 14) (by omega))
  rw [HE.out.2.2.2.1, HE.out.2.2.2.2] at hR
  have HR := Lib.hid (show Calls Try.prog 20 #[.pointer (some ⟨d, 0, none⟩), .agg #[.int .i64 1, .int .i64 1, .slice (some ⟨g, 0, none⟩) 1 1], .int .i64 2, .int .i64 2] v5 (GivesRd v5 Dk.zeros Dk.zeros false false) by rw [← zeros_isB exP.i exP.e ((2 : Nat) : Int) 2]; exact hR)
  clear hR hfr
  go_wp2_with fail
  refine HR.out.mono ?_
  rintro e v6 ⟨hb6, ⟨_, rfl⟩ | ⟨hx, _⟩⟩
  rotate_left
  · cases hx
  have HB6 := Lib.hid (HB5.out.trans (hb6.mono HB5.out.size))
  have K6 := Lib.hid (K5.out.below hb6)
  have R6 := Lib.hid (R5.out.below hb6)
  have hs1 : (convert 37 9 (.slice Q 1 cq)).run Try.prog v6 = .ok (.string ⟨#[120]⟩) v6 := run_str (cap := cq) (HQ.out.below hb6)
  clear hb6 HD5 HB5 K5 R5 HR HQ y0 y1 y2
  have y0 := K6.out.at_ 0 rfl
  have y1 := K6.out.at_ 1 rfl
  have y2 := K6.out.at_ 2 rfl
  have HFm := Lib.hid (show Calls Try.prog 13 #[.agg #[.int .i64 1, .int .i64 1, .slice (some ⟨g, 0, none⟩) 1 1]] v6 (fun e w' => e = .returned (.int .i64 8) ∧ Below v6.heap.size v6 w') from frames_any exP (some ⟨g, 0, none⟩) 1 v6 (by decide))
  go_wp2_with fail
  refine HFm.out.mono ?_
  rintro e v7 ⟨rfl, hb7⟩
  have HB7 := Lib.hid (HB6.out.trans (hb7.mono HB6.out.size))
  have K7 := Lib.hid (K6.out.below hb7)
  have R7 := Lib.hid (R6.out.below hb7)
  clear hb7 HB6 K6 R6 HFm y0 y1 y2 hs1
  have y0 := K7.out.at_ 0 rfl
  have y1 := K7.out.at_ 1 rfl
  have y2 := K7.out.at_ 2 rfl
  have hC := fcheck_any exP 12 (by omega) (some ⟨g, 0, none⟩) 1 v7 (by decide) R7.out
  rw [exP_no] at hC
  have HC := Lib.hid (show Calls Try.prog 12 #[.agg #[.int .i64 1, .int .i64 1, .slice (some ⟨g, 0, none⟩) 1 1], .int .i64 12] v7 (fun e w' => e = .returned (.int .i64 70) ∧ Below v7.heap.size v7 w') from hC)
  clear hC
  go_wp2_with fail
  refine HC.out.mono ?_
  rintro e v8 ⟨rfl, hb8⟩
  have HB8 := Lib.hid (HB7.out.trans (hb8.mono HB7.out.size))
  clear hb8 y0 y1 y2
  go_wp2_with fail
  go_ret
  exact ⟨rfl, HB8.out⟩
end Go.Proofs.Ytakocojbpdpflaa
