/- For every place, number of sectors and number of a frame: Check, Frames and Sectors give what the document's do (P7.1), and the example at the head holds; the arguments stay as they were. No condition. -/
import Derived.Test.YtakocojbpdpflaaFiRis
import Derived.Test.YtakocojbpdpflaaFiLi
import Derived.Test.YtakocojbpdpflaaFiNil
import Derived.Test.YtakocojbpdpflaaInP
import Derived.Test.YtakocojbpdpflaaIns
import Derived.Test.YtakocojbpdpflaaSuA
import Derived.WalkKit
import Derived.ProofKit
import Derived.OpenShut
import Derived.ShutString
import Derived.ChangeOld
import Derived.Below
import Derived.Deep.RegionHeld
namespace Go.Proofs.Ytakocojbpdpflaa.fileForms
open Go.ChangeShapes Go.WideShapes Go.ChangeAt Go.RowKit
set_option linter.unusedVariables false
theorem own : ownKnob Try.prog.godebug = none := by kernel_rfl
theorem laidOut : laidOutB Try.prog = true := by kernel_rfl
open Fr Fi
set_option maxRecDepth 100000 in
set_option maxHeartbeats 4000000 in
theorem walk (S0 : Fi.Pl) (A0 : Option Addr) (c0 : Nat) (n1 : Int) (n2 : Int) (w : World) (r0 : RdC 2 w A0 S0.ps.length (Fi.pv S0.ps)) (wc0 : S0.ps.length ≤ c0) (w0 : S0.ps.length ≤ 9223372036854775807) (wl1 : -9223372036854775808 ≤ n1) (w1 : n1 ≤ 9223372036854775807) (wl2 : -9223372036854775808 ≤ n2) (w2 : n2 ≤ 9223372036854775807) :
    Calls Try.prog 3 #[Fi.val S0 A0 c0, .int .i64 n1, .int .i64 n2] w fun e w' => e = .returned (.bool true) ∧ Below w.heap.size w w' := by
  -- heartbeats 4000000
  have hB0 : Below w.heap.size w (w.alloc (.cells #[.int .i64 S0.i, .int .i64 S0.e, .slice A0 S0.ps.length c0] 24)) := (Below.refl _ _).alloc (Nat.le_refl _) _
  have hk0 := Holds.new w #[.int .i64 S0.i, .int .i64 S0.e, .slice A0 S0.ps.length c0] 24
  have hlt := flight_any S0 A0 c0 (w.alloc (.cells #[.int .i64 S0.i, .int .i64 S0.e, .slice A0 S0.ps.length c0] 24)) wc0 w0
  have hrl := rd_lightP r0 rfl
  obtain ⟨T, hT⟩ : ∃ T, T = Fi.light S0 := ⟨_, rfl⟩
  have hTp : T.ps = S0.ps.take 66 := by rw [hT]; rfl
  have HTp := Lib.hid (show T.ps.length ≤ 1000 by rw [hTp, List.length_take]; omega)
  rw [← hT] at hlt
  rw [← hTp] at hrl
  have HLt := Lib.hid hlt
  have HRl := Lib.hid hrl
  unfold Fi.val at HLt ⊢
  clear hlt hrl hT hTp r0 wc0 w0 wl1 wl2 w2
  go_enter Try.func3, Try.ntmps3
  go_wp2_with fail
  refine HLt.out.mono ?_
  rintro e v1 ⟨rfl, hb1⟩
  have hB1 := hB0.trans (hb1.mono hB0.size)
  have hk1 := hk0.below hb1
  have f0 := hk1.2.2 0
  have f1 := hk1.2.2 1
  have f2 := hk1.2.2 2
  have z0 := hk1.at_ 0 rfl
  have z1 := hk1.at_ 1 rfl
  have z2 := hk1.at_ 2 rfl
  have hk2 := hk1.set3 (.int .i64 T.i) (.int .i64 T.e) (.slice A0 T.ps.length c0)
  have hB2 := ((hB1.setCell (p := ⟨w.heap.size, 0, none⟩) (Nat.le_refl _) (.int .i64 T.i)).setCell (p := ⟨w.heap.size, 1, none⟩) (Nat.le_refl _) (.int .i64 T.e)).setCell (p := ⟨w.heap.size, 2, none⟩) (Nat.le_refl _) (.slice A0 T.ps.length c0)
  have HK2 := Lib.hid hk2
  have HB2 := Lib.hid hB2
  clear hk2 hB2 hk1 hB1 hb1 hk0 hB0
  have y0 := (HK2.out).at_ 0 rfl
  have y1 := (HK2.out).at_ 1 rfl
  have y2 := (HK2.out).at_ 2 rfl
  have HTl := Lib.hid (show T.ps.length ≤ 1000 from HTp.out)
  have HW1 := Lib.hid w1
  clear w1
  go_wp2_with fail
  clear f0 f1 f2 z0 z1 z2 y0 y1 y2
  have HS := Lib.hid (fun v (hb : Below w.heap.size w v) => sectors_any T n2 A0 c0 v HTl.out (HRl.out.below hb))
  have HSr := Lib.hid (fun v (hb : Below w.heap.size w v) => rsectors_any T n2 A0 c0 v HTl.out (HRl.out.below hb))
  have HC := Lib.hid (fun v (hb : Below w.heap.size w v) => fcheck_any T n1 HW1.out A0 c0 v (by have := HTl.out; omega) (HRl.out.below hb))
  have HI := Lib.hid (fun v (hb : Below w.heap.size w v) => risP_any T n1 HW1.out A0 c0 v (by have := HTl.out; omega) (HRl.out.below hb))
  have HF := Lib.hid (fun v => frames_any T A0 c0 v HTl.out)
  have HFr := Lib.hid (fun v => rframes_any T A0 c0 v HTl.out)
  generalize fr T n2 = R at *
  unfold Fi.val at HS HSr HC HI HF HFr
  obtain ⟨bk, hbk⟩ : ∃ b, b = ok T (Sp.plots n1) := ⟨_, rfl⟩
  rw [← hbk] at HC HI
  clear hbk
  refine (HS.out _ HB2.out).mono ?_
  generalize (((v1.setCell ⟨w.heap.size, 0, none⟩ (.int .i64 T.i)).setCell ⟨w.heap.size, 1, none⟩ (.int .i64 T.e)).setCell ⟨w.heap.size, 2, none⟩ (.slice A0 T.ps.length c0)) = v2 at *
  rintro e v3 ⟨rfl, hb⟩
  have HB3 := Lib.hid (HB2.out.trans (hb.mono HB2.out.size))
  have HK3 := Lib.hid (HK2.out.below hb)
  have y0 := (HK3.out).at_ 0 rfl
  have y1 := (HK3.out).at_ 1 rfl
  have y2 := (HK3.out).at_ 2 rfl
  clear hb HB2 HK2
  go_wp2_with fail
  refine (HSr.out _ HB3.out).mono ?_
  rintro e v4 ⟨rfl, hb⟩
  have HB4 := Lib.hid (HB3.out.trans (hb.mono HB3.out.size))
  have HK4 := Lib.hid (HK3.out.below hb)
  clear hb HB3 HK3 y0 y1 y2
  have y0 := (HK4.out).at_ 0 rfl
  have y1 := (HK4.out).at_ 1 rfl
  have y2 := (HK4.out).at_ 2 rfl
  go_wp2_with fail
  refine (HC.out _ HB4.out).mono ?_
  rintro e v5 ⟨rfl, hb⟩
  have HB5 := Lib.hid (HB4.out.trans (hb.mono HB4.out.size))
  have HK5 := Lib.hid (HK4.out.below hb)
  clear hb HB4 HK4 y0 y1 y2
  have HCl := Lib.hid (show ∀ wx, Below v5.heap.size v5 wx → wx.cell? ⟨w.heap.size, 0, none⟩ = some (.int .i64 T.i) ∧ wx.cell? ⟨w.heap.size, 1, none⟩ = some (.int .i64 T.e) ∧ wx.cell? ⟨w.heap.size, 2, none⟩ = some (.slice A0 T.ps.length c0) from fun wx hb => ⟨(HK5.out.below hb).at_ 0 rfl, (HK5.out.below hb).at_ 1 rfl, (HK5.out.below hb).at_ 2 rfl⟩)
  have HAw := Lib.hid (fun v => awake_any v)
  cases bk with
  | true =>
    rw [if_pos rfl] at HC ⊢
    go_upto_region 5 with fail
    refine region_class (fun w' => Below v5.heap.size v5 w') (by kernel_rfl) (by kernel_rfl) ((Below.refl _ _).drew) ?_
    repeat (go_big_quiet_step ((first | (intro _; with_reducible rfl) | (intro hq; with_reducible exact calls_class hq (HF.out _)) | (intro hq; with_reducible exact calls_class hq (HFr.out _)) | (intro hq; with_reducible exact calls_class hq (HI.out _ (HB5.out.trans (hq.mono HB5.out.size)))) | (intro hq; with_reducible exact calls_class hq (HC.out _ (HB5.out.trans (hq.mono HB5.out.size)))) | (intro hq; with_reducible exact calls_class hq (HAw.out _)) | (intro hq; obtain ⟨e0, e1, e2⟩ := HCl.out _ hq; simp [e0, e1, e2, Result.andThen]; with_reducible rfl))))
    refine wpQuiet_nil ?_
    intro v9 hv9
    have HB9 := Lib.hid (HB5.out.trans (hv9.mono HB5.out.size))
    go_wp2_with fail
    go_ret
    exact ⟨rfl, HB9.out⟩
  | false =>
    rw [if_neg (by simp)] at HC ⊢
    go_upto_region 5 with fail
    refine region_class (fun w' => Below v5.heap.size v5 w') (by kernel_rfl) (by kernel_rfl) ((Below.refl _ _).drew) ?_
    repeat (go_big_quiet_step ((first | (intro _; with_reducible rfl) | (intro hq; with_reducible exact calls_class hq (HF.out _)) | (intro hq; with_reducible exact calls_class hq (HFr.out _)) | (intro hq; with_reducible exact calls_class hq (HI.out _ (HB5.out.trans (hq.mono HB5.out.size)))) | (intro hq; with_reducible exact calls_class hq (HC.out _ (HB5.out.trans (hq.mono HB5.out.size)))) | (intro hq; with_reducible exact calls_class hq (HAw.out _)) | (intro hq; obtain ⟨e0, e1, e2⟩ := HCl.out _ hq; simp [e0, e1, e2, Result.andThen]; with_reducible rfl))))
    refine wpQuiet_nil ?_
    intro v9 hv9
    have HB9 := Lib.hid (HB5.out.trans (hv9.mono HB5.out.size))
    go_wp2_with fail
    go_ret
    exact ⟨rfl, HB9.out⟩
set_option maxRecDepth 100000 in
theorem lifted (os : Os) (started : os.Started) (H : Type) (enc : TypeId × Value → H) :
    ReturnsInHanded {} Try.checked os 3 .any (Rows.fileFormsSpec.pre6 enc Try.prog Try.f3 Rows.fileFormsRow.domain false) (Rows.fileFormsSpec.post enc Try.prog Try.f3 false true false false) := by
  refine returnsInHanded_of_change (C := Try.checked) own started (by kernel_rfl) Try.func3
    (ChangeSpec.witness6 (enc := enc) (C := Try.checked) false ⟨#[], #[.agg #[.int .i64 0, .int .i64 0, .slice none 0 0], .int .i64 0, .int .i64 0], []⟩ 8 (by kernel_rfl) (by kernel_rfl) (by kernel_rfl) (by kernel_rfl)) ?_
  intro W base args ds gs before hval0 hW hcnd _
  have hval : ∀ (j : Nat) t v, Try.f3.params[j]? = some t → args[j]? = some v → Value.okWide Try.prog W .any base t v := hval0
  have hW' := hW
  obtain ⟨p, q, hA0, hV, rfl, hfz, hnd⟩ := hW
  have hA : DataW.TrodAll enc Try.prog W 0 (fun _ => true) true Try.f3.params.toList args.toList ds p := hA0
  rw [Try.params3] at hA hval
  obtain ⟨v0, vs0, d0, ds0, p0, q0, hargs, rfl, rfl, h0, t0⟩ := trodAll_cons hA
  obtain ⟨v1, vs1, d1, ds1, p1, q1, rfl, rfl, rfl, h1, t1⟩ := trodAll_cons t0
  obtain ⟨v2, vs2, d2, ds2, p2, q2, rfl, rfl, rfl, h2, t2⟩ := trodAll_cons t1
  obtain ⟨rfl, rfl, rfl⟩ := trodAll_nil t2
  obtain rfl : args = #[v0, v1, v2] := by cases args; simp_all
  obtain ⟨rfl, rfl⟩ := trodVars_none hV
  have k0 : Reads enc W 24 v0 d0 p0 := h0
  have lt0 : ∀ x ∈ p0, x.block < W.heap.size := by obtain ⟨m, hm⟩ := k0; exact DataW.trod_lt m _ _ _ hm
  obtain ⟨S0, A0, c0, rfl, r0, wc0, w0⟩ := in_place (hval 0 24 v0 rfl rfl) k0
  have k1 : Reads enc W 3 v1 d1 p1 := h1
  have lt1 : ∀ x ∈ p1, x.block < W.heap.size := by obtain ⟨m, hm⟩ := k1; exact DataW.trod_lt m _ _ _ hm
  obtain ⟨n1, rfl, wl1, w1⟩ := in_int (hval 1 3 v1 rfl rfl) k1
  have k2 : Reads enc W 3 v2 d2 p2 := h2
  have lt2 : ∀ x ∈ p2, x.block < W.heap.size := by obtain ⟨m, hm⟩ := k2; exact DataW.trod_lt m _ _ _ hm
  obtain ⟨n2, rfl, wl2, w2⟩ := in_int (hval 2 3 v2 rfl rfl) k2
  clear hA0 hval0
  refine (walk S0 A0 c0 n1 n2 W r0 wc0 w0 wl1 w1 wl2 w2).mono fun e W' ⟨he, bel⟩ => ?_
  subst he
  exact ⟨_, rfl, _, _, _, [], _, [], hW', trodAll_mk1 (shut_bool Try.underlying4 _), (trodAll_cons_mk (Below.trod laidOut (by kernel_rfl) (of_decide_eq_true (by kernel_rfl)) k0 bel lt0) (trodAll_cons_mk (Below.trod laidOut (by kernel_rfl) (of_decide_eq_true (by kernel_rfl)) k1 bel lt1) (trodAll_cons_mk (Below.trod laidOut (by kernel_rfl) (of_decide_eq_true (by kernel_rfl)) k2 bel lt2) trodAll_mk0))), rfl, bel.frame _, fun h => by cases h⟩
theorem over : Rows.fileFormsRow.holds Try.pinned (OpenSpec.ofChange Rows.fileFormsSpec) :=
  OpenClaim.holds_of_wide 3 Try.f3 rfl rfl rfl rfl rfl rfl rfl ⟨rfl, rfl, rfl, rfl, rfl⟩ rfl rfl rfl rfl rfl (by kernel_rfl) Try.func3 (by kernel_rfl)
    (of_decide_eq_true (by kernel_rfl)) (by unfold Func.isWrapper; first | (rw [if_pos (by decide +kernel)]; kernel_rfl) | (rw [if_neg (by decide +kernel)]; exact ⟨rfl, rfl⟩))
    (fun os started H enc _ => lifted os started H enc)
theorem proved : Rows.FileFormsSaid := over
end Go.Proofs.Ytakocojbpdpflaa.fileForms
