/- For every place, kind and number: a disk that nobody made is neither read nor written by Read, Whole, Mend and Write (P7.2), and the example at the head holds; the arguments stay as they were. No condition. -/
import Derived.Test.YtakocojbpdpflaaFiLi
import Derived.Test.YtakocojbpdpflaaFiNil
import Derived.Test.YtakocojbpdpflaaInP
import Derived.Test.YtakocojbpdpflaaIns
import Derived.Test.YtakocojbpdpflaaSuA
import Derived.WalkKit
import Derived.ProofKit
import Derived.OpenShut
import Derived.ShutString
import Derived.ChangeOld
import Derived.Below
import Derived.Deep.RegionHeld
namespace Go.Proofs.Ytakocojbpdpflaa.fileNobody
open Go.ChangeShapes Go.WideShapes Go.ChangeAt Go.RowKit
set_option linter.unusedVariables false
theorem own : ownKnob Try.prog.godebug = none := by kernel_rfl
theorem laidOut : laidOutB Try.prog = true := by kernel_rfl
open Fr Fi
set_option maxRecDepth 100000 in
set_option maxHeartbeats 4000000 in
theorem walk (S0 : Fi.Pl) (A0 : Option Addr) (c0 : Nat) (n1 : Int) (n2 : Int) (w : World) (r0 : RdC 2 w A0 S0.ps.length (Fi.pv S0.ps)) (wc0 : S0.ps.length ≤ c0) (w0 : S0.ps.length ≤ 9223372036854775807) (wl1 : -9223372036854775808 ≤ n1) (w1 : n1 ≤ 9223372036854775807) (wl2 : -9223372036854775808 ≤ n2) (w2 : n2 ≤ 9223372036854775807) :
    Calls Try.prog 8 #[Fi.val S0 A0 c0, .int .i64 n1, .int .i64 n2] w fun e w' => e = .returned (.bool true) ∧ Below w.heap.size w w' := by
  -- heartbeats 4000000
  have hB0 : Below w.heap.size w (w.alloc (.cells #[.int .i64 S0.i, .int .i64 S0.e, .slice A0 S0.ps.length c0] 24)) := (Below.refl _ _).alloc (Nat.le_refl _) _
  have hk0 := Holds.new w #[.int .i64 S0.i, .int .i64 S0.e, .slice A0 S0.ps.length c0] 24
  have hlt := flight_any S0 A0 c0 (w.alloc (.cells #[.int .i64 S0.i, .int .i64 S0.e, .slice A0 S0.ps.length c0] 24)) wc0 w0
  have hrl := rd_lightP r0 rfl
  obtain ⟨T, hT⟩ : ∃ T, T = Fi.light S0 := ⟨_, rfl⟩
  have hTp : T.ps = S0.ps.take 66 := by rw [hT]; rfl
  rw [← hT] at hlt
  rw [← hTp] at hrl
  have HLt := Lib.hid hlt
  have HRl := Lib.hid hrl
  unfold Fi.val at HLt ⊢
  clear hlt hrl hT hTp r0 wc0 w0 wl1 w1 wl2 w2
  go_enter Try.func8, Try.ntmps8
  go_wp2_with fail
  refine HLt.out.mono ?_
  rintro e v1 ⟨rfl, hb1⟩
  have hB1 := hB0.trans (hb1.mono hB0.size)
  have hk1 := hk0.below hb1
  have f0 := hk1.2.2 0
  have f1 := hk1.2.2 1
  have f2 := hk1.2.2 2
  have z0 := hk1.at_ 0 rfl
  have z1 := hk1.at_ 1 rfl
  have z2 := hk1.at_ 2 rfl
  have hk2 := hk1.set3 (.int .i64 T.i) (.int .i64 T.e) (.slice A0 T.ps.length c0)
  have hB2 := ((hB1.setCell (p := ⟨w.heap.size, 0, none⟩) (Nat.le_refl _) (.int .i64 T.i)).setCell (p := ⟨w.heap.size, 1, none⟩) (Nat.le_refl _) (.int .i64 T.e)).setCell (p := ⟨w.heap.size, 2, none⟩) (Nat.le_refl _) (.slice A0 T.ps.length c0)
  have HK2 := Lib.hid hk2
  have HB2 := Lib.hid hB2
  clear hk2 hB2 hk1 hB1 hb1 hk0 hB0
  go_upto_region 3 with fail
  clear f0 f1 f2 z0 z1 z2
  generalize (((v1.setCell ⟨w.heap.size, 0, none⟩ (.int .i64 T.i)).setCell ⟨w.heap.size, 1, none⟩ (.int .i64 T.e)).setCell ⟨w.heap.size, 2, none⟩ (.slice A0 T.ps.length c0)) = v2 at *
  have hB3 : Below w.heap.size w ((v2.alloc (.cells #[.slice none 0 0, .map none, .int .i64 0, .bool false, .int .i64 0] 69)).alloc (.cells #[.pointer none, .pointer (some ⟨v2.heap.size, 0, none⟩)] 38)) := (HB2.out.alloc HB2.out.size _).alloc (by have := HB2.out.size; simp; omega) _
  have hK3 := (HK2.out.alloc (.cells #[.slice none 0 0, .map none, .int .i64 0, .bool false, .int .i64 0] 69)).alloc (.cells #[.pointer none, .pointer (some ⟨v2.heap.size, 0, none⟩)] 38)
  have hG3 := (Holds.new v2 #[.slice none 0 0, .map none, .int .i64 0, .bool false, .int .i64 0] 69).alloc (.cells #[.pointer none, .pointer (some ⟨v2.heap.size, 0, none⟩)] 38)
  have hW3 : Holds ((v2.alloc (.cells #[.slice none 0 0, .map none, .int .i64 0, .bool false, .int .i64 0] 69)).alloc (.cells #[.pointer none, .pointer (some ⟨v2.heap.size, 0, none⟩)] 38)) (v2.heap.size + 1) [.pointer none, .pointer (some ⟨v2.heap.size, 0, none⟩)] := by
    have := Holds.new (v2.alloc (.cells #[.slice none 0 0, .map none, .int .i64 0, .bool false, .int .i64 0] 69)) #[.pointer none, .pointer (some ⟨v2.heap.size, 0, none⟩)] 38
    simpa using this
  go_wp2_with fail
  generalize ((v2.alloc (.cells #[.slice none 0 0, .map none, .int .i64 0, .bool false, .int .i64 0] 69)).alloc (.cells #[.pointer none, .pointer (some ⟨v2.heap.size, 0, none⟩)] 38)) = v3 at *
  generalize v2.heap.size = g1 at *
  have HK3 := Lib.hid hK3
  have HB3 := Lib.hid hB3
  have HG3 := Lib.hid hG3
  have HW3 := Lib.hid hW3
  clear hK3 hB3 hG3 hW3
  refine wp_loop_rounds 3 ?_
  have HX := Lib.hid (Below.refl v3.heap.size v3)
  rw [rounds_succ]
  have r0 := (HW3.out.below HX.out).at_ 0 rfl
  have y0 := (HK3.out.below HX.out).at_ 0 rfl
  have y1 := (HK3.out.below HX.out).at_ 1 rfl
  have y2 := (HK3.out.below HX.out).at_ 2 rfl
  go_wp2_with fail
  clear r0 y0 y1 y2
  have HC := Lib.hid (read_nil (.pointer none) T A0 c0 n1 n2 v3 (.inl rfl))
  unfold Fi.val at HC
  refine HC.out.mono ?_
  rintro e u1 ⟨rfl, hb⟩
  have HX1 := Lib.hid (HX.out.trans (hb.mono HX.out.size))
  clear hb HC HX
  have y0 := (HK3.out.below HX1.out).at_ 0 rfl
  have y1 := (HK3.out.below HX1.out).at_ 1 rfl
  have y2 := (HK3.out.below HX1.out).at_ 2 rfl
  go_wp2_with fail
  clear y0 y1 y2
  have HC := Lib.hid (whole_nil (.pointer none) T A0 c0 n1 n2 u1 (.inl rfl))
  unfold Fi.val at HC
  refine HC.out.mono ?_
  rintro e u2 ⟨rfl, hb⟩
  have HX2 := Lib.hid (HX1.out.trans (hb.mono HX1.out.size))
  clear hb HC HX1
  have y0 := (HK3.out.below HX2.out).at_ 0 rfl
  have y1 := (HK3.out.below HX2.out).at_ 1 rfl
  have y2 := (HK3.out.below HX2.out).at_ 2 rfl
  go_wp2_with fail
  clear y0 y1 y2
  have HC := Lib.hid (mend_nil (.pointer none) T A0 c0 n1 n2 u2 (.inl rfl))
  unfold Fi.val at HC
  refine HC.out.mono ?_
  rintro e u3 ⟨rfl, hb⟩
  have HX3 := Lib.hid (HX2.out.trans (hb.mono HX2.out.size))
  clear hb HC HX2
  have y0 := (HK3.out.below HX3.out).at_ 0 rfl
  have y1 := (HK3.out.below HX3.out).at_ 1 rfl
  have y2 := (HK3.out.below HX3.out).at_ 2 rfl
  go_wp2_with fail
  clear y0 y1 y2
  have HC := Lib.hid (write_nil (.pointer none) T A0 c0 n1 T.e n2 none 0 0 u3 (.inl rfl))
  unfold Fi.val at HC
  refine HC.out.mono ?_
  rintro e u4 ⟨rfl, hb⟩
  have HX4 := Lib.hid (HX3.out.trans (hb.mono HX3.out.size))
  clear hb HC HX3
  go_wp2_with fail
  rw [rounds_succ]
  have r0 := (HW3.out.below HX4.out).at_ 1 rfl
  have y0 := (HK3.out.below HX4.out).at_ 0 rfl
  have y1 := (HK3.out.below HX4.out).at_ 1 rfl
  have y2 := (HK3.out.below HX4.out).at_ 2 rfl
  go_wp2_with fail
  clear r0 y0 y1 y2
  have HC := Lib.hid (read_nil (.pointer (some ⟨g1, 0, none⟩)) T A0 c0 n1 n2 u4 (.inr ⟨g1, rfl, HG3.out.below HX4.out⟩))
  unfold Fi.val at HC
  refine HC.out.mono ?_
  rintro e u5 ⟨rfl, hb⟩
  have HX5 := Lib.hid (HX4.out.trans (hb.mono HX4.out.size))
  clear hb HC HX4
  have y0 := (HK3.out.below HX5.out).at_ 0 rfl
  have y1 := (HK3.out.below HX5.out).at_ 1 rfl
  have y2 := (HK3.out.below HX5.out).at_ 2 rfl
  go_wp2_with fail
  clear y0 y1 y2
  have HC := Lib.hid (whole_nil (.pointer (some ⟨g1, 0, none⟩)) T A0 c0 n1 n2 u5 (.inr ⟨g1, rfl, HG3.out.below HX5.out⟩))
  unfold Fi.val at HC
  refine HC.out.mono ?_
  rintro e u6 ⟨rfl, hb⟩
  have HX6 := Lib.hid (HX5.out.trans (hb.mono HX5.out.size))
  clear hb HC HX5
  have y0 := (HK3.out.below HX6.out).at_ 0 rfl
  have y1 := (HK3.out.below HX6.out).at_ 1 rfl
  have y2 := (HK3.out.below HX6.out).at_ 2 rfl
  go_wp2_with fail
  clear y0 y1 y2
  have HC := Lib.hid (mend_nil (.pointer (some ⟨g1, 0, none⟩)) T A0 c0 n1 n2 u6 (.inr ⟨g1, rfl, HG3.out.below HX6.out⟩))
  unfold Fi.val at HC
  refine HC.out.mono ?_
  rintro e u7 ⟨rfl, hb⟩
  have HX7 := Lib.hid (HX6.out.trans (hb.mono HX6.out.size))
  clear hb HC HX6
  have y0 := (HK3.out.below HX7.out).at_ 0 rfl
  have y1 := (HK3.out.below HX7.out).at_ 1 rfl
  have y2 := (HK3.out.below HX7.out).at_ 2 rfl
  go_wp2_with fail
  clear y0 y1 y2
  have HC := Lib.hid (write_nil (.pointer (some ⟨g1, 0, none⟩)) T A0 c0 n1 T.e n2 none 0 0 u7 (.inr ⟨g1, rfl, HG3.out.below HX7.out⟩))
  unfold Fi.val at HC
  refine HC.out.mono ?_
  rintro e u8 ⟨rfl, hb⟩
  have HX8 := Lib.hid (HX7.out.trans (hb.mono HX7.out.size))
  clear hb HC HX7
  go_wp2_with fail
  rw [rounds_succ]
  go_wp2_with fail
  refine (awake_any _).mono ?_
  rintro e u9 ⟨rfl, hb⟩
  have HF := Lib.hid (HB3.out.trans ((HX8.out.mono HB3.out.size).trans (hb.mono (Nat.le_trans HB3.out.size HX8.out.size))))
  clear hb
  go_wp2_with fail
  go_ret
  exact ⟨rfl, HF.out⟩
set_option maxRecDepth 100000 in
theorem lifted (os : Os) (started : os.Started) (H : Type) (enc : TypeId × Value → H) :
    ReturnsInHanded {} Try.checked os 8 .any (Rows.fileNobodySpec.pre6 enc Try.prog Try.f8 Rows.fileNobodyRow.domain false) (Rows.fileNobodySpec.post enc Try.prog Try.f8 false true false false) := by
  refine returnsInHanded_of_change (C := Try.checked) own started (by kernel_rfl) Try.func8
    (ChangeSpec.witness6 (enc := enc) (C := Try.checked) false ⟨#[], #[.agg #[.int .i64 0, .int .i64 0, .slice none 0 0], .int .i64 0, .int .i64 0], []⟩ 8 (by kernel_rfl) (by kernel_rfl) (by kernel_rfl) (by kernel_rfl)) ?_
  intro W base args ds gs before hval0 hW hcnd _
  have hval : ∀ (j : Nat) t v, Try.f8.params[j]? = some t → args[j]? = some v → Value.okWide Try.prog W .any base t v := hval0
  have hW' := hW
  obtain ⟨p, q, hA0, hV, rfl, hfz, hnd⟩ := hW
  have hA : DataW.TrodAll enc Try.prog W 0 (fun _ => true) true Try.f8.params.toList args.toList ds p := hA0
  rw [Try.params8] at hA hval
  obtain ⟨v0, vs0, d0, ds0, p0, q0, hargs, rfl, rfl, h0, t0⟩ := trodAll_cons hA
  obtain ⟨v1, vs1, d1, ds1, p1, q1, rfl, rfl, rfl, h1, t1⟩ := trodAll_cons t0
  obtain ⟨v2, vs2, d2, ds2, p2, q2, rfl, rfl, rfl, h2, t2⟩ := trodAll_cons t1
  obtain ⟨rfl, rfl, rfl⟩ := trodAll_nil t2
  obtain rfl : args = #[v0, v1, v2] := by cases args; simp_all
  obtain ⟨rfl, rfl⟩ := trodVars_none hV
  have k0 : Reads enc W 24 v0 d0 p0 := h0
  have lt0 : ∀ x ∈ p0, x.block < W.heap.size := by obtain ⟨m, hm⟩ := k0; exact DataW.trod_lt m _ _ _ hm
  obtain ⟨S0, A0, c0, rfl, r0, wc0, w0⟩ := in_place (hval 0 24 v0 rfl rfl) k0
  have k1 : Reads enc W 45 v1 d1 p1 := h1
  have lt1 : ∀ x ∈ p1, x.block < W.heap.size := by obtain ⟨m, hm⟩ := k1; exact DataW.trod_lt m _ _ _ hm
  obtain ⟨n1, rfl, wl1, w1⟩ := in_fkind (hval 1 45 v1 rfl rfl) k1
  have k2 : Reads enc W 3 v2 d2 p2 := h2
  have lt2 : ∀ x ∈ p2, x.block < W.heap.size := by obtain ⟨m, hm⟩ := k2; exact DataW.trod_lt m _ _ _ hm
  obtain ⟨n2, rfl, wl2, w2⟩ := in_int (hval 2 3 v2 rfl rfl) k2
  clear hA0 hval0
  refine (walk S0 A0 c0 n1 n2 W r0 wc0 w0 wl1 w1 wl2 w2).mono fun e W' ⟨he, bel⟩ => ?_
  subst he
  exact ⟨_, rfl, _, _, _, [], _, [], hW', trodAll_mk1 (shut_bool Try.underlying4 _), (trodAll_cons_mk (Below.trod laidOut (by kernel_rfl) (of_decide_eq_true (by kernel_rfl)) k0 bel lt0) (trodAll_cons_mk (Below.trod laidOut (by kernel_rfl) (of_decide_eq_true (by kernel_rfl)) k1 bel lt1) (trodAll_cons_mk (Below.trod laidOut (by kernel_rfl) (of_decide_eq_true (by kernel_rfl)) k2 bel lt2) trodAll_mk0))), rfl, bel.frame _, fun h => by cases h⟩
theorem over : Rows.fileNobodyRow.holds Try.pinned (OpenSpec.ofChange Rows.fileNobodySpec) :=
  OpenClaim.holds_of_wide 8 Try.f8 rfl rfl rfl rfl rfl rfl rfl ⟨rfl, rfl, rfl, rfl, rfl⟩ rfl rfl rfl rfl rfl (by kernel_rfl) Try.func8 (by kernel_rfl)
    (of_decide_eq_true (by kernel_rfl)) (by unfold Func.isWrapper; first | (rw [if_pos (by decide +kernel)]; kernel_rfl) | (rw [if_neg (by decide +kernel)]; exact ⟨rfl, rfl⟩))
    (fun os started H enc _ => lifted os started H enc)
theorem proved : Rows.FileNobodySaid := over
end Go.Proofs.Ytakocojbpdpflaa.fileNobody
