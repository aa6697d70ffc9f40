/- For every superblock: a disk that nobody made has none, and is not written (P5.2), and the example at the head holds; the argument stays as it was. No condition. -/
import Derived.Test.YtbdomhookjmmgaaSuNil
import Derived.Test.YtbdomhookjmmgaaSuW
import Derived.Test.YtbdomhookjmmgaaSuSame
import Derived.Test.YtbdomhookjmmgaaSuR
import Derived.Test.YtbdomhookjmmgaaInS
import Derived.Test.YtbdomhookjmmgaaSuA
import Derived.WalkKit
import Derived.ProofKit
import Derived.OpenShut
import Derived.ShutString
import Derived.ChangeOld
import Derived.Below
import Derived.Deep.RegionHeld
namespace Go.Proofs.Ytbdomhookjmmgaa.superNobody
open Go.ChangeShapes Go.WideShapes Go.ChangeAt Go.RowKit
set_option linter.unusedVariables false
theorem own : ownKnob Try.prog.godebug = none := by kernel_rfl
theorem laidOut : laidOutB Try.prog = true := by kernel_rfl
theorem same_zero (w : World) : Calls Try.prog 17 #[.agg #[.int .i64 0, .int .i64 0, .int .i64 0, .int .i64 0, .slice none 0 0], .agg #[.int .i64 0, .int .i64 0, .int .i64 0, .int .i64 0, .slice none 0 0]] w fun e w' => e = .returned (.bool true) ∧ Below w.heap.size w w' := by
  have := same_su Su.none_ Su.none_ none none 0 0 w (RdC.nil _ _ _) (RdC.nil _ _ _) (by decide) (by decide)
  rw [Su.eqS_iff.2 rfl] at this
  exact this
set_option maxRecDepth 100000 in
set_option maxHeartbeats 4000000 in
theorem walk (S0 : Su.S) (A0 : Option Addr) (c0 : Nat) (w : World) (r0 : RdC 2 w A0 S0.ps.length (Su.pv S0.ps)) (wc0 : S0.ps.length ≤ c0) (w0 : S0.ps.length ≤ 9223372036854775807) :
    Calls Try.prog 9 #[Su.val S0 A0 c0] w fun e w' => e = .returned (.bool true) ∧ Below w.heap.size w w' := by
  -- heartbeats 4000000
  have hB0 : Below w.heap.size w (w.alloc (.cells #[.int .i64 S0.g, .int .i64 S0.e, .int .i64 S0.i, .int .i64 S0.m, .slice A0 S0.ps.length c0] 26)) := (Below.refl _ _).alloc (Nat.le_refl _) _
  have hk0 := Holds.new w #[.int .i64 S0.g, .int .i64 S0.e, .int .i64 S0.i, .int .i64 S0.m, .slice A0 S0.ps.length c0] 26
  have hlt := light_any S0 A0 c0 (w.alloc (.cells #[.int .i64 S0.g, .int .i64 S0.e, .int .i64 S0.i, .int .i64 S0.m, .slice A0 S0.ps.length c0] 26)) wc0 w0
  have hrl := rd_light r0 rfl
  obtain ⟨T, hT⟩ : ∃ T, T = Su.light S0 := ⟨_, rfl⟩
  have hTp : T.ps = S0.ps.take 10 := by rw [hT]; rfl
  rw [← hT] at hlt
  rw [← hTp] at hrl
  have HLt := Lib.hid hlt
  have HRl := Lib.hid hrl
  unfold Su.val at HLt ⊢
  clear hlt hrl hT hTp r0 wc0 w0
  go_enter Try.func9, Try.ntmps9
  go_wp2_with fail
  refine HLt.out.mono ?_
  rintro e v1 ⟨rfl, hb1⟩
  have hB1 := hB0.trans (hb1.mono hB0.size)
  have hk1 := hk0.below hb1
  have f0 := hk1.2.2 0
  have f1 := hk1.2.2 1
  have f2 := hk1.2.2 2
  have f3 := hk1.2.2 3
  have f4 := hk1.2.2 4
  have z0 := hk1.at_ 0 rfl
  have z1 := hk1.at_ 1 rfl
  have z2 := hk1.at_ 2 rfl
  have z3 := hk1.at_ 3 rfl
  have z4 := hk1.at_ 4 rfl
  have hk2 := hk1.set5 (.int .i64 T.g) (.int .i64 T.e) (.int .i64 T.i) (.int .i64 T.m) (.slice A0 T.ps.length c0)
  have hR2 := rd_apart (b := w.heap.size) HRl.out (Nat.le_refl _) hB1 (.int .i64 T.g) (.int .i64 T.e) (.int .i64 T.i) (.int .i64 T.m) (.slice A0 T.ps.length c0)
  have hB2 := below_set5' hB1 (b := w.heap.size) (Nat.le_refl _) (.int .i64 T.g) (.int .i64 T.e) (.int .i64 T.i) (.int .i64 T.m) (.slice A0 T.ps.length c0)
  have HK2 := Lib.hid hk2
  have HR2 := Lib.hid hR2
  have HB2 := Lib.hid hB2
  have y0 := hk2.at_ 0 rfl
  have y1 := hk2.at_ 1 rfl
  have y2 := hk2.at_ 2 rfl
  have y3 := hk2.at_ 3 rfl
  have y4 := hk2.at_ 4 rfl
  clear hk2 hR2 hB2 hk1 hB1 hb1 hk0 hB0
  go_upto_region 3 with fail
  clear f0 f1 f2 f3 f4 z0 z1 z2 z3 z4 y0 y1 y2 y3 y4
  generalize (((((v1.setCell ⟨w.heap.size, 0, none⟩ (.int .i64 T.g)).setCell ⟨w.heap.size, 1, none⟩ (.int .i64 T.e)).setCell ⟨w.heap.size, 2, none⟩ (.int .i64 T.i)).setCell ⟨w.heap.size, 3, none⟩ (.int .i64 T.m)).setCell ⟨w.heap.size, 4, none⟩ (.slice A0 T.ps.length c0)) = v2 at *
  have hB3 : Below w.heap.size w ((v2.alloc (.cells #[.slice none 0 0, .map none, .int .i64 0, .bool false, .int .i64 0] 89)).alloc (.cells #[.pointer none, .pointer (some ⟨v2.heap.size, 0, none⟩)] 45)) := (HB2.out.alloc HB2.out.size _).alloc (by have := HB2.out.size; simp; omega) _
  have hK3 := (HK2.out.alloc (.cells #[.slice none 0 0, .map none, .int .i64 0, .bool false, .int .i64 0] 89)).alloc (.cells #[.pointer none, .pointer (some ⟨v2.heap.size, 0, none⟩)] 45)
  have hR3 := (HR2.out.alloc (.cells #[.slice none 0 0, .map none, .int .i64 0, .bool false, .int .i64 0] 89)).alloc (.cells #[.pointer none, .pointer (some ⟨v2.heap.size, 0, none⟩)] 45)
  have hG3 := (Holds.new v2 #[.slice none 0 0, .map none, .int .i64 0, .bool false, .int .i64 0] 89).alloc (.cells #[.pointer none, .pointer (some ⟨v2.heap.size, 0, none⟩)] 45)
  have hW3 : Holds ((v2.alloc (.cells #[.slice none 0 0, .map none, .int .i64 0, .bool false, .int .i64 0] 89)).alloc (.cells #[.pointer none, .pointer (some ⟨v2.heap.size, 0, none⟩)] 45)) (v2.heap.size + 1) [.pointer none, .pointer (some ⟨v2.heap.size, 0, none⟩)] := by
    have := Holds.new (v2.alloc (.cells #[.slice none 0 0, .map none, .int .i64 0, .bool false, .int .i64 0] 89)) #[.pointer none, .pointer (some ⟨v2.heap.size, 0, none⟩)] 45
    simpa using this
  go_wp2_with fail
  generalize ((v2.alloc (.cells #[.slice none 0 0, .map none, .int .i64 0, .bool false, .int .i64 0] 89)).alloc (.cells #[.pointer none, .pointer (some ⟨v2.heap.size, 0, none⟩)] 45)) = v3 at *
  generalize v2.heap.size = g1 at *
  have HK3 := Lib.hid hK3
  have HR3 := Lib.hid hR3
  have HB3 := Lib.hid hB3
  have HG3 := Lib.hid hG3
  have HW3 := Lib.hid hW3
  clear hK3 hR3 hB3 hG3 hW3
  refine wp_loop_rounds 3 ?_
  have hb0 : Below v3.heap.size v3 v3 := Below.refl _ _
  by_cases hok : Su.ok T = true
  · have HOk := Lib.hid hok
    clear hok
    rw [rounds_succ]
    have r0 := (HW3.out.below hb0).at_ 0 rfl
    go_wp2_with fail
    clear r0
    refine (load_nod (.pointer none) _ (.inl rfl)).mono ?_
    rintro e a0 ⟨rfl, hb⟩
    have x01 := below_next2 hb0 hb hb0.size
    have hx0 := Holds.new a0 #[.int .i64 0, .int .i64 0, .int .i64 0, .int .i64 0, .slice none 0 0] 26
    have x02 := x01.alloc x01.size (.cells #[.int .i64 0, .int .i64 0, .int .i64 0, .int .i64 0, .slice none 0 0] 26)
    clear hb x01
    go_wp2_with fail
    generalize a0.alloc (.cells #[.int .i64 0, .int .i64 0, .int .i64 0, .int .i64 0, .slice none 0 0] 26) = b0 at *
    generalize a0.heap.size = sx0 at *
    refine (mend_nod (.pointer none) _ (.inl rfl)).mono ?_
    rintro e d0 ⟨rfl, hb⟩
    have hxd := hx0.below hb
    have x03 := below_next2 x02 hb x02.size
    have y0 := (HK3.out.below x03).at_ 0 rfl
    have y1 := (HK3.out.below x03).at_ 1 rfl
    have y2 := (HK3.out.below x03).at_ 2 rfl
    have y3 := (HK3.out.below x03).at_ 3 rfl
    have y4 := (HK3.out.below x03).at_ 4 rfl
    clear hb hx0 x02
    go_wp2_with fail
    clear y0 y1 y2 y3 y4
    have HSv := Lib.hid (save_nod (.pointer none) T A0 c0 _ (.inl rfl) (HR3.out.below x03))
    unfold Su.val at HSv
    rw [HOk.out] at HSv
    refine HSv.out.mono ?_
    rintro e f0 ⟨rfl, hb⟩
    clear HSv
    have hxf := hxd.below hb
    have x04 := below_next2 x03 hb x03.size
    have u0 := hxf.at_ 0 rfl
    have u1 := hxf.at_ 1 rfl
    have u2 := hxf.at_ 2 rfl
    have u3 := hxf.at_ 3 rfl
    have u4 := hxf.at_ 4 rfl
    clear hb hxd x03
    go_wp2_with fail
    refine (same_zero _).mono ?_
    rintro e h0 ⟨rfl, hb⟩
    have x05 := below_next2 x04 hb x04.size
    have y0 := (HK3.out.below x05).at_ 0 rfl
    have y1 := (HK3.out.below x05).at_ 1 rfl
    have y2 := (HK3.out.below x05).at_ 2 rfl
    have y3 := (HK3.out.below x05).at_ 3 rfl
    have y4 := (HK3.out.below x05).at_ 4 rfl
    clear hb hxf u0 u1 u2 u3 u4 x04
    go_wp2_with fail
    clear y0 y1 y2 y3 y4
    have HI := Lib.hid (is_any T A0 c0 _ (HR3.out.below x05))
    unfold Su.val at HI
    rw [HOk.out] at HI
    refine HI.out.mono ?_
    rintro e k01 ⟨rfl, hb⟩
    have x06 := below_next2 x05 hb x05.size
    have y0 := (HK3.out.below x06).at_ 0 rfl
    have y1 := (HK3.out.below x06).at_ 1 rfl
    have y2 := (HK3.out.below x06).at_ 2 rfl
    have y3 := (HK3.out.below x06).at_ 3 rfl
    have y4 := (HK3.out.below x06).at_ 4 rfl
    clear hb HI x05
    go_wp2_with fail
    clear y0 y1 y2 y3 y4
    have HI := Lib.hid (is_any T A0 c0 _ (HR3.out.below x06))
    unfold Su.val at HI
    rw [HOk.out] at HI
    refine HI.out.mono ?_
    rintro e k02 ⟨rfl, hb⟩
    have x07 := below_next2 x06 hb x06.size
    clear hb HI x06
    go_wp2_with fail
    rw [rounds_succ]
    have r0 := (HW3.out.below x07).at_ 1 rfl
    go_wp2_with fail
    clear r0
    refine (load_nod (.pointer (some ⟨g1, 0, none⟩)) _ (.inr ⟨g1, rfl, HG3.out.below x07⟩)).mono ?_
    rintro e a1 ⟨rfl, hb⟩
    have x11 := below_next2 x07 hb x07.size
    have hx1 := Holds.new a1 #[.int .i64 0, .int .i64 0, .int .i64 0, .int .i64 0, .slice none 0 0] 26
    have x12 := x11.alloc x11.size (.cells #[.int .i64 0, .int .i64 0, .int .i64 0, .int .i64 0, .slice none 0 0] 26)
    clear hb x11
    go_wp2_with fail
    generalize a1.alloc (.cells #[.int .i64 0, .int .i64 0, .int .i64 0, .int .i64 0, .slice none 0 0] 26) = b1 at *
    generalize a1.heap.size = sx1 at *
    refine (mend_nod (.pointer (some ⟨g1, 0, none⟩)) _ (.inr ⟨g1, rfl, HG3.out.below x12⟩)).mono ?_
    rintro e d1 ⟨rfl, hb⟩
    have hxd := hx1.below hb
    have x13 := below_next2 x12 hb x12.size
    have y0 := (HK3.out.below x13).at_ 0 rfl
    have y1 := (HK3.out.below x13).at_ 1 rfl
    have y2 := (HK3.out.below x13).at_ 2 rfl
    have y3 := (HK3.out.below x13).at_ 3 rfl
    have y4 := (HK3.out.below x13).at_ 4 rfl
    clear hb hx1 x12
    go_wp2_with fail
    clear y0 y1 y2 y3 y4
    have HSv := Lib.hid (save_nod (.pointer (some ⟨g1, 0, none⟩)) T A0 c0 _ (.inr ⟨g1, rfl, HG3.out.below x13⟩) (HR3.out.below x13))
    unfold Su.val at HSv
    rw [HOk.out] at HSv
    refine HSv.out.mono ?_
    rintro e f1 ⟨rfl, hb⟩
    clear HSv
    have hxf := hxd.below hb
    have x14 := below_next2 x13 hb x13.size
    have u0 := hxf.at_ 0 rfl
    have u1 := hxf.at_ 1 rfl
    have u2 := hxf.at_ 2 rfl
    have u3 := hxf.at_ 3 rfl
    have u4 := hxf.at_ 4 rfl
    clear hb hxd x13
    go_wp2_with fail
    refine (same_zero _).mono ?_
    rintro e h1 ⟨rfl, hb⟩
    have x15 := below_next2 x14 hb x14.size
    have y0 := (HK3.out.below x15).at_ 0 rfl
    have y1 := (HK3.out.below x15).at_ 1 rfl
    have y2 := (HK3.out.below x15).at_ 2 rfl
    have y3 := (HK3.out.below x15).at_ 3 rfl
    have y4 := (HK3.out.below x15).at_ 4 rfl
    clear hb hxf u0 u1 u2 u3 u4 x14
    go_wp2_with fail
    clear y0 y1 y2 y3 y4
    have HI := Lib.hid (is_any T A0 c0 _ (HR3.out.below x15))
    unfold Su.val at HI
    rw [HOk.out] at HI
    refine HI.out.mono ?_
    rintro e k11 ⟨rfl, hb⟩
    have x16 := below_next2 x15 hb x15.size
    have y0 := (HK3.out.below x16).at_ 0 rfl
    have y1 := (HK3.out.below x16).at_ 1 rfl
    have y2 := (HK3.out.below x16).at_ 2 rfl
    have y3 := (HK3.out.below x16).at_ 3 rfl
    have y4 := (HK3.out.below x16).at_ 4 rfl
    clear hb HI x15
    go_wp2_with fail
    clear y0 y1 y2 y3 y4
    have HI := Lib.hid (is_any T A0 c0 _ (HR3.out.below x16))
    unfold Su.val at HI
    rw [HOk.out] at HI
    refine HI.out.mono ?_
    rintro e k12 ⟨rfl, hb⟩
    have x17 := below_next2 x16 hb x16.size
    clear hb HI x16
    go_wp2_with fail
    rw [rounds_succ]
    go_wp2_with fail
    have HBz := Lib.hid (HB3.out.trans (x17.mono HB3.out.size))
    refine (awake_any _).mono ?_
    rintro e z ⟨rfl, hb⟩
    have HBy := Lib.hid (HBz.out.trans (hb.mono HBz.out.size))
    clear hb
    go_wp2_with fail
    go_ret
    exact ⟨rfl, HBy.out⟩
  · have HOk := Lib.hid (show Su.ok T = false by simpa using hok)
    clear hok
    rw [rounds_succ]
    have r0 := (HW3.out.below hb0).at_ 0 rfl
    go_wp2_with fail
    clear r0
    refine (load_nod (.pointer none) _ (.inl rfl)).mono ?_
    rintro e a0 ⟨rfl, hb⟩
    have x01 := below_next2 hb0 hb hb0.size
    have hx0 := Holds.new a0 #[.int .i64 0, .int .i64 0, .int .i64 0, .int .i64 0, .slice none 0 0] 26
    have x02 := x01.alloc x01.size (.cells #[.int .i64 0, .int .i64 0, .int .i64 0, .int .i64 0, .slice none 0 0] 26)
    clear hb x01
    go_wp2_with fail
    generalize a0.alloc (.cells #[.int .i64 0, .int .i64 0, .int .i64 0, .int .i64 0, .slice none 0 0] 26) = b0 at *
    generalize a0.heap.size = sx0 at *
    refine (mend_nod (.pointer none) _ (.inl rfl)).mono ?_
    rintro e d0 ⟨rfl, hb⟩
    have hxd := hx0.below hb
    have x03 := below_next2 x02 hb x02.size
    have y0 := (HK3.out.below x03).at_ 0 rfl
    have y1 := (HK3.out.below x03).at_ 1 rfl
    have y2 := (HK3.out.below x03).at_ 2 rfl
    have y3 := (HK3.out.below x03).at_ 3 rfl
    have y4 := (HK3.out.below x03).at_ 4 rfl
    clear hb hx0 x02
    go_wp2_with fail
    clear y0 y1 y2 y3 y4
    have HSv := Lib.hid (save_nod (.pointer none) T A0 c0 _ (.inl rfl) (HR3.out.below x03))
    unfold Su.val at HSv
    rw [HOk.out] at HSv
    refine HSv.out.mono ?_
    rintro e f0 ⟨rfl, hb⟩
    clear HSv
    have hxf := hxd.below hb
    have x04 := below_next2 x03 hb x03.size
    have u0 := hxf.at_ 0 rfl
    have u1 := hxf.at_ 1 rfl
    have u2 := hxf.at_ 2 rfl
    have u3 := hxf.at_ 3 rfl
    have u4 := hxf.at_ 4 rfl
    clear hb hxd x03
    go_wp2_with fail
    refine (same_zero _).mono ?_
    rintro e h0 ⟨rfl, hb⟩
    have x05 := below_next2 x04 hb x04.size
    have y0 := (HK3.out.below x05).at_ 0 rfl
    have y1 := (HK3.out.below x05).at_ 1 rfl
    have y2 := (HK3.out.below x05).at_ 2 rfl
    have y3 := (HK3.out.below x05).at_ 3 rfl
    have y4 := (HK3.out.below x05).at_ 4 rfl
    clear hb hxf u0 u1 u2 u3 u4 x04
    go_wp2_with fail
    clear y0 y1 y2 y3 y4
    have HI := Lib.hid (is_any T A0 c0 _ (HR3.out.below x05))
    unfold Su.val at HI
    rw [HOk.out] at HI
    refine HI.out.mono ?_
    rintro e k01 ⟨rfl, hb⟩
    have x06 := below_next2 x05 hb x05.size
    have y0 := (HK3.out.below x06).at_ 0 rfl
    have y1 := (HK3.out.below x06).at_ 1 rfl
    have y2 := (HK3.out.below x06).at_ 2 rfl
    have y3 := (HK3.out.below x06).at_ 3 rfl
    have y4 := (HK3.out.below x06).at_ 4 rfl
    clear hb HI x05
    go_wp2_with fail
    clear y0 y1 y2 y3 y4
    have HI := Lib.hid (is_any T A0 c0 _ (HR3.out.below x06))
    unfold Su.val at HI
    rw [HOk.out] at HI
    refine HI.out.mono ?_
    rintro e k02 ⟨rfl, hb⟩
    have x07 := below_next2 x06 hb x06.size
    clear hb HI x06
    go_wp2_with fail
    rw [rounds_succ]
    have r0 := (HW3.out.below x07).at_ 1 rfl
    go_wp2_with fail
    clear r0
    refine (load_nod (.pointer (some ⟨g1, 0, none⟩)) _ (.inr ⟨g1, rfl, HG3.out.below x07⟩)).mono ?_
    rintro e a1 ⟨rfl, hb⟩
    have x11 := below_next2 x07 hb x07.size
    have hx1 := Holds.new a1 #[.int .i64 0, .int .i64 0, .int .i64 0, .int .i64 0, .slice none 0 0] 26
    have x12 := x11.alloc x11.size (.cells #[.int .i64 0, .int .i64 0, .int .i64 0, .int .i64 0, .slice none 0 0] 26)
    clear hb x11
    go_wp2_with fail
    generalize a1.alloc (.cells #[.int .i64 0, .int .i64 0, .int .i64 0, .int .i64 0, .slice none 0 0] 26) = b1 at *
    generalize a1.heap.size = sx1 at *
    refine (mend_nod (.pointer (some ⟨g1, 0, none⟩)) _ (.inr ⟨g1, rfl, HG3.out.below x12⟩)).mono ?_
    rintro e d1 ⟨rfl, hb⟩
    have hxd := hx1.below hb
    have x13 := below_next2 x12 hb x12.size
    have y0 := (HK3.out.below x13).at_ 0 rfl
    have y1 := (HK3.out.below x13).at_ 1 rfl
    have y2 := (HK3.out.below x13).at_ 2 rfl
    have y3 := (HK3.out.below x13).at_ 3 rfl
    have y4 := (HK3.out.below x13).at_ 4 rfl
    clear hb hx1 x12
    go_wp2_with fail
    clear y0 y1 y2 y3 y4
    have HSv := Lib.hid (save_nod (.pointer (some ⟨g1, 0, none⟩)) T A0 c0 _ (.inr ⟨g1, rfl, HG3.out.below x13⟩) (HR3.out.below x13))
    unfold Su.val at HSv
    rw [HOk.out] at HSv
    refine HSv.out.mono ?_
    rintro e f1 ⟨rfl, hb⟩
    clear HSv
    have hxf := hxd.below hb
    have x14 := below_next2 x13 hb x13.size
    have u0 := hxf.at_ 0 rfl
    have u1 := hxf.at_ 1 rfl
    have u2 := hxf.at_ 2 rfl
    have u3 := hxf.at_ 3 rfl
    have u4 := hxf.at_ 4 rfl
    clear hb hxd x13
    go_wp2_with fail
    refine (same_zero _).mono ?_
    rintro e h1 ⟨rfl, hb⟩
    have x15 := below_next2 x14 hb x14.size
    have y0 := (HK3.out.below x15).at_ 0 rfl
    have y1 := (HK3.out.below x15).at_ 1 rfl
    have y2 := (HK3.out.below x15).at_ 2 rfl
    have y3 := (HK3.out.below x15).at_ 3 rfl
    have y4 := (HK3.out.below x15).at_ 4 rfl
    clear hb hxf u0 u1 u2 u3 u4 x14
    go_wp2_with fail
    clear y0 y1 y2 y3 y4
    have HI := Lib.hid (is_any T A0 c0 _ (HR3.out.below x15))
    unfold Su.val at HI
    rw [HOk.out] at HI
    refine HI.out.mono ?_
    rintro e k11 ⟨rfl, hb⟩
    have x16 := below_next2 x15 hb x15.size
    have y0 := (HK3.out.below x16).at_ 0 rfl
    have y1 := (HK3.out.below x16).at_ 1 rfl
    have y2 := (HK3.out.below x16).at_ 2 rfl
    have y3 := (HK3.out.below x16).at_ 3 rfl
    have y4 := (HK3.out.below x16).at_ 4 rfl
    clear hb HI x15
    go_wp2_with fail
    clear y0 y1 y2 y3 y4
    have HI := Lib.hid (is_any T A0 c0 _ (HR3.out.below x16))
    unfold Su.val at HI
    rw [HOk.out] at HI
    refine HI.out.mono ?_
    rintro e k12 ⟨rfl, hb⟩
    have x17 := below_next2 x16 hb x16.size
    clear hb HI x16
    go_wp2_with fail
    rw [rounds_succ]
    go_wp2_with fail
    have HBz := Lib.hid (HB3.out.trans (x17.mono HB3.out.size))
    refine (awake_any _).mono ?_
    rintro e z ⟨rfl, hb⟩
    have HBy := Lib.hid (HBz.out.trans (hb.mono HBz.out.size))
    clear hb
    go_wp2_with fail
    go_ret
    exact ⟨rfl, HBy.out⟩
set_option maxRecDepth 100000 in
theorem lifted (os : Os) (started : os.Started) (H : Type) (enc : TypeId × Value → H) :
    ReturnsInHanded {} Try.checked os 9 .any (Rows.superNobodySpec.pre6 enc Try.prog Try.f9 Rows.superNobodyRow.domain false) (Rows.superNobodySpec.post enc Try.prog Try.f9 false true false false) := by
  refine returnsInHanded_of_change (C := Try.checked) own started (by kernel_rfl) Try.func9
    (ChangeSpec.witness6 (enc := enc) (C := Try.checked) false ⟨#[], #[.agg #[.int .i64 0, .int .i64 0, .int .i64 0, .int .i64 0, .slice none 0 0]], []⟩ 8 (by kernel_rfl) (by kernel_rfl) (by kernel_rfl) (by kernel_rfl)) ?_
  intro W base args ds gs before hval0 hW hcnd _
  have hval : ∀ (j : Nat) t v, Try.f9.params[j]? = some t → args[j]? = some v → Value.okWide Try.prog W .any base t v := hval0
  have hW' := hW
  obtain ⟨p, q, hA0, hV, rfl, hfz, hnd⟩ := hW
  have hA : DataW.TrodAll enc Try.prog W 0 (fun _ => true) true Try.f9.params.toList args.toList ds p := hA0
  rw [Try.params9] at hA hval
  obtain ⟨v0, vs0, d0, ds0, p0, q0, hargs, rfl, rfl, h0, t0⟩ := trodAll_cons hA
  obtain ⟨rfl, rfl, rfl⟩ := trodAll_nil t0
  obtain rfl : args = #[v0] := by cases args; simp_all
  obtain ⟨rfl, rfl⟩ := trodVars_none hV
  have k0 : Reads enc W 26 v0 d0 p0 := h0
  have lt0 : ∀ x ∈ p0, x.block < W.heap.size := by obtain ⟨m, hm⟩ := k0; exact DataW.trod_lt m _ _ _ hm
  obtain ⟨S0, A0, c0, rfl, r0, wc0, w0⟩ := in_super (hval 0 26 v0 rfl rfl) k0
  clear hA0 hval0
  refine (walk S0 A0 c0 W r0 wc0 w0).mono fun e W' ⟨he, bel⟩ => ?_
  subst he
  exact ⟨_, rfl, _, _, _, [], _, [], hW', trodAll_mk1 (shut_bool Try.underlying4 _), (trodAll_cons_mk (Below.trod laidOut (by kernel_rfl) (of_decide_eq_true (by kernel_rfl)) k0 bel lt0) trodAll_mk0), rfl, bel.frame _, fun h => by cases h⟩
theorem over : Rows.superNobodyRow.holds Try.pinned (OpenSpec.ofChange Rows.superNobodySpec) :=
  OpenClaim.holds_of_wide 9 Try.f9 rfl rfl rfl rfl rfl rfl rfl ⟨rfl, rfl, rfl, rfl, rfl⟩ rfl rfl rfl rfl rfl (by kernel_rfl) Try.func9 (by kernel_rfl)
    (of_decide_eq_true (by kernel_rfl)) (by unfold Func.isWrapper; first | (rw [if_pos (by decide +kernel)]; kernel_rfl) | (rw [if_neg (by decide +kernel)]; exact ⟨rfl, rfl⟩))
    (fun os started H enc _ => lifted os started H enc)
theorem proved : Rows.SuperNobodySaid := over
end Go.Proofs.Ytbdomhookjmmgaa.superNobody
