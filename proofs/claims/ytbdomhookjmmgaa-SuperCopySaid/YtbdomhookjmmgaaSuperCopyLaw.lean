/- For every two superblocks, a bool, a number and a mask: if one copy of the newest superblock's slot is spoilt by the mask, it is loaded still, and both copies are whole behind a mending, unless what is spoilt is a frame by chance (P5.7), and the example at the head holds; the arguments stay as they were. No condition. -/
import Derived.Test.YtbdomhookjmmgaaSuEl
import Derived.Test.YtbdomhookjmmgaaSuCq
import Derived.Test.YtbdomhookjmmgaaSuMend
import Derived.Test.YtbdomhookjmmgaaSuLoad
import Derived.Test.YtbdomhookjmmgaaSuStr
import Derived.Test.YtbdomhookjmmgaaSuW
import Derived.Test.YtbdomhookjmmgaaSuSame
import Derived.Test.YtbdomhookjmmgaaSuSave
import Derived.Test.YtbdomhookjmmgaaSuR
import Derived.Test.YtbdomhookjmmgaaInS
import Derived.Test.YtbdomhookjmmgaaSuA
import Derived.WalkKit
import Derived.ProofKit
import Derived.OpenShut
import Derived.ShutString
import Derived.ChangeOld
import Derived.Below
import Derived.Deep.RegionHeld
namespace Go.Proofs.Ytbdomhookjmmgaa.superCopy
open Go.ChangeShapes Go.WideShapes Go.ChangeAt Go.RowKit
set_option linter.unusedVariables false
theorem own : ownKnob Try.prog.godebug = none := by kernel_rfl
theorem laidOut : laidOutB Try.prog = true := by kernel_rfl
set_option maxRecDepth 100000 in
set_option maxHeartbeats 8000000 in
theorem walk (S0 : Su.S) (A0 : Option Addr) (c0 : Nat) (S1 : Su.S) (A1 : Option Addr) (c1 : Nat) (b2 : Bool) (n3 : Nat) (n4 : Nat) (w : World) (r0 : RdC 2 w A0 S0.ps.length (Su.pv S0.ps)) (wc0 : S0.ps.length ≤ c0) (w0 : S0.ps.length ≤ 9223372036854775807) (r1 : RdC 2 w A1 S1.ps.length (Su.pv S1.ps)) (wc1 : S1.ps.length ≤ c1) (w1 : S1.ps.length ≤ 9223372036854775807) (w3 : n3 < 18446744073709551616) (w4 : n4 < 256) :
    Calls Try.prog 8 #[Su.val S0 A0 c0, Su.val S1 A1 c1, .bool b2, .int .u64 (n3 : Int), .int .u8 (n4 : Int)] w fun e w' => e = .returned (.bool true) ∧ Below w.heap.size w w' := by
  -- heartbeats 8000000
  have hB0 : ∀ x tx y ty, Below w.heap.size w ((w.alloc (.cells x tx)).alloc (.cells y ty)) := fun x tx y ty => by repeat (first | exact Below.refl _ _ | refine Below.alloc ?_ (by simp <;> omega) _)
  have HB0 := Lib.hid hB0
  have hk0 := (Holds.new w #[.int .i64 S0.g, .int .i64 S0.e, .int .i64 S0.i, .int .i64 S0.m, .slice A0 S0.ps.length c0] 26).alloc (.cells #[.int .i64 S1.g, .int .i64 S1.e, .int .i64 S1.i, .int .i64 S1.m, .slice A1 S1.ps.length c1] 26)
  have hj0 := Holds.new (w.alloc (.cells #[.int .i64 S0.g, .int .i64 S0.e, .int .i64 S0.i, .int .i64 S0.m, .slice A0 S0.ps.length c0] 26)) #[.int .i64 S1.g, .int .i64 S1.e, .int .i64 S1.i, .int .i64 S1.m, .slice A1 S1.ps.length c1] 26
  rw [show (w.alloc (.cells #[.int .i64 S0.g, .int .i64 S0.e, .int .i64 S0.i, .int .i64 S0.m, .slice A0 S0.ps.length c0] 26)).heap.size = w.heap.size + 1 by simp] at hj0
  have hlt := fun v => light_any S0 A0 c0 v wc0 w0
  have hrl := rd_light r0 rfl
  have hel := fun gen v hv => elder_any S1 gen A1 c1 v wc1 w1 (r1.below (w' := v) hv)
  obtain ⟨T, hT⟩ : ∃ T, T = Su.light S0 := ⟨_, rfl⟩
  have hTp : T.ps = S0.ps.take 10 := by rw [hT]; rfl
  rw [← hT] at hlt
  rw [← hTp] at hrl
  have HTl := Lib.hid (show T.ps.length ≤ 1000 by rw [hTp, List.length_take]; omega)
  have HLt := Lib.hid hlt
  have HRl := Lib.hid hrl
  have HEl := Lib.hid hel
  unfold Su.val at HLt HEl ⊢
  clear hlt hrl hT hTp r0 wc0 w0 hel r1 wc1 w1 hB0
  have HK0 := Lib.hid hk0
  have HJ0 := Lib.hid hj0
  clear hk0 hj0
  go_enter Try.func8, Try.ntmps8
  go_wp2_with fail
  refine (HLt.out _).mono ?_
  rintro e v0 ⟨rfl, hb0⟩
  have hk1 := HK0.out.below hb0
  have hj1 := HJ0.out.below hb0
  have hB1 := (HB0.out #[.int .i64 S0.g, .int .i64 S0.e, .int .i64 S0.i, .int .i64 S0.m, .slice A0 S0.ps.length c0] 26 #[.int .i64 S1.g, .int .i64 S1.e, .int .i64 S1.i, .int .i64 S1.m, .slice A1 S1.ps.length c1] 26).trans (hb0.mono (HB0.out _ _ _ _).size)
  have f0 := hk1.2.2 0
  have y0 := hk1.at_ 0 rfl
  have f1 := hk1.2.2 1
  have y1 := hk1.at_ 1 rfl
  have f2 := hk1.2.2 2
  have y2 := hk1.at_ 2 rfl
  have f3 := hk1.2.2 3
  have y3 := hk1.at_ 3 rfl
  have f4 := hk1.2.2 4
  have y4 := hk1.at_ 4 rfl
  have z5 := hk1.set5 (.int .i64 T.g) (.int .i64 T.e) (.int .i64 T.i) (.int .i64 T.m) (.slice A0 T.ps.length c0)
  have j5 := ((((hj1.other (b := w.heap.size) (i := 0) (v := .int .i64 T.g) (by omega)).other (b := w.heap.size) (i := 1) (v := .int .i64 T.e) (by omega)).other (b := w.heap.size) (i := 2) (v := .int .i64 T.i) (by omega)).other (b := w.heap.size) (i := 3) (v := .int .i64 T.m) (by omega)).other (b := w.heap.size) (i := 4) (v := .slice A0 T.ps.length c0) (by omega)
  have hB5 := below_set5' hB1 (b := w.heap.size) (Nat.le_refl _) (.int .i64 T.g) (.int .i64 T.e) (.int .i64 T.i) (.int .i64 T.m) (.slice A0 T.ps.length c0)
  have HK := Lib.hid z5
  have HJ := Lib.hid j5
  have HB := Lib.hid hB5
  clear hk1 hj1 hB1 z5 j5 hB5 hb0 HK0 HJ0 HB0
  go_wp2_with fail
  clear f0 f1 f2 f3 f4 y0 y1 y2 y3 y4
  generalize (((((v0.setCell ⟨w.heap.size, 0, none⟩ (.int .i64 T.g)).setCell ⟨w.heap.size, 1, none⟩ (.int .i64 T.e)).setCell ⟨w.heap.size, 2, none⟩ (.int .i64 T.i)).setCell ⟨w.heap.size, 3, none⟩ (.int .i64 T.m)).setCell ⟨w.heap.size, 4, none⟩ (.slice A0 T.ps.length c0)) = V at *
  refine (awake_any _).mono ?_
  rintro e v1 ⟨rfl, hb1⟩
  have hk := HK.out.below hb1
  have HJ1 := Lib.hid (HJ.out.below hb1)
  have HB1 := Lib.hid (HB.out.trans (hb1.mono HB.out.size))
  have HK1 := Lib.hid hk
  have y0 := hk.at_ 0 rfl
  have y1 := hk.at_ 1 rfl
  have y2 := hk.at_ 2 rfl
  have y3 := hk.at_ 3 rfl
  have y4 := hk.at_ 4 rfl
  clear hb1 hk HJ HB HK
  go_wp2_with fail
  refine (is_any T A0 c0 v1 (HRl.out.below HB1.out)).mono ?_
  rintro e v2 ⟨rfl, hb2⟩
  have hk := HK1.out.below hb2
  have HJ2 := Lib.hid (HJ1.out.below hb2)
  have HB2 := Lib.hid (HB1.out.trans (hb2.mono HB1.out.size))
  have HK2 := Lib.hid hk
  clear y0 y1 y2 y3 y4
  have y0 := hk.at_ 0 rfl
  clear hb2 hk HJ1 HB1 HK1
  by_cases hok : Su.ok T = true
  rotate_left
  · rw [Bool.not_eq_true] at hok
    rw [hok]
    go_wp2_with fail
    refine (awake_any _).mono ?_
    rintro e v3 ⟨rfl, hb3⟩
    have hBf := HB2.out.trans (hb3.mono HB2.out.size)
    clear y0 hb3
    go_wp2_with fail
    go_ret
    exact ⟨rfl, hBf⟩
  rw [hok]
  by_cases hg2 : T.g < 2
  · go_wp2_with fail
    refine (awake_any _).mono ?_
    rintro e v3 ⟨rfl, hb3⟩
    have hBf := HB2.out.trans (hb3.mono HB2.out.size)
    clear y0 hb3
    go_wp2_with fail
    go_ret
    exact ⟨rfl, hBf⟩
  have hg3 : 2 ≤ T.g := by omega
  have hg4 : T.g ≤ 2147483647 := by
    obtain ⟨g, e, i, m, hg, he, hi, hm, g1, g2, e1, e2, i1, i2, m1, m2, n1, n2⟩ := ok_nat hok
    omega
  by_cases hm : n4 = 0
  · have hm0 : (n4 : Int) = 0 := by omega
    rw [hm0]
    go_wp2_with fail
    refine (awake_any _).mono ?_
    rintro e v3 ⟨rfl, hb3⟩
    have hBf := HB2.out.trans (hb3.mono HB2.out.size)
    clear y0 hb3
    go_wp2_with fail
    go_ret
    exact ⟨rfl, hBf⟩
  have hmb : ((n4 : Int) == 0) = false := by rw [beq_eq_false_iff_ne]; omega
  have HOk := Lib.hid hok
  have j0 := HJ2.out.at_ 0 rfl
  have j1 := HJ2.out.at_ 1 rfl
  have j2 := HJ2.out.at_ 2 rfl
  have j3 := HJ2.out.at_ 3 rfl
  have j4 := HJ2.out.at_ 4 rfl
  clear hok hg2
  go_wp2_with fail
  refine (HEl.out (T.g - 1) v2 HB2.out).mono ?_
  rintro e v3 ⟨A2, c2, rfl, hr2, hb3⟩
  have hko := Su.elder_ok S1 (gen := T.g - 1) (by omega) (by omega)
  clear HEl y0 j0 j1 j2 j3 j4
  generalize Su.elder S1 (T.g - 1) = old at *
  have HKo := Lib.hid hko
  have HR2 := Lib.hid hr2
  have HK3 := Lib.hid (HK2.out.below hb3)
  have HB3 := Lib.hid (HB2.out.trans (hb3.mono HB2.out.size))
  have HN3 := Lib.hid (Holds.new v3 #[.int .i64 old.g, .int .i64 old.e, .int .i64 old.i, .int .i64 old.m, .slice A2 old.ps.length c2] 26)
  have HB4 := Lib.hid (HB3.out.alloc HB3.out.size (.cells #[.int .i64 old.g, .int .i64 old.e, .int .i64 old.i, .int .i64 old.m, .slice A2 old.ps.length c2] 26))
  have HB34 := Lib.hid ((Below.refl v3.heap.size v3).alloc (Nat.le_refl _) (.cells #[.int .i64 old.g, .int .i64 old.e, .int .i64 old.i, .int .i64 old.m, .slice A2 old.ps.length c2] 26))
  clear hko hr2 hb3 HK2 HB2 HJ2
  go_wp2_with fail
  have hKT := HK3.out.alloc (.cells #[.int .i64 old.g, .int .i64 old.e, .int .i64 old.i, .int .i64 old.m, .slice A2 old.ps.length c2] 26)
  have hRO := HR2.out.alloc (.cells #[.int .i64 old.g, .int .i64 old.e, .int .i64 old.i, .int .i64 old.m, .slice A2 old.ps.length c2] 26)
  have hRT := HRl.out.below HB4.out
  have hKO := HN3.out
  have hBA := HB4.out
  have hsz : v3.heap.size < (v3.alloc (.cells #[.int .i64 old.g, .int .i64 old.e, .int .i64 old.i, .int .i64 old.m, .slice A2 old.ps.length c2] 26)).heap.size := by simp
  refine (new_any 6 _).mono ?_
  generalize (v3.alloc (.cells #[.int .i64 old.g, .int .i64 old.e, .int .i64 old.i, .int .i64 old.m, .slice A2 old.ps.length c2] 26)) = a at *
  rintro e v4 hN
  rcases hN with ⟨_, _, d, lab, rfl, hD, hb4, hnl⟩ | ⟨hx, _⟩
  rotate_left
  · exact absurd ⟨by omega, by omega⟩ hx
  have C4 : Cp a v4 d lab (Dk.St.new 6) := ⟨hb4, hD, hnl⟩
  generalize v3.heap.size = so at *
  have HKT := Lib.hid hKT
  have HKO := Lib.hid hKO
  have HRO := Lib.hid hRO
  have HRT := Lib.hid hRT
  have HBA := Lib.hid hBA
  have HC4 := Lib.hid C4
  obtain ⟨st1, st2, st3, hrun⟩ := Su.run3 HOk.out HKo.out.1 HKo.out.2.1 b2 (n3 % 128) n4 (by omega) hm
  have hsl : (T.g % 2 * 2 : Int) = (Su.slotA T : Int) := by unfold Su.slotA; omega
  obtain ⟨sa, hsa⟩ : ∃ sa : Int, sa = (Su.slotA T : Int) := ⟨_, rfl⟩
  have hsa0 : 0 ≤ sa ∧ sa ≤ 2 := by rw [hsa]; unfold Su.slotA; omega
  rw [← hsa] at hsl hrun
  have HRun := Lib.hid hrun
  have HSl := Lib.hid hsl
  have HSa := Lib.hid (And.intro hsa hsa0)
  clear hKT hKO hRO hRT hBA C4 hD hb4 hnl HK3 HN3 HR2 HRl HB3 HB4 HB34 hrun hsl hsa hsa0 hsz
  go_wp2_with fail
  refine (rnew_any 6 _).mono ?_
  rintro e v5 hN
  rcases hN with ⟨_, _, g, labr, rfl, hRf, hb5, hnr⟩ | ⟨hx, _⟩
  rotate_left
  · exact absurd ⟨by omega, by omega⟩ hx
  have HR5 := Lib.hid (Rp.mk_ HC4.out hRf hnr)
  have HC5 := Lib.hid (HC4.out.below hb5)
  clear HC4 hRf hb5 hnr
  have y0 := (HKO.out.below HC5.out.ba).at_ 0 rfl
  have y1 := (HKO.out.below HC5.out.ba).at_ 1 rfl
  have y2 := (HKO.out.below HC5.out.ba).at_ 2 rfl
  have y3 := (HKO.out.below HC5.out.ba).at_ 3 rfl
  have y4 := (HKO.out.below HC5.out.ba).at_ 4 rfl
  go_wp2_with fail
  have HSv := Lib.hid (save_any old A2 c2 v5 d lab _ 0 (HRO.out.below HC5.out.ba) HC5.out.disk Su.new_low (by omega))
  rw [HRun.out.e1] at HSv
  unfold Su.val at HSv
  refine HSv.out.mono ?_
  rintro e v6 ⟨rfl, hL6⟩
  obtain ⟨lab6, hC6, hR6⟩ := HC5.out.left hL6
  have HC6 := Lib.hid hC6
  have HR6 := Lib.hid (hR6 _ _ _ HR5.out)
  clear hL6 hC6 hR6 HC5 HR5 HSv y0 y1 y2 y3 y4
  have y0 := (HKT.out.below HC6.out.ba).at_ 0 rfl
  have y1 := (HKT.out.below HC6.out.ba).at_ 1 rfl
  have y2 := (HKT.out.below HC6.out.ba).at_ 2 rfl
  have y3 := (HKT.out.below HC6.out.ba).at_ 3 rfl
  have y4 := (HKT.out.below HC6.out.ba).at_ 4 rfl
  go_wp2_with fail
  have HSv := Lib.hid (save_any T A0 c0 v6 d lab6 st1 3 (HRT.out.below HC6.out.ba) HC6.out.disk HRun.out.l1 (by omega))
  rw [HRun.out.e2] at HSv
  unfold Su.val at HSv
  refine HSv.out.mono ?_
  rintro e v7 ⟨rfl, hL7⟩
  obtain ⟨lab7, hC7, hR7⟩ := HC6.out.left hL7
  have HC7 := Lib.hid hC7
  have HR7 := Lib.hid (hR7 _ _ _ HR6.out)
  clear hL7 hC7 hR7 HC6 HR6 HSv y0 y1 y2 y3 y4
  have y0 := (HKT.out.below HC7.out.ba).at_ 0 rfl
  obtain ⟨ax, hax⟩ : ∃ ax : Int, ax = sa + (if b2 then 1 else 0) := ⟨_, rfl⟩
  rw [← hax] at HRun
  have hsl := HSl.out
  have hx1 : 0 ≤ sa ∧ sa ≤ 2 := HSa.out.2
  have hpp : (n3 : Int) % 128 = ((n3 % 128 : Nat) : Int) := by omega
  have hz4 : ∀ v, Calls Try.prog 29 #[.pointer (some ⟨d, 0, none⟩), .int .i64 ax, .int .i64 ((n3 % 128 : Nat) : Int), .int .u8 (n4 : Int)] v7 v → True := fun _ _ => trivial
  have HRo := Lib.hid (rot_any ax ((n3 % 128 : Nat) : Int) n4 w4 v7 d lab7 st2 HC7.out.disk)
  rw [HRun.out.er, HRun.out.e3] at HRo
  clear hz4
  generalize n3 % 128 = np at *
  have HFin := Lib.hid (show ∀ v, Below a.heap.size a v → Below w.heap.size w v from fun v hv => HBA.out.trans (hv.mono HBA.out.size))
  cases b2 with
  | false =>
    have hax2 : sa = ax := by rw [hax]; simp
    subst hax2
    clear hax
    go_wp2_with fail
    refine HRo.out.mono ?_
    rintro e v8 ⟨rfl, hL8⟩
    obtain ⟨lab8, hC8, hR8⟩ := HC7.out.left hL8
    have HC8 := Lib.hid hC8
    have HR8 := Lib.hid (hR8 _ _ _ HR7.out)
    clear hL8 hC8 hR8 HC7 HR7 HRo y0
    go_wp2_with fail
    refine (read_any _ v8 d lab8 st3 HC8.out.disk).mono ?_
    rintro e v9 ⟨A9, n9, c9, he, hRd9, hb9, hn9, hbuf⟩
    obtain ⟨rfl, rfl, rfl, hbuf⟩ := hbuf HRun.out.cop.ready
    rw [HRun.out.cop.ready] at he
    subst he
    have HRd9 := Lib.hid hRd9
    have HC9 := Lib.hid (HC8.out.below hb9)
    have HR9 := Lib.hid (HR8.out.below hb9)
    clear hb9 hRd9 hn9 hbuf HC8 HR8
    have y0 := (HKO.out.below HC9.out.ba).at_ 0 rfl
    have y1 := (HKO.out.below HC9.out.ba).at_ 1 rfl
    have y2 := (HKO.out.below HC9.out.ba).at_ 2 rfl
    have y3 := (HKO.out.below HC9.out.ba).at_ 3 rfl
    have y4 := (HKO.out.below HC9.out.ba).at_ 4 rfl
    have t0 := (HKT.out.below HC9.out.ba).at_ 0 rfl
    have t1 := (HKT.out.below HC9.out.ba).at_ 1 rfl
    have t2 := (HKT.out.below HC9.out.ba).at_ 2 rfl
    have t3 := (HKT.out.below HC9.out.ba).at_ 3 rfl
    have t4 := (HKT.out.below HC9.out.ba).at_ 4 rfl
    have HKn := Lib.hid (known_any v9 g labr (Dk.St.new 6) sa old T A2 A0 c2 c0 HR9.out.ref (HRO.out.below HC9.out.ba) (HRT.out.below HC9.out.ba))
    rw [HRun.out.z, Su.encL_ok HOk.out, Su.encL_ok HKo.out.1] at HKn
    unfold Su.val at HKn
    go_wp2_with fail
    refine HKn.out.mono ?_
    rintro e v10 ⟨kb, rfl, hk10, hb10⟩
    have HC10 := Lib.hid (HC9.out.below hb10)
    have HRd10 := Lib.hid (HRd9.out.below hb10)
    have HK10 := Lib.hid hk10
    clear hb10 hk10 HC9 HR9 HRd9 HKn y0 y1 y2 y3 y4 t0 t1 t2 t3 t4
    generalize v8.heap.size = bb at *
    go_wp2_with fail
    refine (strange_any _ 128 128 _ v10 _ Dk.zeros (Su.sec old) (Su.sec T) HRd10.out (by omega) (by omega) HK10.out Su.zeros_lt (Su.sec_lt old) (Su.sec_lt T)).mono ?_
    rintro e v11 ⟨rfl, hb11⟩
    have HC11 := Lib.hid (HC10.out.below hb11)
    clear hb11 HC10 HRd10 HK10
    cases hst : Su.strange (st3.readB sa) Dk.zeros (Su.sec old) (Su.sec T) with
    | true =>
      go_wp2_with fail
      go_ret
      exact ⟨rfl, HFin.out _ HC11.out.ba⟩
    | false =>
      have hL := load_any v11 d lab8 st3 HC11.out.disk
      rw [HRun.out.cop.load hst] at hL
      have HL := Lib.hid (show Calls Try.prog 22 #[.pointer (some ⟨d, 0, none⟩)] v11 (GivesSu v11 T 0) from hL)
      have HMd := Lib.hid (HRun.out.cop.mend hst)
      clear hL hst
      go_wp2_with fail
      refine HL.out.mono ?_
      rintro e v12 ⟨A12, c12, rfl, hR12, hn12, hb12⟩
      have HN12 := Lib.hid (show ∀ b o, A12 = some ⟨b, o, none⟩ → lab8 b = .no from fun b o e => HC11.out.disk.new_ (hn12 b o e))
      have hC12 := HC11.out.below hb12
      have HNx := Lib.hid (show lab8 v12.heap.size = .no from hC12.disk.new_ (Nat.le_refl _))
      have HX := Lib.hid (Holds.new v12 #[.int .i64 T.g, .int .i64 T.e, .int .i64 T.i, .int .i64 T.m, .slice A12 T.ps.length c12] 26)
      have HC13 := Lib.hid (hC12.below ((Below.refl v12.heap.size v12).alloc (Nat.le_refl _) (.cells #[.int .i64 T.g, .int .i64 T.e, .int .i64 T.i, .int .i64 T.m, .slice A12 T.ps.length c12] 26)))
      have HR13 := Lib.hid (hR12.alloc (.cells #[.int .i64 T.g, .int .i64 T.e, .int .i64 T.i, .int .i64 T.m, .slice A12 T.ps.length c12] 26))
      clear hR12 hn12 hb12 hC12 HC11 HL
      go_wp2_with fail
      generalize (v12.alloc (.cells #[.int .i64 T.g, .int .i64 T.e, .int .i64 T.i, .int .i64 T.m, .slice A12 T.ps.length c12] 26)) = v13 at *
      generalize v12.heap.size = sx at *
      have hM := mend_any v13 d lab8 st3 7 HC13.out.disk HRun.out.l3 (by omega)
      rw [HMd.out] at hM
      have HM := Lib.hid hM
      clear hM HMd
      refine HM.out.mono ?_
      rintro e v14 ⟨rfl, hL14⟩
      obtain ⟨lab14, hC14, _⟩ := HC13.out.left hL14
      obtain ⟨_, _, hc14, _⟩ := hL14
      have HX14 := Lib.hid (hc14.holds HX.out HNx.out)
      have HR14 := Lib.hid (hc14.rdc HR13.out HN12.out)
      have HC14 := Lib.hid hC14
      clear hC14 hc14 HX HR13 HC13 HM HNx HN12
      have y0 := HX14.out.at_ 0 rfl
      have y1 := HX14.out.at_ 1 rfl
      have y2 := HX14.out.at_ 2 rfl
      have y3 := HX14.out.at_ 3 rfl
      have y4 := HX14.out.at_ 4 rfl
      have t0 := (HKT.out.below HC14.out.ba).at_ 0 rfl
      have t1 := (HKT.out.below HC14.out.ba).at_ 1 rfl
      have t2 := (HKT.out.below HC14.out.ba).at_ 2 rfl
      have t3 := (HKT.out.below HC14.out.ba).at_ 3 rfl
      have t4 := (HKT.out.below HC14.out.ba).at_ 4 rfl
      have HSm := Lib.hid (same_su T T A12 A0 c12 c0 v14 HR14.out (HRT.out.below HC14.out.ba) HTl.out HTl.out)
      rw [Su.eqS_iff.2 rfl] at HSm
      unfold Su.val at HSm
      go_wp2_with fail
      refine HSm.out.mono ?_
      rintro e v15 ⟨rfl, hb15⟩
      have HC15 := Lib.hid (HC14.out.below hb15)
      clear hb15 HC14 HX14 HR14 HSm y0 y1 y2 y3 y4 t0 t1 t2 t3 t4
      have t0 := (HKT.out.below HC15.out.ba).at_ 0 rfl
      have t1 := (HKT.out.below HC15.out.ba).at_ 1 rfl
      have t2 := (HKT.out.below HC15.out.ba).at_ 2 rfl
      have t3 := (HKT.out.below HC15.out.ba).at_ 3 rfl
      have t4 := (HKT.out.below HC15.out.ba).at_ 4 rfl
      have HE := Lib.hid (srenc_any T A0 c0 v15 (HRT.out.below HC15.out.ba))
      rw [Su.encL_ok HOk.out, Su.encR_ok HOk.out] at HE
      unfold Su.val at HE
      go_wp2_with fail
      refine HE.out.mono ?_
      rintro e v16 ⟨A16, c16, rfl, hR16, hc16, hb16⟩
      have HC16 := Lib.hid (HC15.out.below hb16)
      have HR16 := Lib.hid hR16
      clear hb16 hR16 hc16 HC15 HE t0 t1 t2 t3 t4
      have t0 := (HKT.out.below HC16.out.ba).at_ 0 rfl
      go_wp2_with fail
      have q0 := HRun.out.cop.r0
      have q1 := HRun.out.cop.r1
      have q2 := HRun.out.cop.b0
      have q3 := HRun.out.cop.b1
      rw [← HSa.out.1] at q0 q1 q2 q3
      have HQ0 := Lib.hid q0
      have HQ1 := Lib.hid q1
      have HQ2 := Lib.hid q2
      have HQ3 := Lib.hid q3
      clear q0 q1 q2 q3
      refine (read_any sa v16 d lab14 _ HC16.out.disk).mono ?_
      rintro e v17 ⟨A17, n17, c17, he, hRd17, hb17, hn17, hbuf⟩
      obtain ⟨rfl, rfl, rfl, hbuf⟩ := hbuf HQ0.out
      rw [HQ0.out] at he
      rw [HQ2.out] at hRd17
      subst he
      have HRd17 := Lib.hid hRd17
      have HC17 := Lib.hid (HC16.out.below hb17)
      have HR17 := Lib.hid (HR16.out.below hb17)
      clear hb17 hRd17 hn17 hbuf HC16 HR16 t0
      have t0 := (HKT.out.below HC17.out.ba).at_ 0 rfl
      generalize v16.heap.size = bx at *
      go_wp2_with fail
      refine (read_any (sa + 1) v17 d lab14 _ HC17.out.disk).mono ?_
      rintro e v18 ⟨A18, n18, c18, he, hRd18, hb18, hn18, hbuf⟩
      obtain ⟨rfl, rfl, rfl, hbuf⟩ := hbuf HQ1.out
      rw [HQ1.out] at he
      rw [HQ3.out] at hRd18
      subst he
      have hs1 := run_str (cap := 128) hRd18
      have hs2 := run_str (cap := 128) (HRd17.out.below hb18)
      have hs3 := run_str (cap := c16) (HR17.out.below hb18)
      have HC18 := Lib.hid (HC17.out.below hb18)
      clear HQ0 HQ1 HQ2 HQ3 hsl hx1 hpp hmb
      generalize Su.sec T = lt at hs1 hs2 hs3 ⊢
      clear hb18 hRd18 hn18 hbuf HC17 HR17 HRd17 t0
      go_wp2_with fail
      go_ret
      exact ⟨rfl, HFin.out _ HC18.out.ba⟩
  | true =>
    have hax2 : sa + 1 = ax := by rw [hax]; rfl
    clear hax
    go_wp2_with fail
    refine HRo.out.mono ?_
    rintro e v8 ⟨rfl, hL8⟩
    obtain ⟨lab8, hC8, hR8⟩ := HC7.out.left hL8
    have HC8 := Lib.hid hC8
    have HR8 := Lib.hid (hR8 _ _ _ HR7.out)
    clear hL8 hC8 hR8 HC7 HR7 HRo y0
    go_wp2_with fail
    refine (read_any _ v8 d lab8 st3 HC8.out.disk).mono ?_
    rintro e v9 ⟨A9, n9, c9, he, hRd9, hb9, hn9, hbuf⟩
    obtain ⟨rfl, rfl, rfl, hbuf⟩ := hbuf HRun.out.cop.ready
    rw [HRun.out.cop.ready] at he
    subst he
    have HRd9 := Lib.hid hRd9
    have HC9 := Lib.hid (HC8.out.below hb9)
    have HR9 := Lib.hid (HR8.out.below hb9)
    clear hb9 hRd9 hn9 hbuf HC8 HR8
    have y0 := (HKO.out.below HC9.out.ba).at_ 0 rfl
    have y1 := (HKO.out.below HC9.out.ba).at_ 1 rfl
    have y2 := (HKO.out.below HC9.out.ba).at_ 2 rfl
    have y3 := (HKO.out.below HC9.out.ba).at_ 3 rfl
    have y4 := (HKO.out.below HC9.out.ba).at_ 4 rfl
    have t0 := (HKT.out.below HC9.out.ba).at_ 0 rfl
    have t1 := (HKT.out.below HC9.out.ba).at_ 1 rfl
    have t2 := (HKT.out.below HC9.out.ba).at_ 2 rfl
    have t3 := (HKT.out.below HC9.out.ba).at_ 3 rfl
    have t4 := (HKT.out.below HC9.out.ba).at_ 4 rfl
    have HKn := Lib.hid (known_any v9 g labr (Dk.St.new 6) ax old T A2 A0 c2 c0 HR9.out.ref (HRO.out.below HC9.out.ba) (HRT.out.below HC9.out.ba))
    rw [HRun.out.z, Su.encL_ok HOk.out, Su.encL_ok HKo.out.1] at HKn
    unfold Su.val at HKn
    go_wp2_with fail
    refine HKn.out.mono ?_
    rintro e v10 ⟨kb, rfl, hk10, hb10⟩
    have HC10 := Lib.hid (HC9.out.below hb10)
    have HRd10 := Lib.hid (HRd9.out.below hb10)
    have HK10 := Lib.hid hk10
    clear hb10 hk10 HC9 HR9 HRd9 HKn y0 y1 y2 y3 y4 t0 t1 t2 t3 t4
    generalize v8.heap.size = bb at *
    go_wp2_with fail
    refine (strange_any _ 128 128 _ v10 _ Dk.zeros (Su.sec old) (Su.sec T) HRd10.out (by omega) (by omega) HK10.out Su.zeros_lt (Su.sec_lt old) (Su.sec_lt T)).mono ?_
    rintro e v11 ⟨rfl, hb11⟩
    have HC11 := Lib.hid (HC10.out.below hb11)
    clear hb11 HC10 HRd10 HK10
    cases hst : Su.strange (st3.readB ax) Dk.zeros (Su.sec old) (Su.sec T) with
    | true =>
      go_wp2_with fail
      go_ret
      exact ⟨rfl, HFin.out _ HC11.out.ba⟩
    | false =>
      have hL := load_any v11 d lab8 st3 HC11.out.disk
      rw [HRun.out.cop.load hst] at hL
      have HL := Lib.hid (show Calls Try.prog 22 #[.pointer (some ⟨d, 0, none⟩)] v11 (GivesSu v11 T 0) from hL)
      have HMd := Lib.hid (HRun.out.cop.mend hst)
      clear hL hst
      go_wp2_with fail
      refine HL.out.mono ?_
      rintro e v12 ⟨A12, c12, rfl, hR12, hn12, hb12⟩
      have HN12 := Lib.hid (show ∀ b o, A12 = some ⟨b, o, none⟩ → lab8 b = .no from fun b o e => HC11.out.disk.new_ (hn12 b o e))
      have hC12 := HC11.out.below hb12
      have HNx := Lib.hid (show lab8 v12.heap.size = .no from hC12.disk.new_ (Nat.le_refl _))
      have HX := Lib.hid (Holds.new v12 #[.int .i64 T.g, .int .i64 T.e, .int .i64 T.i, .int .i64 T.m, .slice A12 T.ps.length c12] 26)
      have HC13 := Lib.hid (hC12.below ((Below.refl v12.heap.size v12).alloc (Nat.le_refl _) (.cells #[.int .i64 T.g, .int .i64 T.e, .int .i64 T.i, .int .i64 T.m, .slice A12 T.ps.length c12] 26)))
      have HR13 := Lib.hid (hR12.alloc (.cells #[.int .i64 T.g, .int .i64 T.e, .int .i64 T.i, .int .i64 T.m, .slice A12 T.ps.length c12] 26))
      clear hR12 hn12 hb12 hC12 HC11 HL
      go_wp2_with fail
      generalize (v12.alloc (.cells #[.int .i64 T.g, .int .i64 T.e, .int .i64 T.i, .int .i64 T.m, .slice A12 T.ps.length c12] 26)) = v13 at *
      generalize v12.heap.size = sx at *
      have hM := mend_any v13 d lab8 st3 7 HC13.out.disk HRun.out.l3 (by omega)
      rw [HMd.out] at hM
      have HM := Lib.hid hM
      clear hM HMd
      refine HM.out.mono ?_
      rintro e v14 ⟨rfl, hL14⟩
      obtain ⟨lab14, hC14, _⟩ := HC13.out.left hL14
      obtain ⟨_, _, hc14, _⟩ := hL14
      have HX14 := Lib.hid (hc14.holds HX.out HNx.out)
      have HR14 := Lib.hid (hc14.rdc HR13.out HN12.out)
      have HC14 := Lib.hid hC14
      clear hC14 hc14 HX HR13 HC13 HM HNx HN12
      have y0 := HX14.out.at_ 0 rfl
      have y1 := HX14.out.at_ 1 rfl
      have y2 := HX14.out.at_ 2 rfl
      have y3 := HX14.out.at_ 3 rfl
      have y4 := HX14.out.at_ 4 rfl
      have t0 := (HKT.out.below HC14.out.ba).at_ 0 rfl
      have t1 := (HKT.out.below HC14.out.ba).at_ 1 rfl
      have t2 := (HKT.out.below HC14.out.ba).at_ 2 rfl
      have t3 := (HKT.out.below HC14.out.ba).at_ 3 rfl
      have t4 := (HKT.out.below HC14.out.ba).at_ 4 rfl
      have HSm := Lib.hid (same_su T T A12 A0 c12 c0 v14 HR14.out (HRT.out.below HC14.out.ba) HTl.out HTl.out)
      rw [Su.eqS_iff.2 rfl] at HSm
      unfold Su.val at HSm
      go_wp2_with fail
      refine HSm.out.mono ?_
      rintro e v15 ⟨rfl, hb15⟩
      have HC15 := Lib.hid (HC14.out.below hb15)
      clear hb15 HC14 HX14 HR14 HSm y0 y1 y2 y3 y4 t0 t1 t2 t3 t4
      have t0 := (HKT.out.below HC15.out.ba).at_ 0 rfl
      have t1 := (HKT.out.below HC15.out.ba).at_ 1 rfl
      have t2 := (HKT.out.below HC15.out.ba).at_ 2 rfl
      have t3 := (HKT.out.below HC15.out.ba).at_ 3 rfl
      have t4 := (HKT.out.below HC15.out.ba).at_ 4 rfl
      have HE := Lib.hid (srenc_any T A0 c0 v15 (HRT.out.below HC15.out.ba))
      rw [Su.encL_ok HOk.out, Su.encR_ok HOk.out] at HE
      unfold Su.val at HE
      go_wp2_with fail
      refine HE.out.mono ?_
      rintro e v16 ⟨A16, c16, rfl, hR16, hc16, hb16⟩
      have HC16 := Lib.hid (HC15.out.below hb16)
      have HR16 := Lib.hid hR16
      clear hb16 hR16 hc16 HC15 HE t0 t1 t2 t3 t4
      have t0 := (HKT.out.below HC16.out.ba).at_ 0 rfl
      go_wp2_with fail
      have q0 := HRun.out.cop.r0
      have q1 := HRun.out.cop.r1
      have q2 := HRun.out.cop.b0
      have q3 := HRun.out.cop.b1
      rw [← HSa.out.1] at q0 q1 q2 q3
      rw [hax2] at q1 q3
      have HQ0 := Lib.hid q0
      have HQ1 := Lib.hid q1
      have HQ2 := Lib.hid q2
      have HQ3 := Lib.hid q3
      clear q0 q1 q2 q3
      refine (read_any sa v16 d lab14 _ HC16.out.disk).mono ?_
      rintro e v17 ⟨A17, n17, c17, he, hRd17, hb17, hn17, hbuf⟩
      obtain ⟨rfl, rfl, rfl, hbuf⟩ := hbuf HQ0.out
      rw [HQ0.out] at he
      rw [HQ2.out] at hRd17
      subst he
      have HRd17 := Lib.hid hRd17
      have HC17 := Lib.hid (HC16.out.below hb17)
      have HR17 := Lib.hid (HR16.out.below hb17)
      clear hb17 hRd17 hn17 hbuf HC16 HR16 t0
      have t0 := (HKT.out.below HC17.out.ba).at_ 0 rfl
      generalize v16.heap.size = bx at *
      go_wp2_with fail
      refine (read_any ax v17 d lab14 _ HC17.out.disk).mono ?_
      rintro e v18 ⟨A18, n18, c18, he, hRd18, hb18, hn18, hbuf⟩
      obtain ⟨rfl, rfl, rfl, hbuf⟩ := hbuf HQ1.out
      rw [HQ1.out] at he
      rw [HQ3.out] at hRd18
      subst he
      have hs1 := run_str (cap := 128) hRd18
      have hs2 := run_str (cap := 128) (HRd17.out.below hb18)
      have hs3 := run_str (cap := c16) (HR17.out.below hb18)
      have HC18 := Lib.hid (HC17.out.below hb18)
      clear HQ0 HQ1 HQ2 HQ3 hsl hx1 hpp hmb
      generalize Su.sec T = lt at hs1 hs2 hs3 ⊢
      clear hb18 hRd18 hn18 hbuf HC17 HR17 HRd17 t0
      go_wp2_with fail
      go_ret
      exact ⟨rfl, HFin.out _ HC18.out.ba⟩
set_option maxRecDepth 100000 in
theorem lifted (os : Os) (started : os.Started) (H : Type) (enc : TypeId × Value → H) :
    ReturnsInHanded {} Try.checked os 8 .any (Rows.superCopySpec.pre6 enc Try.prog Try.f8 Rows.superCopyRow.domain false) (Rows.superCopySpec.post enc Try.prog Try.f8 false true false false) := by
  refine returnsInHanded_of_change (C := Try.checked) own started (by kernel_rfl) Try.func8
    (ChangeSpec.witness6 (enc := enc) (C := Try.checked) false ⟨#[], #[.agg #[.int .i64 0, .int .i64 0, .int .i64 0, .int .i64 0, .slice none 0 0], .agg #[.int .i64 0, .int .i64 0, .int .i64 0, .int .i64 0, .slice none 0 0], .bool false, .int .u64 0, .int .u8 0], []⟩ 8 (by kernel_rfl) (by kernel_rfl) (by kernel_rfl) (by kernel_rfl)) ?_
  intro W base args ds gs before hval0 hW hcnd _
  have hval : ∀ (j : Nat) t v, Try.f8.params[j]? = some t → args[j]? = some v → Value.okWide Try.prog W .any base t v := hval0
  have hW' := hW
  obtain ⟨p, q, hA0, hV, rfl, hfz, hnd⟩ := hW
  have hA : DataW.TrodAll enc Try.prog W 0 (fun _ => true) true Try.f8.params.toList args.toList ds p := hA0
  rw [Try.params8] at hA hval
  obtain ⟨v0, vs0, d0, ds0, p0, q0, hargs, rfl, rfl, h0, t0⟩ := trodAll_cons hA
  obtain ⟨v1, vs1, d1, ds1, p1, q1, rfl, rfl, rfl, h1, t1⟩ := trodAll_cons t0
  obtain ⟨v2, vs2, d2, ds2, p2, q2, rfl, rfl, rfl, h2, t2⟩ := trodAll_cons t1
  obtain ⟨v3, vs3, d3, ds3, p3, q3, rfl, rfl, rfl, h3, t3⟩ := trodAll_cons t2
  obtain ⟨v4, vs4, d4, ds4, p4, q4, rfl, rfl, rfl, h4, t4⟩ := trodAll_cons t3
  obtain ⟨rfl, rfl, rfl⟩ := trodAll_nil t4
  obtain rfl : args = #[v0, v1, v2, v3, v4] := by cases args; simp_all
  obtain ⟨rfl, rfl⟩ := trodVars_none hV
  have k0 : Reads enc W 26 v0 d0 p0 := h0
  have lt0 : ∀ x ∈ p0, x.block < W.heap.size := by obtain ⟨m, hm⟩ := k0; exact DataW.trod_lt m _ _ _ hm
  obtain ⟨S0, A0, c0, rfl, r0, wc0, w0⟩ := in_super (hval 0 26 v0 rfl rfl) k0
  have k1 : Reads enc W 26 v1 d1 p1 := h1
  have lt1 : ∀ x ∈ p1, x.block < W.heap.size := by obtain ⟨m, hm⟩ := k1; exact DataW.trod_lt m _ _ _ hm
  obtain ⟨S1, A1, c1, rfl, r1, wc1, w1⟩ := in_super (hval 1 26 v1 rfl rfl) k1
  have k2 : Reads enc W 4 v2 d2 p2 := h2
  have lt2 : ∀ x ∈ p2, x.block < W.heap.size := by obtain ⟨m, hm⟩ := k2; exact DataW.trod_lt m _ _ _ hm
  obtain ⟨b2, rfl⟩ := in_bool (hval 2 4 v2 rfl rfl) k2
  have k3 : Reads enc W 44 v3 d3 p3 := h3
  have lt3 : ∀ x ∈ p3, x.block < W.heap.size := by obtain ⟨m, hm⟩ := k3; exact DataW.trod_lt m _ _ _ hm
  obtain ⟨n3, rfl, w3⟩ := in_uint (hval 3 44 v3 rfl rfl) k3
  have k4 : Reads enc W 5 v4 d4 p4 := h4
  have lt4 : ∀ x ∈ p4, x.block < W.heap.size := by obtain ⟨m, hm⟩ := k4; exact DataW.trod_lt m _ _ _ hm
  obtain ⟨n4, rfl, w4⟩ := in_u8 (hval 4 5 v4 rfl rfl) k4
  clear hA0 hval0
  refine (walk S0 A0 c0 S1 A1 c1 b2 n3 n4 W r0 wc0 w0 r1 wc1 w1 w3 w4).mono fun e W' ⟨he, bel⟩ => ?_
  subst he
  exact ⟨_, rfl, _, _, _, [], _, [], hW', trodAll_mk1 (shut_bool Try.underlying4 _), (trodAll_cons_mk (Below.trod laidOut (by kernel_rfl) (of_decide_eq_true (by kernel_rfl)) k0 bel lt0) (trodAll_cons_mk (Below.trod laidOut (by kernel_rfl) (of_decide_eq_true (by kernel_rfl)) k1 bel lt1) (trodAll_cons_mk (Below.trod laidOut (by kernel_rfl) (of_decide_eq_true (by kernel_rfl)) k2 bel lt2) (trodAll_cons_mk (Below.trod laidOut (by kernel_rfl) (of_decide_eq_true (by kernel_rfl)) k3 bel lt3) (trodAll_cons_mk (Below.trod laidOut (by kernel_rfl) (of_decide_eq_true (by kernel_rfl)) k4 bel lt4) trodAll_mk0))))), rfl, bel.frame _, fun h => by cases h⟩
theorem over : Rows.superCopyRow.holds Try.pinned (OpenSpec.ofChange Rows.superCopySpec) :=
  OpenClaim.holds_of_wide 8 Try.f8 rfl rfl rfl rfl rfl rfl rfl ⟨rfl, rfl, rfl, rfl, rfl⟩ rfl rfl rfl rfl rfl (by kernel_rfl) Try.func8 (by kernel_rfl)
    (of_decide_eq_true (by kernel_rfl)) (by unfold Func.isWrapper; first | (rw [if_pos (by decide +kernel)]; kernel_rfl) | (rw [if_neg (by decide +kernel)]; exact ⟨rfl, rfl⟩))
    (fun os started H enc _ => lifted os started H enc)
theorem proved : Rows.SuperCopySaid := over
end Go.Proofs.Ytbdomhookjmmgaa.superCopy
