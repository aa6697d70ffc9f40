/- For every two superblocks, a fuse and fates: wherever the power goes while the newer one is saved, the elder or the newer one is loaded behind the crash, and the newer one if it was told OK, unless a torn sector is a frame by chance (P5.6), and the example at the head holds; the arguments stay as they were. No condition but that a slice's bytes fit the address space. -/
import Derived.Test.YtbdomhookjmmgaaSuEl
import Derived.Test.YtbdomhookjmmgaaSuFates
import Derived.Test.YtbdomhookjmmgaaSuRSave
import Derived.Test.YtbdomhookjmmgaaSuCq
import Derived.Test.YtbdomhookjmmgaaSuLoad
import Derived.Test.YtbdomhookjmmgaaSuStr
import Derived.Test.YtbdomhookjmmgaaSuW
import Derived.Test.YtbdomhookjmmgaaSuSame
import Derived.Test.YtbdomhookjmmgaaSuSave
import Derived.Test.YtbdomhookjmmgaaSuR
import Derived.Test.YtbdomhookjmmgaaInS
import Derived.Test.YtbdomhookjmmgaaSuA
import Derived.WalkKit
import Derived.ProofKit
import Derived.OpenShut
import Derived.ShutString
import Derived.ChangeOld
import Derived.Below
import Derived.Deep.RegionHeld
import Derived.SizedLaws
namespace Go.Proofs.Ytbdomhookjmmgaa.superOne
open Go.ChangeShapes Go.WideShapes Go.ChangeAt Go.RowKit
set_option linter.unusedVariables false
theorem own : ownKnob Try.prog.godebug = none := by kernel_rfl
theorem laidOut : laidOutB Try.prog = true := by kernel_rfl
set_option maxRecDepth 100000 in
set_option maxHeartbeats 8000000 in
theorem walk (S0 : Su.S) (A0 : Option Addr) (c0 : Nat) (S1 : Su.S) (A1 : Option Addr) (c1 : Nat) (n2 : Nat) (A3 : Option Addr) (m3 c3 : Nat) (l3 : List Dk.Fa) (w : World) (r0 : RdC 2 w A0 S0.ps.length (Su.pv S0.ps)) (wc0 : S0.ps.length ≤ c0) (w0 : S0.ps.length ≤ 9223372036854775807) (r1 : RdC 2 w A1 S1.ps.length (Su.pv S1.ps)) (wc1 : S1.ps.length ≤ c1) (w1 : S1.ps.length ≤ 9223372036854775807) (w2 : n2 < 256) (wn3 : l3.length = m3) (r3 : RdC 2 w A3 m3 (flatFa l3)) (w3 : m3 * 16 ≤ 140737488351232) :
    Calls Try.prog 7 #[Su.val S0 A0 c0, Su.val S1 A1 c1, .int .u8 (n2 : Int), .slice A3 m3 c3] w fun e w' => e = .returned (.bool true) ∧ Below w.heap.size w w' := by
  -- heartbeats 8000000
  have hB0 : ∀ x tx y ty, Below w.heap.size w ((w.alloc (.cells x tx)).alloc (.cells y ty)) := fun x tx y ty => by repeat (first | exact Below.refl _ _ | refine Below.alloc ?_ (by simp <;> omega) _)
  have HB0 := Lib.hid hB0
  have HF3 := Lib.hid r3
  have HWn := Lib.hid wn3
  have HW3 := Lib.hid w3
  clear r3 wn3 w3
  have hk0 := (Holds.new w #[.int .i64 S0.g, .int .i64 S0.e, .int .i64 S0.i, .int .i64 S0.m, .slice A0 S0.ps.length c0] 26).alloc (.cells #[.int .i64 S1.g, .int .i64 S1.e, .int .i64 S1.i, .int .i64 S1.m, .slice A1 S1.ps.length c1] 26)
  have hj0 := Holds.new (w.alloc (.cells #[.int .i64 S0.g, .int .i64 S0.e, .int .i64 S0.i, .int .i64 S0.m, .slice A0 S0.ps.length c0] 26)) #[.int .i64 S1.g, .int .i64 S1.e, .int .i64 S1.i, .int .i64 S1.m, .slice A1 S1.ps.length c1] 26
  rw [show (w.alloc (.cells #[.int .i64 S0.g, .int .i64 S0.e, .int .i64 S0.i, .int .i64 S0.m, .slice A0 S0.ps.length c0] 26)).heap.size = w.heap.size + 1 by simp] at hj0
  have hlt := fun v => light_any S0 A0 c0 v wc0 w0
  have hrl := rd_light r0 rfl
  have hel := fun gen v hv => elder_any S1 gen A1 c1 v wc1 w1 (r1.below (w' := v) hv)
  obtain ⟨T, hT⟩ : ∃ T, T = Su.light S0 := ⟨_, rfl⟩
  have hTp : T.ps = S0.ps.take 10 := by rw [hT]; rfl
  rw [← hT] at hlt
  rw [← hTp] at hrl
  have HTl := Lib.hid (show T.ps.length ≤ 1000 by rw [hTp, List.length_take]; omega)
  have HLt := Lib.hid hlt
  have HRl := Lib.hid hrl
  have HEl := Lib.hid hel
  unfold Su.val at HLt HEl ⊢
  clear hlt hrl hT hTp r0 wc0 w0 hel r1 wc1 w1 hB0
  have HK0 := Lib.hid hk0
  have HJ0 := Lib.hid hj0
  clear hk0 hj0
  go_enter Try.func7, Try.ntmps7
  go_wp2_with fail
  refine (HLt.out _).mono ?_
  rintro e v0 ⟨rfl, hb0⟩
  have hk1 := HK0.out.below hb0
  have hj1 := HJ0.out.below hb0
  have hB1 := (HB0.out #[.int .i64 S0.g, .int .i64 S0.e, .int .i64 S0.i, .int .i64 S0.m, .slice A0 S0.ps.length c0] 26 #[.int .i64 S1.g, .int .i64 S1.e, .int .i64 S1.i, .int .i64 S1.m, .slice A1 S1.ps.length c1] 26).trans (hb0.mono (HB0.out _ _ _ _).size)
  have f0 := hk1.2.2 0
  have y0 := hk1.at_ 0 rfl
  have f1 := hk1.2.2 1
  have y1 := hk1.at_ 1 rfl
  have f2 := hk1.2.2 2
  have y2 := hk1.at_ 2 rfl
  have f3 := hk1.2.2 3
  have y3 := hk1.at_ 3 rfl
  have f4 := hk1.2.2 4
  have y4 := hk1.at_ 4 rfl
  have z5 := hk1.set5 (.int .i64 T.g) (.int .i64 T.e) (.int .i64 T.i) (.int .i64 T.m) (.slice A0 T.ps.length c0)
  have j5 := ((((hj1.other (b := w.heap.size) (i := 0) (v := .int .i64 T.g) (by omega)).other (b := w.heap.size) (i := 1) (v := .int .i64 T.e) (by omega)).other (b := w.heap.size) (i := 2) (v := .int .i64 T.i) (by omega)).other (b := w.heap.size) (i := 3) (v := .int .i64 T.m) (by omega)).other (b := w.heap.size) (i := 4) (v := .slice A0 T.ps.length c0) (by omega)
  have hB5 := below_set5' hB1 (b := w.heap.size) (Nat.le_refl _) (.int .i64 T.g) (.int .i64 T.e) (.int .i64 T.i) (.int .i64 T.m) (.slice A0 T.ps.length c0)
  have HK := Lib.hid z5
  have HJ := Lib.hid j5
  have HB := Lib.hid hB5
  clear hk1 hj1 hB1 z5 j5 hB5 hb0 HK0 HJ0 HB0
  go_wp2_with fail
  clear f0 f1 f2 f3 f4 y0 y1 y2 y3 y4
  generalize (((((v0.setCell ⟨w.heap.size, 0, none⟩ (.int .i64 T.g)).setCell ⟨w.heap.size, 1, none⟩ (.int .i64 T.e)).setCell ⟨w.heap.size, 2, none⟩ (.int .i64 T.i)).setCell ⟨w.heap.size, 3, none⟩ (.int .i64 T.m)).setCell ⟨w.heap.size, 4, none⟩ (.slice A0 T.ps.length c0)) = V at *
  refine (awake_any _).mono ?_
  rintro e v1 ⟨rfl, hb1⟩
  have hk := HK.out.below hb1
  have HJ1 := Lib.hid (HJ.out.below hb1)
  have HB1 := Lib.hid (HB.out.trans (hb1.mono HB.out.size))
  have HK1 := Lib.hid hk
  have y0 := hk.at_ 0 rfl
  have y1 := hk.at_ 1 rfl
  have y2 := hk.at_ 2 rfl
  have y3 := hk.at_ 3 rfl
  have y4 := hk.at_ 4 rfl
  clear hb1 hk HJ HB HK
  go_wp2_with fail
  refine (is_any T A0 c0 v1 (HRl.out.below HB1.out)).mono ?_
  rintro e v2 ⟨rfl, hb2⟩
  have hk := HK1.out.below hb2
  have HJ2 := Lib.hid (HJ1.out.below hb2)
  have HB2 := Lib.hid (HB1.out.trans (hb2.mono HB1.out.size))
  have HK2 := Lib.hid hk
  clear y0 y1 y2 y3 y4
  have y0 := hk.at_ 0 rfl
  clear hb2 hk HJ1 HB1 HK1
  by_cases hok : Su.ok T = true
  rotate_left
  · rw [Bool.not_eq_true] at hok
    rw [hok]
    go_wp2_with fail
    refine (awake_any _).mono ?_
    rintro e v3 ⟨rfl, hb3⟩
    have hBf := HB2.out.trans (hb3.mono HB2.out.size)
    clear y0 hb3
    go_wp2_with fail
    go_ret
    exact ⟨rfl, hBf⟩
  rw [hok]
  by_cases hg2 : T.g < 2
  · go_wp2_with fail
    refine (awake_any _).mono ?_
    rintro e v3 ⟨rfl, hb3⟩
    have hBf := HB2.out.trans (hb3.mono HB2.out.size)
    clear y0 hb3
    go_wp2_with fail
    go_ret
    exact ⟨rfl, hBf⟩
  have hg3 : 2 ≤ T.g := by omega
  have hg4 : T.g ≤ 2147483647 := by
    obtain ⟨g, e, i, m, hg, he, hi, hm, g1, g2, e1, e2, i1, i2, m1, m2, n1, n2⟩ := ok_nat hok
    omega
  have HOk := Lib.hid hok
  have j0 := HJ2.out.at_ 0 rfl
  have j1 := HJ2.out.at_ 1 rfl
  have j2 := HJ2.out.at_ 2 rfl
  have j3 := HJ2.out.at_ 3 rfl
  have j4 := HJ2.out.at_ 4 rfl
  clear hok hg2
  go_wp2_with fail
  refine (HEl.out (T.g - 1) v2 HB2.out).mono ?_
  rintro e v3 ⟨A2, c2, rfl, hr2, hb3⟩
  have hko := Su.elder_ok S1 (gen := T.g - 1) (by omega) (by omega)
  clear HEl y0 j0 j1 j2 j3 j4
  generalize Su.elder S1 (T.g - 1) = old at *
  have HKo := Lib.hid hko
  have HR2 := Lib.hid hr2
  have HK3 := Lib.hid (HK2.out.below hb3)
  have HB3 := Lib.hid (HB2.out.trans (hb3.mono HB2.out.size))
  have HN3 := Lib.hid (Holds.new v3 #[.int .i64 old.g, .int .i64 old.e, .int .i64 old.i, .int .i64 old.m, .slice A2 old.ps.length c2] 26)
  have HB4 := Lib.hid (HB3.out.alloc HB3.out.size (.cells #[.int .i64 old.g, .int .i64 old.e, .int .i64 old.i, .int .i64 old.m, .slice A2 old.ps.length c2] 26))
  have HB34 := Lib.hid ((Below.refl v3.heap.size v3).alloc (Nat.le_refl _) (.cells #[.int .i64 old.g, .int .i64 old.e, .int .i64 old.i, .int .i64 old.m, .slice A2 old.ps.length c2] 26))
  clear hko hr2 hb3 HK2 HB2 HJ2
  go_wp2_with fail
  have hKT := HK3.out.alloc (.cells #[.int .i64 old.g, .int .i64 old.e, .int .i64 old.i, .int .i64 old.m, .slice A2 old.ps.length c2] 26)
  have hRO := HR2.out.alloc (.cells #[.int .i64 old.g, .int .i64 old.e, .int .i64 old.i, .int .i64 old.m, .slice A2 old.ps.length c2] 26)
  have hRT := HRl.out.below HB4.out
  have hKO := HN3.out
  have hBA := HB4.out
  refine (new_any 6 _).mono ?_
  generalize (v3.alloc (.cells #[.int .i64 old.g, .int .i64 old.e, .int .i64 old.i, .int .i64 old.m, .slice A2 old.ps.length c2] 26)) = a at *
  rintro e v4 hN
  rcases hN with ⟨_, _, d, lab, rfl, hD, hb4, hnl⟩ | ⟨hx, _⟩
  rotate_left
  · exact absurd ⟨by omega, by omega⟩ hx
  have C4 : Cp a v4 d lab (Dk.St.new 6) := ⟨hb4, hD, hnl⟩
  generalize v3.heap.size = so at *
  have HKT := Lib.hid hKT
  have HKO := Lib.hid hKO
  have HRO := Lib.hid hRO
  have HRT := Lib.hid hRT
  have HBA := Lib.hid hBA
  have HC4 := Lib.hid C4
  have HFt := Lib.hid (HF3.out.below hBA)
  obtain ⟨st1, s2, told, hrun⟩ := Su.run1 HOk.out HKo.out.1 HKo.out.2.1 (n2 % 5) (by omega)
  have HRun := Lib.hid hrun
  have HEls := Lib.hid (show Su.eqS old T = false by rw [Bool.eq_false_iff]; intro e; have e2 := Su.eqS_iff.1 e; have := HKo.out.2.1; rw [e2] at this; omega)
  have HFin := Lib.hid (show ∀ v, Below a.heap.size a v → Below w.heap.size w v from fun v hv => HBA.out.trans (hv.mono HBA.out.size))
  have HKl := Lib.hid HKo.out.2.2
  clear hKT hKO hRO hRT hBA C4 hD hb4 hnl HK3 HN3 HR2 HRl HB3 HB4 HB34 hrun HF3
  go_wp2_with fail
  refine (rnew_any 6 _).mono ?_
  rintro e v5 hN
  rcases hN with ⟨_, _, g, labr, rfl, hRf, hb5, hnr⟩ | ⟨hx, _⟩
  rotate_left
  · exact absurd ⟨by omega, by omega⟩ hx
  have HR5 := Lib.hid (Rp.mk_ HC4.out hRf hnr)
  have HNr := Lib.hid (show ∀ k, labr k ≠ .no → a.heap.size ≤ k from fun k hk => Nat.le_trans HC4.out.ba.size (hnr k hk))
  have HC5 := Lib.hid (HC4.out.below hb5)
  clear HC4 hRf hb5 hnr
  have y0 := (HKO.out.below HC5.out.ba).at_ 0 rfl
  have y1 := (HKO.out.below HC5.out.ba).at_ 1 rfl
  have y2 := (HKO.out.below HC5.out.ba).at_ 2 rfl
  have y3 := (HKO.out.below HC5.out.ba).at_ 3 rfl
  have y4 := (HKO.out.below HC5.out.ba).at_ 4 rfl
  go_wp2_with fail
  have HSv := Lib.hid (save_any old A2 c2 v5 d lab _ 0 (HRO.out.below HC5.out.ba) HC5.out.disk Su.new_low (by omega))
  rw [HRun.out.e1] at HSv
  unfold Su.val at HSv
  refine HSv.out.mono ?_
  rintro e v6 ⟨rfl, hL6⟩
  obtain ⟨lab6, hC6, hR6⟩ := HC5.out.left hL6
  have HC6 := Lib.hid hC6
  have HR6 := Lib.hid (hR6 _ _ _ HR5.out)
  clear hL6 hC6 hR6 HC5 HR5 HSv y0 y1 y2 y3 y4
  have y0 := (HKO.out.below HC6.out.ba).at_ 0 rfl
  have y1 := (HKO.out.below HC6.out.ba).at_ 1 rfl
  have y2 := (HKO.out.below HC6.out.ba).at_ 2 rfl
  have y3 := (HKO.out.below HC6.out.ba).at_ 3 rfl
  have y4 := (HKO.out.below HC6.out.ba).at_ 4 rfl
  go_wp2_with fail
  have HSv := Lib.hid (rsave_any old A2 c2 v6 g labr (Dk.St.new 6) 0 (HRO.out.below HC6.out.ba) HR6.out.ref Su.new_low (by omega))
  rw [HRun.out.e1] at HSv
  unfold Su.val at HSv
  refine HSv.out.mono ?_
  rintro e v7 ⟨rfl, hL7⟩
  obtain ⟨labr7, hC7, hR7⟩ := HC6.out.leftR HR6.out hL7 HNr.out
  have HC7 := Lib.hid hC7
  have HR7 := Lib.hid hR7
  clear hL7 hC7 hR7 HC6 HR6 HSv HNr y0 y1 y2 y3 y4
  have hk5 : (n2 : Int) % 5 = ((n2 % 5 : Nat) : Int) := by omega
  have HFu := Lib.hid (fuse_m ((n2 % 5 : Nat) : Int) v7 d lab6 st1 HC7.out.disk)
  rw [HRun.out.ef] at HFu
  generalize n2 % 5 = kf at *
  go_wp2_with fail
  refine HFu.out.mono ?_
  rintro e v8 ⟨rfl, hL8⟩
  obtain ⟨lab8, hC8, hR8⟩ := HC7.out.left hL8
  have HC8 := Lib.hid hC8
  have HR8 := Lib.hid (hR8 _ _ _ HR7.out)
  clear hL8 hC8 hR8 HC7 HR7 HFu hk5
  have t0 := (HKT.out.below HC8.out.ba).at_ 0 rfl
  have t1 := (HKT.out.below HC8.out.ba).at_ 1 rfl
  have t2 := (HKT.out.below HC8.out.ba).at_ 2 rfl
  have t3 := (HKT.out.below HC8.out.ba).at_ 3 rfl
  have t4 := (HKT.out.below HC8.out.ba).at_ 4 rfl
  have HSv := Lib.hid (save_any T A0 c0 v8 d lab8 _ 4 (HRT.out.below HC8.out.ba) HC8.out.disk (low_fuse HRun.out.l1 _) (by omega))
  rw [HRun.out.e2] at HSv
  unfold Su.val at HSv
  go_wp2_with fail
  refine HSv.out.mono ?_
  rintro e v9 ⟨rfl, hL9⟩
  obtain ⟨lab9, hC9, hR9⟩ := HC8.out.left hL9
  have HC9 := Lib.hid hC9
  have HR9 := Lib.hid (hR9 _ _ _ HR8.out)
  clear hL9 hC9 hR9 HC8 HR8 HSv t0 t1 t2 t3 t4
  go_wp2_with fail
  refine (loose_any v9 d lab9 s2 HC9.out.disk).mono ?_
  rintro e v10 ⟨A10, c10, rfl, hO10, hb10⟩
  have HC10 := Lib.hid (HC9.out.below hb10)
  have HR10 := Lib.hid (HR9.out.below hb10)
  have HLr := Lib.hid hO10.rd
  clear hb10 hO10 HC9 HR9
  obtain ⟨nl, hnl⟩ : ∃ nl, nl = s2.loose.length := ⟨_, rfl⟩
  rw [← hnl] at HLr ⊢
  have HNl := Lib.hid hnl
  have hnl6 : nl ≤ 6 := by rw [hnl]; exact HRun.out.len
  have HN6 := Lib.hid hnl6
  clear hnl hnl6
  go_wp2_with fail
  refine (fit_any A10 nl c10 s2.loose A3 m3 c3 l3 v10 HLr.out HNl.out.symm HRun.out.few (HFt.out.below HC10.out.ba) HWn.out (by have := HN6.out; omega) (by have := HW3.out; omega)).mono ?_
  rintro e v11 ⟨A11, c11, fs, rfl, hO11, hfit, hb11⟩
  have HC11 := Lib.hid (HC10.out.below hb11)
  have HR11 := Lib.hid (HR10.out.below hb11)
  have HFr := Lib.hid hO11.rd
  have HFit := Lib.hid hfit
  clear hb11 hO11 hfit HC10 HR10 HLr
  obtain ⟨kl, hkl⟩ : ∃ kl, kl = min m3 nl := ⟨_, rfl⟩
  rw [← hkl] at HFr HFit ⊢
  have HKl2 := Lib.hid (show kl ≤ nl by omega)
  clear hkl
  have hcr := crash_any v11 d lab9 s2 HC11.out.disk A11 kl c11 fs HFr.out HFit.out.1 (by have := HKl2.out; have := HN6.out; omega)
  have hce : s2.crashE fs = 0 := HFit.out.crash_le (by have := HKl2.out; rw [← HNl.out]; exact this)
  have HCr := Lib.hid hcr
  have HCe := Lib.hid hce
  clear hcr hce
  go_wp2_with fail
  refine HCr.out.mono ?_
  rintro e v12 hcr
  rcases hcr with ⟨_, x, rfl, labx, hX, hb12, hnx⟩ | ⟨hne, _⟩
  rotate_left
  · exact absurd HCe.out hne
  have hcrs := HRun.out.crash fs
  generalize s2.crash fs = sx at *
  have HCrs := Lib.hid hcrs
  have HB12 := Lib.hid (HC11.out.below hb12).ba
  have HR12 := Lib.hid (HR11.out.below hb12).ref
  have HX12 := Lib.hid hX
  clear hcrs hb12 hX HC11 HR11 HCr HCe HFr HFit hnx HKl2 HN6 HNl HW3 HWn HFt
  go_wp2_with fail
  refine wp_loop_rounds 7 ?_
  rw [rounds_succ]
  go_wp2_with fail
  refine (read_any 0 v12 x labx sx HX12.out).mono ?_
  rintro e v100 ⟨A9, n9, c9, he, hRd9, hb9, hn9, hbuf⟩
  have hrdy : sx.ready 0 = 0 := HCrs.out.ready 0 (by omega)
  obtain ⟨rfl, rfl, rfl, hbuf⟩ := hbuf hrdy
  rw [hrdy] at he
  subst he
  have HRd := Lib.hid hRd9
  have HB100 := Lib.hid (HB12.out.trans (hb9.mono HB12.out.size))
  have HR100 := Lib.hid (HR12.out.below hb9)
  have HX100 := Lib.hid (HX12.out.below hb9)
  clear hb9 hRd9 hn9 hbuf hrdy HB12 HR12 HX12
  have HKn := Lib.hid (known_any v100 g labr7 st1 0 old T A2 A0 c2 c0 HR100.out (HRO.out.below HB100.out) (HRT.out.below HB100.out))
  rw [Su.encL_ok HOk.out, Su.encL_ok HKo.out.1] at HKn
  unfold Su.val at HKn
  have y0 := (HKO.out.below HB100.out).at_ 0 rfl
  have y1 := (HKO.out.below HB100.out).at_ 1 rfl
  have y2 := (HKO.out.below HB100.out).at_ 2 rfl
  have y3 := (HKO.out.below HB100.out).at_ 3 rfl
  have y4 := (HKO.out.below HB100.out).at_ 4 rfl
  have t0 := (HKT.out.below HB100.out).at_ 0 rfl
  have t1 := (HKT.out.below HB100.out).at_ 1 rfl
  have t2 := (HKT.out.below HB100.out).at_ 2 rfl
  have t3 := (HKT.out.below HB100.out).at_ 3 rfl
  have t4 := (HKT.out.below HB100.out).at_ 4 rfl
  generalize v12.heap.size = bb0 at *
  go_wp2_with fail
  refine HKn.out.mono ?_
  rintro e v101 ⟨kb, rfl, hk10, hb10⟩
  have HB101 := Lib.hid (HB100.out.trans (hb10.mono HB100.out.size))
  have HR101 := Lib.hid (HR100.out.below hb10)
  have HX101 := Lib.hid (HX100.out.below hb10)
  have HRd2 := Lib.hid (HRd.out.below hb10)
  have HK10 := Lib.hid hk10
  clear hb10 hk10 HKn HRd HB100 HR100 HX100 y0 y1 y2 y3 y4 t0 t1 t2 t3 t4
  go_wp2_with fail
  refine (strange_any _ 128 128 _ v101 _ (st1.readB 0) (Su.sec old) (Su.sec T) HRd2.out (by omega) (by omega) HK10.out (HCrs.out.lt 0 (by omega)) (Su.sec_lt old) (Su.sec_lt T)).mono ?_
  rintro e v102 ⟨rfl, hb11⟩
  have HB102 := Lib.hid (HB101.out.trans (hb11.mono HB101.out.size))
  have HR102 := Lib.hid (HR101.out.below hb11)
  have HX102 := Lib.hid (HX101.out.below hb11)
  clear hb11 HB101 HR101 HX101 HRd2 HK10
  by_cases hst0 : Su.strange (sx.readB 0) (st1.readB 0) (Su.sec old) (Su.sec T) = true
  · rw [hst0]
    go_wp2_with fail
    go_ret
    exact ⟨rfl, HFin.out _ HB102.out⟩
  rw [Bool.not_eq_true] at hst0
  rw [hst0]
  have HS0 := Lib.hid hst0
  clear hst0
  go_wp2_with fail
  rw [rounds_succ]
  go_wp2_with fail
  refine (read_any 1 v102 x labx sx HX102.out).mono ?_
  rintro e v110 ⟨A9, n9, c9, he, hRd9, hb9, hn9, hbuf⟩
  have hrdy : sx.ready 1 = 0 := HCrs.out.ready 1 (by omega)
  obtain ⟨rfl, rfl, rfl, hbuf⟩ := hbuf hrdy
  rw [hrdy] at he
  subst he
  have HRd := Lib.hid hRd9
  have HB110 := Lib.hid (HB102.out.trans (hb9.mono HB102.out.size))
  have HR110 := Lib.hid (HR102.out.below hb9)
  have HX110 := Lib.hid (HX102.out.below hb9)
  clear hb9 hRd9 hn9 hbuf hrdy HB102 HR102 HX102
  have HKn := Lib.hid (known_any v110 g labr7 st1 1 old T A2 A0 c2 c0 HR110.out (HRO.out.below HB110.out) (HRT.out.below HB110.out))
  rw [Su.encL_ok HOk.out, Su.encL_ok HKo.out.1] at HKn
  unfold Su.val at HKn
  have y0 := (HKO.out.below HB110.out).at_ 0 rfl
  have y1 := (HKO.out.below HB110.out).at_ 1 rfl
  have y2 := (HKO.out.below HB110.out).at_ 2 rfl
  have y3 := (HKO.out.below HB110.out).at_ 3 rfl
  have y4 := (HKO.out.below HB110.out).at_ 4 rfl
  have t0 := (HKT.out.below HB110.out).at_ 0 rfl
  have t1 := (HKT.out.below HB110.out).at_ 1 rfl
  have t2 := (HKT.out.below HB110.out).at_ 2 rfl
  have t3 := (HKT.out.below HB110.out).at_ 3 rfl
  have t4 := (HKT.out.below HB110.out).at_ 4 rfl
  generalize v102.heap.size = bb1 at *
  go_wp2_with fail
  refine HKn.out.mono ?_
  rintro e v111 ⟨kb, rfl, hk10, hb10⟩
  have HB111 := Lib.hid (HB110.out.trans (hb10.mono HB110.out.size))
  have HR111 := Lib.hid (HR110.out.below hb10)
  have HX111 := Lib.hid (HX110.out.below hb10)
  have HRd2 := Lib.hid (HRd.out.below hb10)
  have HK10 := Lib.hid hk10
  clear hb10 hk10 HKn HRd HB110 HR110 HX110 y0 y1 y2 y3 y4 t0 t1 t2 t3 t4
  go_wp2_with fail
  refine (strange_any _ 128 128 _ v111 _ (st1.readB 1) (Su.sec old) (Su.sec T) HRd2.out (by omega) (by omega) HK10.out (HCrs.out.lt 1 (by omega)) (Su.sec_lt old) (Su.sec_lt T)).mono ?_
  rintro e v112 ⟨rfl, hb11⟩
  have HB112 := Lib.hid (HB111.out.trans (hb11.mono HB111.out.size))
  have HR112 := Lib.hid (HR111.out.below hb11)
  have HX112 := Lib.hid (HX111.out.below hb11)
  clear hb11 HB111 HR111 HX111 HRd2 HK10
  by_cases hst1 : Su.strange (sx.readB 1) (st1.readB 1) (Su.sec old) (Su.sec T) = true
  · rw [hst1]
    go_wp2_with fail
    go_ret
    exact ⟨rfl, HFin.out _ HB112.out⟩
  rw [Bool.not_eq_true] at hst1
  rw [hst1]
  have HS1 := Lib.hid hst1
  clear hst1
  go_wp2_with fail
  rw [rounds_succ]
  go_wp2_with fail
  refine (read_any 2 v112 x labx sx HX112.out).mono ?_
  rintro e v120 ⟨A9, n9, c9, he, hRd9, hb9, hn9, hbuf⟩
  have hrdy : sx.ready 2 = 0 := HCrs.out.ready 2 (by omega)
  obtain ⟨rfl, rfl, rfl, hbuf⟩ := hbuf hrdy
  rw [hrdy] at he
  subst he
  have HRd := Lib.hid hRd9
  have HB120 := Lib.hid (HB112.out.trans (hb9.mono HB112.out.size))
  have HR120 := Lib.hid (HR112.out.below hb9)
  have HX120 := Lib.hid (HX112.out.below hb9)
  clear hb9 hRd9 hn9 hbuf hrdy HB112 HR112 HX112
  have HKn := Lib.hid (known_any v120 g labr7 st1 2 old T A2 A0 c2 c0 HR120.out (HRO.out.below HB120.out) (HRT.out.below HB120.out))
  rw [Su.encL_ok HOk.out, Su.encL_ok HKo.out.1] at HKn
  unfold Su.val at HKn
  have y0 := (HKO.out.below HB120.out).at_ 0 rfl
  have y1 := (HKO.out.below HB120.out).at_ 1 rfl
  have y2 := (HKO.out.below HB120.out).at_ 2 rfl
  have y3 := (HKO.out.below HB120.out).at_ 3 rfl
  have y4 := (HKO.out.below HB120.out).at_ 4 rfl
  have t0 := (HKT.out.below HB120.out).at_ 0 rfl
  have t1 := (HKT.out.below HB120.out).at_ 1 rfl
  have t2 := (HKT.out.below HB120.out).at_ 2 rfl
  have t3 := (HKT.out.below HB120.out).at_ 3 rfl
  have t4 := (HKT.out.below HB120.out).at_ 4 rfl
  generalize v112.heap.size = bb2 at *
  go_wp2_with fail
  refine HKn.out.mono ?_
  rintro e v121 ⟨kb, rfl, hk10, hb10⟩
  have HB121 := Lib.hid (HB120.out.trans (hb10.mono HB120.out.size))
  have HR121 := Lib.hid (HR120.out.below hb10)
  have HX121 := Lib.hid (HX120.out.below hb10)
  have HRd2 := Lib.hid (HRd.out.below hb10)
  have HK10 := Lib.hid hk10
  clear hb10 hk10 HKn HRd HB120 HR120 HX120 y0 y1 y2 y3 y4 t0 t1 t2 t3 t4
  go_wp2_with fail
  refine (strange_any _ 128 128 _ v121 _ (st1.readB 2) (Su.sec old) (Su.sec T) HRd2.out (by omega) (by omega) HK10.out (HCrs.out.lt 2 (by omega)) (Su.sec_lt old) (Su.sec_lt T)).mono ?_
  rintro e v122 ⟨rfl, hb11⟩
  have HB122 := Lib.hid (HB121.out.trans (hb11.mono HB121.out.size))
  have HR122 := Lib.hid (HR121.out.below hb11)
  have HX122 := Lib.hid (HX121.out.below hb11)
  clear hb11 HB121 HR121 HX121 HRd2 HK10
  by_cases hst2 : Su.strange (sx.readB 2) (st1.readB 2) (Su.sec old) (Su.sec T) = true
  · rw [hst2]
    go_wp2_with fail
    go_ret
    exact ⟨rfl, HFin.out _ HB122.out⟩
  rw [Bool.not_eq_true] at hst2
  rw [hst2]
  have HS2 := Lib.hid hst2
  clear hst2
  go_wp2_with fail
  rw [rounds_succ]
  go_wp2_with fail
  refine (read_any 3 v122 x labx sx HX122.out).mono ?_
  rintro e v130 ⟨A9, n9, c9, he, hRd9, hb9, hn9, hbuf⟩
  have hrdy : sx.ready 3 = 0 := HCrs.out.ready 3 (by omega)
  obtain ⟨rfl, rfl, rfl, hbuf⟩ := hbuf hrdy
  rw [hrdy] at he
  subst he
  have HRd := Lib.hid hRd9
  have HB130 := Lib.hid (HB122.out.trans (hb9.mono HB122.out.size))
  have HR130 := Lib.hid (HR122.out.below hb9)
  have HX130 := Lib.hid (HX122.out.below hb9)
  clear hb9 hRd9 hn9 hbuf hrdy HB122 HR122 HX122
  have HKn := Lib.hid (known_any v130 g labr7 st1 3 old T A2 A0 c2 c0 HR130.out (HRO.out.below HB130.out) (HRT.out.below HB130.out))
  rw [Su.encL_ok HOk.out, Su.encL_ok HKo.out.1] at HKn
  unfold Su.val at HKn
  have y0 := (HKO.out.below HB130.out).at_ 0 rfl
  have y1 := (HKO.out.below HB130.out).at_ 1 rfl
  have y2 := (HKO.out.below HB130.out).at_ 2 rfl
  have y3 := (HKO.out.below HB130.out).at_ 3 rfl
  have y4 := (HKO.out.below HB130.out).at_ 4 rfl
  have t0 := (HKT.out.below HB130.out).at_ 0 rfl
  have t1 := (HKT.out.below HB130.out).at_ 1 rfl
  have t2 := (HKT.out.below HB130.out).at_ 2 rfl
  have t3 := (HKT.out.below HB130.out).at_ 3 rfl
  have t4 := (HKT.out.below HB130.out).at_ 4 rfl
  generalize v122.heap.size = bb3 at *
  go_wp2_with fail
  refine HKn.out.mono ?_
  rintro e v131 ⟨kb, rfl, hk10, hb10⟩
  have HB131 := Lib.hid (HB130.out.trans (hb10.mono HB130.out.size))
  have HR131 := Lib.hid (HR130.out.below hb10)
  have HX131 := Lib.hid (HX130.out.below hb10)
  have HRd2 := Lib.hid (HRd.out.below hb10)
  have HK10 := Lib.hid hk10
  clear hb10 hk10 HKn HRd HB130 HR130 HX130 y0 y1 y2 y3 y4 t0 t1 t2 t3 t4
  go_wp2_with fail
  refine (strange_any _ 128 128 _ v131 _ (st1.readB 3) (Su.sec old) (Su.sec T) HRd2.out (by omega) (by omega) HK10.out (HCrs.out.lt 3 (by omega)) (Su.sec_lt old) (Su.sec_lt T)).mono ?_
  rintro e v132 ⟨rfl, hb11⟩
  have HB132 := Lib.hid (HB131.out.trans (hb11.mono HB131.out.size))
  have HR132 := Lib.hid (HR131.out.below hb11)
  have HX132 := Lib.hid (HX131.out.below hb11)
  clear hb11 HB131 HR131 HX131 HRd2 HK10
  by_cases hst3 : Su.strange (sx.readB 3) (st1.readB 3) (Su.sec old) (Su.sec T) = true
  · rw [hst3]
    go_wp2_with fail
    go_ret
    exact ⟨rfl, HFin.out _ HB132.out⟩
  rw [Bool.not_eq_true] at hst3
  rw [hst3]
  have HS3 := Lib.hid hst3
  clear hst3
  go_wp2_with fail
  rw [rounds_succ]
  go_wp2_with fail
  refine (read_any 4 v132 x labx sx HX132.out).mono ?_
  rintro e v140 ⟨A9, n9, c9, he, hRd9, hb9, hn9, hbuf⟩
  have hrdy : sx.ready 4 = 0 := HCrs.out.ready 4 (by omega)
  obtain ⟨rfl, rfl, rfl, hbuf⟩ := hbuf hrdy
  rw [hrdy] at he
  subst he
  have HRd := Lib.hid hRd9
  have HB140 := Lib.hid (HB132.out.trans (hb9.mono HB132.out.size))
  have HR140 := Lib.hid (HR132.out.below hb9)
  have HX140 := Lib.hid (HX132.out.below hb9)
  clear hb9 hRd9 hn9 hbuf hrdy HB132 HR132 HX132
  have HKn := Lib.hid (known_any v140 g labr7 st1 4 old T A2 A0 c2 c0 HR140.out (HRO.out.below HB140.out) (HRT.out.below HB140.out))
  rw [Su.encL_ok HOk.out, Su.encL_ok HKo.out.1] at HKn
  unfold Su.val at HKn
  have y0 := (HKO.out.below HB140.out).at_ 0 rfl
  have y1 := (HKO.out.below HB140.out).at_ 1 rfl
  have y2 := (HKO.out.below HB140.out).at_ 2 rfl
  have y3 := (HKO.out.below HB140.out).at_ 3 rfl
  have y4 := (HKO.out.below HB140.out).at_ 4 rfl
  have t0 := (HKT.out.below HB140.out).at_ 0 rfl
  have t1 := (HKT.out.below HB140.out).at_ 1 rfl
  have t2 := (HKT.out.below HB140.out).at_ 2 rfl
  have t3 := (HKT.out.below HB140.out).at_ 3 rfl
  have t4 := (HKT.out.below HB140.out).at_ 4 rfl
  generalize v132.heap.size = bb4 at *
  go_wp2_with fail
  refine HKn.out.mono ?_
  rintro e v141 ⟨kb, rfl, hk10, hb10⟩
  have HB141 := Lib.hid (HB140.out.trans (hb10.mono HB140.out.size))
  have HR141 := Lib.hid (HR140.out.below hb10)
  have HX141 := Lib.hid (HX140.out.below hb10)
  have HRd2 := Lib.hid (HRd.out.below hb10)
  have HK10 := Lib.hid hk10
  clear hb10 hk10 HKn HRd HB140 HR140 HX140 y0 y1 y2 y3 y4 t0 t1 t2 t3 t4
  go_wp2_with fail
  refine (strange_any _ 128 128 _ v141 _ (st1.readB 4) (Su.sec old) (Su.sec T) HRd2.out (by omega) (by omega) HK10.out (HCrs.out.lt 4 (by omega)) (Su.sec_lt old) (Su.sec_lt T)).mono ?_
  rintro e v142 ⟨rfl, hb11⟩
  have HB142 := Lib.hid (HB141.out.trans (hb11.mono HB141.out.size))
  have HR142 := Lib.hid (HR141.out.below hb11)
  have HX142 := Lib.hid (HX141.out.below hb11)
  clear hb11 HB141 HR141 HX141 HRd2 HK10
  by_cases hst4 : Su.strange (sx.readB 4) (st1.readB 4) (Su.sec old) (Su.sec T) = true
  · rw [hst4]
    go_wp2_with fail
    go_ret
    exact ⟨rfl, HFin.out _ HB142.out⟩
  rw [Bool.not_eq_true] at hst4
  rw [hst4]
  have HS4 := Lib.hid hst4
  clear hst4
  go_wp2_with fail
  rw [rounds_succ]
  go_wp2_with fail
  refine (read_any 5 v142 x labx sx HX142.out).mono ?_
  rintro e v150 ⟨A9, n9, c9, he, hRd9, hb9, hn9, hbuf⟩
  have hrdy : sx.ready 5 = 0 := HCrs.out.ready 5 (by omega)
  obtain ⟨rfl, rfl, rfl, hbuf⟩ := hbuf hrdy
  rw [hrdy] at he
  subst he
  have HRd := Lib.hid hRd9
  have HB150 := Lib.hid (HB142.out.trans (hb9.mono HB142.out.size))
  have HR150 := Lib.hid (HR142.out.below hb9)
  have HX150 := Lib.hid (HX142.out.below hb9)
  clear hb9 hRd9 hn9 hbuf hrdy HB142 HR142 HX142
  have HKn := Lib.hid (known_any v150 g labr7 st1 5 old T A2 A0 c2 c0 HR150.out (HRO.out.below HB150.out) (HRT.out.below HB150.out))
  rw [Su.encL_ok HOk.out, Su.encL_ok HKo.out.1] at HKn
  unfold Su.val at HKn
  have y0 := (HKO.out.below HB150.out).at_ 0 rfl
  have y1 := (HKO.out.below HB150.out).at_ 1 rfl
  have y2 := (HKO.out.below HB150.out).at_ 2 rfl
  have y3 := (HKO.out.below HB150.out).at_ 3 rfl
  have y4 := (HKO.out.below HB150.out).at_ 4 rfl
  have t0 := (HKT.out.below HB150.out).at_ 0 rfl
  have t1 := (HKT.out.below HB150.out).at_ 1 rfl
  have t2 := (HKT.out.below HB150.out).at_ 2 rfl
  have t3 := (HKT.out.below HB150.out).at_ 3 rfl
  have t4 := (HKT.out.below HB150.out).at_ 4 rfl
  generalize v142.heap.size = bb5 at *
  go_wp2_with fail
  refine HKn.out.mono ?_
  rintro e v151 ⟨kb, rfl, hk10, hb10⟩
  have HB151 := Lib.hid (HB150.out.trans (hb10.mono HB150.out.size))
  have HR151 := Lib.hid (HR150.out.below hb10)
  have HX151 := Lib.hid (HX150.out.below hb10)
  have HRd2 := Lib.hid (HRd.out.below hb10)
  have HK10 := Lib.hid hk10
  clear hb10 hk10 HKn HRd HB150 HR150 HX150 y0 y1 y2 y3 y4 t0 t1 t2 t3 t4
  go_wp2_with fail
  refine (strange_any _ 128 128 _ v151 _ (st1.readB 5) (Su.sec old) (Su.sec T) HRd2.out (by omega) (by omega) HK10.out (HCrs.out.lt 5 (by omega)) (Su.sec_lt old) (Su.sec_lt T)).mono ?_
  rintro e v152 ⟨rfl, hb11⟩
  have HB152 := Lib.hid (HB151.out.trans (hb11.mono HB151.out.size))
  have HR152 := Lib.hid (HR151.out.below hb11)
  have HX152 := Lib.hid (HX151.out.below hb11)
  clear hb11 HB151 HR151 HX151 HRd2 HK10
  by_cases hst5 : Su.strange (sx.readB 5) (st1.readB 5) (Su.sec old) (Su.sec T) = true
  · rw [hst5]
    go_wp2_with fail
    go_ret
    exact ⟨rfl, HFin.out _ HB152.out⟩
  rw [Bool.not_eq_true] at hst5
  rw [hst5]
  have HS5 := Lib.hid hst5
  clear hst5
  go_wp2_with fail
  rw [rounds_succ]
  obtain ⟨t, hld, htt⟩ := HCrs.out.load (fun i hi => by rcases (by omega : i = 0 ∨ i = 1 ∨ i = 2 ∨ i = 3 ∨ i = 4 ∨ i = 5) with rfl | rfl | rfl | rfl | rfl | rfl <;> first | exact HS0.out | exact HS1.out | exact HS2.out | exact HS3.out | exact HS4.out | exact HS5.out)
  have hL := load_any v152 x labx sx HX152.out
  rw [hld] at hL
  have HL := Lib.hid (show Calls Try.prog 22 #[.pointer (some ⟨x, 0, none⟩)] v152 (GivesSu v152 t 0) from hL)
  have HTt := Lib.hid htt
  clear hL hld htt HS0 HS1 HS2 HS3 HS4 HS5 HCrs HX152 HR152
  go_wp2_with fail
  refine HL.out.mono ?_
  rintro e v200 ⟨A12, c12, rfl, hR12, hn12, hb12⟩
  have hX := Holds.new v200 #[.int .i64 t.g, .int .i64 t.e, .int .i64 t.i, .int .i64 t.m, .slice A12 t.ps.length c12] 26
  have hB200 := HB152.out.trans (hb12.mono HB152.out.size)
  have HB201 := Lib.hid (hB200.alloc hB200.size (.cells #[.int .i64 t.g, .int .i64 t.e, .int .i64 t.i, .int .i64 t.m, .slice A12 t.ps.length c12] 26))
  have HR201 := Lib.hid (hR12.alloc (.cells #[.int .i64 t.g, .int .i64 t.e, .int .i64 t.i, .int .i64 t.m, .slice A12 t.ps.length c12] 26))
  have HXx := Lib.hid hX
  clear hR12 hn12 hb12 hB200 hX HL HB152
  rcases HTt.out with htt | ⟨hto, htt⟩
  · rw [htt] at HXx HB201 HR201 ⊢
    clear HTt htt
    have u0 := HXx.out.at_ 0 rfl
    have u1 := HXx.out.at_ 1 rfl
    have u2 := HXx.out.at_ 2 rfl
    have u3 := HXx.out.at_ 3 rfl
    have u4 := HXx.out.at_ 4 rfl
    have t0 := (HKT.out.below HB201.out).at_ 0 rfl
    have t1 := (HKT.out.below HB201.out).at_ 1 rfl
    have t2 := (HKT.out.below HB201.out).at_ 2 rfl
    have t3 := (HKT.out.below HB201.out).at_ 3 rfl
    have t4 := (HKT.out.below HB201.out).at_ 4 rfl
    have HSm := Lib.hid (same_su T T A12 A0 c12 c0 _ HR201.out (HRT.out.below HB201.out) HTl.out HTl.out)
    rw [Su.eqS_iff.2 rfl] at HSm
    unfold Su.val at HSm
    go_wp2_with fail
    refine HSm.out.mono ?_
    rintro e v202 ⟨rfl, hb⟩
    have HB202 := Lib.hid (HB201.out.trans (hb.mono HB201.out.size))
    generalize (v200.alloc (.cells #[.int .i64 T.g, .int .i64 T.e, .int .i64 T.i, .int .i64 T.m, .slice A12 T.ps.length c12] 26)) = v201 at *
    generalize v200.heap.size = bx at *
    clear hb HSm u0 u1 u2 u3 u4 t0 t1 t2 t3 t4
    go_wp2_with fail
    go_ret
    exact ⟨rfl, HFin.out _ HB202.out⟩
  · rw [htt] at HXx HB201 HR201 ⊢
    clear HTt htt
    have u0 := HXx.out.at_ 0 rfl
    have u1 := HXx.out.at_ 1 rfl
    have u2 := HXx.out.at_ 2 rfl
    have u3 := HXx.out.at_ 3 rfl
    have u4 := HXx.out.at_ 4 rfl
    have t0 := (HKT.out.below HB201.out).at_ 0 rfl
    have t1 := (HKT.out.below HB201.out).at_ 1 rfl
    have t2 := (HKT.out.below HB201.out).at_ 2 rfl
    have t3 := (HKT.out.below HB201.out).at_ 3 rfl
    have t4 := (HKT.out.below HB201.out).at_ 4 rfl
    have htb : (told != 0) = true := by simpa using hto
    have HSm := Lib.hid (same_su old T A12 A0 c12 c0 _ HR201.out (HRT.out.below HB201.out) HKl.out HTl.out)
    rw [HEls.out] at HSm
    unfold Su.val at HSm
    go_wp2_with fail
    refine HSm.out.mono ?_
    rintro e v202 ⟨rfl, hb⟩
    have HB202 := Lib.hid (HB201.out.trans (hb.mono HB201.out.size))
    generalize (v200.alloc (.cells #[.int .i64 old.g, .int .i64 old.e, .int .i64 old.i, .int .i64 old.m, .slice A12 old.ps.length c12] 26)) = v201 at *
    generalize v200.heap.size = bx at *
    have HX2 := Lib.hid (HXx.out.below hb)
    have HR202 := Lib.hid (HR201.out.below hb)
    clear hb HSm u0 u1 u2 u3 u4 t0 t1 t2 t3 t4 HXx HR201 HB201
    have u0 := HX2.out.at_ 0 rfl
    have u1 := HX2.out.at_ 1 rfl
    have u2 := HX2.out.at_ 2 rfl
    have u3 := HX2.out.at_ 3 rfl
    have u4 := HX2.out.at_ 4 rfl
    have y0 := (HKO.out.below HB202.out).at_ 0 rfl
    have y1 := (HKO.out.below HB202.out).at_ 1 rfl
    have y2 := (HKO.out.below HB202.out).at_ 2 rfl
    have y3 := (HKO.out.below HB202.out).at_ 3 rfl
    have y4 := (HKO.out.below HB202.out).at_ 4 rfl
    have HSm := Lib.hid (same_su old old A12 A2 c12 c2 v202 HR202.out (HRO.out.below HB202.out) HKl.out HKl.out)
    rw [Su.eqS_iff.2 rfl] at HSm
    unfold Su.val at HSm
    go_wp2_with fail
    refine HSm.out.mono ?_
    rintro e v203 ⟨rfl, hb⟩
    have HB203 := Lib.hid (HB202.out.trans (hb.mono HB202.out.size))
    clear hb HSm u0 u1 u2 u3 u4 y0 y1 y2 y3 y4
    go_wp2_with fail
    go_ret
    exact ⟨rfl, HFin.out _ HB203.out⟩
set_option maxRecDepth 100000 in
theorem lifted (os : Os) (started : os.Started) (H : Type) (enc : TypeId × Value → H) :
    ReturnsInHanded {} Try.checked os 7 .any (Rows.superOneSpec.pre6 enc Try.prog Try.f7 Rows.superOneRow.domain false) (Rows.superOneSpec.post enc Try.prog Try.f7 false true false false) := by
  refine returnsInHanded_of_change_sized (C := Try.checked) own started (by kernel_rfl) Try.func7
    (ChangeSpec.witness6 (enc := enc) (C := Try.checked) false ⟨#[], #[.agg #[.int .i64 0, .int .i64 0, .int .i64 0, .int .i64 0, .slice none 0 0], .agg #[.int .i64 0, .int .i64 0, .int .i64 0, .int .i64 0, .slice none 0 0], .int .u8 0, .slice none 0 0], []⟩ 8 (by kernel_rfl) (by kernel_rfl) (by kernel_rfl) (by kernel_rfl)) ?_
  intro W base args ds gs before hval0 hW hcnd hsz _
  have hval : ∀ (j : Nat) t v, Try.f7.params[j]? = some t → args[j]? = some v → Value.okWide Try.prog W .any base t v := hval0
  have hW' := hW
  obtain ⟨p, q, hA0, hV, rfl, hfz, hnd⟩ := hW
  have hA : DataW.TrodAll enc Try.prog W 0 (fun _ => true) true Try.f7.params.toList args.toList ds p := hA0
  rw [Try.params7] at hA hval
  obtain ⟨v0, vs0, d0, ds0, p0, q0, hargs, rfl, rfl, h0, t0⟩ := trodAll_cons hA
  obtain ⟨v1, vs1, d1, ds1, p1, q1, rfl, rfl, rfl, h1, t1⟩ := trodAll_cons t0
  obtain ⟨v2, vs2, d2, ds2, p2, q2, rfl, rfl, rfl, h2, t2⟩ := trodAll_cons t1
  obtain ⟨v3, vs3, d3, ds3, p3, q3, rfl, rfl, rfl, h3, t3⟩ := trodAll_cons t2
  obtain ⟨rfl, rfl, rfl⟩ := trodAll_nil t3
  obtain rfl : args = #[v0, v1, v2, v3] := by cases args; simp_all
  obtain ⟨rfl, rfl⟩ := trodVars_none hV
  have k0 : Reads enc W 26 v0 d0 p0 := h0
  have lt0 : ∀ x ∈ p0, x.block < W.heap.size := by obtain ⟨m, hm⟩ := k0; exact DataW.trod_lt m _ _ _ hm
  obtain ⟨S0, A0, c0, rfl, r0, wc0, w0⟩ := in_super (hval 0 26 v0 rfl rfl) k0
  have k1 : Reads enc W 26 v1 d1 p1 := h1
  have lt1 : ∀ x ∈ p1, x.block < W.heap.size := by obtain ⟨m, hm⟩ := k1; exact DataW.trod_lt m _ _ _ hm
  obtain ⟨S1, A1, c1, rfl, r1, wc1, w1⟩ := in_super (hval 1 26 v1 rfl rfl) k1
  have k2 : Reads enc W 5 v2 d2 p2 := h2
  have lt2 : ∀ x ∈ p2, x.block < W.heap.size := by obtain ⟨m, hm⟩ := k2; exact DataW.trod_lt m _ _ _ hm
  obtain ⟨n2, rfl, w2⟩ := in_u8 (hval 2 5 v2 rfl rfl) k2
  have k3 : Reads enc W 51 v3 d3 p3 := h3
  have lt3 : ∀ x ∈ p3, x.block < W.heap.size := by obtain ⟨m, hm⟩ := k3; exact DataW.trod_lt m _ _ _ hm
  obtain ⟨A3, m3, c3, l3, rfl, wn3, r3, w3⟩ := in_fates hsz 3 rfl rfl (hval 3 51 v3 rfl rfl) k3
  clear hA0 hval0
  refine (walk S0 A0 c0 S1 A1 c1 n2 A3 m3 c3 l3 W r0 wc0 w0 r1 wc1 w1 w2 wn3 r3 w3).mono fun e W' ⟨he, bel⟩ => ?_
  subst he
  exact ⟨_, rfl, _, _, _, [], _, [], hW', trodAll_mk1 (shut_bool Try.underlying4 _), (trodAll_cons_mk (Below.trod laidOut (by kernel_rfl) (of_decide_eq_true (by kernel_rfl)) k0 bel lt0) (trodAll_cons_mk (Below.trod laidOut (by kernel_rfl) (of_decide_eq_true (by kernel_rfl)) k1 bel lt1) (trodAll_cons_mk (Below.trod laidOut (by kernel_rfl) (of_decide_eq_true (by kernel_rfl)) k2 bel lt2) (trodAll_cons_mk (Below.trod laidOut (by kernel_rfl) (of_decide_eq_true (by kernel_rfl)) k3 bel lt3) trodAll_mk0)))), rfl, bel.frame _, fun h => by cases h⟩
theorem over : Rows.superOneRow.holds Try.pinned (OpenSpec.ofChange Rows.superOneSpec) :=
  OpenClaim.holds_of_wide 7 Try.f7 rfl rfl rfl rfl rfl rfl rfl ⟨rfl, rfl, rfl, rfl, rfl⟩ rfl rfl rfl rfl rfl (by kernel_rfl) Try.func7 (by kernel_rfl)
    (of_decide_eq_true (by kernel_rfl)) (by unfold Func.isWrapper; first | (rw [if_pos (by decide +kernel)]; kernel_rfl) | (rw [if_neg (by decide +kernel)]; exact ⟨rfl, rfl⟩))
    (fun os started H enc _ => lifted os started H enc)
theorem proved : Rows.SuperOneSaid := over
end Go.Proofs.Ytbdomhookjmmgaa.superOne
