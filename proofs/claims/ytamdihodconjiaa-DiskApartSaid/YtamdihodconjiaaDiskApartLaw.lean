/- For every row of ops, two rows of fates and a number: what a sector is behind a crash hangs on its own fate alone (P3.8), and the example at the head holds; the arguments stay as they were. No condition. -/
import Derived.Test.YtamdihodconjiaaDaBase
import Derived.Test.YtamdihodconjiaaRkStepC
import Derived.Test.YtamdihodconjiaaRgLast
import Derived.Test.YtamdihodconjiaaDkAwake
import Derived.Test.YtamdihodconjiaaDkOps
import Derived.Test.YtamdihodconjiaaIns
import Derived.Test.YtamdihodconjiaaHolds
import Derived.WalkKit
import Derived.ProofKit
import Derived.OpenShut
import Derived.ShutString
import Derived.ChangeOld
import Derived.Below
import Derived.Deep.RegionHeld
import Derived.SizedLaws
namespace Go.Proofs.Ytamdihodconjiaa.diskApart
open Go.ChangeShapes Go.WideShapes Go.ChangeAt Go.RowKit
set_option linter.unusedVariables false
theorem own : ownKnob Try.prog.godebug = none := by kernel_rfl
theorem laidOut : laidOutB Try.prog = true := by kernel_rfl
theorem enter_after (args : Array Value) (w : World) : (callFunc 24 args).run Try.prog w = .ok (.enter 24 args) w := run_enter Try.func24 (by kernel_rfl) (by kernel_rfl) args w
set_option maxRecDepth 100000 in
set_option maxHeartbeats 8000000 in
theorem walk (A0 : Option Addr) (m0 c0 : Nat) (l0 : List DOp) (A1 : Option Addr) (m1 c1 : Nat) (l1 : List Dk.Fa) (A2 : Option Addr) (m2 c2 : Nat) (l2 : List Dk.Fa) (n3 : Nat) (w : World) (r0 : RdOps w A0 m0 l0) (wc0 : m0 ≤ c0) (w0 : m0 ≤ 9223372036854775807) (wn1 : l1.length = m1) (r1 : RdC 2 w A1 m1 (flatFa l1)) (w1 : m1 * 16 ≤ 140737488351232) (wn2 : l2.length = m2) (r2 : RdC 2 w A2 m2 (flatFa l2)) (w2 : m2 * 16 ≤ 140737488351232) (w3 : n3 < 18446744073709551616) :
    Calls Try.prog 6 #[.slice A0 m0 c0, .slice A1 m1 c1, .slice A2 m2 c2, .int .u64 (n3 : Int)] w fun e w' => e = .returned (.bool true) ∧ Below w.heap.size w w' := by
  -- heartbeats 8000000
  have HR0 := Lib.hid r0
  have HF1 := Lib.hid r1
  have HF2 := Lib.hid r2
  have HN1 := Lib.hid wn1
  have HN2 := Lib.hid wn2
  have HB1 := Lib.hid w1
  have HB2 := Lib.hid w2
  have HB3 := Lib.hid w3
  clear r0 r1 r2 wn1 wn2 w1 w2 w3 wc0
  go_enter Try.func6, Try.ntmps6
  go_wp2_with fail
  refine (awake_any w).mono ?_
  rintro e v1 ⟨rfl, hb1⟩
  have B1 := Lib.hid hb1
  clear hb1
  go_wp2_with fail
  refine (new_any 12 v1).mono ?_
  intro e v2 hg
  rcases hg with ⟨_, _, d, lab0, rfl, hD, hb, hl⟩ | ⟨h, _⟩
  · have HD := Lib.hid (And.intro hD (And.intro hb hl))
    clear hD hb hl
    go_wp2_with fail
    refine (rnew_any 12 v2).mono ?_
    intro e v3 hg
    rcases hg with ⟨_, _, g, labR0, rfl, hR, hb3, hl3⟩ | ⟨hno, _⟩
    · have HDuo := Lib.hid (duo_new B1.out HD.out.1 HD.out.2.1 HD.out.2.2 hR hb3 hl3)
      clear hR hb3 hl3 HD
      go_upto_region 7 with fail
      go_wp2_with fail
      go_loopw [13] (fun i wr => ∃ (k : Nat) (lab labR : Nat → Tag) (st : Dk.St), k ≤ m0 ∧ k ≤ 40 ∧ i = .int .i64 (k : Int) ∧ Hid (Duo w wr d g st k lab labR) ∧ Hid (Plain st 12 k)) (fun i _ => m0 - (intOf i).toNat)
      case atStart => exact ⟨0, lab0, labR0, _, by omega, by omega, rfl, HDuo, Lib.hid (Plain.new 12 0)⟩
      case round =>
        obtain ⟨k, lab, labR, st, hk, hk4, rfl, HDu, HP⟩ := hrel
        by_cases hkm : k < m0 ∧ k < 40
        · obtain ⟨hkm, hk40⟩ := hkm
          have hki : (k : Int) < (m0 : Int) := by omega
          have hki4 : (k : Int) < 40 := by omega
          obtain ⟨b, o, rfl, hbw, hcs⟩ := HR0.out.2 (by omega)
          obtain ⟨s, hs⟩ : ∃ s, l0[k]? = some s := ⟨_, List.getElem?_eq_getElem (by rw [HR0.out.1]; exact hkm)⟩
          have HO := Lib.hid (fun v (hb : Below w.heap.size w v) => (hcs k s hs).below hb hbw)
          have HB := Lib.hid HDu.out.base
          have e0 := (HO.out wr HB.out).c0
          rw [Nat.add_zero] at e0
          clear hcs hs
          by_cases hkd : s.kind = 1
          · rw [hkd] at e0
            clear hkd
            have HF := Lib.hid (fun wx (hb : Below w.heap.size w wx) => full_any s.A s.m s.c s.b wx (HO.out wx hb).rb)
            have HE := Lib.hid (fun wx (hb : Below w.heap.size w wx) => (⟨(HO.out wx hb).c1, (HO.out wx hb).c2⟩ : wx.cell? ⟨b, o + k * 8 + 1, none⟩ = some (.int .i64 s.at_) ∧ wx.cell? ⟨b, o + k * 8 + 2, none⟩ = some (.slice s.A s.m s.c)))
            have hd : Below wr.heap.size wr wr.drew := (Below.refl _ _).drew
            have hd' := HB.out.trans (hd.mono HB.out.size)
            have HWr := Lib.hid (fun v (hb : Below wr.heap.size wr v) (hx : Buf v wr.heap.size (Dk.full s.b)) => write_any s.at_ (some ⟨wr.heap.size, 0, none⟩) 128 128 k (Dk.full s.b) v d lab st (HDu.out.disk.below hb) (by have h := hx.all; rw [Dk.full_length] at h; exact h) HP.out.low (by omega) (by omega))
            go_upto_region 11 with fail
            go_region_held3 (fun wx => wx.cell? ⟨b, o + k * 8 + 1, none⟩ = some (.int .i64 s.at_) ∧ wx.cell? ⟨b, o + k * 8 + 2, none⟩ = some (.slice s.A s.m s.c)) (first | exact HE.out _ hd' | exact HE.out _ hc10' | exact HE.out _ hc11') (first | (go_at_call 15; refine (HF.out _ hd').mono ?_; rintro e v10 ⟨rfl, hb10, hx10⟩; have hc10 : Below wr.heap.size wr v10 := below_next hd hb10; have hc10' := HB.out.trans (hc10.mono HB.out.size)) | (go_at_call 16; refine (HWr.out _ hc10 hx10).mono ?_; rintro e v11 ⟨rfl, lab1, hD11, hC11, hL11⟩; have hH11 := (HDu.out.below hc10).half hD11 hC11 hL11; have hc11' := hH11.base))
            all_goals
              have H11 := Lib.hid hH11
              have C10 := Lib.hid hc10
              clear hD11 hC11 hL11 hc10 hx10 hb10 hH11 hc10' hc11' hd hd' HWr
              have he : Below v11.heap.size v11 v11.drew := (Below.refl _ _).drew
              have he' := H11.out.base.trans (he.mono H11.out.base.size)
              have HWr := Lib.hid (fun v (hb : Below v11.heap.size v11 v) (hx : Buf v v11.heap.size (Dk.full s.b)) => rwrite_any s.at_ (some ⟨v11.heap.size, 0, none⟩) 128 128 k (Dk.full s.b) v g labR st (H11.out.ref.below hb) (by have h := hx.all; rw [Dk.full_length] at h; exact h) HP.out.low (by omega) (by omega))
              go_upto_region 12 with fail
              go_region_held3 (fun wx => wx.cell? ⟨b, o + k * 8 + 1, none⟩ = some (.int .i64 s.at_) ∧ wx.cell? ⟨b, o + k * 8 + 2, none⟩ = some (.slice s.A s.m s.c)) (first | exact HE.out _ he' | exact HE.out _ hc12' | exact HE.out _ hc13') (first | (go_at_call 15; refine (HF.out _ he').mono ?_; rintro e v12 ⟨rfl, hb12, hx12⟩; have hc12 : Below v11.heap.size v11 v12 := below_next he hb12; have hc12' := H11.out.base.trans (hc12.mono H11.out.base.size)) | (go_at_call 21; refine (HWr.out _ hc12 hx12).mono ?_; rintro e v13 ⟨rfl, hl13⟩; obtain ⟨lab2, hDu13, _, _⟩ := (H11.out.below hc12).whole (HDu.out.below C10.out) hl13 (low_write HP.out.low s.at_ (Dk.full s.b)); have hc13' := hDu13.base))
              all_goals
                have H13 := Lib.hid hDu13
                clear hDu13 hl13 hc12 hx12 hb12 hc12' hc13' he he' HWr
                go_wp2_with fail
                go_roundw
                case rel => exact ⟨k + 1, _, _, _, by omega, by omega, by go_num, H13, Lib.hid (HP.out.write _ _)⟩
                case measure => simp [intOf]; omega
          · have hkb : (s.kind == 1) = false := by simpa using hkd
            go_wp2_with fail
            go_roundw
            case rel => exact ⟨k + 1, lab, labR, st, by omega, by omega, by go_num, Lib.hid HDu.out.more, Lib.hid HP.out.more⟩
            case measure => simp [intOf]; omega
        · obtain ⟨va, rfl⟩ : ∃ z : World, z = wr := ⟨wr, rfl⟩
          have hLen : st.loose.length ≤ 12 := Nat.le_trans (looseF_len _ _) (Nat.le_of_eq HP.out.len)
          have HLo := Lib.hid (rloose_any va g labR st HDu.out.ref)
          have HLen := Lib.hid hLen
          have key : (m0 : Int) ≤ (k : Int) ∨ ((k : Int) < (m0 : Int) ∧ (40 : Int) ≤ (k : Int)) := by omega
          obtain ⟨L, HL⟩ : ∃ L, Hid (L = st.loose.length) := ⟨_, Lib.hid rfl⟩
          by_cases hz : L = 0
          · subst hz
            have key2 : ((0 : Nat) : Int) = 0 := rfl
            rcases key with q1 | ⟨q1, q2⟩
            all_goals
              go_wp2_with fail
              refine HLo.out.mono ?_
              rintro e v4 ⟨A4, cap4, rfl, hO4, hb4⟩
              rw [← HL.out] at hO4 ⊢
              have HB4 := Lib.hid (HDu.out.base.trans (hb4.mono HDu.out.base.size))
              clear hO4 hb4
              go_wp2
              go_ret
              exact ⟨rfl, HB4.out⟩
          · have hL0 : 0 < L := by omega
            have hL12 : L ≤ 12 := by rw [HL.out]; exact hLen
            have HK : wrap64 ((n3 : Int) % (L : Int)) = ((n3 % L : Nat) : Int) := by
              have h1 : ((n3 : Int) % (L : Int)) = ((n3 % L : Nat) : Int) := by omega
              have h2 : n3 % L < L := Nat.mod_lt _ hL0
              rw [h1]
              unfold wrap64
              omega
            have hKL : n3 % L < L := Nat.mod_lt _ hL0
            obtain ⟨K, HKe⟩ : ∃ K, Hid (K = n3 % L) := ⟨_, Lib.hid rfl⟩
            rw [← HKe.out] at HK hKL
            have HK := Lib.hid HK
            have HSm := Lib.hid (show ∀ x ∈ st.loose, x.2 ≤ 2000 from fun x hx => by
              obtain ⟨i, hi⟩ := List.getElem?_of_mem hx
              obtain ⟨a, s, h1, h2, h3, h4⟩ := loose_sec (L := st.s) (k := 0) hi
              have := HP.out.low.2.2.2.2 s (List.mem_of_getElem? h3)
              omega)
            clear hLen
            rcases key with q1 | ⟨q1, q2⟩
            all_goals
              go_wp2_with fail
              refine HLo.out.mono ?_
              rintro e v4 ⟨A4, cap4, rfl, hO4, hb4⟩
              rw [← HL.out] at hO4 ⊢
              have HO4 := Lib.hid hO4
              have HD4 := Lib.hid (HDu.out.below hb4)
              clear hO4 hb4
              go_upto_region 16 with fail
              go_upto_region 17 with fail
              try rw [HK.out]
              obtain ⟨A5, c5, v5, hrun5, hO5, hb5⟩ := run_app1 v4 A1 m1 c1 l1 (HF1.out.below HD4.out.base) HB1.out 36
              obtain ⟨A6, c6, v6, hrun6, hR6, hb6⟩ := run_app2 v4 v5 A5 m1 c5 l1 hO5 hb5 L hL12 (by have := HB1.out; omega) 36
              go_wp2_with (first | (at_builtin; refine Lib.wpList_append_run _ rfl (.tmp 100) (.tmp 101) 36 36 rfl (.slice (some ⟨v4.heap.size, 0, none⟩) 0 0) (.slice A1 m1 c1) rfl rfl _ _ hrun5 ?_) | (at_builtin; refine Lib.wpList_append_run _ rfl (.tmp 102) (.tmp 104) 36 3 rfl (.slice A5 m1 c5) (.int .i64 (L : Int)) rfl rfl _ _ hrun6 ?_))
              have HR4 := Lib.hid (HO4.out.rd.below hb6)
              have HR6 := Lib.hid hR6
              have HD6 := Lib.hid (HD4.out.below hb6)
              clear hrun5 hO5 hb5 hrun6 hR6 hb6
              refine (fit_any A4 L cap4 st.loose A6 (m1 + L) c6 _ v6 HR4.out HL.out.symm HSm.out HR6.out (by rw [List.length_append, List.length_replicate, HN1.out]) (by omega) (by have := HB1.out; omega)).mono ?_
              rintro e v7 ⟨A7, c7, P, rfl, hO7, hP, hb7⟩
              rw [show min (m1 + L) L = L by omega] at hO7 hP ⊢
              have HO7 := Lib.hid hO7
              have HP7 := Lib.hid hP
              have HR7 := Lib.hid (HR4.out.below hb7)
              have HD7 := Lib.hid (HD6.out.below hb7)
              clear hO7 hP hb7 HR4 HR6 HD6
              obtain ⟨A8, c8, v8, hrun8, hO8, hb8⟩ := run_app1 v7 A2 m2 c2 l2 (HF2.out.below HD7.out.base) HB2.out 36
              obtain ⟨A9, c9, v9, hrun9, hR9, hb9⟩ := run_app2 v7 v8 A8 m2 c8 l2 hO8 hb8 L hL12 (by have := HB2.out; omega) 36
              go_wp2_with (first | (at_builtin; refine Lib.wpList_append_run _ rfl (.tmp 108) (.tmp 109) 36 36 rfl (.slice (some ⟨v7.heap.size, 0, none⟩) 0 0) (.slice A2 m2 c2) rfl rfl _ _ hrun8 ?_) | (at_builtin; refine Lib.wpList_append_run _ rfl (.tmp 110) (.tmp 112) 36 3 rfl (.slice A8 m2 c8) (.int .i64 (L : Int)) rfl rfl _ _ hrun9 ?_))
              have HR9 := Lib.hid hR9
              have HRl := Lib.hid (HR7.out.below hb9)
              have HO9 := Lib.hid (HO7.out.below (hb9.mono (Nat.le_refl _)))
              have HD9 := Lib.hid (HD7.out.below hb9)
              clear hrun8 hO8 hb8 hrun9 hR9 hb9 HR7 HO7 HD7
              refine (fit_any A4 L cap4 st.loose A9 (m2 + L) c9 _ v9 HRl.out HL.out.symm HSm.out HR9.out (by rw [List.length_append, List.length_replicate, HN2.out]) (by omega) (by have := HB2.out; omega)).mono ?_
              rintro e v10 ⟨A10, c10, Q, rfl, hO10, hQ, hb10⟩
              rw [show min (m2 + L) L = L by omega] at hO10 hQ ⊢
              have HO10 := Lib.hid hO10
              have HQ10 := Lib.hid hQ
              have HP10 := Lib.hid (HO9.out.below hb10)
              have HB10 := Lib.hid hb10
              clear hO10 hQ hb10 HR9
              go_upto_region 21 with fail
              obtain ⟨f, hf⟩ : ∃ f, P[K]? = some f := ⟨_, List.getElem?_eq_getElem (by rw [HP7.out.1]; exact hKL)⟩
              have HFt := Lib.hid hf
              clear hf
              obtain ⟨g7, rfl, hg7, hg7b⟩ := HP10.out.form hL0
              obtain ⟨g10, rfl, hg10, hg10b⟩ := HO10.out.form hL0
              obtain ⟨f2, hf2⟩ : ∃ f, Q[K]? = some f := ⟨_, List.getElem?_eq_getElem (by rw [HQ10.out.1]; exact hKL)⟩
              obtain ⟨e70, e71⟩ := own_at HP10.out hL0 HFt.out
              obtain ⟨e80, e81⟩ := own_at HO10.out hL0 hf2
              have hz0 : v10.frozen? ⟨g10, K * 2, none⟩ = false := own_free HO10.out (K * 2)
              have hz1 : (v10.setCell ⟨g10, K * 2, none⟩ (.int .i64 f.k)).frozen? ⟨g10, K * 2 + 1, none⟩ = false := by rw [World.frozen?_setCell]; exact own_free HO10.out (K * 2 + 1)
              have hKi : (K : Int) < (L : Int) := by omega
              have hKi0 : ¬ (K : Int) < 0 := by omega
              go_wp2_with fail
              have hb11 := (HB10.out.setCell (p := ⟨g10, K * 2, none⟩) (show v9.heap.size ≤ g10 from hg10) (.int .i64 f.k)).setCell (p := ⟨g10, K * 2 + 1, none⟩) (show v9.heap.size ≤ g10 from hg10) (.int .i64 f.c)
              have hq11 := own_put (i := K) HO10.out f
              generalize ((v10.setCell ⟨g10, K * 2, none⟩ (.int .i64 f.k)).setCell ⟨g10, K * 2 + 1, none⟩ (.int .i64 f.c)) = v11 at hb11 hq11 ⊢
              have HQ11 := Lib.hid hq11
              have HD11 := Lib.hid (HD9.out.below hb11)
              have HP11 := Lib.hid (HO9.out.rd.below hb11)
              have HR11 := Lib.hid (HRl.out.below hb11)
              have HFp := Lib.hid (show Fits st.loose st.loose.length P by rw [← HL.out]; exact HP7.out)
              have HFq := Lib.hid (show Fits st.loose st.loose.length (Q.set K f) by rw [← HL.out]; exact HQ10.out.set HP7.out HFt.out)
              have HQf := Lib.hid (show (Q.set K f)[K]? = some f by rw [List.getElem?_set]; simp; rw [HQ10.out.1]; exact hKL)
              obtain ⟨x, hx⟩ : ∃ x, st.loose[K]? = some x := ⟨_, List.getElem?_eq_getElem (by rw [← HL.out]; exact hKL)⟩
              obtain ⟨s, hs, hxs, hr1, hr2⟩ := crash_read hx HFt.out
              obtain ⟨s', hs', _, hr3, hr4⟩ := crash_read hx HQf.out
              rw [hs] at hs'
              injection hs' with hs'
              subst hs'
              have HS := Lib.hid hs
              have HXs := Lib.hid hxs
              have HR1 := Lib.hid hr1
              have HR2 := Lib.hid hr2
              have HR3 := Lib.hid hr3
              have HR4 := Lib.hid hr4
              have HX := Lib.hid hx
              clear hb11 hq11 e70 e71 e80 e81 hz0 hz1 hs hxs hr1 hr2 hr3 hr4 hx hg7 hg7b hg10 hg10b hf2 HO10 HP10 HB10 HO9 HRl HD9
              refine (crash_any v11 d lab st HD11.out.disk (some ⟨g7, 0, none⟩) L c7 P HP11.out HP7.out.1 (by omega)).mono ?_
              intro e v12 hgv
              rcases hgv with ⟨_, gx, rfl, labx, hDx, hbx, _⟩ | ⟨hno2, _⟩
              rotate_left 1
              · exact absurd HFp.out.crashE hno2
              have HDx := Lib.hid hDx
              have HD12 := Lib.hid (HD11.out.below hbx)
              have HP12 := Lib.hid (HP11.out.below hbx)
              have HQ12 := Lib.hid (HQ11.out.below hbx)
              have HR12 := Lib.hid (HR11.out.below hbx)
              clear hDx hbx HD11 HP11 HQ11 HR11
              go_wp2_with fail
              refine (crash_any v12 d lab st HD12.out.disk (some ⟨g10, 0, none⟩) L c10 (Q.set K f) HQ12.out (by rw [List.length_set]; exact HQ10.out.1) (by omega)).mono ?_
              intro e v13 hgv
              rcases hgv with ⟨_, gy, rfl, laby, hDy, hby, _⟩ | ⟨hno2, _⟩
              rotate_left 1
              · exact absurd HFq.out.crashE hno2
              have HDy := Lib.hid hDy
              have HDx2 := Lib.hid (HDx.out.below hby)
              have HD13 := Lib.hid (HD12.out.below hby)
              have HP13 := Lib.hid (HP12.out.below hby)
              have HR13 := Lib.hid (HR12.out.below hby)
              clear hDy hby HD12 HP12 HQ12 HR12 HDx
              obtain ⟨b4, o4, rfl, hb4, e40, e41⟩ := HR13.out.two hKL (flat2_at HX.out).1 (flat2_at HX.out).2
              go_wp2_with fail
              refine (read_any (x.1 : Int) v13 gx labx (st.crash P) HDx2.out).mono ?_
              rintro e v14 ⟨A14, n14, c14, rfl, hR14, hb14, hn14, _⟩
              rw [HR1.out]
              rw [HR2.out] at hR14
              have HD14 := Lib.hid (HD13.out.below hb14)
              have HDy2 := Lib.hid (HDy.out.below hb14)
              have HP14 := Lib.hid (HP13.out.below hb14)
              have HA14 := Lib.hid (hR14)
              rw [← hb14.cell hb4] at e40
              have hb4' := Nat.lt_of_lt_of_le hb4 hb14.size
              clear hR14 hb14 hb4 e41 HD13 HDy HP13 HR13 HDx2
              go_wp2_with fail
              refine (read_any (x.1 : Int) v14 gy laby (st.crash (Q.set K f)) HDy2.out).mono ?_
              rintro e v15 ⟨A15, n15, c15, rfl, hR15, hb15, hn15, _⟩
              rw [HR3.out]
              rw [HR4.out] at hR15
              rw [← hb15.cell hb4'] at e40
              have HD15 := Lib.hid (HD14.out.below hb15)
              have HA15 := Lib.hid (HA14.out.below hb15)
              have HP15 := Lib.hid (HP14.out.below hb15)
              have hb4'' := Nat.lt_of_lt_of_le hb4' hb15.size
              obtain ⟨sb, C, hM⟩ := HD15.out.ref
              obtain ⟨cc, hcc, q0, q1, hsec⟩ := hM.at_ HS.out
              obtain ⟨b7, o7, e7, hb7, p0, p1⟩ := HP15.out.two hKL (flatFa_at HFt.out).1 (flatFa_at HFt.out).2
              injection e7 with e7
              injection e7 with e7 e7'
              subst e7
              subst e7'
              rw [Nat.zero_add] at p0 p1
              have hxl : x.1 < st.s.length := (List.getElem?_eq_some_iff.1 HS.out).1
              have hxi : (x.1 : Int) < (st.s.length : Int) := by omega
              have hx0 : ¬ (x.1 : Int) < 0 := by omega
              have hd : Below v15.heap.size v15 v15.drew := (Below.refl _ _).drew
              have hgs : sb < v15.heap.size := hM.row.1
              have HCl := Lib.hid (fun wx (hb : Below v15.heap.size v15 wx) => (⟨(hM.box.below hb).at_ 0 rfl, (hb.cell (p := ⟨b4, o4 + K * 2, none⟩) hb4'').trans e40, (hb.cell (p := ⟨sb, x.1 * 2, none⟩) hgs).trans q0, (hb.cell (p := ⟨sb, x.1 * 2 + 1, none⟩) hgs).trans q1, (hb.cell (p := ⟨g7, K * 2, none⟩) hb7).trans p0, (hb.cell (p := ⟨g7, K * 2 + 1, none⟩) hb7).trans p1, run_str (cap := c14) (HA15.out.below hb), run_str (cap := c15) (hR15.below hb)⟩ :
                wx.cell? ⟨g, 0, none⟩ = some (.slice (some ⟨sb, 0, none⟩) st.s.length st.s.length) ∧ wx.cell? ⟨b4, o4 + K * 2, none⟩ = some (.int .i64 (x.1 : Int)) ∧ wx.cell? ⟨sb, x.1 * 2, none⟩ = some cc.f ∧ wx.cell? ⟨sb, x.1 * 2 + 1, none⟩ = some cc.l ∧ wx.cell? ⟨g7, K * 2, none⟩ = some (.int .i64 f.k) ∧ wx.cell? ⟨g7, K * 2 + 1, none⟩ = some (.int .i64 f.c) ∧ (convert 35 9 (.slice A14 n14 c14)).run Try.prog wx = .ok (.string (str (s.after f))) wx ∧ (convert 35 9 (.slice A15 n15 c15)).run Try.prog wx = .ok (.string (str (s.after f))) wx))
              have HAf := Lib.hid (fun wx (hb : Below v15.heap.size v15 wx) => after_any f.k f.c cc.f cc.l labR s wx (hsec.leaves hb.size (fun k hk => hb.block k (hM.old k (by rw [hk]; simp)))) (hM.fine.1 s (List.mem_of_getElem? HS.out)) (by have := HP7.out.2 K f x HFt.out HX.out; rw [HXs.out] at this; exact this))
              have HBe := Lib.hid HD15.out.base
              clear e40 q0 q1 p0 p1 hsec hM hcc hR15 hb15 hn15 hn14 hb7 hb4' hb4'' HD15 HA15 HP15 hgs
              go_upto_region 28 with fail
              refine wp_region_held_drew (S := (fun wx => wx.cell? ⟨g, 0, none⟩ = some (.slice (some ⟨sb, 0, none⟩) st.s.length st.s.length) ∧ wx.cell? ⟨b4, o4 + K * 2, none⟩ = some (.int .i64 (x.1 : Int)) ∧ wx.cell? ⟨sb, x.1 * 2, none⟩ = some cc.f ∧ wx.cell? ⟨sb, x.1 * 2 + 1, none⟩ = some cc.l ∧ wx.cell? ⟨g7, K * 2, none⟩ = some (.int .i64 f.k) ∧ wx.cell? ⟨g7, K * 2 + 1, none⟩ = some (.int .i64 f.c) ∧ (convert 35 9 (.slice A14 n14 c14)).run Try.prog wx = .ok (.string (str (s.after f))) wx ∧ (convert 35 9 (.slice A15 n15 c15)).run Try.prog wx = .ok (.string (str (s.after f))) wx)) (by kernel_rfl) ?_ (fun hHeld => ?_)
              · exact HCl.out _ hd
              refine take_at (i := 0) (v := ?_) (some 180) rfl rfl (by kernel_rfl) (by kernel_rfl) (by kernel_rfl) (fun _ _ _ h => h) (by rfl) hHeld ?_ ?_
              rotate_left
              · intro wz hSw; (try dsimp only at hSw); go_simp; (try with_reducible rfl)
              (try simp only [Act.put, List.setIfInBounds_toArray, List.set_cons_zero, List.set_cons_succ])
              refine take_at (i := 1) (v := ?_) (some 181) rfl rfl (by kernel_rfl) (by kernel_rfl) (by kernel_rfl) (fun _ _ _ h => h) (by rfl) hHeld ?_ ?_
              rotate_left
              · intro wz hSw; (try dsimp only at hSw); go_simp; (try with_reducible rfl)
              (try simp only [Act.put, List.setIfInBounds_toArray, List.set_cons_zero, List.set_cons_succ])
              refine take_at (i := 2) (v := ?_) (some 182) rfl rfl (by kernel_rfl) (by kernel_rfl) (by kernel_rfl) (fun _ _ _ h => h) (by rfl) hHeld ?_ ?_
              rotate_left
              · intro wz hSw; (try dsimp only at hSw); go_simp; (try with_reducible rfl)
              (try simp only [Act.put, List.setIfInBounds_toArray, List.set_cons_zero, List.set_cons_succ])
              refine take_at (i := 3) (v := ?_) (some 183) rfl rfl (by kernel_rfl) (by kernel_rfl) (by kernel_rfl) (fun _ _ _ h => h) (by rfl) hHeld ?_ ?_
              rotate_left
              · intro wz hSw; (try dsimp only at hSw); go_simp; (try with_reducible rfl)
              (try simp only [Act.put, List.setIfInBounds_toArray, List.set_cons_zero, List.set_cons_succ])
              refine take_at (i := 4) (v := ?_) (some 184) rfl rfl (by kernel_rfl) (by kernel_rfl) (by kernel_rfl) (fun _ _ _ h => h) (by rfl) hHeld ?_ ?_
              rotate_left
              · intro wz hSw; (try dsimp only at hSw); go_simp; (try with_reducible rfl)
              (try simp only [Act.put, List.setIfInBounds_toArray, List.set_cons_zero, List.set_cons_succ])
              refine take_at (i := 5) (v := ?_) (some 185) rfl rfl (by kernel_rfl) (by kernel_rfl) (by kernel_rfl) (fun _ _ _ h => h) (by rfl) hHeld ?_ ?_
              rotate_left
              · intro wz hSw; (try dsimp only at hSw); go_simp; (try with_reducible rfl)
              (try simp only [Act.put, List.setIfInBounds_toArray, List.set_cons_zero, List.set_cons_succ])
              refine take_at (i := 6) (v := ?_) (some 186) rfl rfl (by kernel_rfl) (by kernel_rfl) (by kernel_rfl) (fun _ _ _ h => h) (by rfl) hHeld ?_ ?_
              rotate_left
              · intro wz hSw; (try dsimp only at hSw); go_simp; (try with_reducible rfl)
              (try simp only [Act.put, List.setIfInBounds_toArray, List.set_cons_zero, List.set_cons_succ])
              refine take_at (i := 7) (v := ?_) (some 187) rfl rfl (by kernel_rfl) (by kernel_rfl) (by kernel_rfl) (fun _ _ _ h => h) (by rfl) hHeld ?_ ?_
              rotate_left
              · intro wz hSw; (try dsimp only at hSw); go_simp; (try with_reducible rfl)
              (try simp only [Act.put, List.setIfInBounds_toArray, List.set_cons_zero, List.set_cons_succ])
              refine take_at (i := 8) (v := ?_) (some 188) rfl rfl (by kernel_rfl) (by kernel_rfl) (by kernel_rfl) (fun _ _ _ h => h) (by rfl) hHeld ?_ ?_
              rotate_left
              · intro wz hSw; (try dsimp only at hSw); go_simp; (try with_reducible rfl)
              (try simp only [Act.put, List.setIfInBounds_toArray, List.set_cons_zero, List.set_cons_succ])
              refine take_at (i := 9) (v := ?_) (some 189) rfl rfl (by kernel_rfl) (by kernel_rfl) (by kernel_rfl) (fun _ _ _ h => h) (by rfl) hHeld ?_ ?_
              rotate_left
              · intro wz hSw; (try dsimp only at hSw); go_simp; (try with_reducible rfl)
              (try simp only [Act.put, List.setIfInBounds_toArray, List.set_cons_zero, List.set_cons_succ])
              refine take_at (i := 10) (v := ?_) (some 190) rfl rfl (by kernel_rfl) (by kernel_rfl) (by kernel_rfl) (fun _ _ _ h => h) (by rfl) hHeld ?_ ?_
              rotate_left
              · intro wz hSw; (try dsimp only at hSw); go_simp; (try with_reducible rfl)
              (try simp only [Act.put, List.setIfInBounds_toArray, List.set_cons_zero, List.set_cons_succ])
              refine take_at (i := 11) (v := ?_) (some 191) rfl rfl (by kernel_rfl) (by kernel_rfl) (by kernel_rfl) (fun _ _ _ h => h) (by rfl) hHeld ?_ ?_
              rotate_left
              · intro wz hSw; (try dsimp only at hSw); go_simp; (try with_reducible rfl)
              (try simp only [Act.put, List.setIfInBounds_toArray, List.set_cons_zero, List.set_cons_succ])
              refine take_at (i := 12) (v := ?_) (some 192) rfl rfl (by kernel_rfl) (by kernel_rfl) (by kernel_rfl) (fun _ _ _ h => h) (by rfl) hHeld ?_ ?_
              rotate_left
              · intro wz hSw; (try dsimp only at hSw); go_simp; (try with_reducible rfl)
              (try simp only [Act.put, List.setIfInBounds_toArray, List.set_cons_zero, List.set_cons_succ])
              refine take_at (i := 13) (v := ?_) (some 193) rfl rfl (by kernel_rfl) (by kernel_rfl) (by kernel_rfl) (fun _ _ _ h => h) (by rfl) hHeld ?_ ?_
              rotate_left
              · intro wz hSw; (try dsimp only at hSw); go_simp; (try with_reducible rfl)
              (try simp only [Act.put, List.setIfInBounds_toArray, List.set_cons_zero, List.set_cons_succ])
              refine take_at (i := 14) (v := ?_) (some 194) rfl rfl (by kernel_rfl) (by kernel_rfl) (by kernel_rfl) (fun _ _ _ h => h) (by rfl) hHeld ?_ ?_
              rotate_left
              · intro wz hSw; (try dsimp only at hSw); go_simp; (try with_reducible rfl)
              (try simp only [Act.put, List.setIfInBounds_toArray, List.set_cons_zero, List.set_cons_succ])
              refine take_at (i := 15) (v := ?_) (some 195) rfl rfl (by kernel_rfl) (by kernel_rfl) (by kernel_rfl) (fun _ _ _ h => h) (by rfl) hHeld ?_ ?_
              rotate_left
              · intro wz hSw; (try dsimp only at hSw); go_simp; (try with_reducible rfl)
              (try simp only [Act.put, List.setIfInBounds_toArray, List.set_cons_zero, List.set_cons_succ])
              refine take_at (i := 16) (v := ?_) (some 196) rfl rfl (by kernel_rfl) (by kernel_rfl) (by kernel_rfl) (fun _ _ _ h => h) (by rfl) hHeld ?_ ?_
              rotate_left
              · intro wz hSw; (try dsimp only at hSw); go_simp; (try with_reducible rfl)
              (try simp only [Act.put, List.setIfInBounds_toArray, List.set_cons_zero, List.set_cons_succ])
              refine take_at (i := 17) (v := ?_) (some 197) rfl rfl (by kernel_rfl) (by kernel_rfl) (by kernel_rfl) (fun _ _ _ h => h) (by rfl) hHeld ?_ ?_
              rotate_left
              · intro wz hSw; (try dsimp only at hSw); go_simp; (try with_reducible rfl)
              (try simp only [Act.put, List.setIfInBounds_toArray, List.set_cons_zero, List.set_cons_succ])
              refine take_at (i := 18) (v := ?_) (some 198) rfl rfl (by kernel_rfl) (by kernel_rfl) (by kernel_rfl) (fun _ _ _ h => h) (by rfl) hHeld ?_ ?_
              rotate_left
              · intro wz hSw; (try dsimp only at hSw); go_simp; (try with_reducible rfl)
              (try simp only [Act.put, List.setIfInBounds_toArray, List.set_cons_zero, List.set_cons_succ])
              refine take_at (i := 19) (v := ?_) (some 199) rfl rfl (by kernel_rfl) (by kernel_rfl) (by kernel_rfl) (fun _ _ _ h => h) (by rfl) hHeld ?_ ?_
              rotate_left
              · intro wz hSw; (try dsimp only at hSw); go_simp; (try with_reducible rfl)
              (try simp only [Act.put, List.setIfInBounds_toArray, List.set_cons_zero, List.set_cons_succ])
              refine take_at (i := 20) (v := ?_) (some 200) rfl rfl (by kernel_rfl) (by kernel_rfl) (by kernel_rfl) (fun _ _ _ h => h) (by rfl) hHeld ?_ ?_
              rotate_left
              · intro wz hSw; (try dsimp only at hSw); go_simp; (try with_reducible rfl)
              (try simp only [Act.put, List.setIfInBounds_toArray, List.set_cons_zero, List.set_cons_succ])
              refine take_at (i := 21) (v := ?_) (some 201) rfl rfl (by kernel_rfl) (by kernel_rfl) (by kernel_rfl) (fun _ _ _ h => h) (by rfl) hHeld ?_ ?_
              rotate_left
              · intro wz hSw; (try dsimp only at hSw); go_simp; (try with_reducible rfl)
              (try simp only [Act.put, List.setIfInBounds_toArray, List.set_cons_zero, List.set_cons_succ])
              refine take_at (i := 22) (v := ?_) (some 202) rfl rfl (by kernel_rfl) (by kernel_rfl) (by kernel_rfl) (fun _ _ _ h => h) (by rfl) hHeld ?_ ?_
              rotate_left
              · intro wz hSw; (try dsimp only at hSw); go_simp; (try with_reducible rfl)
              (try simp only [Act.put, List.setIfInBounds_toArray, List.set_cons_zero, List.set_cons_succ])
              refine take_at (i := 23) (v := ?_) (some 203) rfl rfl (by kernel_rfl) (by kernel_rfl) (by kernel_rfl) (fun _ _ _ h => h) (by rfl) hHeld ?_ ?_
              rotate_left
              · intro wz hSw; (try dsimp only at hSw); go_simp; (try with_reducible rfl)
              (try simp only [Act.put, List.setIfInBounds_toArray, List.set_cons_zero, List.set_cons_succ])
              refine take_at (i := 24) (v := ?_) (some 204) rfl rfl (by kernel_rfl) (by kernel_rfl) (by kernel_rfl) (fun _ _ _ h => h) (by rfl) hHeld ?_ ?_
              rotate_left
              · intro wz hSw; (try dsimp only at hSw); go_simp; (try with_reducible rfl)
              (try simp only [Act.put, List.setIfInBounds_toArray, List.set_cons_zero, List.set_cons_succ])
              refine take_at (i := 25) (v := ?_) (some 205) rfl rfl (by kernel_rfl) (by kernel_rfl) (by kernel_rfl) (fun _ _ _ h => h) (by rfl) hHeld ?_ ?_
              rotate_left
              · intro wz hSw; (try dsimp only at hSw); go_simp; (try with_reducible rfl)
              (try simp only [Act.put, List.setIfInBounds_toArray, List.set_cons_zero, List.set_cons_succ])
              refine take_at (i := 26) (v := ?_) (some 206) rfl rfl (by kernel_rfl) (by kernel_rfl) (by kernel_rfl) (fun _ _ _ h => h) (by rfl) hHeld ?_ ?_
              rotate_left
              · intro wz hSw; (try dsimp only at hSw); go_simp; (try with_reducible rfl)
              (try simp only [Act.put, List.setIfInBounds_toArray, List.set_cons_zero, List.set_cons_succ])
              refine take_at (i := 27) (v := ?_) (some 207) rfl rfl (by kernel_rfl) (by kernel_rfl) (by kernel_rfl) (fun _ _ _ h => h) (by rfl) hHeld ?_ ?_
              rotate_left
              · intro wz hSw; (try dsimp only at hSw); go_simp; (try with_reducible rfl)
              (try simp only [Act.put, List.setIfInBounds_toArray, List.set_cons_zero, List.set_cons_succ])
              refine take_at (i := 28) (v := ?_) (some 208) rfl rfl (by kernel_rfl) (by kernel_rfl) (by kernel_rfl) (fun _ _ _ h => h) (by rfl) hHeld ?_ ?_
              rotate_left
              · intro wz hSw; (try dsimp only at hSw); go_simp; (try with_reducible rfl)
              (try simp only [Act.put, List.setIfInBounds_toArray, List.set_cons_zero, List.set_cons_succ])
              refine take_at (i := 29) (v := ?_) (some 209) rfl rfl (by kernel_rfl) (by kernel_rfl) (by kernel_rfl) (fun _ _ _ h => h) (by rfl) hHeld ?_ ?_
              rotate_left
              · intro wz hSw; (try dsimp only at hSw); go_simp; (try with_reducible rfl)
              (try simp only [Act.put, List.setIfInBounds_toArray, List.set_cons_zero, List.set_cons_succ])
              refine take_at (i := 30) (v := ?_) (some 210) rfl rfl (by kernel_rfl) (by kernel_rfl) (by kernel_rfl) (fun _ _ _ h => h) (by rfl) hHeld ?_ ?_
              rotate_left
              · intro wz hSw; (try dsimp only at hSw); go_simp; (try with_reducible rfl)
              (try simp only [Act.put, List.setIfInBounds_toArray, List.set_cons_zero, List.set_cons_succ])
              refine wpAnyH_ready (rs := [31]) (by kernel_rfl) (by simp) ?_
              refine ready_cons (i := 31) rfl (by rfl) (fun K' hK => ?_) ?_
              · clear hHeld
                refine wp_call2 211 rfl (.tmp 206) (.tmp 210) rfl rfl rfl enter_after ((HAf.out _ hd).mono ?_)
                rintro e v16 ⟨q, cq, rfl, hq1, hq2, hR16, hb16⟩
                have hk16 : Below v15.heap.size v15 v16 := below_next hd hb16
                have hst16 := run_str (cap := cq) hR16
                refine ⟨_, rfl, ?_⟩
                refine hK.out _ _ ?_ ?_
                · exact HCl.out _ hk16
                clear hK K'
                (try simp only [Act.put, List.setIfInBounds_toArray, List.set_cons_zero, List.set_cons_succ])
                refine wpAnyH_ready (rs := [32]) (by kernel_rfl) (by simp) ?_
                refine ready_cons (i := 32) rfl (by rfl) (fun K' hK => ?_) ?_
                · skip
                  go_simp
                  refine hK.out _ _ ?_ ?_
                  · exact HCl.out _ hk16
                  clear hK K' hst16 hR16 hb16
                  (try simp only [Act.put, List.setIfInBounds_toArray, List.set_cons_zero, List.set_cons_succ])
                  have hH2 := HCl.out _ hk16
                  refine take_at (i := 33) (v := ?_) (some 213) rfl rfl (by kernel_rfl) (by kernel_rfl) (by kernel_rfl) (fun _ _ _ h => h) (by rfl) hH2 ?_ ?_
                  rotate_left
                  · intro wz hSw; (try dsimp only at hSw); go_simp; (try with_reducible rfl)
                  (try simp only [Act.put, List.setIfInBounds_toArray, List.set_cons_zero, List.set_cons_succ])
                  refine take_at (i := 34) (v := ?_) (some 214) rfl rfl (by kernel_rfl) (by kernel_rfl) (by kernel_rfl) (fun _ _ _ h => h) (by rfl) hH2 ?_ ?_
                  rotate_left
                  · intro wz hSw; (try dsimp only at hSw); go_simp; (try with_reducible rfl)
                  (try simp only [Act.put, List.setIfInBounds_toArray, List.set_cons_zero, List.set_cons_succ])
                  refine take_at (i := 35) (v := ?_) (some 8) rfl rfl (by kernel_rfl) (by kernel_rfl) (by kernel_rfl) (fun _ _ _ h => h) (by rfl) hH2 ?_ ?_
                  rotate_left
                  · intro wz hSw; (try dsimp only at hSw); go_simp; (try with_reducible rfl)
                  (try simp only [Act.put, List.setIfInBounds_toArray, List.set_cons_zero, List.set_cons_succ])
                  refine wpAnyH_done (by kernel_rfl) ?_ _
                  clear hH2 HCl HAf
                  go_wp2_with fail
                  go_ret
                  exact ⟨rfl, HBe.out.trans (hk16.mono HBe.out.size)⟩
                exact AllReadyH.nil
              exact AllReadyH.nil
    · exact absurd ⟨by omega, by omega⟩ hno
  · exact absurd ⟨by omega, by omega⟩ h
set_option maxRecDepth 100000 in
theorem lifted (os : Os) (started : os.Started) (H : Type) (enc : TypeId × Value → H) :
    ReturnsInHanded {} Try.checked os 6 .any (Rows.diskApartSpec.pre6 enc Try.prog Try.f6 Rows.diskApartRow.domain false) (Rows.diskApartSpec.post enc Try.prog Try.f6 false true false false) := by
  refine returnsInHanded_of_change_sized (C := Try.checked) own started (by kernel_rfl) Try.func6
    (ChangeSpec.witness6 (enc := enc) (C := Try.checked) false ⟨#[], #[.slice none 0 0, .slice none 0 0, .slice none 0 0, .int .u64 0], []⟩ 8 (by kernel_rfl) (by kernel_rfl) (by kernel_rfl) (by kernel_rfl)) ?_
  intro W base args ds gs before hval0 hW hcnd hsz _
  have hval : ∀ (j : Nat) t v, Try.f6.params[j]? = some t → args[j]? = some v → Value.okWide Try.prog W .any base t v := hval0
  have hW' := hW
  obtain ⟨p, q, hA0, hV, rfl, hfz, hnd⟩ := hW
  have hA : DataW.TrodAll enc Try.prog W 0 (fun _ => true) true Try.f6.params.toList args.toList ds p := hA0
  rw [Try.params6] at hA hval
  obtain ⟨v0, vs0, d0, ds0, p0, q0, hargs, rfl, rfl, h0, t0⟩ := trodAll_cons hA
  obtain ⟨v1, vs1, d1, ds1, p1, q1, rfl, rfl, rfl, h1, t1⟩ := trodAll_cons t0
  obtain ⟨v2, vs2, d2, ds2, p2, q2, rfl, rfl, rfl, h2, t2⟩ := trodAll_cons t1
  obtain ⟨v3, vs3, d3, ds3, p3, q3, rfl, rfl, rfl, h3, t3⟩ := trodAll_cons t2
  obtain ⟨rfl, rfl, rfl⟩ := trodAll_nil t3
  obtain rfl : args = #[v0, v1, v2, v3] := by cases args; simp_all
  obtain ⟨rfl, rfl⟩ := trodVars_none hV
  have k0 : Reads enc W 22 v0 d0 p0 := h0
  have lt0 : ∀ x ∈ p0, x.block < W.heap.size := by obtain ⟨m, hm⟩ := k0; exact DataW.trod_lt m _ _ _ hm
  obtain ⟨A0, m0, c0, l0, rfl, r0, wc0, w0⟩ := in_ops (hval 0 22 v0 rfl rfl) k0
  have k1 : Reads enc W 36 v1 d1 p1 := h1
  have lt1 : ∀ x ∈ p1, x.block < W.heap.size := by obtain ⟨m, hm⟩ := k1; exact DataW.trod_lt m _ _ _ hm
  obtain ⟨A1, m1, c1, l1, rfl, wn1, r1, w1⟩ := in_fates hsz 1 rfl rfl (hval 1 36 v1 rfl rfl) k1
  have k2 : Reads enc W 36 v2 d2 p2 := h2
  have lt2 : ∀ x ∈ p2, x.block < W.heap.size := by obtain ⟨m, hm⟩ := k2; exact DataW.trod_lt m _ _ _ hm
  obtain ⟨A2, m2, c2, l2, rfl, wn2, r2, w2⟩ := in_fates hsz 2 rfl rfl (hval 2 36 v2 rfl rfl) k2
  have k3 : Reads enc W 41 v3 d3 p3 := h3
  have lt3 : ∀ x ∈ p3, x.block < W.heap.size := by obtain ⟨m, hm⟩ := k3; exact DataW.trod_lt m _ _ _ hm
  obtain ⟨n3, rfl, w3⟩ := in_uint (hval 3 41 v3 rfl rfl) k3
  clear hA0 hval0
  refine (walk A0 m0 c0 l0 A1 m1 c1 l1 A2 m2 c2 l2 n3 W r0 wc0 w0 wn1 r1 w1 wn2 r2 w2 w3).mono fun e W' ⟨he, bel⟩ => ?_
  subst he
  exact ⟨_, rfl, _, _, _, [], _, [], hW', trodAll_mk1 (shut_bool Try.underlying4 _), (trodAll_cons_mk (Below.trod laidOut (by kernel_rfl) (of_decide_eq_true (by kernel_rfl)) k0 bel lt0) (trodAll_cons_mk (Below.trod laidOut (by kernel_rfl) (of_decide_eq_true (by kernel_rfl)) k1 bel lt1) (trodAll_cons_mk (Below.trod laidOut (by kernel_rfl) (of_decide_eq_true (by kernel_rfl)) k2 bel lt2) (trodAll_cons_mk (Below.trod laidOut (by kernel_rfl) (of_decide_eq_true (by kernel_rfl)) k3 bel lt3) trodAll_mk0)))), rfl, bel.frame _, fun h => by cases h⟩
theorem over : Rows.diskApartRow.holds Try.pinned (OpenSpec.ofChange Rows.diskApartSpec) :=
  OpenClaim.holds_of_wide 6 Try.f6 rfl rfl rfl rfl rfl rfl rfl ⟨rfl, rfl, rfl, rfl, rfl⟩ rfl rfl rfl rfl rfl (by kernel_rfl) Try.func6 (by kernel_rfl)
    (of_decide_eq_true (by kernel_rfl)) (by unfold Func.isWrapper; first | (rw [if_pos (by decide +kernel)]; kernel_rfl) | (rw [if_neg (by decide +kernel)]; exact ⟨rfl, rfl⟩))
    (fun os started H enc _ => lifted os started H enc)
theorem proved : Rows.DiskApartSaid := over
end Go.Proofs.Ytamdihodconjiaa.diskApart
