/- For every superblock and all bytes: what is encoded is decoded, and what is decoded is encoded (P5.5), and the example at the head holds; the arguments stay as they were. No condition. -/
import Derived.Test.YtbdomhookjmmgaaSuBackM
import Derived.Test.YtbdomhookjmmgaaSuW
import Derived.Test.YtbdomhookjmmgaaSuSame
import Derived.Test.YtbdomhookjmmgaaSuSave
import Derived.Test.YtbdomhookjmmgaaSuR
import Derived.Test.YtbdomhookjmmgaaInS
import Derived.Test.YtbdomhookjmmgaaSuA
import Derived.WalkKit
import Derived.ProofKit
import Derived.OpenShut
import Derived.ShutString
import Derived.ChangeOld
import Derived.Below
import Derived.Deep.RegionHeld
namespace Go.Proofs.Ytbdomhookjmmgaa.superBack
open Go.ChangeShapes Go.WideShapes Go.ChangeAt Go.RowKit
set_option linter.unusedVariables false
theorem own : ownKnob Try.prog.godebug = none := by kernel_rfl
theorem laidOut : laidOutB Try.prog = true := by kernel_rfl
set_option maxRecDepth 100000 in
theorem enter_light (args : Array Value) (w : World) : (callFunc 10 args).run Try.prog w = .ok (.enter 10 args) w := run_enter Try.func10 (by kernel_rfl) (by kernel_rfl) args w
theorem same_zero2 (A : Option Addr) (c : Nat) (w : World) : Calls Try.prog 17 #[.agg #[.int .i64 0, .int .i64 0, .int .i64 0, .int .i64 0, .slice A 0 c], .agg #[.int .i64 0, .int .i64 0, .int .i64 0, .int .i64 0, .slice none 0 0]] w fun e w' => e = .returned (.bool true) ∧ Below w.heap.size w w' := by
  have := same_su Su.none_ Su.none_ A none c 0 w (RdC.nil _ _ _) (RdC.nil _ _ _) (by decide) (by decide)
  rw [Su.eqS_iff.2 rfl] at this
  exact this
set_option maxRecDepth 100000 in
set_option maxHeartbeats 8000000 in
theorem walk (S0 : Su.S) (A0 : Option Addr) (c0 : Nat) (A1 : Option Addr) (m1 c1 : Nat) (l1 : List Nat) (w : World) (r0 : RdC 2 w A0 S0.ps.length (Su.pv S0.ps)) (wc0 : S0.ps.length ≤ c0) (w0 : S0.ps.length ≤ 9223372036854775807) (r1 : Rd w A1 m1 l1) (wc1 : m1 ≤ c1) (w1 : m1 ≤ 9223372036854775807) :
    Calls Try.prog 6 #[Su.val S0 A0 c0, .slice A1 m1 c1] w fun e w' => e = .returned (.bool true) ∧ Below w.heap.size w w' := by
  -- heartbeats 8000000
  have hB0 : Below w.heap.size w (w.alloc (.cells #[.int .i64 S0.g, .int .i64 S0.e, .int .i64 S0.i, .int .i64 S0.m, .slice A0 S0.ps.length c0] 26)) := (Below.refl _ _).alloc (Nat.le_refl _) _
  have hk0 := Holds.new w #[.int .i64 S0.g, .int .i64 S0.e, .int .i64 S0.i, .int .i64 S0.m, .slice A0 S0.ps.length c0] 26
  have hlt := fun v => light_any S0 A0 c0 v wc0 w0
  have hrl := rd_light r0 rfl
  obtain ⟨T, hT⟩ : ∃ T, T = Su.light S0 := ⟨_, rfl⟩
  have hTp : T.ps = S0.ps.take 10 := by rw [hT]; rfl
  rw [← hT] at hlt
  rw [← hTp] at hrl
  have HTl := Lib.hid (show T.ps.length ≤ 1000 by rw [hTp, List.length_take]; omega)
  obtain ⟨mm, hmm⟩ : ∃ mm, mm = if 200 < m1 then 200 else m1 := ⟨_, rfl⟩
  have hmi : (if (200 : Int) < (m1 : Int) then (200 : Int) else (m1 : Int)) = (mm : Int) := by rw [hmm]; split <;> split <;> omega
  have hmi2 : min (m1 : Int) 200 = (mm : Int) := by rw [hmm]; split <;> omega
  have hm1 : mm ≤ m1 := by rw [hmm]; split <;> omega
  have hm2 : mm ≤ 200 := by rw [hmm]; split <;> omega
  have hmc : (mm : Int) ≤ (c1 : Int) := by omega
  have hrb := r1.take hm1
  generalize l1.take mm = l at hrb
  have HLt := Lib.hid hlt
  have HRl := Lib.hid hrl
  have HRb := Lib.hid hrb
  have HMc := Lib.hid (show mm ≤ c1 by omega)
  unfold Su.val at HLt ⊢
  clear hlt hrl hT hTp r0 wc0 w0 hmm hrb r1 w1
  go_enter Try.func6, Try.ntmps6
  go_wp2_with fail
  refine (awake_any _).mono ?_
  rintro e v0 ⟨rfl, hb0⟩
  have hk1 := hk0.below hb0
  have hB1 := hB0.trans (hb0.mono hB0.size)
  have z0 := hk1.at_ 0 rfl
  have z1 := hk1.at_ 1 rfl
  have z2 := hk1.at_ 2 rfl
  have z3 := hk1.at_ 3 rfl
  have z4 := hk1.at_ 4 rfl
  have hd : Below v0.heap.size v0 v0.drew := (Below.refl _ _).drew
  clear hb0 hk0 hB0
  go_upto_region 3 with fail
  refine wp_region_held_drew (S := fun wx => True) (by kernel_rfl) ?_ (fun hHeld => ?_)
  · exact trivial
  refine take_at (i := 2) (v := ?_) (some 17) rfl rfl (by kernel_rfl) (by kernel_rfl) (by kernel_rfl) (fun _ _ _ h => h) (by rfl) hHeld ?_ ?_
  rotate_left
  · intro wz hSw; (try dsimp only at hSw); go_simp; (try with_reducible rfl)
  (try simp only [Act.put, List.setIfInBounds_toArray, List.set_cons_zero, List.set_cons_succ])
  refine take_at (i := 3) (v := ?_) (some 18) rfl rfl (by kernel_rfl) (by kernel_rfl) (by kernel_rfl) (fun _ _ _ h => h) (by rfl) hHeld ?_ ?_
  rotate_left
  · intro wz hSw; (try dsimp only at hSw); go_simp; (try with_reducible rfl)
  (try simp only [Act.put, List.setIfInBounds_toArray, List.set_cons_zero, List.set_cons_succ])
  refine take_at (i := 4) (v := ?_) (some 19) rfl rfl (by kernel_rfl) (by kernel_rfl) (by kernel_rfl) (fun _ _ _ h => h) (by rfl) hHeld ?_ ?_
  rotate_left
  · intro wz hSw; (try dsimp only at hSw); go_simp; (try with_reducible rfl)
  (try simp only [Act.put, List.setIfInBounds_toArray, List.set_cons_zero, List.set_cons_succ])
  refine take_at (i := 5) (v := .int .i64 (mm : Int)) (some 20) rfl rfl (by kernel_rfl) (by kernel_rfl) (by kernel_rfl) (fun _ _ _ h => h) (by rfl) hHeld ?_ ?_
  · intro wz hSw; (try dsimp only at hSw); go_simp; (try with_reducible rfl)
  (try simp only [Act.put, List.setIfInBounds_toArray, List.set_cons_zero, List.set_cons_succ])
  refine take_at (i := 6) (v := ?_) (some 21) rfl rfl (by kernel_rfl) (by kernel_rfl) (by kernel_rfl) (fun _ _ _ h => h) (by rfl) hHeld ?_ ?_
  rotate_left
  · intro wz hSw; (try dsimp only at hSw); go_simp; (try with_reducible rfl)
  (try simp only [Act.put, List.setIfInBounds_toArray, List.set_cons_zero, List.set_cons_succ])
  refine wpAnyH_ready (rs := [0]) (by kernel_rfl) (by simp) ?_
  refine ready_cons (i := 0) rfl (by rfl) (fun K' hK => ?_) (AllReadyH.nil)
  go_simp
  refine hK.out _ _ ?_ ?_
  · exact trivial
  clear hK K'
  (try simp only [Act.put, List.setIfInBounds_toArray, List.set_cons_zero, List.set_cons_succ])
  refine wpAnyH_ready (rs := [1]) (by kernel_rfl) (by simp) ?_
  refine ready_cons (i := 1) rfl (by rfl) (fun K' hK => ?_) (AllReadyH.nil)
  refine wp_call1 16 rfl (.tmp 15) rfl rfl enter_light ((HLt.out v0.drew).mono ?_)
  rintro e v1 ⟨rfl, hb1⟩
  refine ⟨_, rfl, ?_⟩
  refine hK.out _ _ ?_ ?_
  · exact trivial
  clear hK K'
  (try simp only [Act.put, List.setIfInBounds_toArray, List.set_cons_zero, List.set_cons_succ])
  have hB2 := hB1.trans ((below_next2 hd hb1 (Nat.le_refl _)).mono hB1.size)
  have hk2 := (show Holds v0.drew _ _ from hk1).below hb1
  have f0 := hk2.2.2 0
  have f1 := hk2.2.2 1
  have f2 := hk2.2.2 2
  have f3 := hk2.2.2 3
  have f4 := hk2.2.2 4
  have y0 := hk2.at_ 0 rfl
  have y1 := hk2.at_ 1 rfl
  have y2 := hk2.at_ 2 rfl
  have y3 := hk2.at_ 3 rfl
  have y4 := hk2.at_ 4 rfl
  refine wpAnyH_ready (rs := [7]) (by kernel_rfl) (by simp) ?_
  refine ready_cons (i := 7) rfl (by rfl) (fun K' hK => ?_) (AllReadyH.nil)
  go_simp
  refine hK.out _ _ ?_ ?_
  · exact trivial
  clear hK K'
  (try simp only [Act.put, List.setIfInBounds_toArray, List.set_cons_zero, List.set_cons_succ])
  refine wpAnyH_ready (rs := [8]) (by kernel_rfl) (by simp) ?_
  refine ready_cons (i := 8) rfl (by rfl) (fun K' hK => ?_) (AllReadyH.nil)
  go_simp
  refine hK.out _ _ ?_ ?_
  · exact trivial
  clear hK K'
  (try simp only [Act.put, List.setIfInBounds_toArray, List.set_cons_zero, List.set_cons_succ])
  refine wpAnyH_done (by kernel_rfl) ?_ _
  have hk3 := hk2.set5 (.int .i64 T.g) (.int .i64 T.e) (.int .i64 T.i) (.int .i64 T.m) (.slice A0 T.ps.length c0)
  have hR3 := rd_apart (b := w.heap.size) HRl.out (Nat.le_refl _) hB2 (.int .i64 T.g) (.int .i64 T.e) (.int .i64 T.i) (.int .i64 T.m) (.slice A0 T.ps.length c0)
  have hB3 := below_set5' hB2 (b := w.heap.size) (Nat.le_refl _) (.int .i64 T.g) (.int .i64 T.e) (.int .i64 T.i) (.int .i64 T.m) (.slice A0 T.ps.length c0)
  clear y0 y1 y2 y3 y4 f0 f1 f2 f3 f4 z0 z1 z2 z3 z4 hk2 hB2 hk1 hB1 hb1 hHeld hd
  generalize (((((v1.setCell ⟨w.heap.size, 0, none⟩ (.int .i64 T.g)).setCell ⟨w.heap.size, 1, none⟩ (.int .i64 T.e)).setCell ⟨w.heap.size, 2, none⟩ (.int .i64 T.i)).setCell ⟨w.heap.size, 3, none⟩ (.int .i64 T.m)).setCell ⟨w.heap.size, 4, none⟩ (.slice A0 T.ps.length c0)) = v3 at *
  have HK3 := Lib.hid hk3
  have HR3 := Lib.hid hR3
  have HB3 := Lib.hid hB3
  have y0 := hk3.at_ 0 rfl
  have y1 := hk3.at_ 1 rfl
  have y2 := hk3.at_ 2 rfl
  have y3 := hk3.at_ 3 rfl
  have y4 := hk3.at_ 4 rfl
  clear hk3 hR3 hB3
  go_wp2_with fail
  clear y0 y1 y2 y3 y4
  have HE := Lib.hid (senc_any T A0 c0 v3 HR3.out)
  unfold Su.val at HE
  by_cases hok : Su.ok T = true
  · have e1 : Su.encR T = 0 := by unfold Su.encR; rw [if_pos hok]
    have e2 : Su.encL T = Su.sec T := by unfold Su.encL; rw [if_pos hok]
    obtain ⟨hsu, hso⟩ := Su.su_there hok
    have hrd : Su.read (Su.sec T) = T := by unfold Su.read; rw [hsu, if_pos rfl, hso]
    rw [e1, e2] at HE
    have HSu := Lib.hid hsu
    have HRd := Lib.hid hrd
    have HSl := Lib.hid (Su.sec_len hok)
    clear e1 e2 hsu hso hrd hok
    refine HE.out.mono ?_
    rintro e v4 ⟨A4, c4, rfl, hR4, hc4, hb4⟩
    rw [HSl.out] at hR4 hc4 ⊢
    have HK4 := Lib.hid (HK3.out.below hb4)
    have HRt4 := Lib.hid (HR3.out.below hb4)
    have HB4 := Lib.hid (HB3.out.trans (hb4.mono HB3.out.size))
    have HR4 := Lib.hid hR4
    clear hb4 hR4 HE
    go_wp2_with fail
    refine (sdecode_any A4 128 c4 (Su.sec T) v4 HR4.out hc4 (by omega)).mono ?_
    rintro e v5 ⟨A5, c5, rfl, hR5, _, hb5⟩
    rw [HSu.out]
    rw [HRd.out] at hR5 ⊢
    have HK5 := Lib.hid ((HK4.out.below hb5).alloc (.cells #[.int .i64 T.g, .int .i64 T.e, .int .i64 T.i, .int .i64 T.m, .slice A5 T.ps.length c5] 26))
    have HRt5 := Lib.hid ((HRt4.out.below hb5).alloc (.cells #[.int .i64 T.g, .int .i64 T.e, .int .i64 T.i, .int .i64 T.m, .slice A5 T.ps.length c5] 26))
    have HB5 := Lib.hid ((HB4.out.trans (hb5.mono HB4.out.size)).alloc (by have := HB4.out.size; have := hb5.size; omega) (.cells #[.int .i64 T.g, .int .i64 T.e, .int .i64 T.i, .int .i64 T.m, .slice A5 T.ps.length c5] 26))
    have HR5 := Lib.hid (hR5.alloc (.cells #[.int .i64 T.g, .int .i64 T.e, .int .i64 T.i, .int .i64 T.m, .slice A5 T.ps.length c5] 26))
    have hx5 := Holds.new v5 #[.int .i64 T.g, .int .i64 T.e, .int .i64 T.i, .int .i64 T.m, .slice A5 T.ps.length c5] 26
    have y0 := HK5.out.at_ 0 rfl
    have y1 := HK5.out.at_ 1 rfl
    have y2 := HK5.out.at_ 2 rfl
    have y3 := HK5.out.at_ 3 rfl
    have y4 := HK5.out.at_ 4 rfl
    have u0 := hx5.at_ 0 rfl
    have u1 := hx5.at_ 1 rfl
    have u2 := hx5.at_ 2 rfl
    have u3 := hx5.at_ 3 rfl
    have u4 := hx5.at_ 4 rfl
    clear hb5 hR5 hx5
    go_wp2_with fail
    clear y0 y1 y2 y3 y4 u0 u1 u2 u3 u4
    have HSm := Lib.hid (same_su T T A5 A0 c5 c0 _ HR5.out HRt5.out HTl.out HTl.out)
    rw [Su.eqS_iff.2 rfl] at HSm
    unfold Su.val at HSm
    refine HSm.out.mono ?_
    rintro e v6 ⟨rfl, hb6⟩
    have HB6 := Lib.hid (HB5.out.trans (hb6.mono HB5.out.size))
    clear hb6 HSm
    go_wp2_with fail
    refine (sdecode_any A1 mm c1 l v6 (HRb.out.below HB6.out) HMc.out (by omega)).mono ?_
    rintro e q1 ⟨A7, c7, rfl, hR7, _, hb7⟩
    have HB7 := Lib.hid (HB6.out.trans (hb7.mono HB6.out.size))
    have HR7 := Lib.hid hR7
    have HRb7 := Lib.hid ((HRb.out.below HB6.out).below hb7)
    clear hb7 hR7
    cases hsu : Su.isSu l with
    | false =>
      have hrl : Su.read l = Su.none_ := by unfold Su.read; rw [hsu]; rfl
      rw [hrl] at HR7 ⊢
      have hx := Holds.new q1 #[.int .i64 0, .int .i64 0, .int .i64 0, .int .i64 0, .slice A7 0 c7] 26
      have y0 := hx.at_ 0 rfl
      have y1 := hx.at_ 1 rfl
      have y2 := hx.at_ 2 rfl
      have y3 := hx.at_ 3 rfl
      have y4 := hx.at_ 4 rfl
      have HB8 := Lib.hid (HB7.out.alloc HB7.out.size (.cells #[.int .i64 0, .int .i64 0, .int .i64 0, .int .i64 0, .slice A7 0 c7] 26))
      clear hx hrl hsu
      go_wp2_with fail
      clear y0 y1 y2 y3 y4
      refine (same_zero2 A7 c7 _).mono ?_
      rintro e q2 ⟨rfl, hb8⟩
      have HB9 := Lib.hid (HB8.out.trans (hb8.mono HB8.out.size))
      clear hb8
      go_wp2_with fail
      go_ret
      exact ⟨rfl, HB9.out⟩
    | true =>
      have hrl : Su.read l = Su.sOf l := by unfold Su.read; rw [hsu]; rfl
      obtain ⟨hok2, hsec⟩ := Su.su_back HRb.out.2.1 hsu
      rw [hrl] at HR7 ⊢
      have hx := Holds.new q1 #[.int .i64 (Su.sOf l).g, .int .i64 (Su.sOf l).e, .int .i64 (Su.sOf l).i, .int .i64 (Su.sOf l).m, .slice A7 (Su.sOf l).ps.length c7] 26
      have y0 := hx.at_ 0 rfl
      have y1 := hx.at_ 1 rfl
      have y2 := hx.at_ 2 rfl
      have y3 := hx.at_ 3 rfl
      have y4 := hx.at_ 4 rfl
      have HB8 := Lib.hid (HB7.out.alloc HB7.out.size (.cells #[.int .i64 (Su.sOf l).g, .int .i64 (Su.sOf l).e, .int .i64 (Su.sOf l).i, .int .i64 (Su.sOf l).m, .slice A7 (Su.sOf l).ps.length c7] 26))
      have hR8 := HR7.out.alloc (.cells #[.int .i64 (Su.sOf l).g, .int .i64 (Su.sOf l).e, .int .i64 (Su.sOf l).i, .int .i64 (Su.sOf l).m, .slice A7 (Su.sOf l).ps.length c7] 26)
      have HRb8 := Lib.hid (HRb7.out.alloc (.cells #[.int .i64 (Su.sOf l).g, .int .i64 (Su.sOf l).e, .int .i64 (Su.sOf l).i, .int .i64 (Su.sOf l).m, .slice A7 (Su.sOf l).ps.length c7] 26))
      have HE2 := Lib.hid (sencode_yes (Su.sOf l) A7 c7 _ hR8 hok2)
      rw [hsec] at HE2
      unfold Su.val at HE2
      clear hx hrl hsu hR8 hok2 hsec
      go_wp2_with fail
      clear y0 y1 y2 y3 y4
      refine HE2.out.mono ?_
      rintro e q2 ⟨A9, c9, rfl, hR9, hc9, hb9⟩
      have HB9 := Lib.hid (HB8.out.trans (hb9.mono HB8.out.size))
      have hs1 := run_str (cap := c9) hR9
      have hs2 := run_str (cap := c1) (HRb8.out.below hb9)
      clear hb9 hR9 hc9
      go_wp2_with fail
      go_ret
      exact ⟨rfl, HB9.out⟩
  · have e1 : Su.encR T = 50 := by unfold Su.encR; rw [if_neg hok]
    rw [e1] at HE
    clear e1 hok
    refine HE.out.mono ?_
    rintro e v4 ⟨A4, c4, rfl, hR4, hc4, hb4⟩
    have HB4 := Lib.hid (HB3.out.trans (hb4.mono HB3.out.size))
    clear hb4 hR4 hc4 HE
    go_wp2_with fail
    refine (sdecode_any A1 mm c1 l v4 (HRb.out.below HB4.out) HMc.out (by omega)).mono ?_
    rintro e q1 ⟨A7, c7, rfl, hR7, _, hb7⟩
    have HB7 := Lib.hid (HB4.out.trans (hb7.mono HB4.out.size))
    have HR7 := Lib.hid hR7
    have HRb7 := Lib.hid ((HRb.out.below HB4.out).below hb7)
    clear hb7 hR7
    cases hsu : Su.isSu l with
    | false =>
      have hrl : Su.read l = Su.none_ := by unfold Su.read; rw [hsu]; rfl
      rw [hrl] at HR7 ⊢
      have hx := Holds.new q1 #[.int .i64 0, .int .i64 0, .int .i64 0, .int .i64 0, .slice A7 0 c7] 26
      have y0 := hx.at_ 0 rfl
      have y1 := hx.at_ 1 rfl
      have y2 := hx.at_ 2 rfl
      have y3 := hx.at_ 3 rfl
      have y4 := hx.at_ 4 rfl
      have HB8 := Lib.hid (HB7.out.alloc HB7.out.size (.cells #[.int .i64 0, .int .i64 0, .int .i64 0, .int .i64 0, .slice A7 0 c7] 26))
      clear hx hrl hsu
      go_wp2_with fail
      clear y0 y1 y2 y3 y4
      refine (same_zero2 A7 c7 _).mono ?_
      rintro e q2 ⟨rfl, hb8⟩
      have HB9 := Lib.hid (HB8.out.trans (hb8.mono HB8.out.size))
      clear hb8
      go_wp2_with fail
      go_ret
      exact ⟨rfl, HB9.out⟩
    | true =>
      have hrl : Su.read l = Su.sOf l := by unfold Su.read; rw [hsu]; rfl
      obtain ⟨hok2, hsec⟩ := Su.su_back HRb.out.2.1 hsu
      rw [hrl] at HR7 ⊢
      have hx := Holds.new q1 #[.int .i64 (Su.sOf l).g, .int .i64 (Su.sOf l).e, .int .i64 (Su.sOf l).i, .int .i64 (Su.sOf l).m, .slice A7 (Su.sOf l).ps.length c7] 26
      have y0 := hx.at_ 0 rfl
      have y1 := hx.at_ 1 rfl
      have y2 := hx.at_ 2 rfl
      have y3 := hx.at_ 3 rfl
      have y4 := hx.at_ 4 rfl
      have HB8 := Lib.hid (HB7.out.alloc HB7.out.size (.cells #[.int .i64 (Su.sOf l).g, .int .i64 (Su.sOf l).e, .int .i64 (Su.sOf l).i, .int .i64 (Su.sOf l).m, .slice A7 (Su.sOf l).ps.length c7] 26))
      have hR8 := HR7.out.alloc (.cells #[.int .i64 (Su.sOf l).g, .int .i64 (Su.sOf l).e, .int .i64 (Su.sOf l).i, .int .i64 (Su.sOf l).m, .slice A7 (Su.sOf l).ps.length c7] 26)
      have HRb8 := Lib.hid (HRb7.out.alloc (.cells #[.int .i64 (Su.sOf l).g, .int .i64 (Su.sOf l).e, .int .i64 (Su.sOf l).i, .int .i64 (Su.sOf l).m, .slice A7 (Su.sOf l).ps.length c7] 26))
      have HE2 := Lib.hid (sencode_yes (Su.sOf l) A7 c7 _ hR8 hok2)
      rw [hsec] at HE2
      unfold Su.val at HE2
      clear hx hrl hsu hR8 hok2 hsec
      go_wp2_with fail
      clear y0 y1 y2 y3 y4
      refine HE2.out.mono ?_
      rintro e q2 ⟨A9, c9, rfl, hR9, hc9, hb9⟩
      have HB9 := Lib.hid (HB8.out.trans (hb9.mono HB8.out.size))
      have hs1 := run_str (cap := c9) hR9
      have hs2 := run_str (cap := c1) (HRb8.out.below hb9)
      clear hb9 hR9 hc9
      go_wp2_with fail
      go_ret
      exact ⟨rfl, HB9.out⟩
set_option maxRecDepth 100000 in
theorem lifted (os : Os) (started : os.Started) (H : Type) (enc : TypeId × Value → H) :
    ReturnsInHanded {} Try.checked os 6 .any (Rows.superBackSpec.pre6 enc Try.prog Try.f6 Rows.superBackRow.domain false) (Rows.superBackSpec.post enc Try.prog Try.f6 false true false false) := by
  refine returnsInHanded_of_change (C := Try.checked) own started (by kernel_rfl) Try.func6
    (ChangeSpec.witness6 (enc := enc) (C := Try.checked) false ⟨#[], #[.agg #[.int .i64 0, .int .i64 0, .int .i64 0, .int .i64 0, .slice none 0 0], .slice none 0 0], []⟩ 8 (by kernel_rfl) (by kernel_rfl) (by kernel_rfl) (by kernel_rfl)) ?_
  intro W base args ds gs before hval0 hW hcnd _
  have hval : ∀ (j : Nat) t v, Try.f6.params[j]? = some t → args[j]? = some v → Value.okWide Try.prog W .any base t v := hval0
  have hW' := hW
  obtain ⟨p, q, hA0, hV, rfl, hfz, hnd⟩ := hW
  have hA : DataW.TrodAll enc Try.prog W 0 (fun _ => true) true Try.f6.params.toList args.toList ds p := hA0
  rw [Try.params6] at hA hval
  obtain ⟨v0, vs0, d0, ds0, p0, q0, hargs, rfl, rfl, h0, t0⟩ := trodAll_cons hA
  obtain ⟨v1, vs1, d1, ds1, p1, q1, rfl, rfl, rfl, h1, t1⟩ := trodAll_cons t0
  obtain ⟨rfl, rfl, rfl⟩ := trodAll_nil t1
  obtain rfl : args = #[v0, v1] := by cases args; simp_all
  obtain ⟨rfl, rfl⟩ := trodVars_none hV
  have k0 : Reads enc W 26 v0 d0 p0 := h0
  have lt0 : ∀ x ∈ p0, x.block < W.heap.size := by obtain ⟨m, hm⟩ := k0; exact DataW.trod_lt m _ _ _ hm
  obtain ⟨S0, A0, c0, rfl, r0, wc0, w0⟩ := in_super (hval 0 26 v0 rfl rfl) k0
  have k1 : Reads enc W 28 v1 d1 p1 := h1
  have lt1 : ∀ x ∈ p1, x.block < W.heap.size := by obtain ⟨m, hm⟩ := k1; exact DataW.trod_lt m _ _ _ hm
  obtain ⟨A1, m1, c1, l1, rfl, r1, wc1, w1⟩ := in_bytes (hval 1 28 v1 rfl rfl) k1
  clear hA0 hval0
  refine (walk S0 A0 c0 A1 m1 c1 l1 W r0 wc0 w0 r1 wc1 w1).mono fun e W' ⟨he, bel⟩ => ?_
  subst he
  exact ⟨_, rfl, _, _, _, [], _, [], hW', trodAll_mk1 (shut_bool Try.underlying4 _), (trodAll_cons_mk (Below.trod laidOut (by kernel_rfl) (of_decide_eq_true (by kernel_rfl)) k0 bel lt0) (trodAll_cons_mk (Below.trod laidOut (by kernel_rfl) (of_decide_eq_true (by kernel_rfl)) k1 bel lt1) trodAll_mk0)), rfl, bel.frame _, fun h => by cases h⟩
theorem over : Rows.superBackRow.holds Try.pinned (OpenSpec.ofChange Rows.superBackSpec) :=
  OpenClaim.holds_of_wide 6 Try.f6 rfl rfl rfl rfl rfl rfl rfl ⟨rfl, rfl, rfl, rfl, rfl⟩ rfl rfl rfl rfl rfl (by kernel_rfl) Try.func6 (by kernel_rfl)
    (of_decide_eq_true (by kernel_rfl)) (by unfold Func.isWrapper; first | (rw [if_pos (by decide +kernel)]; kernel_rfl) | (rw [if_neg (by decide +kernel)]; exact ⟨rfl, rfl⟩))
    (fun os started H enc _ => lifted os started H enc)
theorem proved : Rows.SuperBackSaid := over
end Go.Proofs.Ytbdomhookjmmgaa.superBack
