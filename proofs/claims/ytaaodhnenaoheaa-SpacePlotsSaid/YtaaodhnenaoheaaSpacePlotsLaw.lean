/- For any numbers of sectors, of a plot and of a sector in it: how many plots a disk has, and where each lies, is as the document says. -/
import Derived.Test.YtaaodhnenaoheaaSpAwake
import Derived.Test.YtaaodhnenaoheaaIns
import Derived.WalkKit
import Derived.ProofKit
import Derived.OpenShut
import Derived.ShutString
import Derived.ChangeOld
import Derived.Below
import Derived.Deep.RegionHeld
namespace Go.Proofs.Ytaaodhnenaoheaa.spacePlots
open Go.ChangeShapes Go.WideShapes Go.ChangeAt Go.RowKit
set_option linter.unusedVariables false
theorem own : ownKnob Try.prog.godebug = none := by kernel_rfl
theorem laidOut : laidOutB Try.prog = true := by kernel_rfl
set_option maxRecDepth 100000 in
set_option maxHeartbeats 1000000 in
theorem walk (n0 : Int) (n1 : Int) (n2 : Int) (w : World) (wl0 : -9223372036854775808 ≤ n0) (w0 : n0 ≤ 9223372036854775807) (wl1 : -9223372036854775808 ≤ n1) (w1 : n1 ≤ 9223372036854775807) (wl2 : -9223372036854775808 ≤ n2) (w2 : n2 ≤ 9223372036854775807) :
    Calls Try.prog 3 #[.int .i64 n0, .int .i64 n1, .int .i64 n2] w fun e w' => e = .returned (.bool true) ∧ Below w.heap.size w w' := by
-- heartbeats 1000000
  have hs := sector_any n1 n2
  have hr := rsector_any n1 n2
  generalize Sp.sec n1 n2 = sc at hs hr
  obtain ⟨s1, s2⟩ := sc
  have hp := fun W => plots_any n0 W w0
  have hq := fun W => rplots_any n0 W w0
  by_cases hin : 0 ≤ n0 ∧ n0 ≤ 4096
  · have hn := fun W => new_map n0 W hin.1 hin.2
    have hm := fun W => rnew_yes n0 W hin.1 hin.2
    have hlen : Sp.plots n0 ≤ 511 := by unfold Sp.plots; split <;> (try split) <;> omega
    generalize Sp.plots n0 = m at *
    have HS := Lib.hid hs
    have HR := Lib.hid hr
    have HP := Lib.hid hp
    have HQ := Lib.hid hq
    have HN := Lib.hid hn
    have HM := Lib.hid hm
    have hA := fun W => awake_any W
    have HA := Lib.hid hA
    clear hs hr hp hq hn hm hA hin
    go_enter Try.func3, Try.ntmps3
    go_wp2_with (first | (go_at_call 8; refine (HS.out _).mono ?_; rintro e w' ⟨rfl, rfl⟩) | (go_at_call 9; refine (HR.out _).mono ?_; rintro e w' ⟨rfl, rfl⟩) | (go_at_call 10; refine (HP.out _).mono ?_; rintro e w' ⟨rfl, rfl⟩) | (go_at_call 11; refine (HQ.out _).mono ?_; rintro e w' ⟨rfl, rfl⟩))
    refine (HN.out _).mono ?_
    rintro e v1 ⟨rfl, hb1, hM1⟩
    go_wp2_with fail
    refine (HM.out _).mono ?_
    rintro e v2 ⟨rfl, hb2, hO2⟩
    go_wp2_with fail
    have hM3 := (hM1.below hb2).below ((Below.refl _ v2).alloc (Nat.le_refl _) (.cells #[.slice (some ⟨v1.heap.size + 1, 0, none⟩) m m] 31))
    have hR3 := hO2.rd.alloc (.cells #[.slice (some ⟨v1.heap.size + 1, 0, none⟩) m m] 31)
    have hw3 := (below_next hb1 hb2).alloc (below_next hb1 hb2).size (.cells #[.slice (some ⟨v1.heap.size + 1, 0, none⟩) m m] 31)
    refine (like_any _ _ _ m m _ hM3 hR3).mono ?_
    rintro e v3 ⟨rfl, hb3⟩
    go_wp2_with (go_at_call 15; refine (HA.out _).mono ?_; rintro e v4 ⟨rfl, hb4⟩)
    go_ret
    exact ⟨rfl, below_next (below_next hw3 hb3) hb4⟩
  · have hout : n0 < 0 ∨ 4096 < n0 := by omega
    have hn := fun W => new_no n0 W w0 hout
    have hm := fun W => rnew_no n0 W hout
    have hlen : Sp.plots n0 ≤ 511 := by unfold Sp.plots; split <;> (try split) <;> omega
    generalize Sp.plots n0 = m at *
    have HS := Lib.hid hs
    have HR := Lib.hid hr
    have HP := Lib.hid hp
    have HQ := Lib.hid hq
    have HN := Lib.hid hn
    have HM := Lib.hid hm
    have hA := fun W => awake_any W
    have HA := Lib.hid hA
    clear hs hr hp hq hn hm hA hin hout
    go_enter Try.func3, Try.ntmps3
    go_wp2_with (first | (go_at_call 8; refine (HS.out _).mono ?_; rintro e w' ⟨rfl, rfl⟩) | (go_at_call 9; refine (HR.out _).mono ?_; rintro e w' ⟨rfl, rfl⟩) | (go_at_call 10; refine (HP.out _).mono ?_; rintro e w' ⟨rfl, rfl⟩) | (go_at_call 11; refine (HQ.out _).mono ?_; rintro e w' ⟨rfl, rfl⟩) | (go_at_call 12; refine (HN.out _).mono ?_; rintro e w' ⟨rfl, rfl⟩))
    refine (HM.out _).mono ?_
    rintro e v2 ⟨rfl, hb2⟩
    have hw3 := hb2.alloc hb2.size (.cells #[.slice none 0 0] 31)
    go_wp2_with (go_at_call 15; refine (HA.out _).mono ?_; rintro e v4 ⟨rfl, hb4⟩)
    go_ret
    exact ⟨rfl, below_next hw3 hb4⟩
set_option maxRecDepth 100000 in
theorem lifted (os : Os) (started : os.Started) (H : Type) (enc : TypeId × Value → H) :
    ReturnsInHanded {} Try.checked os 3 .any (Rows.spacePlotsSpec.pre6 enc Try.prog Try.f3 Rows.spacePlotsRow.domain false) (Rows.spacePlotsSpec.post enc Try.prog Try.f3 false true false false) := by
  refine returnsInHanded_of_change (C := Try.checked) own started (by kernel_rfl) Try.func3
    (ChangeSpec.witness6 (enc := enc) (C := Try.checked) false ⟨#[], #[.int .i64 0, .int .i64 0, .int .i64 0], []⟩ 8 (by kernel_rfl) (by kernel_rfl) (by kernel_rfl) (by kernel_rfl)) ?_
  intro W base args ds gs before hval0 hW hcnd _
  have hval : ∀ (j : Nat) t v, Try.f3.params[j]? = some t → args[j]? = some v → Value.okWide Try.prog W .any base t v := hval0
  have hW' := hW
  obtain ⟨p, q, hA0, hV, rfl, hfz, hnd⟩ := hW
  have hA : DataW.TrodAll enc Try.prog W 0 (fun _ => true) true Try.f3.params.toList args.toList ds p := hA0
  rw [Try.params3] at hA hval
  obtain ⟨v0, vs0, d0, ds0, p0, q0, hargs, rfl, rfl, h0, t0⟩ := trodAll_cons hA
  obtain ⟨v1, vs1, d1, ds1, p1, q1, rfl, rfl, rfl, h1, t1⟩ := trodAll_cons t0
  obtain ⟨v2, vs2, d2, ds2, p2, q2, rfl, rfl, rfl, h2, t2⟩ := trodAll_cons t1
  obtain ⟨rfl, rfl, rfl⟩ := trodAll_nil t2
  obtain rfl : args = #[v0, v1, v2] := by cases args; simp_all
  obtain ⟨rfl, rfl⟩ := trodVars_none hV
  have k0 : Reads enc W 3 v0 d0 p0 := h0
  have lt0 : ∀ x ∈ p0, x.block < W.heap.size := by obtain ⟨m, hm⟩ := k0; exact DataW.trod_lt m _ _ _ hm
  obtain ⟨n0, rfl, wl0, w0⟩ := in_int (hval 0 3 v0 rfl rfl) k0
  have k1 : Reads enc W 3 v1 d1 p1 := h1
  have lt1 : ∀ x ∈ p1, x.block < W.heap.size := by obtain ⟨m, hm⟩ := k1; exact DataW.trod_lt m _ _ _ hm
  obtain ⟨n1, rfl, wl1, w1⟩ := in_int (hval 1 3 v1 rfl rfl) k1
  have k2 : Reads enc W 3 v2 d2 p2 := h2
  have lt2 : ∀ x ∈ p2, x.block < W.heap.size := by obtain ⟨m, hm⟩ := k2; exact DataW.trod_lt m _ _ _ hm
  obtain ⟨n2, rfl, wl2, w2⟩ := in_int (hval 2 3 v2 rfl rfl) k2
  clear hA0 hval0
  refine (walk n0 n1 n2 W wl0 w0 wl1 w1 wl2 w2).mono fun e W' ⟨he, bel⟩ => ?_
  subst he
  exact ⟨_, rfl, _, _, _, [], _, [], hW', trodAll_mk1 (shut_bool Try.underlying4 _), (trodAll_cons_mk (Below.trod laidOut (by kernel_rfl) (of_decide_eq_true (by kernel_rfl)) k0 bel lt0) (trodAll_cons_mk (Below.trod laidOut (by kernel_rfl) (of_decide_eq_true (by kernel_rfl)) k1 bel lt1) (trodAll_cons_mk (Below.trod laidOut (by kernel_rfl) (of_decide_eq_true (by kernel_rfl)) k2 bel lt2) trodAll_mk0))), rfl, bel.frame _, fun h => by cases h⟩
theorem over : Rows.spacePlotsRow.holds Try.pinned (OpenSpec.ofChange Rows.spacePlotsSpec) :=
  OpenClaim.holds_of_wide 3 Try.f3 rfl rfl rfl rfl rfl rfl rfl ⟨rfl, rfl, rfl, rfl, rfl⟩ rfl rfl rfl rfl rfl (by kernel_rfl) Try.func3 (by kernel_rfl)
    (of_decide_eq_true (by kernel_rfl)) (by unfold Func.isWrapper; first | (rw [if_pos (by decide +kernel)]; kernel_rfl) | (rw [if_neg (by decide +kernel)]; exact ⟨rfl, rfl⟩))
    (fun os started H enc _ => lifted os started H enc)
theorem proved : Rows.SpacePlotsSaid := over
end Go.Proofs.Ytaaodhnenaoheaa.spacePlots
