/- For every account, every hold and every time: what Confirm and Expire make of the account is the document's (P20.3), and the example at the head holds; the arguments stay as they were. No condition. -/
import Derived.Test.YtionaciiaahacaaInAcc
import Derived.Test.YtionaciiaahacaaAccAwake
import Derived.Test.YtionaciiaahacaaHolds
import Derived.WalkKit
import Derived.ProofKit
import Derived.OpenShut
import Derived.ShutString
import Derived.ChangeOld
import Derived.Below
import Derived.Deep.RegionHeld
namespace Go.Proofs.Ytionaciiaahacaa.rightsTimes
open Go.ChangeShapes Go.WideShapes Go.ChangeAt Go.RowKit
set_option linter.unusedVariables false
theorem own : ownKnob Try.prog.godebug = none := by kernel_rfl
theorem laidOut : laidOutB Try.prog = true := by kernel_rfl
set_option maxRecDepth 100000 in
set_option maxHeartbeats 2000000 in
theorem walk (f0 x0 q0 : Int) (n1 u1 : Int) (n2 : Int) (w : World) (wl2 : -9223372036854775808 ≤ n2) (w2 : n2 ≤ 9223372036854775807) :
    Calls Try.prog 6 #[acc f0 x0 q0, hold n1 u1, .int .i64 n2] w fun e w' => e = .returned (.bool true) ∧ Below w.heap.size w w' := by
  -- heartbeats 2000000
  have g1 := fun (w' : World) => confirm_any f0 x0 q0 n1 u1 n2 w'
  have g2 := fun (w' : World) => rconfirm_any f0 x0 q0 n1 u1 n2 w'
  have g3 := fun (w' : World) => expire_any f0 x0 q0 n1 u1 n2 w'
  have g4 := fun (w' : World) => rexpire_any f0 x0 q0 n1 u1 n2 w'
  generalize Ac.confirm f0 x0 q0 n1 u1 n2 = r at g1 g2
  generalize Ac.expire f0 x0 q0 n1 u1 n2 = s at g3 g4
  obtain ⟨r1, r2, r3, r4⟩ := r
  obtain ⟨s1, s2, s3, s4⟩ := s
  unfold GivesAcc at g1 g2 g3 g4
  unfold acc at g1 g2 g3 g4 ⊢
  unfold hold at g1 g2 g3 g4 ⊢
  have G_g1 := Lib.hid g1
  have G_g2 := Lib.hid g2
  have G_g3 := Lib.hid g3
  have G_g4 := Lib.hid g4
  clear g1 g2 g3 g4
  go_enter Try.func6, Try.ntmps6
  go_wp2_with fail
  refine (G_g1.out _).mono ?_
  rintro e v1 ⟨rfl, hb⟩
  have hA : Holds v1 (w.heap.size) [.int .i64 (f0), .int .i64 (x0), .int .i64 (q0)] := by simpa using ((Holds.new _ #[.int .i64 (f0), .int .i64 (x0), .int .i64 (q0)] _).alloc _).below hb
  have hH : Holds v1 (w.heap.size + 1) [.int .i64 (n1), .int .i64 (u1)] := by simpa using (Holds.new _ #[.int .i64 (n1), .int .i64 (u1)] _).below hb
  have hx := below_next (show Below w.heap.size w _ from by repeat (first | exact Below.refl _ _ | refine Below.alloc ?_ (by simp <;> omega) _)) hb
  clear hb
  have lA := hA.1
  have zA := hA.2.2
  have cA0 := hA.at_ 0 rfl
  have cA1 := hA.at_ 1 rfl
  have cA2 := hA.at_ 2 rfl
  have lH := hH.1
  have zH := hH.2.2
  have cH0 := hH.at_ 0 rfl
  have cH1 := hH.at_ 1 rfl
  go_wp2_with fail
  refine (G_g2.out _).mono ?_
  rintro e v2 ⟨rfl, hb⟩
  replace hA := Holds.below (b := w.heap.size) (cs := [.int .i64 (f0), .int .i64 (x0), .int .i64 (q0)]) (by repeat (first | exact hA | refine Holds.alloc ?_ _)) hb
  replace hH := Holds.below (b := w.heap.size + 1) (cs := [.int .i64 (n1), .int .i64 (u1)]) (by repeat (first | exact hH | refine Holds.alloc ?_ _)) hb
  have hB : Holds v2 v1.heap.size [.int .i64 (r1), .int .i64 (r2), .int .i64 (r3)] := Holds.next hb
  replace hx := below_next (show Below w.heap.size w _ from by repeat (first | exact hx | refine Below.alloc ?_ (Below.size ‹Below w.heap.size w _›) _)) hb
  clear hb
  have lA := hA.1
  have zA := hA.2.2
  have cA0 := hA.at_ 0 rfl
  have cA1 := hA.at_ 1 rfl
  have cA2 := hA.at_ 2 rfl
  have lH := hH.1
  have zH := hH.2.2
  have cH0 := hH.at_ 0 rfl
  have cH1 := hH.at_ 1 rfl
  have lB := hB.1
  have zB := hB.2.2
  have cB0 := hB.at_ 0 rfl
  have cB1 := hB.at_ 1 rfl
  have cB2 := hB.at_ 2 rfl
  go_wp2_with fail
  refine (G_g3.out _).mono ?_
  rintro e v3 ⟨rfl, hb⟩
  replace hA := Holds.below (b := w.heap.size) (cs := [.int .i64 (f0), .int .i64 (x0), .int .i64 (q0)]) (by repeat (first | exact hA | refine Holds.alloc ?_ _)) hb
  replace hH := Holds.below (b := w.heap.size + 1) (cs := [.int .i64 (n1), .int .i64 (u1)]) (by repeat (first | exact hH | refine Holds.alloc ?_ _)) hb
  replace hB := Holds.below (b := v1.heap.size) (cs := [.int .i64 (r1), .int .i64 (r2), .int .i64 (r3)]) (by repeat (first | exact hB | refine Holds.alloc ?_ _)) hb
  have hC : Holds v3 v2.heap.size [.int .i64 (r1), .int .i64 (r2), .int .i64 (r3)] := Holds.next hb
  replace hx := below_next (show Below w.heap.size w _ from by repeat (first | exact hx | refine Below.alloc ?_ (Below.size ‹Below w.heap.size w _›) _)) hb
  clear hb
  have lA := hA.1
  have zA := hA.2.2
  have cA0 := hA.at_ 0 rfl
  have cA1 := hA.at_ 1 rfl
  have cA2 := hA.at_ 2 rfl
  have lH := hH.1
  have zH := hH.2.2
  have cH0 := hH.at_ 0 rfl
  have cH1 := hH.at_ 1 rfl
  have lB := hB.1
  have zB := hB.2.2
  have cB0 := hB.at_ 0 rfl
  have cB1 := hB.at_ 1 rfl
  have cB2 := hB.at_ 2 rfl
  have lC := hC.1
  have zC := hC.2.2
  have cC0 := hC.at_ 0 rfl
  have cC1 := hC.at_ 1 rfl
  have cC2 := hC.at_ 2 rfl
  go_wp2_with fail
  refine (G_g4.out _).mono ?_
  rintro e v4 ⟨rfl, hb⟩
  replace hA := Holds.below (b := w.heap.size) (cs := [.int .i64 (f0), .int .i64 (x0), .int .i64 (q0)]) (by repeat (first | exact hA | refine Holds.alloc ?_ _)) hb
  replace hH := Holds.below (b := w.heap.size + 1) (cs := [.int .i64 (n1), .int .i64 (u1)]) (by repeat (first | exact hH | refine Holds.alloc ?_ _)) hb
  replace hB := Holds.below (b := v1.heap.size) (cs := [.int .i64 (r1), .int .i64 (r2), .int .i64 (r3)]) (by repeat (first | exact hB | refine Holds.alloc ?_ _)) hb
  replace hC := Holds.below (b := v2.heap.size) (cs := [.int .i64 (r1), .int .i64 (r2), .int .i64 (r3)]) (by repeat (first | exact hC | refine Holds.alloc ?_ _)) hb
  have hD : Holds v4 v3.heap.size [.int .i64 (s1), .int .i64 (s2), .int .i64 (s3)] := Holds.next hb
  replace hx := below_next (show Below w.heap.size w _ from by repeat (first | exact hx | refine Below.alloc ?_ (Below.size ‹Below w.heap.size w _›) _)) hb
  clear hb
  have lA := hA.1
  have zA := hA.2.2
  have cA0 := hA.at_ 0 rfl
  have cA1 := hA.at_ 1 rfl
  have cA2 := hA.at_ 2 rfl
  have lH := hH.1
  have zH := hH.2.2
  have cH0 := hH.at_ 0 rfl
  have cH1 := hH.at_ 1 rfl
  have lB := hB.1
  have zB := hB.2.2
  have cB0 := hB.at_ 0 rfl
  have cB1 := hB.at_ 1 rfl
  have cB2 := hB.at_ 2 rfl
  have lC := hC.1
  have zC := hC.2.2
  have cC0 := hC.at_ 0 rfl
  have cC1 := hC.at_ 1 rfl
  have cC2 := hC.at_ 2 rfl
  have lD := hD.1
  have zD := hD.2.2
  have cD0 := hD.at_ 0 rfl
  have cD1 := hD.at_ 1 rfl
  have cD2 := hD.at_ 2 rfl
  go_wp2_with fail
  refine (awake_any _).mono ?_
  rintro e v9 ⟨rfl, hb⟩
  go_wp2_with fail
  go_ret
  exact ⟨rfl, below_next (show Below w.heap.size w _ from by repeat (first | exact hx | refine Below.alloc ?_ (Below.size ‹Below w.heap.size w _›) _)) hb⟩
set_option maxRecDepth 100000 in
theorem lifted (os : Os) (started : os.Started) (H : Type) (enc : TypeId × Value → H) :
    ReturnsInHanded {} Try.checked os 6 .any (Rows.rightsTimesSpec.pre6 enc Try.prog Try.f6 Rows.rightsTimesRow.domain false) (Rows.rightsTimesSpec.post enc Try.prog Try.f6 false true false false) := by
  refine returnsInHanded_of_change (C := Try.checked) own started (by kernel_rfl) Try.func6
    (ChangeSpec.witness6 (enc := enc) (C := Try.checked) false ⟨#[], #[.agg #[.int .i64 0, .int .i64 0, .int .i64 0], .agg #[.int .i64 0, .int .i64 0], .int .i64 0], []⟩ 8 (by kernel_rfl) (by kernel_rfl) (by kernel_rfl) (by kernel_rfl)) ?_
  intro W base args ds gs before hval0 hW hcnd _
  have hval : ∀ (j : Nat) t v, Try.f6.params[j]? = some t → args[j]? = some v → Value.okWide Try.prog W .any base t v := hval0
  have hW' := hW
  obtain ⟨p, q, hA0, hV, rfl, hfz, hnd⟩ := hW
  have hA : DataW.TrodAll enc Try.prog W 0 (fun _ => true) true Try.f6.params.toList args.toList ds p := hA0
  rw [Try.params6] at hA hval
  obtain ⟨v0, vs0, d0, ds0, p0, q0, hargs, rfl, rfl, h0, t0⟩ := trodAll_cons hA
  obtain ⟨v1, vs1, d1, ds1, p1, q1, rfl, rfl, rfl, h1, t1⟩ := trodAll_cons t0
  obtain ⟨v2, vs2, d2, ds2, p2, q2, rfl, rfl, rfl, h2, t2⟩ := trodAll_cons t1
  obtain ⟨rfl, rfl, rfl⟩ := trodAll_nil t2
  obtain rfl : args = #[v0, v1, v2] := by cases args; simp_all
  obtain ⟨rfl, rfl⟩ := trodVars_none hV
  have k0 : Reads enc W 23 v0 d0 p0 := h0
  have lt0 : ∀ x ∈ p0, x.block < W.heap.size := by obtain ⟨m, hm⟩ := k0; exact DataW.trod_lt m _ _ _ hm
  obtain ⟨f0, x0, q0, rfl⟩ := in_acc (hval 0 23 v0 rfl rfl) k0
  have k1 : Reads enc W 25 v1 d1 p1 := h1
  have lt1 : ∀ x ∈ p1, x.block < W.heap.size := by obtain ⟨m, hm⟩ := k1; exact DataW.trod_lt m _ _ _ hm
  obtain ⟨n1, u1, rfl⟩ := in_hold (hval 1 25 v1 rfl rfl) k1
  have k2 : Reads enc W 3 v2 d2 p2 := h2
  have lt2 : ∀ x ∈ p2, x.block < W.heap.size := by obtain ⟨m, hm⟩ := k2; exact DataW.trod_lt m _ _ _ hm
  obtain ⟨n2, rfl, wl2, w2⟩ := in_int (hval 2 3 v2 rfl rfl) k2
  clear hA0 hval0
  refine (walk f0 x0 q0 n1 u1 n2 W wl2 w2).mono fun e W' ⟨he, bel⟩ => ?_
  subst he
  exact ⟨_, rfl, _, _, _, [], _, [], hW', trodAll_mk1 (shut_bool Try.underlying4 _), (trodAll_cons_mk (Below.trod laidOut (by kernel_rfl) (of_decide_eq_true (by kernel_rfl)) k0 bel lt0) (trodAll_cons_mk (Below.trod laidOut (by kernel_rfl) (of_decide_eq_true (by kernel_rfl)) k1 bel lt1) (trodAll_cons_mk (Below.trod laidOut (by kernel_rfl) (of_decide_eq_true (by kernel_rfl)) k2 bel lt2) trodAll_mk0))), rfl, bel.frame _, fun h => by cases h⟩
theorem over : Rows.rightsTimesRow.holds Try.pinned (OpenSpec.ofChange Rows.rightsTimesSpec) :=
  OpenClaim.holds_of_wide 6 Try.f6 rfl rfl rfl rfl rfl rfl rfl ⟨rfl, rfl, rfl, rfl, rfl⟩ rfl rfl rfl rfl rfl (by kernel_rfl) Try.func6 (by kernel_rfl)
    (of_decide_eq_true (by kernel_rfl)) (by unfold Func.isWrapper; first | (rw [if_pos (by decide +kernel)]; kernel_rfl) | (rw [if_neg (by decide +kernel)]; exact ⟨rfl, rfl⟩))
    (fun os started H enc _ => lifted os started H enc)
theorem proved : Rows.RightsTimesSaid := over
end Go.Proofs.Ytionaciiaahacaa.rightsTimes
