/- For every account and every number: what Grant, Credit, Spend, Debit and Quota make of the account is the document's (P20.2), and the example at the head holds; the arguments stay as they were. No condition. -/
import Derived.Test.YtionaciiaahacaaInAcc
import Derived.Test.YtionaciiaahacaaAccAwake
import Derived.Test.YtionaciiaahacaaHolds
import Derived.WalkKit
import Derived.ProofKit
import Derived.OpenShut
import Derived.ShutString
import Derived.ChangeOld
import Derived.Below
import Derived.Deep.RegionHeld
namespace Go.Proofs.Ytionaciiaahacaa.rightsCounts
open Go.ChangeShapes Go.WideShapes Go.ChangeAt Go.RowKit
set_option linter.unusedVariables false
theorem own : ownKnob Try.prog.godebug = none := by kernel_rfl
theorem laidOut : laidOutB Try.prog = true := by kernel_rfl
set_option maxRecDepth 100000 in
set_option maxHeartbeats 4000000 in
theorem walk (f0 x0 q0 : Int) (n1 : Int) (w : World) (wl1 : -9223372036854775808 ≤ n1) (w1 : n1 ≤ 9223372036854775807) :
    Calls Try.prog 4 #[acc f0 x0 q0, .int .i64 n1] w fun e w' => e = .returned (.bool true) ∧ Below w.heap.size w w' := by
  -- heartbeats 4000000
  have g1 := fun (w' : World) => grant_any f0 x0 q0 n1 w'
  have g2 := fun (w' : World) => credit_any f0 x0 q0 n1 w'
  have g3 := fun (w' : World) => rmore_any f0 x0 q0 n1 w'
  have g4 := fun (w' : World) => spend_any f0 x0 q0 n1 w'
  have g5 := fun (w' : World) => debit_any f0 x0 q0 n1 w'
  have g6 := fun (w' : World) => rless_any f0 x0 q0 n1 w'
  have g7 := fun (w' : World) => quota_any f0 x0 q0 n1 w'
  have g8 := fun (w' : World) => rquota_any f0 x0 q0 n1 w'
  generalize Ac.chg f0 x0 q0 n1 1 (Ac.more f0 x0 q0 n1) = r at g1 g2 g3
  generalize Ac.chg f0 x0 q0 n1 1 (Ac.less f0 x0 q0 n1) = s at g4 g5 g6
  generalize Ac.chg f0 x0 q0 n1 0 (f0, x0, n1, (0 : Int)) = t at g7 g8
  obtain ⟨r1, r2, r3, r4⟩ := r
  obtain ⟨s1, s2, s3, s4⟩ := s
  obtain ⟨t1, t2, t3, t4⟩ := t
  unfold GivesAcc at g1 g2 g3 g4 g5 g6 g7 g8
  unfold acc at g1 g2 g3 g4 g5 g6 g7 g8 ⊢
  have G_g1 := Lib.hid g1
  have G_g2 := Lib.hid g2
  have G_g3 := Lib.hid g3
  have G_g4 := Lib.hid g4
  have G_g5 := Lib.hid g5
  have G_g6 := Lib.hid g6
  have G_g7 := Lib.hid g7
  have G_g8 := Lib.hid g8
  clear g1 g2 g3 g4 g5 g6 g7 g8
  go_enter Try.func4, Try.ntmps4
  go_wp2_with fail
  refine (G_g1.out _).mono ?_
  rintro e v1 ⟨rfl, hb⟩
  have hA : Holds v1 (w.heap.size) [.int .i64 (f0), .int .i64 (x0), .int .i64 (q0)] := by simpa using (Holds.new _ #[.int .i64 (f0), .int .i64 (x0), .int .i64 (q0)] _).below hb
  have hx := below_next (show Below w.heap.size w _ from by repeat (first | exact Below.refl _ _ | refine Below.alloc ?_ (by simp <;> omega) _)) hb
  clear hb
  have lA := hA.1
  have zA := hA.2.2
  have cA0 := hA.at_ 0 rfl
  have cA1 := hA.at_ 1 rfl
  have cA2 := hA.at_ 2 rfl
  go_wp2_with fail
  refine (G_g2.out _).mono ?_
  rintro e v2 ⟨rfl, hb⟩
  replace hA := Holds.below (b := w.heap.size) (cs := [.int .i64 (f0), .int .i64 (x0), .int .i64 (q0)]) (by repeat (first | exact hA | refine Holds.alloc ?_ _)) hb
  have hB : Holds v2 v1.heap.size [.int .i64 (r1), .int .i64 (r2), .int .i64 (r3)] := Holds.next hb
  replace hx := below_next (show Below w.heap.size w _ from by repeat (first | exact hx | refine Below.alloc ?_ (Below.size ‹Below w.heap.size w _›) _)) hb
  clear hb
  have lA := hA.1
  have zA := hA.2.2
  have cA0 := hA.at_ 0 rfl
  have cA1 := hA.at_ 1 rfl
  have cA2 := hA.at_ 2 rfl
  have lB := hB.1
  have zB := hB.2.2
  have cB0 := hB.at_ 0 rfl
  have cB1 := hB.at_ 1 rfl
  have cB2 := hB.at_ 2 rfl
  go_wp2_with fail
  refine (G_g3.out _).mono ?_
  rintro e v3 ⟨rfl, hb⟩
  replace hA := Holds.below (b := w.heap.size) (cs := [.int .i64 (f0), .int .i64 (x0), .int .i64 (q0)]) (by repeat (first | exact hA | refine Holds.alloc ?_ _)) hb
  replace hB := Holds.below (b := v1.heap.size) (cs := [.int .i64 (r1), .int .i64 (r2), .int .i64 (r3)]) (by repeat (first | exact hB | refine Holds.alloc ?_ _)) hb
  have hC : Holds v3 v2.heap.size [.int .i64 (r1), .int .i64 (r2), .int .i64 (r3)] := Holds.next hb
  replace hx := below_next (show Below w.heap.size w _ from by repeat (first | exact hx | refine Below.alloc ?_ (Below.size ‹Below w.heap.size w _›) _)) hb
  clear hb
  have lA := hA.1
  have zA := hA.2.2
  have cA0 := hA.at_ 0 rfl
  have cA1 := hA.at_ 1 rfl
  have cA2 := hA.at_ 2 rfl
  have lB := hB.1
  have zB := hB.2.2
  have cB0 := hB.at_ 0 rfl
  have cB1 := hB.at_ 1 rfl
  have cB2 := hB.at_ 2 rfl
  have lC := hC.1
  have zC := hC.2.2
  have cC0 := hC.at_ 0 rfl
  have cC1 := hC.at_ 1 rfl
  have cC2 := hC.at_ 2 rfl
  go_wp2_with fail
  refine (G_g4.out _).mono ?_
  rintro e v4 ⟨rfl, hb⟩
  replace hA := Holds.below (b := w.heap.size) (cs := [.int .i64 (f0), .int .i64 (x0), .int .i64 (q0)]) (by repeat (first | exact hA | refine Holds.alloc ?_ _)) hb
  replace hB := Holds.below (b := v1.heap.size) (cs := [.int .i64 (r1), .int .i64 (r2), .int .i64 (r3)]) (by repeat (first | exact hB | refine Holds.alloc ?_ _)) hb
  replace hC := Holds.below (b := v2.heap.size) (cs := [.int .i64 (r1), .int .i64 (r2), .int .i64 (r3)]) (by repeat (first | exact hC | refine Holds.alloc ?_ _)) hb
  have hD : Holds v4 v3.heap.size [.int .i64 (r1), .int .i64 (r2), .int .i64 (r3)] := Holds.next hb
  replace hx := below_next (show Below w.heap.size w _ from by repeat (first | exact hx | refine Below.alloc ?_ (Below.size ‹Below w.heap.size w _›) _)) hb
  clear hb
  have lA := hA.1
  have zA := hA.2.2
  have cA0 := hA.at_ 0 rfl
  have cA1 := hA.at_ 1 rfl
  have cA2 := hA.at_ 2 rfl
  have lB := hB.1
  have zB := hB.2.2
  have cB0 := hB.at_ 0 rfl
  have cB1 := hB.at_ 1 rfl
  have cB2 := hB.at_ 2 rfl
  have lC := hC.1
  have zC := hC.2.2
  have cC0 := hC.at_ 0 rfl
  have cC1 := hC.at_ 1 rfl
  have cC2 := hC.at_ 2 rfl
  have lD := hD.1
  have zD := hD.2.2
  have cD0 := hD.at_ 0 rfl
  have cD1 := hD.at_ 1 rfl
  have cD2 := hD.at_ 2 rfl
  go_wp2_with fail
  refine (G_g5.out _).mono ?_
  rintro e v5 ⟨rfl, hb⟩
  replace hA := Holds.below (b := w.heap.size) (cs := [.int .i64 (f0), .int .i64 (x0), .int .i64 (q0)]) (Holds.other3 hA (by omega)) hb
  replace hB := Holds.below (b := v1.heap.size) (cs := [.int .i64 (s1), .int .i64 (s2), .int .i64 (s3)]) (Holds.set3 hB _ _ _) hb
  replace hC := Holds.below (b := v2.heap.size) (cs := [.int .i64 (r1), .int .i64 (r2), .int .i64 (r3)]) (Holds.other3 hC (by omega)) hb
  replace hD := Holds.below (b := v3.heap.size) (cs := [.int .i64 (r1), .int .i64 (r2), .int .i64 (r3)]) (Holds.other3 hD (by omega)) hb
  replace hx := below_next ((((hx).setCell (p := ⟨v1.heap.size, 0, none⟩) (show w.heap.size ≤ v1.heap.size by omega) (.int .i64 (s1))).setCell (p := ⟨v1.heap.size, 1, none⟩) (show w.heap.size ≤ v1.heap.size by omega) (.int .i64 (s2))).setCell (p := ⟨v1.heap.size, 2, none⟩) (show w.heap.size ≤ v1.heap.size by omega) (.int .i64 (s3))) hb
  clear hb
  have lA := hA.1
  have zA := hA.2.2
  have cA0 := hA.at_ 0 rfl
  have cA1 := hA.at_ 1 rfl
  have cA2 := hA.at_ 2 rfl
  have lB := hB.1
  have zB := hB.2.2
  have cB0 := hB.at_ 0 rfl
  have cB1 := hB.at_ 1 rfl
  have cB2 := hB.at_ 2 rfl
  have lC := hC.1
  have zC := hC.2.2
  have cC0 := hC.at_ 0 rfl
  have cC1 := hC.at_ 1 rfl
  have cC2 := hC.at_ 2 rfl
  have lD := hD.1
  have zD := hD.2.2
  have cD0 := hD.at_ 0 rfl
  have cD1 := hD.at_ 1 rfl
  have cD2 := hD.at_ 2 rfl
  go_wp2_with fail
  refine (G_g6.out _).mono ?_
  rintro e v6 ⟨rfl, hb⟩
  replace hA := Holds.below (b := w.heap.size) (cs := [.int .i64 (f0), .int .i64 (x0), .int .i64 (q0)]) (Holds.other3 hA (by omega)) hb
  replace hB := Holds.below (b := v1.heap.size) (cs := [.int .i64 (s1), .int .i64 (s2), .int .i64 (s3)]) (Holds.other3 hB (by omega)) hb
  replace hC := Holds.below (b := v2.heap.size) (cs := [.int .i64 (s1), .int .i64 (s2), .int .i64 (s3)]) (Holds.set3 hC _ _ _) hb
  replace hD := Holds.below (b := v3.heap.size) (cs := [.int .i64 (r1), .int .i64 (r2), .int .i64 (r3)]) (Holds.other3 hD (by omega)) hb
  replace hx := below_next ((((hx).setCell (p := ⟨v2.heap.size, 0, none⟩) (show w.heap.size ≤ v2.heap.size by omega) (.int .i64 (s1))).setCell (p := ⟨v2.heap.size, 1, none⟩) (show w.heap.size ≤ v2.heap.size by omega) (.int .i64 (s2))).setCell (p := ⟨v2.heap.size, 2, none⟩) (show w.heap.size ≤ v2.heap.size by omega) (.int .i64 (s3))) hb
  clear hb
  have lA := hA.1
  have zA := hA.2.2
  have cA0 := hA.at_ 0 rfl
  have cA1 := hA.at_ 1 rfl
  have cA2 := hA.at_ 2 rfl
  have lB := hB.1
  have zB := hB.2.2
  have cB0 := hB.at_ 0 rfl
  have cB1 := hB.at_ 1 rfl
  have cB2 := hB.at_ 2 rfl
  have lC := hC.1
  have zC := hC.2.2
  have cC0 := hC.at_ 0 rfl
  have cC1 := hC.at_ 1 rfl
  have cC2 := hC.at_ 2 rfl
  have lD := hD.1
  have zD := hD.2.2
  have cD0 := hD.at_ 0 rfl
  have cD1 := hD.at_ 1 rfl
  have cD2 := hD.at_ 2 rfl
  go_wp2_with fail
  refine (G_g7.out _).mono ?_
  rintro e v7 ⟨rfl, hb⟩
  replace hA := Holds.below (b := w.heap.size) (cs := [.int .i64 (f0), .int .i64 (x0), .int .i64 (q0)]) (Holds.other3 hA (by omega)) hb
  replace hB := Holds.below (b := v1.heap.size) (cs := [.int .i64 (s1), .int .i64 (s2), .int .i64 (s3)]) (Holds.other3 hB (by omega)) hb
  replace hC := Holds.below (b := v2.heap.size) (cs := [.int .i64 (s1), .int .i64 (s2), .int .i64 (s3)]) (Holds.other3 hC (by omega)) hb
  replace hD := Holds.below (b := v3.heap.size) (cs := [.int .i64 (s1), .int .i64 (s2), .int .i64 (s3)]) (Holds.set3 hD _ _ _) hb
  replace hx := below_next ((((hx).setCell (p := ⟨v3.heap.size, 0, none⟩) (show w.heap.size ≤ v3.heap.size by omega) (.int .i64 (s1))).setCell (p := ⟨v3.heap.size, 1, none⟩) (show w.heap.size ≤ v3.heap.size by omega) (.int .i64 (s2))).setCell (p := ⟨v3.heap.size, 2, none⟩) (show w.heap.size ≤ v3.heap.size by omega) (.int .i64 (s3))) hb
  clear hb
  have lA := hA.1
  have zA := hA.2.2
  have cA0 := hA.at_ 0 rfl
  have cA1 := hA.at_ 1 rfl
  have cA2 := hA.at_ 2 rfl
  have lB := hB.1
  have zB := hB.2.2
  have cB0 := hB.at_ 0 rfl
  have cB1 := hB.at_ 1 rfl
  have cB2 := hB.at_ 2 rfl
  have lC := hC.1
  have zC := hC.2.2
  have cC0 := hC.at_ 0 rfl
  have cC1 := hC.at_ 1 rfl
  have cC2 := hC.at_ 2 rfl
  have lD := hD.1
  have zD := hD.2.2
  have cD0 := hD.at_ 0 rfl
  have cD1 := hD.at_ 1 rfl
  have cD2 := hD.at_ 2 rfl
  go_wp2_with fail
  refine (G_g8.out _).mono ?_
  rintro e v8 ⟨rfl, hb⟩
  replace hA := Holds.below (b := w.heap.size) (cs := [.int .i64 (f0), .int .i64 (x0), .int .i64 (q0)]) (Holds.other3 hA (by omega)) hb
  replace hB := Holds.below (b := v1.heap.size) (cs := [.int .i64 (t1), .int .i64 (t2), .int .i64 (t3)]) (Holds.set3 hB _ _ _) hb
  replace hC := Holds.below (b := v2.heap.size) (cs := [.int .i64 (s1), .int .i64 (s2), .int .i64 (s3)]) (Holds.other3 hC (by omega)) hb
  replace hD := Holds.below (b := v3.heap.size) (cs := [.int .i64 (s1), .int .i64 (s2), .int .i64 (s3)]) (Holds.other3 hD (by omega)) hb
  replace hx := below_next ((((hx).setCell (p := ⟨v1.heap.size, 0, none⟩) (show w.heap.size ≤ v1.heap.size by omega) (.int .i64 (t1))).setCell (p := ⟨v1.heap.size, 1, none⟩) (show w.heap.size ≤ v1.heap.size by omega) (.int .i64 (t2))).setCell (p := ⟨v1.heap.size, 2, none⟩) (show w.heap.size ≤ v1.heap.size by omega) (.int .i64 (t3))) hb
  clear hb
  have lA := hA.1
  have zA := hA.2.2
  have cA0 := hA.at_ 0 rfl
  have cA1 := hA.at_ 1 rfl
  have cA2 := hA.at_ 2 rfl
  have lB := hB.1
  have zB := hB.2.2
  have cB0 := hB.at_ 0 rfl
  have cB1 := hB.at_ 1 rfl
  have cB2 := hB.at_ 2 rfl
  have lC := hC.1
  have zC := hC.2.2
  have cC0 := hC.at_ 0 rfl
  have cC1 := hC.at_ 1 rfl
  have cC2 := hC.at_ 2 rfl
  have lD := hD.1
  have zD := hD.2.2
  have cD0 := hD.at_ 0 rfl
  have cD1 := hD.at_ 1 rfl
  have cD2 := hD.at_ 2 rfl
  go_wp2_with fail
  refine (awake_any _).mono ?_
  rintro e v9 ⟨rfl, hb⟩
  replace hx := below_next ((((hx).setCell (p := ⟨v3.heap.size, 0, none⟩) (show w.heap.size ≤ v3.heap.size by omega) (.int .i64 (t1))).setCell (p := ⟨v3.heap.size, 1, none⟩) (show w.heap.size ≤ v3.heap.size by omega) (.int .i64 (t2))).setCell (p := ⟨v3.heap.size, 2, none⟩) (show w.heap.size ≤ v3.heap.size by omega) (.int .i64 (t3))) hb
  go_wp2_with fail
  go_ret
  exact ⟨rfl, hx⟩
set_option maxRecDepth 100000 in
theorem lifted (os : Os) (started : os.Started) (H : Type) (enc : TypeId × Value → H) :
    ReturnsInHanded {} Try.checked os 4 .any (Rows.rightsCountsSpec.pre6 enc Try.prog Try.f4 Rows.rightsCountsRow.domain false) (Rows.rightsCountsSpec.post enc Try.prog Try.f4 false true false false) := by
  refine returnsInHanded_of_change (C := Try.checked) own started (by kernel_rfl) Try.func4
    (ChangeSpec.witness6 (enc := enc) (C := Try.checked) false ⟨#[], #[.agg #[.int .i64 0, .int .i64 0, .int .i64 0], .int .i64 0], []⟩ 8 (by kernel_rfl) (by kernel_rfl) (by kernel_rfl) (by kernel_rfl)) ?_
  intro W base args ds gs before hval0 hW hcnd _
  have hval : ∀ (j : Nat) t v, Try.f4.params[j]? = some t → args[j]? = some v → Value.okWide Try.prog W .any base t v := hval0
  have hW' := hW
  obtain ⟨p, q, hA0, hV, rfl, hfz, hnd⟩ := hW
  have hA : DataW.TrodAll enc Try.prog W 0 (fun _ => true) true Try.f4.params.toList args.toList ds p := hA0
  rw [Try.params4] at hA hval
  obtain ⟨v0, vs0, d0, ds0, p0, q0, hargs, rfl, rfl, h0, t0⟩ := trodAll_cons hA
  obtain ⟨v1, vs1, d1, ds1, p1, q1, rfl, rfl, rfl, h1, t1⟩ := trodAll_cons t0
  obtain ⟨rfl, rfl, rfl⟩ := trodAll_nil t1
  obtain rfl : args = #[v0, v1] := by cases args; simp_all
  obtain ⟨rfl, rfl⟩ := trodVars_none hV
  have k0 : Reads enc W 23 v0 d0 p0 := h0
  have lt0 : ∀ x ∈ p0, x.block < W.heap.size := by obtain ⟨m, hm⟩ := k0; exact DataW.trod_lt m _ _ _ hm
  obtain ⟨f0, x0, q0, rfl⟩ := in_acc (hval 0 23 v0 rfl rfl) k0
  have k1 : Reads enc W 3 v1 d1 p1 := h1
  have lt1 : ∀ x ∈ p1, x.block < W.heap.size := by obtain ⟨m, hm⟩ := k1; exact DataW.trod_lt m _ _ _ hm
  obtain ⟨n1, rfl, wl1, w1⟩ := in_int (hval 1 3 v1 rfl rfl) k1
  clear hA0 hval0
  refine (walk f0 x0 q0 n1 W wl1 w1).mono fun e W' ⟨he, bel⟩ => ?_
  subst he
  exact ⟨_, rfl, _, _, _, [], _, [], hW', trodAll_mk1 (shut_bool Try.underlying4 _), (trodAll_cons_mk (Below.trod laidOut (by kernel_rfl) (of_decide_eq_true (by kernel_rfl)) k0 bel lt0) (trodAll_cons_mk (Below.trod laidOut (by kernel_rfl) (of_decide_eq_true (by kernel_rfl)) k1 bel lt1) trodAll_mk0)), rfl, bel.frame _, fun h => by cases h⟩
theorem over : Rows.rightsCountsRow.holds Try.pinned (OpenSpec.ofChange Rows.rightsCountsSpec) :=
  OpenClaim.holds_of_wide 4 Try.f4 rfl rfl rfl rfl rfl rfl rfl ⟨rfl, rfl, rfl, rfl, rfl⟩ rfl rfl rfl rfl rfl (by kernel_rfl) Try.func4 (by kernel_rfl)
    (of_decide_eq_true (by kernel_rfl)) (by unfold Func.isWrapper; first | (rw [if_pos (by decide +kernel)]; kernel_rfl) | (rw [if_neg (by decide +kernel)]; exact ⟨rfl, rfl⟩))
    (fun os started H enc _ => lifted os started H enc)
theorem proved : Rows.RightsCountsSaid := over
end Go.Proofs.Ytionaciiaahacaa.rightsCounts
