/- For every account and every hold: a hold that is reserved and cancelled leaves the account as it was (P20.6), and the example at the head holds; the arguments stay as they were. No condition. -/
import Derived.Test.YtionaciiaahacaaInAcc
import Derived.Test.YtionaciiaahacaaAccAwake
import Derived.Test.YtionaciiaahacaaAccMore
import Derived.Test.YtionaciiaahacaaHolds
import Derived.WalkKit
import Derived.ProofKit
import Derived.OpenShut
import Derived.ShutString
import Derived.ChangeOld
import Derived.Below
import Derived.Deep.RegionHeld
namespace Go.Proofs.Ytionaciiaahacaa.rightsTaken
open Go.ChangeShapes Go.WideShapes Go.ChangeAt Go.RowKit
set_option linter.unusedVariables false
theorem own : ownKnob Try.prog.godebug = none := by kernel_rfl
theorem laidOut : laidOutB Try.prog = true := by kernel_rfl
set_option maxRecDepth 100000 in
set_option maxHeartbeats 2000000 in
theorem walk (f0 x0 q0 : Int) (n1 u1 : Int) (w : World)  :
    Calls Try.prog 10 #[acc f0 x0 q0, hold n1 u1] w fun e w' => e = .returned (.bool true) ∧ Below w.heap.size w w' := by
  -- heartbeats 2000000
  rcases Ac.reserve_cases f0 x0 q0 n1 u1 with ⟨hr, hc⟩ | ⟨er, hne, hr⟩
  · skip
    have g1 := fun (w' : World) => reserve_any f0 x0 q0 n1 u1 w'
    rw [hr] at g1
    have g2 := fun (w' : World) => cancel_any (f0 - n1) (x0 + n1) q0 n1 u1 w'
    rw [hc] at g2
    clear hr hc
    unfold GivesAcc at g1 g2
    unfold acc at g1 g2 ⊢
    unfold hold at g1 g2 ⊢
    obtain ⟨y1, hy1⟩ : ∃ y, y = f0 - n1 := ⟨_, rfl⟩
    obtain ⟨y2, hy2⟩ : ∃ y, y = x0 + n1 := ⟨_, rfl⟩
    simp only [← hy1, ← hy2] at g1 g2
    clear hy1 hy2
    have G_g1 := Lib.hid g1
    have G_g2 := Lib.hid g2
    clear g1 g2
    go_enter Try.func10, Try.ntmps10
    go_wp2_with fail
    refine (G_g1.out _).mono ?_
    rintro e v1 ⟨rfl, hb⟩
    have hA : Holds v1 (w.heap.size) [.int .i64 (f0), .int .i64 (x0), .int .i64 (q0)] := by simpa using ((Holds.new _ #[.int .i64 (f0), .int .i64 (x0), .int .i64 (q0)] _).alloc _).below hb
    have hH : Holds v1 (w.heap.size + 1) [.int .i64 (n1), .int .i64 (u1)] := by simpa using (Holds.new _ #[.int .i64 (n1), .int .i64 (u1)] _).below hb
    have hx := below_next (show Below w.heap.size w _ from by repeat (first | exact Below.refl _ _ | refine Below.alloc ?_ (by simp <;> omega) _)) hb
    clear hb
    have lA := hA.1
    have zA := hA.2.2
    have cA0 := hA.at_ 0 rfl
    have cA1 := hA.at_ 1 rfl
    have cA2 := hA.at_ 2 rfl
    have lH := hH.1
    have zH := hH.2.2
    have cH0 := hH.at_ 0 rfl
    have cH1 := hH.at_ 1 rfl
    go_wp2_with fail
    refine (G_g2.out _).mono ?_
    rintro e v2 ⟨rfl, hb⟩
    replace hA := Holds.below (b := w.heap.size) (cs := [.int .i64 (f0), .int .i64 (x0), .int .i64 (q0)]) (by repeat (first | exact hA | refine Holds.alloc ?_ _)) hb
    replace hH := Holds.below (b := w.heap.size + 1) (cs := [.int .i64 (n1), .int .i64 (u1)]) (by repeat (first | exact hH | refine Holds.alloc ?_ _)) hb
    have hB : Holds v2 v1.heap.size [.int .i64 (y1), .int .i64 (y2), .int .i64 (q0)] := Holds.next hb
    replace hx := below_next (show Below w.heap.size w _ from by repeat (first | exact hx | refine Below.alloc ?_ (Below.size ‹Below w.heap.size w _›) _)) hb
    clear hb
    have lA := hA.1
    have zA := hA.2.2
    have cA0 := hA.at_ 0 rfl
    have cA1 := hA.at_ 1 rfl
    have cA2 := hA.at_ 2 rfl
    have lH := hH.1
    have zH := hH.2.2
    have cH0 := hH.at_ 0 rfl
    have cH1 := hH.at_ 1 rfl
    have lB := hB.1
    have zB := hB.2.2
    have cB0 := hB.at_ 0 rfl
    have cB1 := hB.at_ 1 rfl
    have cB2 := hB.at_ 2 rfl
    go_wp2_with fail
    refine (awake_any _).mono ?_
    rintro e v9 ⟨rfl, hb⟩
    go_wp2_with fail
    go_ret
    exact ⟨rfl, below_next (show Below w.heap.size w _ from by repeat (first | exact hx | refine Below.alloc ?_ (Below.size ‹Below w.heap.size w _›) _)) hb⟩
  · skip
    have g1 := fun (w' : World) => reserve_any f0 x0 q0 n1 u1 w'
    rw [hr] at g1
    clear hr
    unfold GivesAcc at g1
    unfold acc at g1 ⊢
    unfold hold at g1 ⊢
    have G_g1 := Lib.hid g1
    have hne2 : (er == 0) = false := by rw [beq_eq_false_iff_ne]; exact hne
    have hne3 : (er != 0) = true := by rw [bne_iff_ne]; exact hne
    clear g1 hne
    go_enter Try.func10, Try.ntmps10
    go_wp2_with fail
    refine (G_g1.out _).mono ?_
    rintro e v1 ⟨rfl, hb⟩
    have hA : Holds v1 (w.heap.size) [.int .i64 (f0), .int .i64 (x0), .int .i64 (q0)] := by simpa using ((Holds.new _ #[.int .i64 (f0), .int .i64 (x0), .int .i64 (q0)] _).alloc _).below hb
    have hH : Holds v1 (w.heap.size + 1) [.int .i64 (n1), .int .i64 (u1)] := by simpa using (Holds.new _ #[.int .i64 (n1), .int .i64 (u1)] _).below hb
    have hx := below_next (show Below w.heap.size w _ from by repeat (first | exact Below.refl _ _ | refine Below.alloc ?_ (by simp <;> omega) _)) hb
    clear hb
    have lA := hA.1
    have zA := hA.2.2
    have cA0 := hA.at_ 0 rfl
    have cA1 := hA.at_ 1 rfl
    have cA2 := hA.at_ 2 rfl
    have lH := hH.1
    have zH := hH.2.2
    have cH0 := hH.at_ 0 rfl
    have cH1 := hH.at_ 1 rfl
    go_wp2_with fail
    refine (awake_any _).mono ?_
    rintro e v9 ⟨rfl, hb⟩
    go_wp2_with fail
    go_ret
    exact ⟨rfl, below_next (show Below w.heap.size w _ from by repeat (first | exact hx | refine Below.alloc ?_ (Below.size ‹Below w.heap.size w _›) _)) hb⟩
set_option maxRecDepth 100000 in
theorem lifted (os : Os) (started : os.Started) (H : Type) (enc : TypeId × Value → H) :
    ReturnsInHanded {} Try.checked os 10 .any (Rows.rightsTakenSpec.pre6 enc Try.prog Try.f10 Rows.rightsTakenRow.domain false) (Rows.rightsTakenSpec.post enc Try.prog Try.f10 false true false false) := by
  refine returnsInHanded_of_change (C := Try.checked) own started (by kernel_rfl) Try.func10
    (ChangeSpec.witness6 (enc := enc) (C := Try.checked) false ⟨#[], #[.agg #[.int .i64 0, .int .i64 0, .int .i64 0], .agg #[.int .i64 0, .int .i64 0]], []⟩ 8 (by kernel_rfl) (by kernel_rfl) (by kernel_rfl) (by kernel_rfl)) ?_
  intro W base args ds gs before hval0 hW hcnd _
  have hval : ∀ (j : Nat) t v, Try.f10.params[j]? = some t → args[j]? = some v → Value.okWide Try.prog W .any base t v := hval0
  have hW' := hW
  obtain ⟨p, q, hA0, hV, rfl, hfz, hnd⟩ := hW
  have hA : DataW.TrodAll enc Try.prog W 0 (fun _ => true) true Try.f10.params.toList args.toList ds p := hA0
  rw [Try.params10] at hA hval
  obtain ⟨v0, vs0, d0, ds0, p0, q0, hargs, rfl, rfl, h0, t0⟩ := trodAll_cons hA
  obtain ⟨v1, vs1, d1, ds1, p1, q1, rfl, rfl, rfl, h1, t1⟩ := trodAll_cons t0
  obtain ⟨rfl, rfl, rfl⟩ := trodAll_nil t1
  obtain rfl : args = #[v0, v1] := by cases args; simp_all
  obtain ⟨rfl, rfl⟩ := trodVars_none hV
  have k0 : Reads enc W 23 v0 d0 p0 := h0
  have lt0 : ∀ x ∈ p0, x.block < W.heap.size := by obtain ⟨m, hm⟩ := k0; exact DataW.trod_lt m _ _ _ hm
  obtain ⟨f0, x0, q0, rfl⟩ := in_acc (hval 0 23 v0 rfl rfl) k0
  have k1 : Reads enc W 25 v1 d1 p1 := h1
  have lt1 : ∀ x ∈ p1, x.block < W.heap.size := by obtain ⟨m, hm⟩ := k1; exact DataW.trod_lt m _ _ _ hm
  obtain ⟨n1, u1, rfl⟩ := in_hold (hval 1 25 v1 rfl rfl) k1
  clear hA0 hval0
  refine (walk f0 x0 q0 n1 u1 W ).mono fun e W' ⟨he, bel⟩ => ?_
  subst he
  exact ⟨_, rfl, _, _, _, [], _, [], hW', trodAll_mk1 (shut_bool Try.underlying4 _), (trodAll_cons_mk (Below.trod laidOut (by kernel_rfl) (of_decide_eq_true (by kernel_rfl)) k0 bel lt0) (trodAll_cons_mk (Below.trod laidOut (by kernel_rfl) (of_decide_eq_true (by kernel_rfl)) k1 bel lt1) trodAll_mk0)), rfl, bel.frame _, fun h => by cases h⟩
theorem over : Rows.rightsTakenRow.holds Try.pinned (OpenSpec.ofChange Rows.rightsTakenSpec) :=
  OpenClaim.holds_of_wide 10 Try.f10 rfl rfl rfl rfl rfl rfl rfl ⟨rfl, rfl, rfl, rfl, rfl⟩ rfl rfl rfl rfl rfl (by kernel_rfl) Try.func10 (by kernel_rfl)
    (of_decide_eq_true (by kernel_rfl)) (by unfold Func.isWrapper; first | (rw [if_pos (by decide +kernel)]; kernel_rfl) | (rw [if_neg (by decide +kernel)]; exact ⟨rfl, rfl⟩))
    (fun os started H enc _ => lifted os started H enc)
theorem proved : Rows.RightsTakenSaid := over
end Go.Proofs.Ytionaciiaahacaa.rightsTaken
