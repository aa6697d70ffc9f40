/- For every account, every hold and all bytes: the bytes of accounts and holds, and what any bytes are read as, are the document's (P20.4), and the example at the head holds; the arguments stay as they were. No condition. -/
import Derived.Test.YtionaciiaahacaaInAcc
import Derived.Test.YtionaciiaahacaaAccAwake
import Derived.Test.YtionaciiaahacaaHolds
import Derived.Test.YtionaciiaahacaaReadDoc
import Derived.WalkKit
import Derived.ProofKit
import Derived.OpenShut
import Derived.ShutString
import Derived.ChangeOld
import Derived.Below
import Derived.Deep.RegionHeld
namespace Go.Proofs.Ytionaciiaahacaa.rightsBytes
open Go.ChangeShapes Go.WideShapes Go.ChangeAt Go.RowKit
set_option linter.unusedVariables false
theorem own : ownKnob Try.prog.godebug = none := by kernel_rfl
theorem laidOut : laidOutB Try.prog = true := by kernel_rfl
set_option maxRecDepth 100000 in
set_option maxHeartbeats 8000000 in
theorem walk (f0 x0 q0 : Int) (n1 u1 : Int) (A2 : Option Addr) (m2 c2 : Nat) (l2 : List Nat) (w : World) (r2 : Rd w A2 m2 l2) (wc2 : m2 ≤ c2) (w2 : m2 ≤ 9223372036854775807) :
    Calls Try.prog 7 #[acc f0 x0 q0, hold n1 u1, .slice A2 m2 c2] w fun e w' => e = .returned (.bool true) ∧ Below w.heap.size w w' := by
  -- heartbeats 8000000
  have hB : ∃ (m : Nat) (l : List Nat), Rd w A2 m l ∧ m ≤ 100 ∧ m ≤ c2 ∧ ((100 < m2 ∧ m = 100) ∨ (¬ 100 < m2 ∧ m = m2)) := by
    by_cases h : 100 < m2
    · exact ⟨100, l2.take 100, r2.take (by omega), by omega, by omega, .inl ⟨h, rfl⟩⟩
    · exact ⟨m2, l2, r2, by omega, wc2, .inr ⟨h, rfl⟩⟩
  obtain ⟨m, l, hl, hm, hmc, hcase⟩ := hB
  clear r2
  have g1 := fun (w' : World) => accbytes_any f0 x0 q0 w'
  have g2 := fun (w' : World) => raccbytes_any f0 x0 q0 w'
  have g3 := fun (w' : World) => holdbytes_any n1 u1 w'
  have g4 := fun (w' : World) => rholdbytes_any n1 u1 w'
  have g5 := fun (w' : World) (h : Below w.heap.size w w') => readacc_any A2 m c2 l w' (hl.below h) hmc (by omega)
  have g6 := fun (w' : World) (h : Below w.heap.size w w') => rreadacc_any A2 m c2 l w' (hl.below h) hmc (by omega)
  have g7 := fun (w' : World) (h : Below w.heap.size w w') => readhold_any A2 m c2 l w' (hl.below h) hmc (by omega)
  have g8 := fun (w' : World) (h : Below w.heap.size w w') => rreadhold_any A2 m c2 l w' (hl.below h) hmc (by omega)
  generalize Ac.bytesA f0 x0 q0 = LA at g1 g2
  generalize chkA f0 x0 q0 = eA at g1 g2
  generalize Ac.bytesH n1 u1 = LH at g3 g4
  generalize chkH n1 u1 = eH at g3 g4
  generalize Ac.readA l = r at g5 g6
  generalize Ac.readH l = s at g7 g8
  obtain ⟨r1, r2, r3, r4⟩ := r
  obtain ⟨s1, s2, s3⟩ := s
  unfold GivesAcc at g5 g6
  unfold GivesHo at g7 g8
  unfold acc at g1 g2 g5 g6 ⊢
  unfold hold at g3 g4 g7 g8 ⊢
  have G1 := Lib.hid g1
  have G2 := Lib.hid g2
  have G3 := Lib.hid g3
  have G4 := Lib.hid g4
  have G5 := Lib.hid g5
  have G6 := Lib.hid g6
  have G7 := Lib.hid g7
  have G8 := Lib.hid g8
  clear g1 g2 g3 g4 g5 g6 g7 g8
  rcases hcase with ⟨h100, rfl⟩ | ⟨h100, rfl⟩
  · skip
    have hi : (100 : Int) < (m2 : Int) := by omega
    have hc' : (100 : Int) ≤ (c2 : Int) := by omega
    go_enter Try.func7, Try.ntmps7
    go_wp2_with fail
    refine (G1.out _).mono ?_
    rintro e v1 ⟨X, cX, rfl, hrX, _, hb⟩
    have hA : Holds v1 (w.heap.size) [.int .i64 f0, .int .i64 x0, .int .i64 q0] := by simpa using ((Holds.new _ #[.int .i64 f0, .int .i64 x0, .int .i64 q0] _).alloc _).below hb
    have hH : Holds v1 (w.heap.size + 1) [.int .i64 n1, .int .i64 u1] := by simpa using (Holds.new _ #[.int .i64 n1, .int .i64 u1] _).below hb
    have hx := below_next (show Below w.heap.size w _ from by repeat (first | exact Below.refl _ _ | refine Below.alloc ?_ (by simp <;> omega) _)) hb
    clear hb
    have lA := hA.1
    have zA := hA.2.2
    have cA0 := hA.at_ 0 rfl
    have cA1 := hA.at_ 1 rfl
    have cA2 := hA.at_ 2 rfl
    have lH := hH.1
    have zH := hH.2.2
    have cH0 := hH.at_ 0 rfl
    have cH1 := hH.at_ 1 rfl
    go_wp2_with fail
    refine (G2.out _).mono ?_
    rintro e v2 ⟨Y, cY, rfl, hrY, _, hb⟩
    replace hx := below_next (show Below w.heap.size w _ from by repeat (first | exact hx | refine Below.alloc ?_ (Below.size ‹Below w.heap.size w _›) _)) hb
    replace hrX := hrX.below hb
    replace hA := Holds.below (b := w.heap.size) (cs := [.int .i64 f0, .int .i64 x0, .int .i64 q0]) (by repeat (first | exact hA | refine Holds.alloc ?_ _)) hb
    replace hH := Holds.below (b := w.heap.size + 1) (cs := [.int .i64 n1, .int .i64 u1]) (by repeat (first | exact hH | refine Holds.alloc ?_ _)) hb
    clear hb
    have lA := hA.1
    have zA := hA.2.2
    have cA0 := hA.at_ 0 rfl
    have cA1 := hA.at_ 1 rfl
    have cA2 := hA.at_ 2 rfl
    have lH := hH.1
    have zH := hH.2.2
    have cH0 := hH.at_ 0 rfl
    have cH1 := hH.at_ 1 rfl
    go_wp2_with fail
    refine (G3.out _).mono ?_
    rintro e v3 ⟨P, cP, rfl, hrP, _, hb⟩
    replace hx := below_next (show Below w.heap.size w _ from by repeat (first | exact hx | refine Below.alloc ?_ (Below.size ‹Below w.heap.size w _›) _)) hb
    replace hrX := hrX.below hb
    replace hrY := hrY.below hb
    replace hA := Holds.below (b := w.heap.size) (cs := [.int .i64 f0, .int .i64 x0, .int .i64 q0]) (by repeat (first | exact hA | refine Holds.alloc ?_ _)) hb
    replace hH := Holds.below (b := w.heap.size + 1) (cs := [.int .i64 n1, .int .i64 u1]) (by repeat (first | exact hH | refine Holds.alloc ?_ _)) hb
    clear hb
    have lA := hA.1
    have zA := hA.2.2
    have cA0 := hA.at_ 0 rfl
    have cA1 := hA.at_ 1 rfl
    have cA2 := hA.at_ 2 rfl
    have lH := hH.1
    have zH := hH.2.2
    have cH0 := hH.at_ 0 rfl
    have cH1 := hH.at_ 1 rfl
    go_wp2_with fail
    refine (G4.out _).mono ?_
    rintro e v4 ⟨Q, cQ, rfl, hrQ, _, hb⟩
    replace hx := below_next (show Below w.heap.size w _ from by repeat (first | exact hx | refine Below.alloc ?_ (Below.size ‹Below w.heap.size w _›) _)) hb
    have k1 := run_str (cap := cX) (hrX.below hb)
    have k2 := run_str (cap := cY) (hrY.below hb)
    have k3 := run_str (cap := cP) (hrP.below hb)
    have k4 := run_str (cap := cQ) hrQ
    clear hb hrX hrY hrP hrQ
    go_wp2_with fail
    refine (G5.out _ (by repeat (first | exact hx | refine Below.alloc ?_ (Below.size ‹Below w.heap.size w _›) _))).mono ?_
    rintro e v5 ⟨rfl, hb⟩
    replace hx := below_next (show Below w.heap.size w _ from by repeat (first | exact hx | refine Below.alloc ?_ (Below.size ‹Below w.heap.size w _›) _)) hb
    clear hb k1 k2 k3 k4
    go_wp2_with fail
    refine (G6.out _ (by repeat (first | exact hx | refine Below.alloc ?_ (Below.size ‹Below w.heap.size w _›) _))).mono ?_
    rintro e v6 ⟨rfl, hb⟩
    replace hx := below_next (show Below w.heap.size w _ from by repeat (first | exact hx | refine Below.alloc ?_ (Below.size ‹Below w.heap.size w _›) _)) hb
    have hC : Holds v6 v5.heap.size [.int .i64 r1, .int .i64 r2, .int .i64 r3] := Holds.next hb
    clear hb
    have lC := hC.1
    have zC := hC.2.2
    have cC0 := hC.at_ 0 rfl
    have cC1 := hC.at_ 1 rfl
    have cC2 := hC.at_ 2 rfl
    go_wp2_with fail
    refine (G7.out _ (by repeat (first | exact hx | refine Below.alloc ?_ (Below.size ‹Below w.heap.size w _›) _))).mono ?_
    rintro e v7 ⟨rfl, hb⟩
    replace hx := below_next (show Below w.heap.size w _ from by repeat (first | exact hx | refine Below.alloc ?_ (Below.size ‹Below w.heap.size w _›) _)) hb
    have hD : Holds v7 v6.heap.size [.int .i64 r1, .int .i64 r2, .int .i64 r3] := Holds.next hb
    replace hC := Holds.below (b := v5.heap.size) (cs := [.int .i64 r1, .int .i64 r2, .int .i64 r3]) (by repeat (first | exact hC | refine Holds.alloc ?_ _)) hb
    clear hb
    have lC := hC.1
    have zC := hC.2.2
    have cC0 := hC.at_ 0 rfl
    have cC1 := hC.at_ 1 rfl
    have cC2 := hC.at_ 2 rfl
    have lD := hD.1
    have zD := hD.2.2
    have cD0 := hD.at_ 0 rfl
    have cD1 := hD.at_ 1 rfl
    have cD2 := hD.at_ 2 rfl
    go_wp2_with fail
    refine (G8.out _ (by repeat (first | exact hx | refine Below.alloc ?_ (Below.size ‹Below w.heap.size w _›) _))).mono ?_
    rintro e v8 ⟨rfl, hb⟩
    replace hx := below_next (show Below w.heap.size w _ from by repeat (first | exact hx | refine Below.alloc ?_ (Below.size ‹Below w.heap.size w _›) _)) hb
    have hU : Holds v8 v7.heap.size [.int .i64 s1, .int .i64 s2] := Holds.next hb
    replace hC := Holds.below (b := v5.heap.size) (cs := [.int .i64 r1, .int .i64 r2, .int .i64 r3]) (by repeat (first | exact hC | refine Holds.alloc ?_ _)) hb
    replace hD := Holds.below (b := v6.heap.size) (cs := [.int .i64 r1, .int .i64 r2, .int .i64 r3]) (by repeat (first | exact hD | refine Holds.alloc ?_ _)) hb
    clear hb
    have lC := hC.1
    have zC := hC.2.2
    have cC0 := hC.at_ 0 rfl
    have cC1 := hC.at_ 1 rfl
    have cC2 := hC.at_ 2 rfl
    have lD := hD.1
    have zD := hD.2.2
    have cD0 := hD.at_ 0 rfl
    have cD1 := hD.at_ 1 rfl
    have cD2 := hD.at_ 2 rfl
    have lU := hU.1
    have zU := hU.2.2
    have cU0 := hU.at_ 0 rfl
    have cU1 := hU.at_ 1 rfl
    go_wp2_with fail
    refine (awake_any _).mono ?_
    rintro e v9 ⟨rfl, hb⟩
    go_wp2_with fail
    go_ret
    exact ⟨rfl, below_next (show Below w.heap.size w _ from by repeat (first | exact hx | refine Below.alloc ?_ (Below.size ‹Below w.heap.size w _›) _)) hb⟩
  · skip
    have hi : ¬ (100 : Int) < (m : Int) := by omega
    go_enter Try.func7, Try.ntmps7
    go_wp2_with fail
    refine (G1.out _).mono ?_
    rintro e v1 ⟨X, cX, rfl, hrX, _, hb⟩
    have hA : Holds v1 (w.heap.size) [.int .i64 f0, .int .i64 x0, .int .i64 q0] := by simpa using ((Holds.new _ #[.int .i64 f0, .int .i64 x0, .int .i64 q0] _).alloc _).below hb
    have hH : Holds v1 (w.heap.size + 1) [.int .i64 n1, .int .i64 u1] := by simpa using (Holds.new _ #[.int .i64 n1, .int .i64 u1] _).below hb
    have hx := below_next (show Below w.heap.size w _ from by repeat (first | exact Below.refl _ _ | refine Below.alloc ?_ (by simp <;> omega) _)) hb
    clear hb
    have lA := hA.1
    have zA := hA.2.2
    have cA0 := hA.at_ 0 rfl
    have cA1 := hA.at_ 1 rfl
    have cA2 := hA.at_ 2 rfl
    have lH := hH.1
    have zH := hH.2.2
    have cH0 := hH.at_ 0 rfl
    have cH1 := hH.at_ 1 rfl
    go_wp2_with fail
    refine (G2.out _).mono ?_
    rintro e v2 ⟨Y, cY, rfl, hrY, _, hb⟩
    replace hx := below_next (show Below w.heap.size w _ from by repeat (first | exact hx | refine Below.alloc ?_ (Below.size ‹Below w.heap.size w _›) _)) hb
    replace hrX := hrX.below hb
    replace hA := Holds.below (b := w.heap.size) (cs := [.int .i64 f0, .int .i64 x0, .int .i64 q0]) (by repeat (first | exact hA | refine Holds.alloc ?_ _)) hb
    replace hH := Holds.below (b := w.heap.size + 1) (cs := [.int .i64 n1, .int .i64 u1]) (by repeat (first | exact hH | refine Holds.alloc ?_ _)) hb
    clear hb
    have lA := hA.1
    have zA := hA.2.2
    have cA0 := hA.at_ 0 rfl
    have cA1 := hA.at_ 1 rfl
    have cA2 := hA.at_ 2 rfl
    have lH := hH.1
    have zH := hH.2.2
    have cH0 := hH.at_ 0 rfl
    have cH1 := hH.at_ 1 rfl
    go_wp2_with fail
    refine (G3.out _).mono ?_
    rintro e v3 ⟨P, cP, rfl, hrP, _, hb⟩
    replace hx := below_next (show Below w.heap.size w _ from by repeat (first | exact hx | refine Below.alloc ?_ (Below.size ‹Below w.heap.size w _›) _)) hb
    replace hrX := hrX.below hb
    replace hrY := hrY.below hb
    replace hA := Holds.below (b := w.heap.size) (cs := [.int .i64 f0, .int .i64 x0, .int .i64 q0]) (by repeat (first | exact hA | refine Holds.alloc ?_ _)) hb
    replace hH := Holds.below (b := w.heap.size + 1) (cs := [.int .i64 n1, .int .i64 u1]) (by repeat (first | exact hH | refine Holds.alloc ?_ _)) hb
    clear hb
    have lA := hA.1
    have zA := hA.2.2
    have cA0 := hA.at_ 0 rfl
    have cA1 := hA.at_ 1 rfl
    have cA2 := hA.at_ 2 rfl
    have lH := hH.1
    have zH := hH.2.2
    have cH0 := hH.at_ 0 rfl
    have cH1 := hH.at_ 1 rfl
    go_wp2_with fail
    refine (G4.out _).mono ?_
    rintro e v4 ⟨Q, cQ, rfl, hrQ, _, hb⟩
    replace hx := below_next (show Below w.heap.size w _ from by repeat (first | exact hx | refine Below.alloc ?_ (Below.size ‹Below w.heap.size w _›) _)) hb
    have k1 := run_str (cap := cX) (hrX.below hb)
    have k2 := run_str (cap := cY) (hrY.below hb)
    have k3 := run_str (cap := cP) (hrP.below hb)
    have k4 := run_str (cap := cQ) hrQ
    clear hb hrX hrY hrP hrQ
    go_wp2_with fail
    refine (G5.out _ (by repeat (first | exact hx | refine Below.alloc ?_ (Below.size ‹Below w.heap.size w _›) _))).mono ?_
    rintro e v5 ⟨rfl, hb⟩
    replace hx := below_next (show Below w.heap.size w _ from by repeat (first | exact hx | refine Below.alloc ?_ (Below.size ‹Below w.heap.size w _›) _)) hb
    clear hb k1 k2 k3 k4
    go_wp2_with fail
    refine (G6.out _ (by repeat (first | exact hx | refine Below.alloc ?_ (Below.size ‹Below w.heap.size w _›) _))).mono ?_
    rintro e v6 ⟨rfl, hb⟩
    replace hx := below_next (show Below w.heap.size w _ from by repeat (first | exact hx | refine Below.alloc ?_ (Below.size ‹Below w.heap.size w _›) _)) hb
    have hC : Holds v6 v5.heap.size [.int .i64 r1, .int .i64 r2, .int .i64 r3] := Holds.next hb
    clear hb
    have lC := hC.1
    have zC := hC.2.2
    have cC0 := hC.at_ 0 rfl
    have cC1 := hC.at_ 1 rfl
    have cC2 := hC.at_ 2 rfl
    go_wp2_with fail
    refine (G7.out _ (by repeat (first | exact hx | refine Below.alloc ?_ (Below.size ‹Below w.heap.size w _›) _))).mono ?_
    rintro e v7 ⟨rfl, hb⟩
    replace hx := below_next (show Below w.heap.size w _ from by repeat (first | exact hx | refine Below.alloc ?_ (Below.size ‹Below w.heap.size w _›) _)) hb
    have hD : Holds v7 v6.heap.size [.int .i64 r1, .int .i64 r2, .int .i64 r3] := Holds.next hb
    replace hC := Holds.below (b := v5.heap.size) (cs := [.int .i64 r1, .int .i64 r2, .int .i64 r3]) (by repeat (first | exact hC | refine Holds.alloc ?_ _)) hb
    clear hb
    have lC := hC.1
    have zC := hC.2.2
    have cC0 := hC.at_ 0 rfl
    have cC1 := hC.at_ 1 rfl
    have cC2 := hC.at_ 2 rfl
    have lD := hD.1
    have zD := hD.2.2
    have cD0 := hD.at_ 0 rfl
    have cD1 := hD.at_ 1 rfl
    have cD2 := hD.at_ 2 rfl
    go_wp2_with fail
    refine (G8.out _ (by repeat (first | exact hx | refine Below.alloc ?_ (Below.size ‹Below w.heap.size w _›) _))).mono ?_
    rintro e v8 ⟨rfl, hb⟩
    replace hx := below_next (show Below w.heap.size w _ from by repeat (first | exact hx | refine Below.alloc ?_ (Below.size ‹Below w.heap.size w _›) _)) hb
    have hU : Holds v8 v7.heap.size [.int .i64 s1, .int .i64 s2] := Holds.next hb
    replace hC := Holds.below (b := v5.heap.size) (cs := [.int .i64 r1, .int .i64 r2, .int .i64 r3]) (by repeat (first | exact hC | refine Holds.alloc ?_ _)) hb
    replace hD := Holds.below (b := v6.heap.size) (cs := [.int .i64 r1, .int .i64 r2, .int .i64 r3]) (by repeat (first | exact hD | refine Holds.alloc ?_ _)) hb
    clear hb
    have lC := hC.1
    have zC := hC.2.2
    have cC0 := hC.at_ 0 rfl
    have cC1 := hC.at_ 1 rfl
    have cC2 := hC.at_ 2 rfl
    have lD := hD.1
    have zD := hD.2.2
    have cD0 := hD.at_ 0 rfl
    have cD1 := hD.at_ 1 rfl
    have cD2 := hD.at_ 2 rfl
    have lU := hU.1
    have zU := hU.2.2
    have cU0 := hU.at_ 0 rfl
    have cU1 := hU.at_ 1 rfl
    go_wp2_with fail
    refine (awake_any _).mono ?_
    rintro e v9 ⟨rfl, hb⟩
    go_wp2_with fail
    go_ret
    exact ⟨rfl, below_next (show Below w.heap.size w _ from by repeat (first | exact hx | refine Below.alloc ?_ (Below.size ‹Below w.heap.size w _›) _)) hb⟩
set_option maxRecDepth 100000 in
theorem lifted (os : Os) (started : os.Started) (H : Type) (enc : TypeId × Value → H) :
    ReturnsInHanded {} Try.checked os 7 .any (Rows.rightsBytesSpec.pre6 enc Try.prog Try.f7 Rows.rightsBytesRow.domain false) (Rows.rightsBytesSpec.post enc Try.prog Try.f7 false true false false) := by
  refine returnsInHanded_of_change (C := Try.checked) own started (by kernel_rfl) Try.func7
    (ChangeSpec.witness6 (enc := enc) (C := Try.checked) false ⟨#[], #[.agg #[.int .i64 0, .int .i64 0, .int .i64 0], .agg #[.int .i64 0, .int .i64 0], .slice none 0 0], []⟩ 8 (by kernel_rfl) (by kernel_rfl) (by kernel_rfl) (by kernel_rfl)) ?_
  intro W base args ds gs before hval0 hW hcnd _
  have hval : ∀ (j : Nat) t v, Try.f7.params[j]? = some t → args[j]? = some v → Value.okWide Try.prog W .any base t v := hval0
  have hW' := hW
  obtain ⟨p, q, hA0, hV, rfl, hfz, hnd⟩ := hW
  have hA : DataW.TrodAll enc Try.prog W 0 (fun _ => true) true Try.f7.params.toList args.toList ds p := hA0
  rw [Try.params7] at hA hval
  obtain ⟨v0, vs0, d0, ds0, p0, q0, hargs, rfl, rfl, h0, t0⟩ := trodAll_cons hA
  obtain ⟨v1, vs1, d1, ds1, p1, q1, rfl, rfl, rfl, h1, t1⟩ := trodAll_cons t0
  obtain ⟨v2, vs2, d2, ds2, p2, q2, rfl, rfl, rfl, h2, t2⟩ := trodAll_cons t1
  obtain ⟨rfl, rfl, rfl⟩ := trodAll_nil t2
  obtain rfl : args = #[v0, v1, v2] := by cases args; simp_all
  obtain ⟨rfl, rfl⟩ := trodVars_none hV
  have k0 : Reads enc W 23 v0 d0 p0 := h0
  have lt0 : ∀ x ∈ p0, x.block < W.heap.size := by obtain ⟨m, hm⟩ := k0; exact DataW.trod_lt m _ _ _ hm
  obtain ⟨f0, x0, q0, rfl⟩ := in_acc (hval 0 23 v0 rfl rfl) k0
  have k1 : Reads enc W 25 v1 d1 p1 := h1
  have lt1 : ∀ x ∈ p1, x.block < W.heap.size := by obtain ⟨m, hm⟩ := k1; exact DataW.trod_lt m _ _ _ hm
  obtain ⟨n1, u1, rfl⟩ := in_hold (hval 1 25 v1 rfl rfl) k1
  have k2 : Reads enc W 38 v2 d2 p2 := h2
  have lt2 : ∀ x ∈ p2, x.block < W.heap.size := by obtain ⟨m, hm⟩ := k2; exact DataW.trod_lt m _ _ _ hm
  obtain ⟨A2, m2, c2, l2, rfl, r2, wc2, w2⟩ := in_bytes (hval 2 38 v2 rfl rfl) k2
  clear hA0 hval0
  refine (walk f0 x0 q0 n1 u1 A2 m2 c2 l2 W r2 wc2 w2).mono fun e W' ⟨he, bel⟩ => ?_
  subst he
  exact ⟨_, rfl, _, _, _, [], _, [], hW', trodAll_mk1 (shut_bool Try.underlying4 _), (trodAll_cons_mk (Below.trod laidOut (by kernel_rfl) (of_decide_eq_true (by kernel_rfl)) k0 bel lt0) (trodAll_cons_mk (Below.trod laidOut (by kernel_rfl) (of_decide_eq_true (by kernel_rfl)) k1 bel lt1) (trodAll_cons_mk (Below.trod laidOut (by kernel_rfl) (of_decide_eq_true (by kernel_rfl)) k2 bel lt2) trodAll_mk0))), rfl, bel.frame _, fun h => by cases h⟩
theorem over : Rows.rightsBytesRow.holds Try.pinned (OpenSpec.ofChange Rows.rightsBytesSpec) :=
  OpenClaim.holds_of_wide 7 Try.f7 rfl rfl rfl rfl rfl rfl rfl ⟨rfl, rfl, rfl, rfl, rfl⟩ rfl rfl rfl rfl rfl (by kernel_rfl) Try.func7 (by kernel_rfl)
    (of_decide_eq_true (by kernel_rfl)) (by unfold Func.isWrapper; first | (rw [if_pos (by decide +kernel)]; kernel_rfl) | (rw [if_neg (by decide +kernel)]; exact ⟨rfl, rfl⟩))
    (fun os started H enc _ => lifted os started H enc)
theorem proved : Rows.RightsBytesSaid := over
end Go.Proofs.Ytionaciiaahacaa.rightsBytes
