/- What the law's own change makes of an account by a step. -/
import Derived.Test.YtionaciiaahacaaSteps
namespace Go.Proofs.Ytionaciiaahacaa
open Go.RowKit
set_option linter.unusedVariables false
def stepV (s : St) : Value := .agg #[.int .u8 (s.k : Int), .int .i64 s.n, .int .i64 s.u, .int .i64 s.t]
def GivesStep (w : World) (r : Int × Int × Int × Int × Int) (e : Ending) (w' : World) : Prop :=
  e = .returned (.tuple #[acc r.1 r.2.1 r.2.2.1, .int .i64 r.2.2.2.1, .int .i64 r.2.2.2.2]) ∧ Below w.heap.size w w'
set_option maxRecDepth 100000 in
set_option maxHeartbeats 1000000 in
theorem lchange_0 (f h q : Int) (s : St) (w : World) (hk : Ac.okA f h q = true) (hk9 : s.k < 256) (hl : -9223372036854775808 ≤ s.n) (hu : s.n ≤ 9223372036854775807) (hm : s.k % 9 = 0) :
    Calls Try.prog 42 #[acc f h q, stepV s] w (GivesStep w (Ac.step f h q s)) := by
  have hd : ∀ w' : World, Calls Try.prog 18 #[acc f h q, .int .i64 s.n] w' (GivesAcc w' (Ac.did f h q s)) := by
    intro w'
    have e : Ac.did f h q s = Ac.chg f h q s.n 1 (Ac.more f h q s.n) := by unfold Ac.did; rw [hm]; rfl
    rw [e]
    exact grant_any f h q s.n w'
  have hkept := Ac.did_kept f h q s hk
  have hby : Ac.by_ s = s.n := by unfold Ac.by_; rw [hm]; rfl
  unfold Ac.step
  rw [hby] at hkept ⊢
  clear hkept hby hk
  generalize Ac.did f h q s = d at *
  obtain ⟨d1, d2, d3, d4⟩ := d
  unfold GivesAcc at hd
  unfold acc at hd
  unfold acc stepV
  have Hd := Lib.hid hd
  have q0 : ((s.k : Int) % 9 == 0) = true := by rw [beq_iff_eq]; omega
  have hk2 : (s.k : Int) < 256 := by omega
  clear hd hm
  by_cases h4 : d4 = 0
  · have z1 : (d4 != 0) = false := by rw [bne_eq_false_iff_eq]; exact h4
    rw [if_pos h4]
    have H4 := Lib.hid h4
    clear h4
    go_enter Try.func42, Try.ntmps42
    go_wp2_with fail
    refine (Hd.out _).mono ?_
    rintro e v1 ⟨rfl, hb⟩
    have hA : Holds v1 (w.heap.size) [.int .i64 (f), .int .i64 (h), .int .i64 (q)] := by simpa using (((((Holds.new _ #[.int .i64 (f), .int .i64 (h), .int .i64 (q)] 23).alloc _).alloc _).alloc _).alloc _).below hb
    have hX : Holds v1 (w.heap.size + 1) [.int .u8 (s.k : Int), .int .i64 (s.n), .int .i64 (s.u), .int .i64 (s.t)] := by simpa using ((((Holds.new _ #[.int .u8 (s.k : Int), .int .i64 (s.n), .int .i64 (s.u), .int .i64 (s.t)] 50).alloc _).alloc _).alloc _).below hb
    have hR : Holds v1 (w.heap.size + 1 + 1) [.int .i64 (0), .int .i64 (0), .int .i64 (0)] := by simpa using (((Holds.new _ #[.int .i64 (0), .int .i64 (0), .int .i64 (0)] 23).alloc _).alloc _).below hb
    have hH : Holds v1 (w.heap.size + 1 + 1 + 1) [.int .i64 (s.n), .int .i64 (s.u)] := by simpa using ((Holds.new _ #[.int .i64 (s.n), .int .i64 (s.u)] 25).alloc _).below hb
    have hB : Holds v1 (w.heap.size + 1 + 1 + 1 + 1) [.int .i64 (0), .int .i64 (0), .int .i64 (0)] := by simpa using (Holds.new _ #[.int .i64 (0), .int .i64 (0), .int .i64 (0)] 23).below hb
    have hx := below_next (show Below w.heap.size w _ from by repeat (first | exact Below.refl _ _ | refine Below.alloc ?_ (by simp <;> omega) _)) hb
    clear hb
    have gA := Holds.other3 (b := w.heap.size + 1 + 1 + 1 + 1) (x := .int .i64 (d1)) (y := .int .i64 (d2)) (z := .int .i64 (d3)) hA (by omega)
    have gX := Holds.other3 (b := w.heap.size + 1 + 1 + 1 + 1) (x := .int .i64 (d1)) (y := .int .i64 (d2)) (z := .int .i64 (d3)) hX (by omega)
    have gR := Holds.other3 (b := w.heap.size + 1 + 1 + 1 + 1) (x := .int .i64 (d1)) (y := .int .i64 (d2)) (z := .int .i64 (d3)) hR (by omega)
    have gB := Holds.set3 hB (.int .i64 (d1)) (.int .i64 (d2)) (.int .i64 (d3))
    have lA := hA.1
    have zA := hA.2.2
    have yA := gA.2.2
    have cA0 := hA.at_ 0 rfl
    have cA1 := hA.at_ 1 rfl
    have cA2 := hA.at_ 2 rfl
    have eA0 := gA.at_ 0 rfl
    have eA1 := gA.at_ 1 rfl
    have eA2 := gA.at_ 2 rfl
    have lX := hX.1
    have zX := hX.2.2
    have yX := gX.2.2
    have cX0 := hX.at_ 0 rfl
    have cX1 := hX.at_ 1 rfl
    have cX2 := hX.at_ 2 rfl
    have cX3 := hX.at_ 3 rfl
    have eX0 := gX.at_ 0 rfl
    have eX1 := gX.at_ 1 rfl
    have eX2 := gX.at_ 2 rfl
    have eX3 := gX.at_ 3 rfl
    have lR := hR.1
    have zR := hR.2.2
    have yR := gR.2.2
    have cR0 := hR.at_ 0 rfl
    have cR1 := hR.at_ 1 rfl
    have cR2 := hR.at_ 2 rfl
    have eR0 := gR.at_ 0 rfl
    have eR1 := gR.at_ 1 rfl
    have eR2 := gR.at_ 2 rfl
    have lB := hB.1
    have zB := hB.2.2
    have yB := gB.2.2
    have cB0 := hB.at_ 0 rfl
    have cB1 := hB.at_ 1 rfl
    have cB2 := hB.at_ 2 rfl
    have eB0 := gB.at_ 0 rfl
    have eB1 := gB.at_ 1 rfl
    have eB2 := gB.at_ 2 rfl
    clear hA hX hR hH hB gA gX gR gB
    go_wp2_with fail
    go_region
    go_wp2_with fail
    refine bodyPost_ret (v := .tuple #[.agg #[.int .i64 d1, .int .i64 d2, .int .i64 d3], .int .i64 (s.n), .int .i64 d4]) (by simp [results, Try.results42, go_sem, eR0, eR1, eR2]) rfl ⟨?_, ((((((hx.setCell (p := ⟨w.heap.size + 1 + 1 + 1 + 1, 0, none⟩) (show w.heap.size ≤ w.heap.size + 1 + 1 + 1 + 1 by omega) _).setCell (p := ⟨w.heap.size + 1 + 1 + 1 + 1, 1, none⟩) (show w.heap.size ≤ w.heap.size + 1 + 1 + 1 + 1 by omega) _).setCell (p := ⟨w.heap.size + 1 + 1 + 1 + 1, 2, none⟩) (show w.heap.size ≤ w.heap.size + 1 + 1 + 1 + 1 by omega) _).setCell (p := ⟨w.heap.size + 1 + 1, 0, none⟩) (show w.heap.size ≤ w.heap.size + 1 + 1 by omega) _).setCell (p := ⟨w.heap.size + 1 + 1, 1, none⟩) (show w.heap.size ≤ w.heap.size + 1 + 1 by omega) _).setCell (p := ⟨w.heap.size + 1 + 1, 2, none⟩) (show w.heap.size ≤ w.heap.size + 1 + 1 by omega) _).drew⟩
    rw [H4.out]
    rfl
  · have z1 : (d4 != 0) = true := by rw [bne_iff_ne]; exact h4
    rw [if_neg h4]
    clear h4
    go_enter Try.func42, Try.ntmps42
    go_wp2_with fail
    refine (Hd.out _).mono ?_
    rintro e v1 ⟨rfl, hb⟩
    have hA : Holds v1 (w.heap.size) [.int .i64 (f), .int .i64 (h), .int .i64 (q)] := by simpa using (((((Holds.new _ #[.int .i64 (f), .int .i64 (h), .int .i64 (q)] 23).alloc _).alloc _).alloc _).alloc _).below hb
    have hX : Holds v1 (w.heap.size + 1) [.int .u8 (s.k : Int), .int .i64 (s.n), .int .i64 (s.u), .int .i64 (s.t)] := by simpa using ((((Holds.new _ #[.int .u8 (s.k : Int), .int .i64 (s.n), .int .i64 (s.u), .int .i64 (s.t)] 50).alloc _).alloc _).alloc _).below hb
    have hR : Holds v1 (w.heap.size + 1 + 1) [.int .i64 (0), .int .i64 (0), .int .i64 (0)] := by simpa using (((Holds.new _ #[.int .i64 (0), .int .i64 (0), .int .i64 (0)] 23).alloc _).alloc _).below hb
    have hH : Holds v1 (w.heap.size + 1 + 1 + 1) [.int .i64 (s.n), .int .i64 (s.u)] := by simpa using ((Holds.new _ #[.int .i64 (s.n), .int .i64 (s.u)] 25).alloc _).below hb
    have hB : Holds v1 (w.heap.size + 1 + 1 + 1 + 1) [.int .i64 (0), .int .i64 (0), .int .i64 (0)] := by simpa using (Holds.new _ #[.int .i64 (0), .int .i64 (0), .int .i64 (0)] 23).below hb
    have hx := below_next (show Below w.heap.size w _ from by repeat (first | exact Below.refl _ _ | refine Below.alloc ?_ (by simp <;> omega) _)) hb
    clear hb
    have gA := Holds.other3 (b := w.heap.size + 1 + 1 + 1 + 1) (x := .int .i64 (d1)) (y := .int .i64 (d2)) (z := .int .i64 (d3)) hA (by omega)
    have gX := Holds.other3 (b := w.heap.size + 1 + 1 + 1 + 1) (x := .int .i64 (d1)) (y := .int .i64 (d2)) (z := .int .i64 (d3)) hX (by omega)
    have gR := Holds.other3 (b := w.heap.size + 1 + 1 + 1 + 1) (x := .int .i64 (d1)) (y := .int .i64 (d2)) (z := .int .i64 (d3)) hR (by omega)
    have gB := Holds.set3 hB (.int .i64 (d1)) (.int .i64 (d2)) (.int .i64 (d3))
    have lA := hA.1
    have zA := hA.2.2
    have yA := gA.2.2
    have cA0 := hA.at_ 0 rfl
    have cA1 := hA.at_ 1 rfl
    have cA2 := hA.at_ 2 rfl
    have eA0 := gA.at_ 0 rfl
    have eA1 := gA.at_ 1 rfl
    have eA2 := gA.at_ 2 rfl
    have lX := hX.1
    have zX := hX.2.2
    have yX := gX.2.2
    have cX0 := hX.at_ 0 rfl
    have cX1 := hX.at_ 1 rfl
    have cX2 := hX.at_ 2 rfl
    have cX3 := hX.at_ 3 rfl
    have eX0 := gX.at_ 0 rfl
    have eX1 := gX.at_ 1 rfl
    have eX2 := gX.at_ 2 rfl
    have eX3 := gX.at_ 3 rfl
    have lR := hR.1
    have zR := hR.2.2
    have yR := gR.2.2
    have cR0 := hR.at_ 0 rfl
    have cR1 := hR.at_ 1 rfl
    have cR2 := hR.at_ 2 rfl
    have eR0 := gR.at_ 0 rfl
    have eR1 := gR.at_ 1 rfl
    have eR2 := gR.at_ 2 rfl
    have lB := hB.1
    have zB := hB.2.2
    have yB := gB.2.2
    have cB0 := hB.at_ 0 rfl
    have cB1 := hB.at_ 1 rfl
    have cB2 := hB.at_ 2 rfl
    have eB0 := gB.at_ 0 rfl
    have eB1 := gB.at_ 1 rfl
    have eB2 := gB.at_ 2 rfl
    clear hA hX hR hH hB gA gX gR gB
    go_wp2_with fail
    refine bodyPost_ret (v := .tuple #[.agg #[.int .i64 f, .int .i64 h, .int .i64 q], .int .i64 0, .int .i64 d4]) (by simp [results, Try.results42, go_sem, eR0, eR1, eR2]) rfl ⟨?_, (((((hx.setCell (p := ⟨w.heap.size + 1 + 1 + 1 + 1, 0, none⟩) (show w.heap.size ≤ w.heap.size + 1 + 1 + 1 + 1 by omega) _).setCell (p := ⟨w.heap.size + 1 + 1 + 1 + 1, 1, none⟩) (show w.heap.size ≤ w.heap.size + 1 + 1 + 1 + 1 by omega) _).setCell (p := ⟨w.heap.size + 1 + 1 + 1 + 1, 2, none⟩) (show w.heap.size ≤ w.heap.size + 1 + 1 + 1 + 1 by omega) _).setCell (p := ⟨w.heap.size + 1 + 1, 0, none⟩) (show w.heap.size ≤ w.heap.size + 1 + 1 by omega) _).setCell (p := ⟨w.heap.size + 1 + 1, 1, none⟩) (show w.heap.size ≤ w.heap.size + 1 + 1 by omega) _).setCell (p := ⟨w.heap.size + 1 + 1, 2, none⟩) (show w.heap.size ≤ w.heap.size + 1 + 1 by omega) _⟩
    skip
    rfl
set_option maxRecDepth 100000 in
set_option maxHeartbeats 1000000 in
theorem lchange_1 (f h q : Int) (s : St) (w : World) (hk : Ac.okA f h q = true) (hk9 : s.k < 256) (hl : -9223372036854775808 ≤ s.n) (hu : s.n ≤ 9223372036854775807) (hm : s.k % 9 = 1) :
    Calls Try.prog 42 #[acc f h q, stepV s] w (GivesStep w (Ac.step f h q s)) := by
  have hd : ∀ w' : World, Calls Try.prog 19 #[acc f h q, .int .i64 s.n] w' (GivesAcc w' (Ac.did f h q s)) := by
    intro w'
    have e : Ac.did f h q s = Ac.chg f h q s.n 1 (Ac.more f h q s.n) := by unfold Ac.did; rw [hm]; rfl
    rw [e]
    exact credit_any f h q s.n w'
  have hkept := Ac.did_kept f h q s hk
  have hby : Ac.by_ s = s.n := by unfold Ac.by_; rw [hm]; rfl
  unfold Ac.step
  rw [hby] at hkept ⊢
  clear hkept hby hk
  generalize Ac.did f h q s = d at *
  obtain ⟨d1, d2, d3, d4⟩ := d
  unfold GivesAcc at hd
  unfold acc at hd
  unfold acc stepV
  have Hd := Lib.hid hd
  have q0 : ((s.k : Int) % 9 == 0) = false := by rw [beq_eq_false_iff_ne]; omega
  have q1 : ((s.k : Int) % 9 == 1) = true := by rw [beq_iff_eq]; omega
  have hk2 : (s.k : Int) < 256 := by omega
  clear hd hm
  by_cases h4 : d4 = 0
  · have z1 : (d4 != 0) = false := by rw [bne_eq_false_iff_eq]; exact h4
    rw [if_pos h4]
    have H4 := Lib.hid h4
    clear h4
    go_enter Try.func42, Try.ntmps42
    go_wp2_with fail
    refine (Hd.out _).mono ?_
    rintro e v1 ⟨rfl, hb⟩
    have hA : Holds v1 (w.heap.size) [.int .i64 (f), .int .i64 (h), .int .i64 (q)] := by simpa using (((((Holds.new _ #[.int .i64 (f), .int .i64 (h), .int .i64 (q)] 23).alloc _).alloc _).alloc _).alloc _).below hb
    have hX : Holds v1 (w.heap.size + 1) [.int .u8 (s.k : Int), .int .i64 (s.n), .int .i64 (s.u), .int .i64 (s.t)] := by simpa using ((((Holds.new _ #[.int .u8 (s.k : Int), .int .i64 (s.n), .int .i64 (s.u), .int .i64 (s.t)] 50).alloc _).alloc _).alloc _).below hb
    have hR : Holds v1 (w.heap.size + 1 + 1) [.int .i64 (0), .int .i64 (0), .int .i64 (0)] := by simpa using (((Holds.new _ #[.int .i64 (0), .int .i64 (0), .int .i64 (0)] 23).alloc _).alloc _).below hb
    have hH : Holds v1 (w.heap.size + 1 + 1 + 1) [.int .i64 (s.n), .int .i64 (s.u)] := by simpa using ((Holds.new _ #[.int .i64 (s.n), .int .i64 (s.u)] 25).alloc _).below hb
    have hB : Holds v1 (w.heap.size + 1 + 1 + 1 + 1) [.int .i64 (0), .int .i64 (0), .int .i64 (0)] := by simpa using (Holds.new _ #[.int .i64 (0), .int .i64 (0), .int .i64 (0)] 23).below hb
    have hx := below_next (show Below w.heap.size w _ from by repeat (first | exact Below.refl _ _ | refine Below.alloc ?_ (by simp <;> omega) _)) hb
    clear hb
    have gA := Holds.other3 (b := w.heap.size + 1 + 1 + 1 + 1) (x := .int .i64 (d1)) (y := .int .i64 (d2)) (z := .int .i64 (d3)) hA (by omega)
    have gX := Holds.other3 (b := w.heap.size + 1 + 1 + 1 + 1) (x := .int .i64 (d1)) (y := .int .i64 (d2)) (z := .int .i64 (d3)) hX (by omega)
    have gR := Holds.other3 (b := w.heap.size + 1 + 1 + 1 + 1) (x := .int .i64 (d1)) (y := .int .i64 (d2)) (z := .int .i64 (d3)) hR (by omega)
    have gB := Holds.set3 hB (.int .i64 (d1)) (.int .i64 (d2)) (.int .i64 (d3))
    have lA := hA.1
    have zA := hA.2.2
    have yA := gA.2.2
    have cA0 := hA.at_ 0 rfl
    have cA1 := hA.at_ 1 rfl
    have cA2 := hA.at_ 2 rfl
    have eA0 := gA.at_ 0 rfl
    have eA1 := gA.at_ 1 rfl
    have eA2 := gA.at_ 2 rfl
    have lX := hX.1
    have zX := hX.2.2
    have yX := gX.2.2
    have cX0 := hX.at_ 0 rfl
    have cX1 := hX.at_ 1 rfl
    have cX2 := hX.at_ 2 rfl
    have cX3 := hX.at_ 3 rfl
    have eX0 := gX.at_ 0 rfl
    have eX1 := gX.at_ 1 rfl
    have eX2 := gX.at_ 2 rfl
    have eX3 := gX.at_ 3 rfl
    have lR := hR.1
    have zR := hR.2.2
    have yR := gR.2.2
    have cR0 := hR.at_ 0 rfl
    have cR1 := hR.at_ 1 rfl
    have cR2 := hR.at_ 2 rfl
    have eR0 := gR.at_ 0 rfl
    have eR1 := gR.at_ 1 rfl
    have eR2 := gR.at_ 2 rfl
    have lB := hB.1
    have zB := hB.2.2
    have yB := gB.2.2
    have cB0 := hB.at_ 0 rfl
    have cB1 := hB.at_ 1 rfl
    have cB2 := hB.at_ 2 rfl
    have eB0 := gB.at_ 0 rfl
    have eB1 := gB.at_ 1 rfl
    have eB2 := gB.at_ 2 rfl
    clear hA hX hR hH hB gA gX gR gB
    go_wp2_with fail
    go_region
    go_wp2_with fail
    refine bodyPost_ret (v := .tuple #[.agg #[.int .i64 d1, .int .i64 d2, .int .i64 d3], .int .i64 (s.n), .int .i64 d4]) (by simp [results, Try.results42, go_sem, eR0, eR1, eR2]) rfl ⟨?_, ((((((hx.setCell (p := ⟨w.heap.size + 1 + 1 + 1 + 1, 0, none⟩) (show w.heap.size ≤ w.heap.size + 1 + 1 + 1 + 1 by omega) _).setCell (p := ⟨w.heap.size + 1 + 1 + 1 + 1, 1, none⟩) (show w.heap.size ≤ w.heap.size + 1 + 1 + 1 + 1 by omega) _).setCell (p := ⟨w.heap.size + 1 + 1 + 1 + 1, 2, none⟩) (show w.heap.size ≤ w.heap.size + 1 + 1 + 1 + 1 by omega) _).setCell (p := ⟨w.heap.size + 1 + 1, 0, none⟩) (show w.heap.size ≤ w.heap.size + 1 + 1 by omega) _).setCell (p := ⟨w.heap.size + 1 + 1, 1, none⟩) (show w.heap.size ≤ w.heap.size + 1 + 1 by omega) _).setCell (p := ⟨w.heap.size + 1 + 1, 2, none⟩) (show w.heap.size ≤ w.heap.size + 1 + 1 by omega) _).drew⟩
    rw [H4.out]
    rfl
  · have z1 : (d4 != 0) = true := by rw [bne_iff_ne]; exact h4
    rw [if_neg h4]
    clear h4
    go_enter Try.func42, Try.ntmps42
    go_wp2_with fail
    refine (Hd.out _).mono ?_
    rintro e v1 ⟨rfl, hb⟩
    have hA : Holds v1 (w.heap.size) [.int .i64 (f), .int .i64 (h), .int .i64 (q)] := by simpa using (((((Holds.new _ #[.int .i64 (f), .int .i64 (h), .int .i64 (q)] 23).alloc _).alloc _).alloc _).alloc _).below hb
    have hX : Holds v1 (w.heap.size + 1) [.int .u8 (s.k : Int), .int .i64 (s.n), .int .i64 (s.u), .int .i64 (s.t)] := by simpa using ((((Holds.new _ #[.int .u8 (s.k : Int), .int .i64 (s.n), .int .i64 (s.u), .int .i64 (s.t)] 50).alloc _).alloc _).alloc _).below hb
    have hR : Holds v1 (w.heap.size + 1 + 1) [.int .i64 (0), .int .i64 (0), .int .i64 (0)] := by simpa using (((Holds.new _ #[.int .i64 (0), .int .i64 (0), .int .i64 (0)] 23).alloc _).alloc _).below hb
    have hH : Holds v1 (w.heap.size + 1 + 1 + 1) [.int .i64 (s.n), .int .i64 (s.u)] := by simpa using ((Holds.new _ #[.int .i64 (s.n), .int .i64 (s.u)] 25).alloc _).below hb
    have hB : Holds v1 (w.heap.size + 1 + 1 + 1 + 1) [.int .i64 (0), .int .i64 (0), .int .i64 (0)] := by simpa using (Holds.new _ #[.int .i64 (0), .int .i64 (0), .int .i64 (0)] 23).below hb
    have hx := below_next (show Below w.heap.size w _ from by repeat (first | exact Below.refl _ _ | refine Below.alloc ?_ (by simp <;> omega) _)) hb
    clear hb
    have gA := Holds.other3 (b := w.heap.size + 1 + 1 + 1 + 1) (x := .int .i64 (d1)) (y := .int .i64 (d2)) (z := .int .i64 (d3)) hA (by omega)
    have gX := Holds.other3 (b := w.heap.size + 1 + 1 + 1 + 1) (x := .int .i64 (d1)) (y := .int .i64 (d2)) (z := .int .i64 (d3)) hX (by omega)
    have gR := Holds.other3 (b := w.heap.size + 1 + 1 + 1 + 1) (x := .int .i64 (d1)) (y := .int .i64 (d2)) (z := .int .i64 (d3)) hR (by omega)
    have gB := Holds.set3 hB (.int .i64 (d1)) (.int .i64 (d2)) (.int .i64 (d3))
    have lA := hA.1
    have zA := hA.2.2
    have yA := gA.2.2
    have cA0 := hA.at_ 0 rfl
    have cA1 := hA.at_ 1 rfl
    have cA2 := hA.at_ 2 rfl
    have eA0 := gA.at_ 0 rfl
    have eA1 := gA.at_ 1 rfl
    have eA2 := gA.at_ 2 rfl
    have lX := hX.1
    have zX := hX.2.2
    have yX := gX.2.2
    have cX0 := hX.at_ 0 rfl
    have cX1 := hX.at_ 1 rfl
    have cX2 := hX.at_ 2 rfl
    have cX3 := hX.at_ 3 rfl
    have eX0 := gX.at_ 0 rfl
    have eX1 := gX.at_ 1 rfl
    have eX2 := gX.at_ 2 rfl
    have eX3 := gX.at_ 3 rfl
    have lR := hR.1
    have zR := hR.2.2
    have yR := gR.2.2
    have cR0 := hR.at_ 0 rfl
    have cR1 := hR.at_ 1 rfl
    have cR2 := hR.at_ 2 rfl
    have eR0 := gR.at_ 0 rfl
    have eR1 := gR.at_ 1 rfl
    have eR2 := gR.at_ 2 rfl
    have lB := hB.1
    have zB := hB.2.2
    have yB := gB.2.2
    have cB0 := hB.at_ 0 rfl
    have cB1 := hB.at_ 1 rfl
    have cB2 := hB.at_ 2 rfl
    have eB0 := gB.at_ 0 rfl
    have eB1 := gB.at_ 1 rfl
    have eB2 := gB.at_ 2 rfl
    clear hA hX hR hH hB gA gX gR gB
    go_wp2_with fail
    refine bodyPost_ret (v := .tuple #[.agg #[.int .i64 f, .int .i64 h, .int .i64 q], .int .i64 0, .int .i64 d4]) (by simp [results, Try.results42, go_sem, eR0, eR1, eR2]) rfl ⟨?_, (((((hx.setCell (p := ⟨w.heap.size + 1 + 1 + 1 + 1, 0, none⟩) (show w.heap.size ≤ w.heap.size + 1 + 1 + 1 + 1 by omega) _).setCell (p := ⟨w.heap.size + 1 + 1 + 1 + 1, 1, none⟩) (show w.heap.size ≤ w.heap.size + 1 + 1 + 1 + 1 by omega) _).setCell (p := ⟨w.heap.size + 1 + 1 + 1 + 1, 2, none⟩) (show w.heap.size ≤ w.heap.size + 1 + 1 + 1 + 1 by omega) _).setCell (p := ⟨w.heap.size + 1 + 1, 0, none⟩) (show w.heap.size ≤ w.heap.size + 1 + 1 by omega) _).setCell (p := ⟨w.heap.size + 1 + 1, 1, none⟩) (show w.heap.size ≤ w.heap.size + 1 + 1 by omega) _).setCell (p := ⟨w.heap.size + 1 + 1, 2, none⟩) (show w.heap.size ≤ w.heap.size + 1 + 1 by omega) _⟩
    skip
    rfl
set_option maxRecDepth 100000 in
set_option maxHeartbeats 1000000 in
theorem lchange_2 (f h q : Int) (s : St) (w : World) (hk : Ac.okA f h q = true) (hk9 : s.k < 256) (hl : -9223372036854775808 ≤ s.n) (hu : s.n ≤ 9223372036854775807) (hm : s.k % 9 = 2) :
    Calls Try.prog 42 #[acc f h q, stepV s] w (GivesStep w (Ac.step f h q s)) := by
  have hd : ∀ w' : World, Calls Try.prog 21 #[acc f h q, .int .i64 s.n] w' (GivesAcc w' (Ac.did f h q s)) := by
    intro w'
    have e : Ac.did f h q s = Ac.chg f h q s.n 1 (Ac.less f h q s.n) := by unfold Ac.did; rw [hm]; rfl
    rw [e]
    exact spend_any f h q s.n w'
  have hkept := Ac.did_kept f h q s hk
  have hby : Ac.by_ s = -s.n := by unfold Ac.by_; rw [hm]; rfl
  unfold Ac.step
  rw [hby] at hkept ⊢
  have hneg : (Ac.did f h q s).2.2.2 = 0 → -1125899906842624 ≤ s.n ∧ s.n ≤ 1125899906842624 := fun he => by obtain ⟨h1, h2, _⟩ := hkept he; have h3 := Ac.okA_iff.1 h1; have h4 := Ac.okA_iff.1 hk; omega
  clear hkept hby hk
  generalize Ac.did f h q s = d at *
  obtain ⟨d1, d2, d3, d4⟩ := d
  unfold GivesAcc at hd
  unfold acc at hd
  unfold acc stepV
  have Hd := Lib.hid hd
  have q0 : ((s.k : Int) % 9 == 0) = false := by rw [beq_eq_false_iff_ne]; omega
  have q1 : ((s.k : Int) % 9 == 1) = false := by rw [beq_eq_false_iff_ne]; omega
  have q2 : ((s.k : Int) % 9 == 2) = true := by rw [beq_iff_eq]; omega
  have hk2 : (s.k : Int) < 256 := by omega
  clear hd hm
  by_cases h4 : d4 = 0
  · have z1 : (d4 != 0) = false := by rw [bne_eq_false_iff_eq]; exact h4
    rw [if_pos h4]
    obtain ⟨hn1, hn2⟩ := hneg h4
    clear hneg
    have hw : wrap64 (-s.n) = -s.n := by unfold wrap64; omega
    have hw2 : IntKind.i64.wrap (-s.n) = -s.n := by rw [IntKind.wrap_i64]; omega
    have H4 := Lib.hid h4
    clear h4
    go_enter Try.func42, Try.ntmps42
    go_wp2_with fail
    refine (Hd.out _).mono ?_
    rintro e v1 ⟨rfl, hb⟩
    have hA : Holds v1 (w.heap.size) [.int .i64 (f), .int .i64 (h), .int .i64 (q)] := by simpa using (((((Holds.new _ #[.int .i64 (f), .int .i64 (h), .int .i64 (q)] 23).alloc _).alloc _).alloc _).alloc _).below hb
    have hX : Holds v1 (w.heap.size + 1) [.int .u8 (s.k : Int), .int .i64 (s.n), .int .i64 (s.u), .int .i64 (s.t)] := by simpa using ((((Holds.new _ #[.int .u8 (s.k : Int), .int .i64 (s.n), .int .i64 (s.u), .int .i64 (s.t)] 50).alloc _).alloc _).alloc _).below hb
    have hR : Holds v1 (w.heap.size + 1 + 1) [.int .i64 (0), .int .i64 (0), .int .i64 (0)] := by simpa using (((Holds.new _ #[.int .i64 (0), .int .i64 (0), .int .i64 (0)] 23).alloc _).alloc _).below hb
    have hH : Holds v1 (w.heap.size + 1 + 1 + 1) [.int .i64 (s.n), .int .i64 (s.u)] := by simpa using ((Holds.new _ #[.int .i64 (s.n), .int .i64 (s.u)] 25).alloc _).below hb
    have hB : Holds v1 (w.heap.size + 1 + 1 + 1 + 1) [.int .i64 (0), .int .i64 (0), .int .i64 (0)] := by simpa using (Holds.new _ #[.int .i64 (0), .int .i64 (0), .int .i64 (0)] 23).below hb
    have hx := below_next (show Below w.heap.size w _ from by repeat (first | exact Below.refl _ _ | refine Below.alloc ?_ (by simp <;> omega) _)) hb
    clear hb
    have gA := Holds.other3 (b := w.heap.size + 1 + 1 + 1 + 1) (x := .int .i64 (d1)) (y := .int .i64 (d2)) (z := .int .i64 (d3)) hA (by omega)
    have gX := Holds.other3 (b := w.heap.size + 1 + 1 + 1 + 1) (x := .int .i64 (d1)) (y := .int .i64 (d2)) (z := .int .i64 (d3)) hX (by omega)
    have gR := Holds.other3 (b := w.heap.size + 1 + 1 + 1 + 1) (x := .int .i64 (d1)) (y := .int .i64 (d2)) (z := .int .i64 (d3)) hR (by omega)
    have gB := Holds.set3 hB (.int .i64 (d1)) (.int .i64 (d2)) (.int .i64 (d3))
    have lA := hA.1
    have zA := hA.2.2
    have yA := gA.2.2
    have cA0 := hA.at_ 0 rfl
    have cA1 := hA.at_ 1 rfl
    have cA2 := hA.at_ 2 rfl
    have eA0 := gA.at_ 0 rfl
    have eA1 := gA.at_ 1 rfl
    have eA2 := gA.at_ 2 rfl
    have lX := hX.1
    have zX := hX.2.2
    have yX := gX.2.2
    have cX0 := hX.at_ 0 rfl
    have cX1 := hX.at_ 1 rfl
    have cX2 := hX.at_ 2 rfl
    have cX3 := hX.at_ 3 rfl
    have eX0 := gX.at_ 0 rfl
    have eX1 := gX.at_ 1 rfl
    have eX2 := gX.at_ 2 rfl
    have eX3 := gX.at_ 3 rfl
    have lR := hR.1
    have zR := hR.2.2
    have yR := gR.2.2
    have cR0 := hR.at_ 0 rfl
    have cR1 := hR.at_ 1 rfl
    have cR2 := hR.at_ 2 rfl
    have eR0 := gR.at_ 0 rfl
    have eR1 := gR.at_ 1 rfl
    have eR2 := gR.at_ 2 rfl
    have lB := hB.1
    have zB := hB.2.2
    have yB := gB.2.2
    have cB0 := hB.at_ 0 rfl
    have cB1 := hB.at_ 1 rfl
    have cB2 := hB.at_ 2 rfl
    have eB0 := gB.at_ 0 rfl
    have eB1 := gB.at_ 1 rfl
    have eB2 := gB.at_ 2 rfl
    clear hA hX hR hH hB gA gX gR gB
    go_wp2_with fail
    go_region
    go_wp2_with fail
    refine bodyPost_ret (v := .tuple #[.agg #[.int .i64 d1, .int .i64 d2, .int .i64 d3], .int .i64 (-s.n), .int .i64 d4]) (by simp [results, Try.results42, go_sem, eR0, eR1, eR2]) rfl ⟨?_, ((((((hx.setCell (p := ⟨w.heap.size + 1 + 1 + 1 + 1, 0, none⟩) (show w.heap.size ≤ w.heap.size + 1 + 1 + 1 + 1 by omega) _).setCell (p := ⟨w.heap.size + 1 + 1 + 1 + 1, 1, none⟩) (show w.heap.size ≤ w.heap.size + 1 + 1 + 1 + 1 by omega) _).setCell (p := ⟨w.heap.size + 1 + 1 + 1 + 1, 2, none⟩) (show w.heap.size ≤ w.heap.size + 1 + 1 + 1 + 1 by omega) _).setCell (p := ⟨w.heap.size + 1 + 1, 0, none⟩) (show w.heap.size ≤ w.heap.size + 1 + 1 by omega) _).setCell (p := ⟨w.heap.size + 1 + 1, 1, none⟩) (show w.heap.size ≤ w.heap.size + 1 + 1 by omega) _).setCell (p := ⟨w.heap.size + 1 + 1, 2, none⟩) (show w.heap.size ≤ w.heap.size + 1 + 1 by omega) _).drew⟩
    rw [H4.out]
    rfl
  · have z1 : (d4 != 0) = true := by rw [bne_iff_ne]; exact h4
    rw [if_neg h4]
    clear hneg
    clear h4
    go_enter Try.func42, Try.ntmps42
    go_wp2_with fail
    refine (Hd.out _).mono ?_
    rintro e v1 ⟨rfl, hb⟩
    have hA : Holds v1 (w.heap.size) [.int .i64 (f), .int .i64 (h), .int .i64 (q)] := by simpa using (((((Holds.new _ #[.int .i64 (f), .int .i64 (h), .int .i64 (q)] 23).alloc _).alloc _).alloc _).alloc _).below hb
    have hX : Holds v1 (w.heap.size + 1) [.int .u8 (s.k : Int), .int .i64 (s.n), .int .i64 (s.u), .int .i64 (s.t)] := by simpa using ((((Holds.new _ #[.int .u8 (s.k : Int), .int .i64 (s.n), .int .i64 (s.u), .int .i64 (s.t)] 50).alloc _).alloc _).alloc _).below hb
    have hR : Holds v1 (w.heap.size + 1 + 1) [.int .i64 (0), .int .i64 (0), .int .i64 (0)] := by simpa using (((Holds.new _ #[.int .i64 (0), .int .i64 (0), .int .i64 (0)] 23).alloc _).alloc _).below hb
    have hH : Holds v1 (w.heap.size + 1 + 1 + 1) [.int .i64 (s.n), .int .i64 (s.u)] := by simpa using ((Holds.new _ #[.int .i64 (s.n), .int .i64 (s.u)] 25).alloc _).below hb
    have hB : Holds v1 (w.heap.size + 1 + 1 + 1 + 1) [.int .i64 (0), .int .i64 (0), .int .i64 (0)] := by simpa using (Holds.new _ #[.int .i64 (0), .int .i64 (0), .int .i64 (0)] 23).below hb
    have hx := below_next (show Below w.heap.size w _ from by repeat (first | exact Below.refl _ _ | refine Below.alloc ?_ (by simp <;> omega) _)) hb
    clear hb
    have gA := Holds.other3 (b := w.heap.size + 1 + 1 + 1 + 1) (x := .int .i64 (d1)) (y := .int .i64 (d2)) (z := .int .i64 (d3)) hA (by omega)
    have gX := Holds.other3 (b := w.heap.size + 1 + 1 + 1 + 1) (x := .int .i64 (d1)) (y := .int .i64 (d2)) (z := .int .i64 (d3)) hX (by omega)
    have gR := Holds.other3 (b := w.heap.size + 1 + 1 + 1 + 1) (x := .int .i64 (d1)) (y := .int .i64 (d2)) (z := .int .i64 (d3)) hR (by omega)
    have gB := Holds.set3 hB (.int .i64 (d1)) (.int .i64 (d2)) (.int .i64 (d3))
    have lA := hA.1
    have zA := hA.2.2
    have yA := gA.2.2
    have cA0 := hA.at_ 0 rfl
    have cA1 := hA.at_ 1 rfl
    have cA2 := hA.at_ 2 rfl
    have eA0 := gA.at_ 0 rfl
    have eA1 := gA.at_ 1 rfl
    have eA2 := gA.at_ 2 rfl
    have lX := hX.1
    have zX := hX.2.2
    have yX := gX.2.2
    have cX0 := hX.at_ 0 rfl
    have cX1 := hX.at_ 1 rfl
    have cX2 := hX.at_ 2 rfl
    have cX3 := hX.at_ 3 rfl
    have eX0 := gX.at_ 0 rfl
    have eX1 := gX.at_ 1 rfl
    have eX2 := gX.at_ 2 rfl
    have eX3 := gX.at_ 3 rfl
    have lR := hR.1
    have zR := hR.2.2
    have yR := gR.2.2
    have cR0 := hR.at_ 0 rfl
    have cR1 := hR.at_ 1 rfl
    have cR2 := hR.at_ 2 rfl
    have eR0 := gR.at_ 0 rfl
    have eR1 := gR.at_ 1 rfl
    have eR2 := gR.at_ 2 rfl
    have lB := hB.1
    have zB := hB.2.2
    have yB := gB.2.2
    have cB0 := hB.at_ 0 rfl
    have cB1 := hB.at_ 1 rfl
    have cB2 := hB.at_ 2 rfl
    have eB0 := gB.at_ 0 rfl
    have eB1 := gB.at_ 1 rfl
    have eB2 := gB.at_ 2 rfl
    clear hA hX hR hH hB gA gX gR gB
    go_wp2_with fail
    refine bodyPost_ret (v := .tuple #[.agg #[.int .i64 f, .int .i64 h, .int .i64 q], .int .i64 0, .int .i64 d4]) (by simp [results, Try.results42, go_sem, eR0, eR1, eR2]) rfl ⟨?_, (((((hx.setCell (p := ⟨w.heap.size + 1 + 1 + 1 + 1, 0, none⟩) (show w.heap.size ≤ w.heap.size + 1 + 1 + 1 + 1 by omega) _).setCell (p := ⟨w.heap.size + 1 + 1 + 1 + 1, 1, none⟩) (show w.heap.size ≤ w.heap.size + 1 + 1 + 1 + 1 by omega) _).setCell (p := ⟨w.heap.size + 1 + 1 + 1 + 1, 2, none⟩) (show w.heap.size ≤ w.heap.size + 1 + 1 + 1 + 1 by omega) _).setCell (p := ⟨w.heap.size + 1 + 1, 0, none⟩) (show w.heap.size ≤ w.heap.size + 1 + 1 by omega) _).setCell (p := ⟨w.heap.size + 1 + 1, 1, none⟩) (show w.heap.size ≤ w.heap.size + 1 + 1 by omega) _).setCell (p := ⟨w.heap.size + 1 + 1, 2, none⟩) (show w.heap.size ≤ w.heap.size + 1 + 1 by omega) _⟩
    skip
    rfl
set_option maxRecDepth 100000 in
set_option maxHeartbeats 1000000 in
theorem lchange_3 (f h q : Int) (s : St) (w : World) (hk : Ac.okA f h q = true) (hk9 : s.k < 256) (hl : -9223372036854775808 ≤ s.n) (hu : s.n ≤ 9223372036854775807) (hm : s.k % 9 = 3) :
    Calls Try.prog 42 #[acc f h q, stepV s] w (GivesStep w (Ac.step f h q s)) := by
  have hd : ∀ w' : World, Calls Try.prog 22 #[acc f h q, .int .i64 s.n] w' (GivesAcc w' (Ac.did f h q s)) := by
    intro w'
    have e : Ac.did f h q s = Ac.chg f h q s.n 1 (Ac.less f h q s.n) := by unfold Ac.did; rw [hm]; rfl
    rw [e]
    exact debit_any f h q s.n w'
  have hkept := Ac.did_kept f h q s hk
  have hby : Ac.by_ s = -s.n := by unfold Ac.by_; rw [hm]; rfl
  unfold Ac.step
  rw [hby] at hkept ⊢
  have hneg : (Ac.did f h q s).2.2.2 = 0 → -1125899906842624 ≤ s.n ∧ s.n ≤ 1125899906842624 := fun he => by obtain ⟨h1, h2, _⟩ := hkept he; have h3 := Ac.okA_iff.1 h1; have h4 := Ac.okA_iff.1 hk; omega
  clear hkept hby hk
  generalize Ac.did f h q s = d at *
  obtain ⟨d1, d2, d3, d4⟩ := d
  unfold GivesAcc at hd
  unfold acc at hd
  unfold acc stepV
  have Hd := Lib.hid hd
  have q0 : ((s.k : Int) % 9 == 0) = false := by rw [beq_eq_false_iff_ne]; omega
  have q1 : ((s.k : Int) % 9 == 1) = false := by rw [beq_eq_false_iff_ne]; omega
  have q2 : ((s.k : Int) % 9 == 2) = false := by rw [beq_eq_false_iff_ne]; omega
  have q3 : ((s.k : Int) % 9 == 3) = true := by rw [beq_iff_eq]; omega
  have hk2 : (s.k : Int) < 256 := by omega
  clear hd hm
  by_cases h4 : d4 = 0
  · have z1 : (d4 != 0) = false := by rw [bne_eq_false_iff_eq]; exact h4
    rw [if_pos h4]
    obtain ⟨hn1, hn2⟩ := hneg h4
    clear hneg
    have hw : wrap64 (-s.n) = -s.n := by unfold wrap64; omega
    have hw2 : IntKind.i64.wrap (-s.n) = -s.n := by rw [IntKind.wrap_i64]; omega
    have H4 := Lib.hid h4
    clear h4
    go_enter Try.func42, Try.ntmps42
    go_wp2_with fail
    refine (Hd.out _).mono ?_
    rintro e v1 ⟨rfl, hb⟩
    have hA : Holds v1 (w.heap.size) [.int .i64 (f), .int .i64 (h), .int .i64 (q)] := by simpa using (((((Holds.new _ #[.int .i64 (f), .int .i64 (h), .int .i64 (q)] 23).alloc _).alloc _).alloc _).alloc _).below hb
    have hX : Holds v1 (w.heap.size + 1) [.int .u8 (s.k : Int), .int .i64 (s.n), .int .i64 (s.u), .int .i64 (s.t)] := by simpa using ((((Holds.new _ #[.int .u8 (s.k : Int), .int .i64 (s.n), .int .i64 (s.u), .int .i64 (s.t)] 50).alloc _).alloc _).alloc _).below hb
    have hR : Holds v1 (w.heap.size + 1 + 1) [.int .i64 (0), .int .i64 (0), .int .i64 (0)] := by simpa using (((Holds.new _ #[.int .i64 (0), .int .i64 (0), .int .i64 (0)] 23).alloc _).alloc _).below hb
    have hH : Holds v1 (w.heap.size + 1 + 1 + 1) [.int .i64 (s.n), .int .i64 (s.u)] := by simpa using ((Holds.new _ #[.int .i64 (s.n), .int .i64 (s.u)] 25).alloc _).below hb
    have hB : Holds v1 (w.heap.size + 1 + 1 + 1 + 1) [.int .i64 (0), .int .i64 (0), .int .i64 (0)] := by simpa using (Holds.new _ #[.int .i64 (0), .int .i64 (0), .int .i64 (0)] 23).below hb
    have hx := below_next (show Below w.heap.size w _ from by repeat (first | exact Below.refl _ _ | refine Below.alloc ?_ (by simp <;> omega) _)) hb
    clear hb
    have gA := Holds.other3 (b := w.heap.size + 1 + 1 + 1 + 1) (x := .int .i64 (d1)) (y := .int .i64 (d2)) (z := .int .i64 (d3)) hA (by omega)
    have gX := Holds.other3 (b := w.heap.size + 1 + 1 + 1 + 1) (x := .int .i64 (d1)) (y := .int .i64 (d2)) (z := .int .i64 (d3)) hX (by omega)
    have gR := Holds.other3 (b := w.heap.size + 1 + 1 + 1 + 1) (x := .int .i64 (d1)) (y := .int .i64 (d2)) (z := .int .i64 (d3)) hR (by omega)
    have gB := Holds.set3 hB (.int .i64 (d1)) (.int .i64 (d2)) (.int .i64 (d3))
    have lA := hA.1
    have zA := hA.2.2
    have yA := gA.2.2
    have cA0 := hA.at_ 0 rfl
    have cA1 := hA.at_ 1 rfl
    have cA2 := hA.at_ 2 rfl
    have eA0 := gA.at_ 0 rfl
    have eA1 := gA.at_ 1 rfl
    have eA2 := gA.at_ 2 rfl
    have lX := hX.1
    have zX := hX.2.2
    have yX := gX.2.2
    have cX0 := hX.at_ 0 rfl
    have cX1 := hX.at_ 1 rfl
    have cX2 := hX.at_ 2 rfl
    have cX3 := hX.at_ 3 rfl
    have eX0 := gX.at_ 0 rfl
    have eX1 := gX.at_ 1 rfl
    have eX2 := gX.at_ 2 rfl
    have eX3 := gX.at_ 3 rfl
    have lR := hR.1
    have zR := hR.2.2
    have yR := gR.2.2
    have cR0 := hR.at_ 0 rfl
    have cR1 := hR.at_ 1 rfl
    have cR2 := hR.at_ 2 rfl
    have eR0 := gR.at_ 0 rfl
    have eR1 := gR.at_ 1 rfl
    have eR2 := gR.at_ 2 rfl
    have lB := hB.1
    have zB := hB.2.2
    have yB := gB.2.2
    have cB0 := hB.at_ 0 rfl
    have cB1 := hB.at_ 1 rfl
    have cB2 := hB.at_ 2 rfl
    have eB0 := gB.at_ 0 rfl
    have eB1 := gB.at_ 1 rfl
    have eB2 := gB.at_ 2 rfl
    clear hA hX hR hH hB gA gX gR gB
    go_wp2_with fail
    go_region
    go_wp2_with fail
    refine bodyPost_ret (v := .tuple #[.agg #[.int .i64 d1, .int .i64 d2, .int .i64 d3], .int .i64 (-s.n), .int .i64 d4]) (by simp [results, Try.results42, go_sem, eR0, eR1, eR2]) rfl ⟨?_, ((((((hx.setCell (p := ⟨w.heap.size + 1 + 1 + 1 + 1, 0, none⟩) (show w.heap.size ≤ w.heap.size + 1 + 1 + 1 + 1 by omega) _).setCell (p := ⟨w.heap.size + 1 + 1 + 1 + 1, 1, none⟩) (show w.heap.size ≤ w.heap.size + 1 + 1 + 1 + 1 by omega) _).setCell (p := ⟨w.heap.size + 1 + 1 + 1 + 1, 2, none⟩) (show w.heap.size ≤ w.heap.size + 1 + 1 + 1 + 1 by omega) _).setCell (p := ⟨w.heap.size + 1 + 1, 0, none⟩) (show w.heap.size ≤ w.heap.size + 1 + 1 by omega) _).setCell (p := ⟨w.heap.size + 1 + 1, 1, none⟩) (show w.heap.size ≤ w.heap.size + 1 + 1 by omega) _).setCell (p := ⟨w.heap.size + 1 + 1, 2, none⟩) (show w.heap.size ≤ w.heap.size + 1 + 1 by omega) _).drew⟩
    rw [H4.out]
    rfl
  · have z1 : (d4 != 0) = true := by rw [bne_iff_ne]; exact h4
    rw [if_neg h4]
    clear hneg
    clear h4
    go_enter Try.func42, Try.ntmps42
    go_wp2_with fail
    refine (Hd.out _).mono ?_
    rintro e v1 ⟨rfl, hb⟩
    have hA : Holds v1 (w.heap.size) [.int .i64 (f), .int .i64 (h), .int .i64 (q)] := by simpa using (((((Holds.new _ #[.int .i64 (f), .int .i64 (h), .int .i64 (q)] 23).alloc _).alloc _).alloc _).alloc _).below hb
    have hX : Holds v1 (w.heap.size + 1) [.int .u8 (s.k : Int), .int .i64 (s.n), .int .i64 (s.u), .int .i64 (s.t)] := by simpa using ((((Holds.new _ #[.int .u8 (s.k : Int), .int .i64 (s.n), .int .i64 (s.u), .int .i64 (s.t)] 50).alloc _).alloc _).alloc _).below hb
    have hR : Holds v1 (w.heap.size + 1 + 1) [.int .i64 (0), .int .i64 (0), .int .i64 (0)] := by simpa using (((Holds.new _ #[.int .i64 (0), .int .i64 (0), .int .i64 (0)] 23).alloc _).alloc _).below hb
    have hH : Holds v1 (w.heap.size + 1 + 1 + 1) [.int .i64 (s.n), .int .i64 (s.u)] := by simpa using ((Holds.new _ #[.int .i64 (s.n), .int .i64 (s.u)] 25).alloc _).below hb
    have hB : Holds v1 (w.heap.size + 1 + 1 + 1 + 1) [.int .i64 (0), .int .i64 (0), .int .i64 (0)] := by simpa using (Holds.new _ #[.int .i64 (0), .int .i64 (0), .int .i64 (0)] 23).below hb
    have hx := below_next (show Below w.heap.size w _ from by repeat (first | exact Below.refl _ _ | refine Below.alloc ?_ (by simp <;> omega) _)) hb
    clear hb
    have gA := Holds.other3 (b := w.heap.size + 1 + 1 + 1 + 1) (x := .int .i64 (d1)) (y := .int .i64 (d2)) (z := .int .i64 (d3)) hA (by omega)
    have gX := Holds.other3 (b := w.heap.size + 1 + 1 + 1 + 1) (x := .int .i64 (d1)) (y := .int .i64 (d2)) (z := .int .i64 (d3)) hX (by omega)
    have gR := Holds.other3 (b := w.heap.size + 1 + 1 + 1 + 1) (x := .int .i64 (d1)) (y := .int .i64 (d2)) (z := .int .i64 (d3)) hR (by omega)
    have gB := Holds.set3 hB (.int .i64 (d1)) (.int .i64 (d2)) (.int .i64 (d3))
    have lA := hA.1
    have zA := hA.2.2
    have yA := gA.2.2
    have cA0 := hA.at_ 0 rfl
    have cA1 := hA.at_ 1 rfl
    have cA2 := hA.at_ 2 rfl
    have eA0 := gA.at_ 0 rfl
    have eA1 := gA.at_ 1 rfl
    have eA2 := gA.at_ 2 rfl
    have lX := hX.1
    have zX := hX.2.2
    have yX := gX.2.2
    have cX0 := hX.at_ 0 rfl
    have cX1 := hX.at_ 1 rfl
    have cX2 := hX.at_ 2 rfl
    have cX3 := hX.at_ 3 rfl
    have eX0 := gX.at_ 0 rfl
    have eX1 := gX.at_ 1 rfl
    have eX2 := gX.at_ 2 rfl
    have eX3 := gX.at_ 3 rfl
    have lR := hR.1
    have zR := hR.2.2
    have yR := gR.2.2
    have cR0 := hR.at_ 0 rfl
    have cR1 := hR.at_ 1 rfl
    have cR2 := hR.at_ 2 rfl
    have eR0 := gR.at_ 0 rfl
    have eR1 := gR.at_ 1 rfl
    have eR2 := gR.at_ 2 rfl
    have lB := hB.1
    have zB := hB.2.2
    have yB := gB.2.2
    have cB0 := hB.at_ 0 rfl
    have cB1 := hB.at_ 1 rfl
    have cB2 := hB.at_ 2 rfl
    have eB0 := gB.at_ 0 rfl
    have eB1 := gB.at_ 1 rfl
    have eB2 := gB.at_ 2 rfl
    clear hA hX hR hH hB gA gX gR gB
    go_wp2_with fail
    refine bodyPost_ret (v := .tuple #[.agg #[.int .i64 f, .int .i64 h, .int .i64 q], .int .i64 0, .int .i64 d4]) (by simp [results, Try.results42, go_sem, eR0, eR1, eR2]) rfl ⟨?_, (((((hx.setCell (p := ⟨w.heap.size + 1 + 1 + 1 + 1, 0, none⟩) (show w.heap.size ≤ w.heap.size + 1 + 1 + 1 + 1 by omega) _).setCell (p := ⟨w.heap.size + 1 + 1 + 1 + 1, 1, none⟩) (show w.heap.size ≤ w.heap.size + 1 + 1 + 1 + 1 by omega) _).setCell (p := ⟨w.heap.size + 1 + 1 + 1 + 1, 2, none⟩) (show w.heap.size ≤ w.heap.size + 1 + 1 + 1 + 1 by omega) _).setCell (p := ⟨w.heap.size + 1 + 1, 0, none⟩) (show w.heap.size ≤ w.heap.size + 1 + 1 by omega) _).setCell (p := ⟨w.heap.size + 1 + 1, 1, none⟩) (show w.heap.size ≤ w.heap.size + 1 + 1 by omega) _).setCell (p := ⟨w.heap.size + 1 + 1, 2, none⟩) (show w.heap.size ≤ w.heap.size + 1 + 1 by omega) _⟩
    skip
    rfl
set_option maxRecDepth 100000 in
set_option maxHeartbeats 1000000 in
theorem lchange_4 (f h q : Int) (s : St) (w : World) (hk : Ac.okA f h q = true) (hk9 : s.k < 256) (hl : -9223372036854775808 ≤ s.n) (hu : s.n ≤ 9223372036854775807) (hm : s.k % 9 = 4) :
    Calls Try.prog 42 #[acc f h q, stepV s] w (GivesStep w (Ac.step f h q s)) := by
  have hd : ∀ w' : World, Calls Try.prog 24 #[acc f h q, .int .i64 s.n] w' (GivesAcc w' (Ac.did f h q s)) := by
    intro w'
    have e : Ac.did f h q s = Ac.chg f h q s.n 0 (f, h, s.n, 0) := by unfold Ac.did; rw [hm]; rfl
    rw [e]
    exact quota_any f h q s.n w'
  have hkept := Ac.did_kept f h q s hk
  have hby : Ac.by_ s = 0 := by unfold Ac.by_; rw [hm]; rfl
  unfold Ac.step
  rw [hby] at hkept ⊢
  clear hkept hby hk
  generalize Ac.did f h q s = d at *
  obtain ⟨d1, d2, d3, d4⟩ := d
  unfold GivesAcc at hd
  unfold acc at hd
  unfold acc stepV
  have Hd := Lib.hid hd
  have q0 : ((s.k : Int) % 9 == 0) = false := by rw [beq_eq_false_iff_ne]; omega
  have q1 : ((s.k : Int) % 9 == 1) = false := by rw [beq_eq_false_iff_ne]; omega
  have q2 : ((s.k : Int) % 9 == 2) = false := by rw [beq_eq_false_iff_ne]; omega
  have q3 : ((s.k : Int) % 9 == 3) = false := by rw [beq_eq_false_iff_ne]; omega
  have q4 : ((s.k : Int) % 9 == 4) = true := by rw [beq_iff_eq]; omega
  have hk2 : (s.k : Int) < 256 := by omega
  clear hd hm
  by_cases h4 : d4 = 0
  · have z1 : (d4 != 0) = false := by rw [bne_eq_false_iff_eq]; exact h4
    rw [if_pos h4]
    have H4 := Lib.hid h4
    clear h4
    go_enter Try.func42, Try.ntmps42
    go_wp2_with fail
    refine (Hd.out _).mono ?_
    rintro e v1 ⟨rfl, hb⟩
    have hA : Holds v1 (w.heap.size) [.int .i64 (f), .int .i64 (h), .int .i64 (q)] := by simpa using (((((Holds.new _ #[.int .i64 (f), .int .i64 (h), .int .i64 (q)] 23).alloc _).alloc _).alloc _).alloc _).below hb
    have hX : Holds v1 (w.heap.size + 1) [.int .u8 (s.k : Int), .int .i64 (s.n), .int .i64 (s.u), .int .i64 (s.t)] := by simpa using ((((Holds.new _ #[.int .u8 (s.k : Int), .int .i64 (s.n), .int .i64 (s.u), .int .i64 (s.t)] 50).alloc _).alloc _).alloc _).below hb
    have hR : Holds v1 (w.heap.size + 1 + 1) [.int .i64 (0), .int .i64 (0), .int .i64 (0)] := by simpa using (((Holds.new _ #[.int .i64 (0), .int .i64 (0), .int .i64 (0)] 23).alloc _).alloc _).below hb
    have hH : Holds v1 (w.heap.size + 1 + 1 + 1) [.int .i64 (s.n), .int .i64 (s.u)] := by simpa using ((Holds.new _ #[.int .i64 (s.n), .int .i64 (s.u)] 25).alloc _).below hb
    have hB : Holds v1 (w.heap.size + 1 + 1 + 1 + 1) [.int .i64 (0), .int .i64 (0), .int .i64 (0)] := by simpa using (Holds.new _ #[.int .i64 (0), .int .i64 (0), .int .i64 (0)] 23).below hb
    have hx := below_next (show Below w.heap.size w _ from by repeat (first | exact Below.refl _ _ | refine Below.alloc ?_ (by simp <;> omega) _)) hb
    clear hb
    have gA := Holds.other3 (b := w.heap.size + 1 + 1 + 1 + 1) (x := .int .i64 (d1)) (y := .int .i64 (d2)) (z := .int .i64 (d3)) hA (by omega)
    have gX := Holds.other3 (b := w.heap.size + 1 + 1 + 1 + 1) (x := .int .i64 (d1)) (y := .int .i64 (d2)) (z := .int .i64 (d3)) hX (by omega)
    have gR := Holds.other3 (b := w.heap.size + 1 + 1 + 1 + 1) (x := .int .i64 (d1)) (y := .int .i64 (d2)) (z := .int .i64 (d3)) hR (by omega)
    have gB := Holds.set3 hB (.int .i64 (d1)) (.int .i64 (d2)) (.int .i64 (d3))
    have lA := hA.1
    have zA := hA.2.2
    have yA := gA.2.2
    have cA0 := hA.at_ 0 rfl
    have cA1 := hA.at_ 1 rfl
    have cA2 := hA.at_ 2 rfl
    have eA0 := gA.at_ 0 rfl
    have eA1 := gA.at_ 1 rfl
    have eA2 := gA.at_ 2 rfl
    have lX := hX.1
    have zX := hX.2.2
    have yX := gX.2.2
    have cX0 := hX.at_ 0 rfl
    have cX1 := hX.at_ 1 rfl
    have cX2 := hX.at_ 2 rfl
    have cX3 := hX.at_ 3 rfl
    have eX0 := gX.at_ 0 rfl
    have eX1 := gX.at_ 1 rfl
    have eX2 := gX.at_ 2 rfl
    have eX3 := gX.at_ 3 rfl
    have lR := hR.1
    have zR := hR.2.2
    have yR := gR.2.2
    have cR0 := hR.at_ 0 rfl
    have cR1 := hR.at_ 1 rfl
    have cR2 := hR.at_ 2 rfl
    have eR0 := gR.at_ 0 rfl
    have eR1 := gR.at_ 1 rfl
    have eR2 := gR.at_ 2 rfl
    have lB := hB.1
    have zB := hB.2.2
    have yB := gB.2.2
    have cB0 := hB.at_ 0 rfl
    have cB1 := hB.at_ 1 rfl
    have cB2 := hB.at_ 2 rfl
    have eB0 := gB.at_ 0 rfl
    have eB1 := gB.at_ 1 rfl
    have eB2 := gB.at_ 2 rfl
    clear hA hX hR hH hB gA gX gR gB
    go_wp2_with fail
    refine bodyPost_ret (v := .tuple #[.agg #[.int .i64 d1, .int .i64 d2, .int .i64 d3], .int .i64 (0), .int .i64 d4]) (by simp [results, Try.results42, go_sem, eR0, eR1, eR2]) rfl ⟨?_, (((((hx.setCell (p := ⟨w.heap.size + 1 + 1 + 1 + 1, 0, none⟩) (show w.heap.size ≤ w.heap.size + 1 + 1 + 1 + 1 by omega) _).setCell (p := ⟨w.heap.size + 1 + 1 + 1 + 1, 1, none⟩) (show w.heap.size ≤ w.heap.size + 1 + 1 + 1 + 1 by omega) _).setCell (p := ⟨w.heap.size + 1 + 1 + 1 + 1, 2, none⟩) (show w.heap.size ≤ w.heap.size + 1 + 1 + 1 + 1 by omega) _).setCell (p := ⟨w.heap.size + 1 + 1, 0, none⟩) (show w.heap.size ≤ w.heap.size + 1 + 1 by omega) _).setCell (p := ⟨w.heap.size + 1 + 1, 1, none⟩) (show w.heap.size ≤ w.heap.size + 1 + 1 by omega) _).setCell (p := ⟨w.heap.size + 1 + 1, 2, none⟩) (show w.heap.size ≤ w.heap.size + 1 + 1 by omega) _⟩
    rw [H4.out]
    rfl
  · have z1 : (d4 != 0) = true := by rw [bne_iff_ne]; exact h4
    rw [if_neg h4]
    clear h4
    go_enter Try.func42, Try.ntmps42
    go_wp2_with fail
    refine (Hd.out _).mono ?_
    rintro e v1 ⟨rfl, hb⟩
    have hA : Holds v1 (w.heap.size) [.int .i64 (f), .int .i64 (h), .int .i64 (q)] := by simpa using (((((Holds.new _ #[.int .i64 (f), .int .i64 (h), .int .i64 (q)] 23).alloc _).alloc _).alloc _).alloc _).below hb
    have hX : Holds v1 (w.heap.size + 1) [.int .u8 (s.k : Int), .int .i64 (s.n), .int .i64 (s.u), .int .i64 (s.t)] := by simpa using ((((Holds.new _ #[.int .u8 (s.k : Int), .int .i64 (s.n), .int .i64 (s.u), .int .i64 (s.t)] 50).alloc _).alloc _).alloc _).below hb
    have hR : Holds v1 (w.heap.size + 1 + 1) [.int .i64 (0), .int .i64 (0), .int .i64 (0)] := by simpa using (((Holds.new _ #[.int .i64 (0), .int .i64 (0), .int .i64 (0)] 23).alloc _).alloc _).below hb
    have hH : Holds v1 (w.heap.size + 1 + 1 + 1) [.int .i64 (s.n), .int .i64 (s.u)] := by simpa using ((Holds.new _ #[.int .i64 (s.n), .int .i64 (s.u)] 25).alloc _).below hb
    have hB : Holds v1 (w.heap.size + 1 + 1 + 1 + 1) [.int .i64 (0), .int .i64 (0), .int .i64 (0)] := by simpa using (Holds.new _ #[.int .i64 (0), .int .i64 (0), .int .i64 (0)] 23).below hb
    have hx := below_next (show Below w.heap.size w _ from by repeat (first | exact Below.refl _ _ | refine Below.alloc ?_ (by simp <;> omega) _)) hb
    clear hb
    have gA := Holds.other3 (b := w.heap.size + 1 + 1 + 1 + 1) (x := .int .i64 (d1)) (y := .int .i64 (d2)) (z := .int .i64 (d3)) hA (by omega)
    have gX := Holds.other3 (b := w.heap.size + 1 + 1 + 1 + 1) (x := .int .i64 (d1)) (y := .int .i64 (d2)) (z := .int .i64 (d3)) hX (by omega)
    have gR := Holds.other3 (b := w.heap.size + 1 + 1 + 1 + 1) (x := .int .i64 (d1)) (y := .int .i64 (d2)) (z := .int .i64 (d3)) hR (by omega)
    have gB := Holds.set3 hB (.int .i64 (d1)) (.int .i64 (d2)) (.int .i64 (d3))
    have lA := hA.1
    have zA := hA.2.2
    have yA := gA.2.2
    have cA0 := hA.at_ 0 rfl
    have cA1 := hA.at_ 1 rfl
    have cA2 := hA.at_ 2 rfl
    have eA0 := gA.at_ 0 rfl
    have eA1 := gA.at_ 1 rfl
    have eA2 := gA.at_ 2 rfl
    have lX := hX.1
    have zX := hX.2.2
    have yX := gX.2.2
    have cX0 := hX.at_ 0 rfl
    have cX1 := hX.at_ 1 rfl
    have cX2 := hX.at_ 2 rfl
    have cX3 := hX.at_ 3 rfl
    have eX0 := gX.at_ 0 rfl
    have eX1 := gX.at_ 1 rfl
    have eX2 := gX.at_ 2 rfl
    have eX3 := gX.at_ 3 rfl
    have lR := hR.1
    have zR := hR.2.2
    have yR := gR.2.2
    have cR0 := hR.at_ 0 rfl
    have cR1 := hR.at_ 1 rfl
    have cR2 := hR.at_ 2 rfl
    have eR0 := gR.at_ 0 rfl
    have eR1 := gR.at_ 1 rfl
    have eR2 := gR.at_ 2 rfl
    have lB := hB.1
    have zB := hB.2.2
    have yB := gB.2.2
    have cB0 := hB.at_ 0 rfl
    have cB1 := hB.at_ 1 rfl
    have cB2 := hB.at_ 2 rfl
    have eB0 := gB.at_ 0 rfl
    have eB1 := gB.at_ 1 rfl
    have eB2 := gB.at_ 2 rfl
    clear hA hX hR hH hB gA gX gR gB
    go_wp2_with fail
    refine bodyPost_ret (v := .tuple #[.agg #[.int .i64 f, .int .i64 h, .int .i64 q], .int .i64 0, .int .i64 d4]) (by simp [results, Try.results42, go_sem, eR0, eR1, eR2]) rfl ⟨?_, (((((hx.setCell (p := ⟨w.heap.size + 1 + 1 + 1 + 1, 0, none⟩) (show w.heap.size ≤ w.heap.size + 1 + 1 + 1 + 1 by omega) _).setCell (p := ⟨w.heap.size + 1 + 1 + 1 + 1, 1, none⟩) (show w.heap.size ≤ w.heap.size + 1 + 1 + 1 + 1 by omega) _).setCell (p := ⟨w.heap.size + 1 + 1 + 1 + 1, 2, none⟩) (show w.heap.size ≤ w.heap.size + 1 + 1 + 1 + 1 by omega) _).setCell (p := ⟨w.heap.size + 1 + 1, 0, none⟩) (show w.heap.size ≤ w.heap.size + 1 + 1 by omega) _).setCell (p := ⟨w.heap.size + 1 + 1, 1, none⟩) (show w.heap.size ≤ w.heap.size + 1 + 1 by omega) _).setCell (p := ⟨w.heap.size + 1 + 1, 2, none⟩) (show w.heap.size ≤ w.heap.size + 1 + 1 by omega) _⟩
    skip
    rfl
set_option maxRecDepth 100000 in
set_option maxHeartbeats 1000000 in
theorem lchange_5 (f h q : Int) (s : St) (w : World) (hk : Ac.okA f h q = true) (hk9 : s.k < 256) (hl : -9223372036854775808 ≤ s.n) (hu : s.n ≤ 9223372036854775807) (hm : s.k % 9 = 5) :
    Calls Try.prog 42 #[acc f h q, stepV s] w (GivesStep w (Ac.step f h q s)) := by
  have hd : ∀ w' : World, Calls Try.prog 26 #[acc f h q, hold s.n s.u] w' (GivesAcc w' (Ac.did f h q s)) := by
    intro w'
    have e : Ac.did f h q s = Ac.reserve f h q s.n s.u := by unfold Ac.did; rw [hm]; rfl
    rw [e]
    exact reserve_any f h q s.n s.u w'
  have hkept := Ac.did_kept f h q s hk
  have hby : Ac.by_ s = 0 := by unfold Ac.by_; rw [hm]; rfl
  unfold Ac.step
  rw [hby] at hkept ⊢
  clear hkept hby hk
  generalize Ac.did f h q s = d at *
  obtain ⟨d1, d2, d3, d4⟩ := d
  unfold GivesAcc at hd
  unfold acc at hd
  unfold hold at hd
  unfold acc stepV
  have Hd := Lib.hid hd
  have q0 : ((s.k : Int) % 9 == 0) = false := by rw [beq_eq_false_iff_ne]; omega
  have q1 : ((s.k : Int) % 9 == 1) = false := by rw [beq_eq_false_iff_ne]; omega
  have q2 : ((s.k : Int) % 9 == 2) = false := by rw [beq_eq_false_iff_ne]; omega
  have q3 : ((s.k : Int) % 9 == 3) = false := by rw [beq_eq_false_iff_ne]; omega
  have q4 : ((s.k : Int) % 9 == 4) = false := by rw [beq_eq_false_iff_ne]; omega
  have q5 : ((s.k : Int) % 9 == 5) = true := by rw [beq_iff_eq]; omega
  have hk2 : (s.k : Int) < 256 := by omega
  clear hd hm
  by_cases h4 : d4 = 0
  · have z1 : (d4 != 0) = false := by rw [bne_eq_false_iff_eq]; exact h4
    rw [if_pos h4]
    have H4 := Lib.hid h4
    clear h4
    go_enter Try.func42, Try.ntmps42
    go_wp2_with fail
    refine (Hd.out _).mono ?_
    rintro e v1 ⟨rfl, hb⟩
    have hA : Holds v1 (w.heap.size) [.int .i64 (f), .int .i64 (h), .int .i64 (q)] := by simpa using (((((Holds.new _ #[.int .i64 (f), .int .i64 (h), .int .i64 (q)] 23).alloc _).alloc _).alloc _).alloc _).below hb
    have hX : Holds v1 (w.heap.size + 1) [.int .u8 (s.k : Int), .int .i64 (s.n), .int .i64 (s.u), .int .i64 (s.t)] := by simpa using ((((Holds.new _ #[.int .u8 (s.k : Int), .int .i64 (s.n), .int .i64 (s.u), .int .i64 (s.t)] 50).alloc _).alloc _).alloc _).below hb
    have hR : Holds v1 (w.heap.size + 1 + 1) [.int .i64 (0), .int .i64 (0), .int .i64 (0)] := by simpa using (((Holds.new _ #[.int .i64 (0), .int .i64 (0), .int .i64 (0)] 23).alloc _).alloc _).below hb
    have hH : Holds v1 (w.heap.size + 1 + 1 + 1) [.int .i64 (s.n), .int .i64 (s.u)] := by simpa using ((Holds.new _ #[.int .i64 (s.n), .int .i64 (s.u)] 25).alloc _).below hb
    have hB : Holds v1 (w.heap.size + 1 + 1 + 1 + 1) [.int .i64 (0), .int .i64 (0), .int .i64 (0)] := by simpa using (Holds.new _ #[.int .i64 (0), .int .i64 (0), .int .i64 (0)] 23).below hb
    have hx := below_next (show Below w.heap.size w _ from by repeat (first | exact Below.refl _ _ | refine Below.alloc ?_ (by simp <;> omega) _)) hb
    clear hb
    have gA := Holds.other3 (b := w.heap.size + 1 + 1 + 1 + 1) (x := .int .i64 (d1)) (y := .int .i64 (d2)) (z := .int .i64 (d3)) hA (by omega)
    have gX := Holds.other3 (b := w.heap.size + 1 + 1 + 1 + 1) (x := .int .i64 (d1)) (y := .int .i64 (d2)) (z := .int .i64 (d3)) hX (by omega)
    have gR := Holds.other3 (b := w.heap.size + 1 + 1 + 1 + 1) (x := .int .i64 (d1)) (y := .int .i64 (d2)) (z := .int .i64 (d3)) hR (by omega)
    have gB := Holds.set3 hB (.int .i64 (d1)) (.int .i64 (d2)) (.int .i64 (d3))
    have lA := hA.1
    have zA := hA.2.2
    have yA := gA.2.2
    have cA0 := hA.at_ 0 rfl
    have cA1 := hA.at_ 1 rfl
    have cA2 := hA.at_ 2 rfl
    have eA0 := gA.at_ 0 rfl
    have eA1 := gA.at_ 1 rfl
    have eA2 := gA.at_ 2 rfl
    have lX := hX.1
    have zX := hX.2.2
    have yX := gX.2.2
    have cX0 := hX.at_ 0 rfl
    have cX1 := hX.at_ 1 rfl
    have cX2 := hX.at_ 2 rfl
    have cX3 := hX.at_ 3 rfl
    have eX0 := gX.at_ 0 rfl
    have eX1 := gX.at_ 1 rfl
    have eX2 := gX.at_ 2 rfl
    have eX3 := gX.at_ 3 rfl
    have lR := hR.1
    have zR := hR.2.2
    have yR := gR.2.2
    have cR0 := hR.at_ 0 rfl
    have cR1 := hR.at_ 1 rfl
    have cR2 := hR.at_ 2 rfl
    have eR0 := gR.at_ 0 rfl
    have eR1 := gR.at_ 1 rfl
    have eR2 := gR.at_ 2 rfl
    have lB := hB.1
    have zB := hB.2.2
    have yB := gB.2.2
    have cB0 := hB.at_ 0 rfl
    have cB1 := hB.at_ 1 rfl
    have cB2 := hB.at_ 2 rfl
    have eB0 := gB.at_ 0 rfl
    have eB1 := gB.at_ 1 rfl
    have eB2 := gB.at_ 2 rfl
    clear hA hX hR hH hB gA gX gR gB
    go_wp2_with fail
    refine bodyPost_ret (v := .tuple #[.agg #[.int .i64 d1, .int .i64 d2, .int .i64 d3], .int .i64 (0), .int .i64 d4]) (by simp [results, Try.results42, go_sem, eR0, eR1, eR2]) rfl ⟨?_, (((((hx.setCell (p := ⟨w.heap.size + 1 + 1 + 1 + 1, 0, none⟩) (show w.heap.size ≤ w.heap.size + 1 + 1 + 1 + 1 by omega) _).setCell (p := ⟨w.heap.size + 1 + 1 + 1 + 1, 1, none⟩) (show w.heap.size ≤ w.heap.size + 1 + 1 + 1 + 1 by omega) _).setCell (p := ⟨w.heap.size + 1 + 1 + 1 + 1, 2, none⟩) (show w.heap.size ≤ w.heap.size + 1 + 1 + 1 + 1 by omega) _).setCell (p := ⟨w.heap.size + 1 + 1, 0, none⟩) (show w.heap.size ≤ w.heap.size + 1 + 1 by omega) _).setCell (p := ⟨w.heap.size + 1 + 1, 1, none⟩) (show w.heap.size ≤ w.heap.size + 1 + 1 by omega) _).setCell (p := ⟨w.heap.size + 1 + 1, 2, none⟩) (show w.heap.size ≤ w.heap.size + 1 + 1 by omega) _⟩
    rw [H4.out]
    rfl
  · have z1 : (d4 != 0) = true := by rw [bne_iff_ne]; exact h4
    rw [if_neg h4]
    clear h4
    go_enter Try.func42, Try.ntmps42
    go_wp2_with fail
    refine (Hd.out _).mono ?_
    rintro e v1 ⟨rfl, hb⟩
    have hA : Holds v1 (w.heap.size) [.int .i64 (f), .int .i64 (h), .int .i64 (q)] := by simpa using (((((Holds.new _ #[.int .i64 (f), .int .i64 (h), .int .i64 (q)] 23).alloc _).alloc _).alloc _).alloc _).below hb
    have hX : Holds v1 (w.heap.size + 1) [.int .u8 (s.k : Int), .int .i64 (s.n), .int .i64 (s.u), .int .i64 (s.t)] := by simpa using ((((Holds.new _ #[.int .u8 (s.k : Int), .int .i64 (s.n), .int .i64 (s.u), .int .i64 (s.t)] 50).alloc _).alloc _).alloc _).below hb
    have hR : Holds v1 (w.heap.size + 1 + 1) [.int .i64 (0), .int .i64 (0), .int .i64 (0)] := by simpa using (((Holds.new _ #[.int .i64 (0), .int .i64 (0), .int .i64 (0)] 23).alloc _).alloc _).below hb
    have hH : Holds v1 (w.heap.size + 1 + 1 + 1) [.int .i64 (s.n), .int .i64 (s.u)] := by simpa using ((Holds.new _ #[.int .i64 (s.n), .int .i64 (s.u)] 25).alloc _).below hb
    have hB : Holds v1 (w.heap.size + 1 + 1 + 1 + 1) [.int .i64 (0), .int .i64 (0), .int .i64 (0)] := by simpa using (Holds.new _ #[.int .i64 (0), .int .i64 (0), .int .i64 (0)] 23).below hb
    have hx := below_next (show Below w.heap.size w _ from by repeat (first | exact Below.refl _ _ | refine Below.alloc ?_ (by simp <;> omega) _)) hb
    clear hb
    have gA := Holds.other3 (b := w.heap.size + 1 + 1 + 1 + 1) (x := .int .i64 (d1)) (y := .int .i64 (d2)) (z := .int .i64 (d3)) hA (by omega)
    have gX := Holds.other3 (b := w.heap.size + 1 + 1 + 1 + 1) (x := .int .i64 (d1)) (y := .int .i64 (d2)) (z := .int .i64 (d3)) hX (by omega)
    have gR := Holds.other3 (b := w.heap.size + 1 + 1 + 1 + 1) (x := .int .i64 (d1)) (y := .int .i64 (d2)) (z := .int .i64 (d3)) hR (by omega)
    have gB := Holds.set3 hB (.int .i64 (d1)) (.int .i64 (d2)) (.int .i64 (d3))
    have lA := hA.1
    have zA := hA.2.2
    have yA := gA.2.2
    have cA0 := hA.at_ 0 rfl
    have cA1 := hA.at_ 1 rfl
    have cA2 := hA.at_ 2 rfl
    have eA0 := gA.at_ 0 rfl
    have eA1 := gA.at_ 1 rfl
    have eA2 := gA.at_ 2 rfl
    have lX := hX.1
    have zX := hX.2.2
    have yX := gX.2.2
    have cX0 := hX.at_ 0 rfl
    have cX1 := hX.at_ 1 rfl
    have cX2 := hX.at_ 2 rfl
    have cX3 := hX.at_ 3 rfl
    have eX0 := gX.at_ 0 rfl
    have eX1 := gX.at_ 1 rfl
    have eX2 := gX.at_ 2 rfl
    have eX3 := gX.at_ 3 rfl
    have lR := hR.1
    have zR := hR.2.2
    have yR := gR.2.2
    have cR0 := hR.at_ 0 rfl
    have cR1 := hR.at_ 1 rfl
    have cR2 := hR.at_ 2 rfl
    have eR0 := gR.at_ 0 rfl
    have eR1 := gR.at_ 1 rfl
    have eR2 := gR.at_ 2 rfl
    have lB := hB.1
    have zB := hB.2.2
    have yB := gB.2.2
    have cB0 := hB.at_ 0 rfl
    have cB1 := hB.at_ 1 rfl
    have cB2 := hB.at_ 2 rfl
    have eB0 := gB.at_ 0 rfl
    have eB1 := gB.at_ 1 rfl
    have eB2 := gB.at_ 2 rfl
    clear hA hX hR hH hB gA gX gR gB
    go_wp2_with fail
    refine bodyPost_ret (v := .tuple #[.agg #[.int .i64 f, .int .i64 h, .int .i64 q], .int .i64 0, .int .i64 d4]) (by simp [results, Try.results42, go_sem, eR0, eR1, eR2]) rfl ⟨?_, (((((hx.setCell (p := ⟨w.heap.size + 1 + 1 + 1 + 1, 0, none⟩) (show w.heap.size ≤ w.heap.size + 1 + 1 + 1 + 1 by omega) _).setCell (p := ⟨w.heap.size + 1 + 1 + 1 + 1, 1, none⟩) (show w.heap.size ≤ w.heap.size + 1 + 1 + 1 + 1 by omega) _).setCell (p := ⟨w.heap.size + 1 + 1 + 1 + 1, 2, none⟩) (show w.heap.size ≤ w.heap.size + 1 + 1 + 1 + 1 by omega) _).setCell (p := ⟨w.heap.size + 1 + 1, 0, none⟩) (show w.heap.size ≤ w.heap.size + 1 + 1 by omega) _).setCell (p := ⟨w.heap.size + 1 + 1, 1, none⟩) (show w.heap.size ≤ w.heap.size + 1 + 1 by omega) _).setCell (p := ⟨w.heap.size + 1 + 1, 2, none⟩) (show w.heap.size ≤ w.heap.size + 1 + 1 by omega) _⟩
    skip
    rfl
set_option maxRecDepth 100000 in
set_option maxHeartbeats 1000000 in
theorem lchange_6 (f h q : Int) (s : St) (w : World) (hk : Ac.okA f h q = true) (hk9 : s.k < 256) (hl : -9223372036854775808 ≤ s.n) (hu : s.n ≤ 9223372036854775807) (hm : s.k % 9 = 6) :
    Calls Try.prog 42 #[acc f h q, stepV s] w (GivesStep w (Ac.step f h q s)) := by
  have hd : ∀ w' : World, Calls Try.prog 28 #[acc f h q, hold s.n s.u] w' (GivesAcc w' (Ac.did f h q s)) := by
    intro w'
    have e : Ac.did f h q s = Ac.cancel f h q s.n s.u := by unfold Ac.did; rw [hm]; rfl
    rw [e]
    exact cancel_any f h q s.n s.u w'
  have hkept := Ac.did_kept f h q s hk
  have hby : Ac.by_ s = 0 := by unfold Ac.by_; rw [hm]; rfl
  unfold Ac.step
  rw [hby] at hkept ⊢
  clear hkept hby hk
  generalize Ac.did f h q s = d at *
  obtain ⟨d1, d2, d3, d4⟩ := d
  unfold GivesAcc at hd
  unfold acc at hd
  unfold hold at hd
  unfold acc stepV
  have Hd := Lib.hid hd
  have q0 : ((s.k : Int) % 9 == 0) = false := by rw [beq_eq_false_iff_ne]; omega
  have q1 : ((s.k : Int) % 9 == 1) = false := by rw [beq_eq_false_iff_ne]; omega
  have q2 : ((s.k : Int) % 9 == 2) = false := by rw [beq_eq_false_iff_ne]; omega
  have q3 : ((s.k : Int) % 9 == 3) = false := by rw [beq_eq_false_iff_ne]; omega
  have q4 : ((s.k : Int) % 9 == 4) = false := by rw [beq_eq_false_iff_ne]; omega
  have q5 : ((s.k : Int) % 9 == 5) = false := by rw [beq_eq_false_iff_ne]; omega
  have q6 : ((s.k : Int) % 9 == 6) = true := by rw [beq_iff_eq]; omega
  have hk2 : (s.k : Int) < 256 := by omega
  clear hd hm
  by_cases h4 : d4 = 0
  · have z1 : (d4 != 0) = false := by rw [bne_eq_false_iff_eq]; exact h4
    rw [if_pos h4]
    have H4 := Lib.hid h4
    clear h4
    go_enter Try.func42, Try.ntmps42
    go_wp2_with fail
    refine (Hd.out _).mono ?_
    rintro e v1 ⟨rfl, hb⟩
    have hA : Holds v1 (w.heap.size) [.int .i64 (f), .int .i64 (h), .int .i64 (q)] := by simpa using (((((Holds.new _ #[.int .i64 (f), .int .i64 (h), .int .i64 (q)] 23).alloc _).alloc _).alloc _).alloc _).below hb
    have hX : Holds v1 (w.heap.size + 1) [.int .u8 (s.k : Int), .int .i64 (s.n), .int .i64 (s.u), .int .i64 (s.t)] := by simpa using ((((Holds.new _ #[.int .u8 (s.k : Int), .int .i64 (s.n), .int .i64 (s.u), .int .i64 (s.t)] 50).alloc _).alloc _).alloc _).below hb
    have hR : Holds v1 (w.heap.size + 1 + 1) [.int .i64 (0), .int .i64 (0), .int .i64 (0)] := by simpa using (((Holds.new _ #[.int .i64 (0), .int .i64 (0), .int .i64 (0)] 23).alloc _).alloc _).below hb
    have hH : Holds v1 (w.heap.size + 1 + 1 + 1) [.int .i64 (s.n), .int .i64 (s.u)] := by simpa using ((Holds.new _ #[.int .i64 (s.n), .int .i64 (s.u)] 25).alloc _).below hb
    have hB : Holds v1 (w.heap.size + 1 + 1 + 1 + 1) [.int .i64 (0), .int .i64 (0), .int .i64 (0)] := by simpa using (Holds.new _ #[.int .i64 (0), .int .i64 (0), .int .i64 (0)] 23).below hb
    have hx := below_next (show Below w.heap.size w _ from by repeat (first | exact Below.refl _ _ | refine Below.alloc ?_ (by simp <;> omega) _)) hb
    clear hb
    have gA := Holds.other3 (b := w.heap.size + 1 + 1 + 1 + 1) (x := .int .i64 (d1)) (y := .int .i64 (d2)) (z := .int .i64 (d3)) hA (by omega)
    have gX := Holds.other3 (b := w.heap.size + 1 + 1 + 1 + 1) (x := .int .i64 (d1)) (y := .int .i64 (d2)) (z := .int .i64 (d3)) hX (by omega)
    have gR := Holds.other3 (b := w.heap.size + 1 + 1 + 1 + 1) (x := .int .i64 (d1)) (y := .int .i64 (d2)) (z := .int .i64 (d3)) hR (by omega)
    have gB := Holds.set3 hB (.int .i64 (d1)) (.int .i64 (d2)) (.int .i64 (d3))
    have lA := hA.1
    have zA := hA.2.2
    have yA := gA.2.2
    have cA0 := hA.at_ 0 rfl
    have cA1 := hA.at_ 1 rfl
    have cA2 := hA.at_ 2 rfl
    have eA0 := gA.at_ 0 rfl
    have eA1 := gA.at_ 1 rfl
    have eA2 := gA.at_ 2 rfl
    have lX := hX.1
    have zX := hX.2.2
    have yX := gX.2.2
    have cX0 := hX.at_ 0 rfl
    have cX1 := hX.at_ 1 rfl
    have cX2 := hX.at_ 2 rfl
    have cX3 := hX.at_ 3 rfl
    have eX0 := gX.at_ 0 rfl
    have eX1 := gX.at_ 1 rfl
    have eX2 := gX.at_ 2 rfl
    have eX3 := gX.at_ 3 rfl
    have lR := hR.1
    have zR := hR.2.2
    have yR := gR.2.2
    have cR0 := hR.at_ 0 rfl
    have cR1 := hR.at_ 1 rfl
    have cR2 := hR.at_ 2 rfl
    have eR0 := gR.at_ 0 rfl
    have eR1 := gR.at_ 1 rfl
    have eR2 := gR.at_ 2 rfl
    have lB := hB.1
    have zB := hB.2.2
    have yB := gB.2.2
    have cB0 := hB.at_ 0 rfl
    have cB1 := hB.at_ 1 rfl
    have cB2 := hB.at_ 2 rfl
    have eB0 := gB.at_ 0 rfl
    have eB1 := gB.at_ 1 rfl
    have eB2 := gB.at_ 2 rfl
    clear hA hX hR hH hB gA gX gR gB
    go_wp2_with fail
    refine bodyPost_ret (v := .tuple #[.agg #[.int .i64 d1, .int .i64 d2, .int .i64 d3], .int .i64 (0), .int .i64 d4]) (by simp [results, Try.results42, go_sem, eR0, eR1, eR2]) rfl ⟨?_, (((((hx.setCell (p := ⟨w.heap.size + 1 + 1 + 1 + 1, 0, none⟩) (show w.heap.size ≤ w.heap.size + 1 + 1 + 1 + 1 by omega) _).setCell (p := ⟨w.heap.size + 1 + 1 + 1 + 1, 1, none⟩) (show w.heap.size ≤ w.heap.size + 1 + 1 + 1 + 1 by omega) _).setCell (p := ⟨w.heap.size + 1 + 1 + 1 + 1, 2, none⟩) (show w.heap.size ≤ w.heap.size + 1 + 1 + 1 + 1 by omega) _).setCell (p := ⟨w.heap.size + 1 + 1, 0, none⟩) (show w.heap.size ≤ w.heap.size + 1 + 1 by omega) _).setCell (p := ⟨w.heap.size + 1 + 1, 1, none⟩) (show w.heap.size ≤ w.heap.size + 1 + 1 by omega) _).setCell (p := ⟨w.heap.size + 1 + 1, 2, none⟩) (show w.heap.size ≤ w.heap.size + 1 + 1 by omega) _⟩
    rw [H4.out]
    rfl
  · have z1 : (d4 != 0) = true := by rw [bne_iff_ne]; exact h4
    rw [if_neg h4]
    clear h4
    go_enter Try.func42, Try.ntmps42
    go_wp2_with fail
    refine (Hd.out _).mono ?_
    rintro e v1 ⟨rfl, hb⟩
    have hA : Holds v1 (w.heap.size) [.int .i64 (f), .int .i64 (h), .int .i64 (q)] := by simpa using (((((Holds.new _ #[.int .i64 (f), .int .i64 (h), .int .i64 (q)] 23).alloc _).alloc _).alloc _).alloc _).below hb
    have hX : Holds v1 (w.heap.size + 1) [.int .u8 (s.k : Int), .int .i64 (s.n), .int .i64 (s.u), .int .i64 (s.t)] := by simpa using ((((Holds.new _ #[.int .u8 (s.k : Int), .int .i64 (s.n), .int .i64 (s.u), .int .i64 (s.t)] 50).alloc _).alloc _).alloc _).below hb
    have hR : Holds v1 (w.heap.size + 1 + 1) [.int .i64 (0), .int .i64 (0), .int .i64 (0)] := by simpa using (((Holds.new _ #[.int .i64 (0), .int .i64 (0), .int .i64 (0)] 23).alloc _).alloc _).below hb
    have hH : Holds v1 (w.heap.size + 1 + 1 + 1) [.int .i64 (s.n), .int .i64 (s.u)] := by simpa using ((Holds.new _ #[.int .i64 (s.n), .int .i64 (s.u)] 25).alloc _).below hb
    have hB : Holds v1 (w.heap.size + 1 + 1 + 1 + 1) [.int .i64 (0), .int .i64 (0), .int .i64 (0)] := by simpa using (Holds.new _ #[.int .i64 (0), .int .i64 (0), .int .i64 (0)] 23).below hb
    have hx := below_next (show Below w.heap.size w _ from by repeat (first | exact Below.refl _ _ | refine Below.alloc ?_ (by simp <;> omega) _)) hb
    clear hb
    have gA := Holds.other3 (b := w.heap.size + 1 + 1 + 1 + 1) (x := .int .i64 (d1)) (y := .int .i64 (d2)) (z := .int .i64 (d3)) hA (by omega)
    have gX := Holds.other3 (b := w.heap.size + 1 + 1 + 1 + 1) (x := .int .i64 (d1)) (y := .int .i64 (d2)) (z := .int .i64 (d3)) hX (by omega)
    have gR := Holds.other3 (b := w.heap.size + 1 + 1 + 1 + 1) (x := .int .i64 (d1)) (y := .int .i64 (d2)) (z := .int .i64 (d3)) hR (by omega)
    have gB := Holds.set3 hB (.int .i64 (d1)) (.int .i64 (d2)) (.int .i64 (d3))
    have lA := hA.1
    have zA := hA.2.2
    have yA := gA.2.2
    have cA0 := hA.at_ 0 rfl
    have cA1 := hA.at_ 1 rfl
    have cA2 := hA.at_ 2 rfl
    have eA0 := gA.at_ 0 rfl
    have eA1 := gA.at_ 1 rfl
    have eA2 := gA.at_ 2 rfl
    have lX := hX.1
    have zX := hX.2.2
    have yX := gX.2.2
    have cX0 := hX.at_ 0 rfl
    have cX1 := hX.at_ 1 rfl
    have cX2 := hX.at_ 2 rfl
    have cX3 := hX.at_ 3 rfl
    have eX0 := gX.at_ 0 rfl
    have eX1 := gX.at_ 1 rfl
    have eX2 := gX.at_ 2 rfl
    have eX3 := gX.at_ 3 rfl
    have lR := hR.1
    have zR := hR.2.2
    have yR := gR.2.2
    have cR0 := hR.at_ 0 rfl
    have cR1 := hR.at_ 1 rfl
    have cR2 := hR.at_ 2 rfl
    have eR0 := gR.at_ 0 rfl
    have eR1 := gR.at_ 1 rfl
    have eR2 := gR.at_ 2 rfl
    have lB := hB.1
    have zB := hB.2.2
    have yB := gB.2.2
    have cB0 := hB.at_ 0 rfl
    have cB1 := hB.at_ 1 rfl
    have cB2 := hB.at_ 2 rfl
    have eB0 := gB.at_ 0 rfl
    have eB1 := gB.at_ 1 rfl
    have eB2 := gB.at_ 2 rfl
    clear hA hX hR hH hB gA gX gR gB
    go_wp2_with fail
    refine bodyPost_ret (v := .tuple #[.agg #[.int .i64 f, .int .i64 h, .int .i64 q], .int .i64 0, .int .i64 d4]) (by simp [results, Try.results42, go_sem, eR0, eR1, eR2]) rfl ⟨?_, (((((hx.setCell (p := ⟨w.heap.size + 1 + 1 + 1 + 1, 0, none⟩) (show w.heap.size ≤ w.heap.size + 1 + 1 + 1 + 1 by omega) _).setCell (p := ⟨w.heap.size + 1 + 1 + 1 + 1, 1, none⟩) (show w.heap.size ≤ w.heap.size + 1 + 1 + 1 + 1 by omega) _).setCell (p := ⟨w.heap.size + 1 + 1 + 1 + 1, 2, none⟩) (show w.heap.size ≤ w.heap.size + 1 + 1 + 1 + 1 by omega) _).setCell (p := ⟨w.heap.size + 1 + 1, 0, none⟩) (show w.heap.size ≤ w.heap.size + 1 + 1 by omega) _).setCell (p := ⟨w.heap.size + 1 + 1, 1, none⟩) (show w.heap.size ≤ w.heap.size + 1 + 1 by omega) _).setCell (p := ⟨w.heap.size + 1 + 1, 2, none⟩) (show w.heap.size ≤ w.heap.size + 1 + 1 by omega) _⟩
    skip
    rfl
set_option maxRecDepth 100000 in
set_option maxHeartbeats 1000000 in
theorem lchange_7 (f h q : Int) (s : St) (w : World) (hk : Ac.okA f h q = true) (hk9 : s.k < 256) (hl : -9223372036854775808 ≤ s.n) (hu : s.n ≤ 9223372036854775807) (hm : s.k % 9 = 7) :
    Calls Try.prog 42 #[acc f h q, stepV s] w (GivesStep w (Ac.step f h q s)) := by
  have hd : ∀ w' : World, Calls Try.prog 30 #[acc f h q, hold s.n s.u, .int .i64 s.t] w' (GivesAcc w' (Ac.did f h q s)) := by
    intro w'
    have e : Ac.did f h q s = Ac.confirm f h q s.n s.u s.t := by unfold Ac.did; rw [hm]; rfl
    rw [e]
    exact confirm_any f h q s.n s.u s.t w'
  have hkept := Ac.did_kept f h q s hk
  have hby : Ac.by_ s = -s.n := by unfold Ac.by_; rw [hm]; rfl
  unfold Ac.step
  rw [hby] at hkept ⊢
  have hneg : (Ac.did f h q s).2.2.2 = 0 → -1125899906842624 ≤ s.n ∧ s.n ≤ 1125899906842624 := fun he => by obtain ⟨h1, h2, _⟩ := hkept he; have h3 := Ac.okA_iff.1 h1; have h4 := Ac.okA_iff.1 hk; omega
  clear hkept hby hk
  generalize Ac.did f h q s = d at *
  obtain ⟨d1, d2, d3, d4⟩ := d
  unfold GivesAcc at hd
  unfold acc at hd
  unfold hold at hd
  unfold acc stepV
  have Hd := Lib.hid hd
  have q0 : ((s.k : Int) % 9 == 0) = false := by rw [beq_eq_false_iff_ne]; omega
  have q1 : ((s.k : Int) % 9 == 1) = false := by rw [beq_eq_false_iff_ne]; omega
  have q2 : ((s.k : Int) % 9 == 2) = false := by rw [beq_eq_false_iff_ne]; omega
  have q3 : ((s.k : Int) % 9 == 3) = false := by rw [beq_eq_false_iff_ne]; omega
  have q4 : ((s.k : Int) % 9 == 4) = false := by rw [beq_eq_false_iff_ne]; omega
  have q5 : ((s.k : Int) % 9 == 5) = false := by rw [beq_eq_false_iff_ne]; omega
  have q6 : ((s.k : Int) % 9 == 6) = false := by rw [beq_eq_false_iff_ne]; omega
  have q7 : ((s.k : Int) % 9 == 7) = true := by rw [beq_iff_eq]; omega
  have hk2 : (s.k : Int) < 256 := by omega
  clear hd hm
  by_cases h4 : d4 = 0
  · have z1 : (d4 != 0) = false := by rw [bne_eq_false_iff_eq]; exact h4
    rw [if_pos h4]
    obtain ⟨hn1, hn2⟩ := hneg h4
    clear hneg
    have hw : wrap64 (-s.n) = -s.n := by unfold wrap64; omega
    have hw2 : IntKind.i64.wrap (-s.n) = -s.n := by rw [IntKind.wrap_i64]; omega
    have H4 := Lib.hid h4
    clear h4
    go_enter Try.func42, Try.ntmps42
    go_wp2_with fail
    refine (Hd.out _).mono ?_
    rintro e v1 ⟨rfl, hb⟩
    have hA : Holds v1 (w.heap.size) [.int .i64 (f), .int .i64 (h), .int .i64 (q)] := by simpa using (((((Holds.new _ #[.int .i64 (f), .int .i64 (h), .int .i64 (q)] 23).alloc _).alloc _).alloc _).alloc _).below hb
    have hX : Holds v1 (w.heap.size + 1) [.int .u8 (s.k : Int), .int .i64 (s.n), .int .i64 (s.u), .int .i64 (s.t)] := by simpa using ((((Holds.new _ #[.int .u8 (s.k : Int), .int .i64 (s.n), .int .i64 (s.u), .int .i64 (s.t)] 50).alloc _).alloc _).alloc _).below hb
    have hR : Holds v1 (w.heap.size + 1 + 1) [.int .i64 (0), .int .i64 (0), .int .i64 (0)] := by simpa using (((Holds.new _ #[.int .i64 (0), .int .i64 (0), .int .i64 (0)] 23).alloc _).alloc _).below hb
    have hH : Holds v1 (w.heap.size + 1 + 1 + 1) [.int .i64 (s.n), .int .i64 (s.u)] := by simpa using ((Holds.new _ #[.int .i64 (s.n), .int .i64 (s.u)] 25).alloc _).below hb
    have hB : Holds v1 (w.heap.size + 1 + 1 + 1 + 1) [.int .i64 (0), .int .i64 (0), .int .i64 (0)] := by simpa using (Holds.new _ #[.int .i64 (0), .int .i64 (0), .int .i64 (0)] 23).below hb
    have hx := below_next (show Below w.heap.size w _ from by repeat (first | exact Below.refl _ _ | refine Below.alloc ?_ (by simp <;> omega) _)) hb
    clear hb
    have gA := Holds.other3 (b := w.heap.size + 1 + 1 + 1 + 1) (x := .int .i64 (d1)) (y := .int .i64 (d2)) (z := .int .i64 (d3)) hA (by omega)
    have gX := Holds.other3 (b := w.heap.size + 1 + 1 + 1 + 1) (x := .int .i64 (d1)) (y := .int .i64 (d2)) (z := .int .i64 (d3)) hX (by omega)
    have gR := Holds.other3 (b := w.heap.size + 1 + 1 + 1 + 1) (x := .int .i64 (d1)) (y := .int .i64 (d2)) (z := .int .i64 (d3)) hR (by omega)
    have gB := Holds.set3 hB (.int .i64 (d1)) (.int .i64 (d2)) (.int .i64 (d3))
    have lA := hA.1
    have zA := hA.2.2
    have yA := gA.2.2
    have cA0 := hA.at_ 0 rfl
    have cA1 := hA.at_ 1 rfl
    have cA2 := hA.at_ 2 rfl
    have eA0 := gA.at_ 0 rfl
    have eA1 := gA.at_ 1 rfl
    have eA2 := gA.at_ 2 rfl
    have lX := hX.1
    have zX := hX.2.2
    have yX := gX.2.2
    have cX0 := hX.at_ 0 rfl
    have cX1 := hX.at_ 1 rfl
    have cX2 := hX.at_ 2 rfl
    have cX3 := hX.at_ 3 rfl
    have eX0 := gX.at_ 0 rfl
    have eX1 := gX.at_ 1 rfl
    have eX2 := gX.at_ 2 rfl
    have eX3 := gX.at_ 3 rfl
    have lR := hR.1
    have zR := hR.2.2
    have yR := gR.2.2
    have cR0 := hR.at_ 0 rfl
    have cR1 := hR.at_ 1 rfl
    have cR2 := hR.at_ 2 rfl
    have eR0 := gR.at_ 0 rfl
    have eR1 := gR.at_ 1 rfl
    have eR2 := gR.at_ 2 rfl
    have lB := hB.1
    have zB := hB.2.2
    have yB := gB.2.2
    have cB0 := hB.at_ 0 rfl
    have cB1 := hB.at_ 1 rfl
    have cB2 := hB.at_ 2 rfl
    have eB0 := gB.at_ 0 rfl
    have eB1 := gB.at_ 1 rfl
    have eB2 := gB.at_ 2 rfl
    clear hA hX hR hH hB gA gX gR gB
    go_wp2_with fail
    go_region
    go_wp2_with fail
    refine bodyPost_ret (v := .tuple #[.agg #[.int .i64 d1, .int .i64 d2, .int .i64 d3], .int .i64 (-s.n), .int .i64 d4]) (by simp [results, Try.results42, go_sem, eR0, eR1, eR2]) rfl ⟨?_, ((((((hx.setCell (p := ⟨w.heap.size + 1 + 1 + 1 + 1, 0, none⟩) (show w.heap.size ≤ w.heap.size + 1 + 1 + 1 + 1 by omega) _).setCell (p := ⟨w.heap.size + 1 + 1 + 1 + 1, 1, none⟩) (show w.heap.size ≤ w.heap.size + 1 + 1 + 1 + 1 by omega) _).setCell (p := ⟨w.heap.size + 1 + 1 + 1 + 1, 2, none⟩) (show w.heap.size ≤ w.heap.size + 1 + 1 + 1 + 1 by omega) _).setCell (p := ⟨w.heap.size + 1 + 1, 0, none⟩) (show w.heap.size ≤ w.heap.size + 1 + 1 by omega) _).setCell (p := ⟨w.heap.size + 1 + 1, 1, none⟩) (show w.heap.size ≤ w.heap.size + 1 + 1 by omega) _).setCell (p := ⟨w.heap.size + 1 + 1, 2, none⟩) (show w.heap.size ≤ w.heap.size + 1 + 1 by omega) _).drew⟩
    rw [H4.out]
    rfl
  · have z1 : (d4 != 0) = true := by rw [bne_iff_ne]; exact h4
    rw [if_neg h4]
    clear hneg
    clear h4
    go_enter Try.func42, Try.ntmps42
    go_wp2_with fail
    refine (Hd.out _).mono ?_
    rintro e v1 ⟨rfl, hb⟩
    have hA : Holds v1 (w.heap.size) [.int .i64 (f), .int .i64 (h), .int .i64 (q)] := by simpa using (((((Holds.new _ #[.int .i64 (f), .int .i64 (h), .int .i64 (q)] 23).alloc _).alloc _).alloc _).alloc _).below hb
    have hX : Holds v1 (w.heap.size + 1) [.int .u8 (s.k : Int), .int .i64 (s.n), .int .i64 (s.u), .int .i64 (s.t)] := by simpa using ((((Holds.new _ #[.int .u8 (s.k : Int), .int .i64 (s.n), .int .i64 (s.u), .int .i64 (s.t)] 50).alloc _).alloc _).alloc _).below hb
    have hR : Holds v1 (w.heap.size + 1 + 1) [.int .i64 (0), .int .i64 (0), .int .i64 (0)] := by simpa using (((Holds.new _ #[.int .i64 (0), .int .i64 (0), .int .i64 (0)] 23).alloc _).alloc _).below hb
    have hH : Holds v1 (w.heap.size + 1 + 1 + 1) [.int .i64 (s.n), .int .i64 (s.u)] := by simpa using ((Holds.new _ #[.int .i64 (s.n), .int .i64 (s.u)] 25).alloc _).below hb
    have hB : Holds v1 (w.heap.size + 1 + 1 + 1 + 1) [.int .i64 (0), .int .i64 (0), .int .i64 (0)] := by simpa using (Holds.new _ #[.int .i64 (0), .int .i64 (0), .int .i64 (0)] 23).below hb
    have hx := below_next (show Below w.heap.size w _ from by repeat (first | exact Below.refl _ _ | refine Below.alloc ?_ (by simp <;> omega) _)) hb
    clear hb
    have gA := Holds.other3 (b := w.heap.size + 1 + 1 + 1 + 1) (x := .int .i64 (d1)) (y := .int .i64 (d2)) (z := .int .i64 (d3)) hA (by omega)
    have gX := Holds.other3 (b := w.heap.size + 1 + 1 + 1 + 1) (x := .int .i64 (d1)) (y := .int .i64 (d2)) (z := .int .i64 (d3)) hX (by omega)
    have gR := Holds.other3 (b := w.heap.size + 1 + 1 + 1 + 1) (x := .int .i64 (d1)) (y := .int .i64 (d2)) (z := .int .i64 (d3)) hR (by omega)
    have gB := Holds.set3 hB (.int .i64 (d1)) (.int .i64 (d2)) (.int .i64 (d3))
    have lA := hA.1
    have zA := hA.2.2
    have yA := gA.2.2
    have cA0 := hA.at_ 0 rfl
    have cA1 := hA.at_ 1 rfl
    have cA2 := hA.at_ 2 rfl
    have eA0 := gA.at_ 0 rfl
    have eA1 := gA.at_ 1 rfl
    have eA2 := gA.at_ 2 rfl
    have lX := hX.1
    have zX := hX.2.2
    have yX := gX.2.2
    have cX0 := hX.at_ 0 rfl
    have cX1 := hX.at_ 1 rfl
    have cX2 := hX.at_ 2 rfl
    have cX3 := hX.at_ 3 rfl
    have eX0 := gX.at_ 0 rfl
    have eX1 := gX.at_ 1 rfl
    have eX2 := gX.at_ 2 rfl
    have eX3 := gX.at_ 3 rfl
    have lR := hR.1
    have zR := hR.2.2
    have yR := gR.2.2
    have cR0 := hR.at_ 0 rfl
    have cR1 := hR.at_ 1 rfl
    have cR2 := hR.at_ 2 rfl
    have eR0 := gR.at_ 0 rfl
    have eR1 := gR.at_ 1 rfl
    have eR2 := gR.at_ 2 rfl
    have lB := hB.1
    have zB := hB.2.2
    have yB := gB.2.2
    have cB0 := hB.at_ 0 rfl
    have cB1 := hB.at_ 1 rfl
    have cB2 := hB.at_ 2 rfl
    have eB0 := gB.at_ 0 rfl
    have eB1 := gB.at_ 1 rfl
    have eB2 := gB.at_ 2 rfl
    clear hA hX hR hH hB gA gX gR gB
    go_wp2_with fail
    refine bodyPost_ret (v := .tuple #[.agg #[.int .i64 f, .int .i64 h, .int .i64 q], .int .i64 0, .int .i64 d4]) (by simp [results, Try.results42, go_sem, eR0, eR1, eR2]) rfl ⟨?_, (((((hx.setCell (p := ⟨w.heap.size + 1 + 1 + 1 + 1, 0, none⟩) (show w.heap.size ≤ w.heap.size + 1 + 1 + 1 + 1 by omega) _).setCell (p := ⟨w.heap.size + 1 + 1 + 1 + 1, 1, none⟩) (show w.heap.size ≤ w.heap.size + 1 + 1 + 1 + 1 by omega) _).setCell (p := ⟨w.heap.size + 1 + 1 + 1 + 1, 2, none⟩) (show w.heap.size ≤ w.heap.size + 1 + 1 + 1 + 1 by omega) _).setCell (p := ⟨w.heap.size + 1 + 1, 0, none⟩) (show w.heap.size ≤ w.heap.size + 1 + 1 by omega) _).setCell (p := ⟨w.heap.size + 1 + 1, 1, none⟩) (show w.heap.size ≤ w.heap.size + 1 + 1 by omega) _).setCell (p := ⟨w.heap.size + 1 + 1, 2, none⟩) (show w.heap.size ≤ w.heap.size + 1 + 1 by omega) _⟩
    skip
    rfl
set_option maxRecDepth 100000 in
set_option maxHeartbeats 1000000 in
theorem lchange_8 (f h q : Int) (s : St) (w : World) (hk : Ac.okA f h q = true) (hk9 : s.k < 256) (hl : -9223372036854775808 ≤ s.n) (hu : s.n ≤ 9223372036854775807) (hm : s.k % 9 = 8) :
    Calls Try.prog 42 #[acc f h q, stepV s] w (GivesStep w (Ac.step f h q s)) := by
  have hd : ∀ w' : World, Calls Try.prog 32 #[acc f h q, hold s.n s.u, .int .i64 s.t] w' (GivesAcc w' (Ac.did f h q s)) := by
    intro w'
    have e : Ac.did f h q s = Ac.expire f h q s.n s.u s.t := by unfold Ac.did; rw [hm]; rfl
    rw [e]
    exact expire_any f h q s.n s.u s.t w'
  have hkept := Ac.did_kept f h q s hk
  have hby : Ac.by_ s = 0 := by unfold Ac.by_; rw [hm]; rfl
  unfold Ac.step
  rw [hby] at hkept ⊢
  clear hkept hby hk
  generalize Ac.did f h q s = d at *
  obtain ⟨d1, d2, d3, d4⟩ := d
  unfold GivesAcc at hd
  unfold acc at hd
  unfold hold at hd
  unfold acc stepV
  have Hd := Lib.hid hd
  have q0 : ((s.k : Int) % 9 == 0) = false := by rw [beq_eq_false_iff_ne]; omega
  have q1 : ((s.k : Int) % 9 == 1) = false := by rw [beq_eq_false_iff_ne]; omega
  have q2 : ((s.k : Int) % 9 == 2) = false := by rw [beq_eq_false_iff_ne]; omega
  have q3 : ((s.k : Int) % 9 == 3) = false := by rw [beq_eq_false_iff_ne]; omega
  have q4 : ((s.k : Int) % 9 == 4) = false := by rw [beq_eq_false_iff_ne]; omega
  have q5 : ((s.k : Int) % 9 == 5) = false := by rw [beq_eq_false_iff_ne]; omega
  have q6 : ((s.k : Int) % 9 == 6) = false := by rw [beq_eq_false_iff_ne]; omega
  have q7 : ((s.k : Int) % 9 == 7) = false := by rw [beq_eq_false_iff_ne]; omega
  have q8 : ((s.k : Int) % 9 == 8) = true := by rw [beq_iff_eq]; omega
  have hk2 : (s.k : Int) < 256 := by omega
  clear hd hm
  by_cases h4 : d4 = 0
  · have z1 : (d4 != 0) = false := by rw [bne_eq_false_iff_eq]; exact h4
    rw [if_pos h4]
    have H4 := Lib.hid h4
    clear h4
    go_enter Try.func42, Try.ntmps42
    go_wp2_with fail
    refine (Hd.out _).mono ?_
    rintro e v1 ⟨rfl, hb⟩
    have hA : Holds v1 (w.heap.size) [.int .i64 (f), .int .i64 (h), .int .i64 (q)] := by simpa using (((((Holds.new _ #[.int .i64 (f), .int .i64 (h), .int .i64 (q)] 23).alloc _).alloc _).alloc _).alloc _).below hb
    have hX : Holds v1 (w.heap.size + 1) [.int .u8 (s.k : Int), .int .i64 (s.n), .int .i64 (s.u), .int .i64 (s.t)] := by simpa using ((((Holds.new _ #[.int .u8 (s.k : Int), .int .i64 (s.n), .int .i64 (s.u), .int .i64 (s.t)] 50).alloc _).alloc _).alloc _).below hb
    have hR : Holds v1 (w.heap.size + 1 + 1) [.int .i64 (0), .int .i64 (0), .int .i64 (0)] := by simpa using (((Holds.new _ #[.int .i64 (0), .int .i64 (0), .int .i64 (0)] 23).alloc _).alloc _).below hb
    have hH : Holds v1 (w.heap.size + 1 + 1 + 1) [.int .i64 (s.n), .int .i64 (s.u)] := by simpa using ((Holds.new _ #[.int .i64 (s.n), .int .i64 (s.u)] 25).alloc _).below hb
    have hB : Holds v1 (w.heap.size + 1 + 1 + 1 + 1) [.int .i64 (0), .int .i64 (0), .int .i64 (0)] := by simpa using (Holds.new _ #[.int .i64 (0), .int .i64 (0), .int .i64 (0)] 23).below hb
    have hx := below_next (show Below w.heap.size w _ from by repeat (first | exact Below.refl _ _ | refine Below.alloc ?_ (by simp <;> omega) _)) hb
    clear hb
    have gA := Holds.other3 (b := w.heap.size + 1 + 1 + 1 + 1) (x := .int .i64 (d1)) (y := .int .i64 (d2)) (z := .int .i64 (d3)) hA (by omega)
    have gX := Holds.other3 (b := w.heap.size + 1 + 1 + 1 + 1) (x := .int .i64 (d1)) (y := .int .i64 (d2)) (z := .int .i64 (d3)) hX (by omega)
    have gR := Holds.other3 (b := w.heap.size + 1 + 1 + 1 + 1) (x := .int .i64 (d1)) (y := .int .i64 (d2)) (z := .int .i64 (d3)) hR (by omega)
    have gB := Holds.set3 hB (.int .i64 (d1)) (.int .i64 (d2)) (.int .i64 (d3))
    have lA := hA.1
    have zA := hA.2.2
    have yA := gA.2.2
    have cA0 := hA.at_ 0 rfl
    have cA1 := hA.at_ 1 rfl
    have cA2 := hA.at_ 2 rfl
    have eA0 := gA.at_ 0 rfl
    have eA1 := gA.at_ 1 rfl
    have eA2 := gA.at_ 2 rfl
    have lX := hX.1
    have zX := hX.2.2
    have yX := gX.2.2
    have cX0 := hX.at_ 0 rfl
    have cX1 := hX.at_ 1 rfl
    have cX2 := hX.at_ 2 rfl
    have cX3 := hX.at_ 3 rfl
    have eX0 := gX.at_ 0 rfl
    have eX1 := gX.at_ 1 rfl
    have eX2 := gX.at_ 2 rfl
    have eX3 := gX.at_ 3 rfl
    have lR := hR.1
    have zR := hR.2.2
    have yR := gR.2.2
    have cR0 := hR.at_ 0 rfl
    have cR1 := hR.at_ 1 rfl
    have cR2 := hR.at_ 2 rfl
    have eR0 := gR.at_ 0 rfl
    have eR1 := gR.at_ 1 rfl
    have eR2 := gR.at_ 2 rfl
    have lB := hB.1
    have zB := hB.2.2
    have yB := gB.2.2
    have cB0 := hB.at_ 0 rfl
    have cB1 := hB.at_ 1 rfl
    have cB2 := hB.at_ 2 rfl
    have eB0 := gB.at_ 0 rfl
    have eB1 := gB.at_ 1 rfl
    have eB2 := gB.at_ 2 rfl
    clear hA hX hR hH hB gA gX gR gB
    go_wp2_with fail
    refine bodyPost_ret (v := .tuple #[.agg #[.int .i64 d1, .int .i64 d2, .int .i64 d3], .int .i64 (0), .int .i64 d4]) (by simp [results, Try.results42, go_sem, eR0, eR1, eR2]) rfl ⟨?_, (((((hx.setCell (p := ⟨w.heap.size + 1 + 1 + 1 + 1, 0, none⟩) (show w.heap.size ≤ w.heap.size + 1 + 1 + 1 + 1 by omega) _).setCell (p := ⟨w.heap.size + 1 + 1 + 1 + 1, 1, none⟩) (show w.heap.size ≤ w.heap.size + 1 + 1 + 1 + 1 by omega) _).setCell (p := ⟨w.heap.size + 1 + 1 + 1 + 1, 2, none⟩) (show w.heap.size ≤ w.heap.size + 1 + 1 + 1 + 1 by omega) _).setCell (p := ⟨w.heap.size + 1 + 1, 0, none⟩) (show w.heap.size ≤ w.heap.size + 1 + 1 by omega) _).setCell (p := ⟨w.heap.size + 1 + 1, 1, none⟩) (show w.heap.size ≤ w.heap.size + 1 + 1 by omega) _).setCell (p := ⟨w.heap.size + 1 + 1, 2, none⟩) (show w.heap.size ≤ w.heap.size + 1 + 1 by omega) _⟩
    rw [H4.out]
    rfl
  · have z1 : (d4 != 0) = true := by rw [bne_iff_ne]; exact h4
    rw [if_neg h4]
    clear h4
    go_enter Try.func42, Try.ntmps42
    go_wp2_with fail
    refine (Hd.out _).mono ?_
    rintro e v1 ⟨rfl, hb⟩
    have hA : Holds v1 (w.heap.size) [.int .i64 (f), .int .i64 (h), .int .i64 (q)] := by simpa using (((((Holds.new _ #[.int .i64 (f), .int .i64 (h), .int .i64 (q)] 23).alloc _).alloc _).alloc _).alloc _).below hb
    have hX : Holds v1 (w.heap.size + 1) [.int .u8 (s.k : Int), .int .i64 (s.n), .int .i64 (s.u), .int .i64 (s.t)] := by simpa using ((((Holds.new _ #[.int .u8 (s.k : Int), .int .i64 (s.n), .int .i64 (s.u), .int .i64 (s.t)] 50).alloc _).alloc _).alloc _).below hb
    have hR : Holds v1 (w.heap.size + 1 + 1) [.int .i64 (0), .int .i64 (0), .int .i64 (0)] := by simpa using (((Holds.new _ #[.int .i64 (0), .int .i64 (0), .int .i64 (0)] 23).alloc _).alloc _).below hb
    have hH : Holds v1 (w.heap.size + 1 + 1 + 1) [.int .i64 (s.n), .int .i64 (s.u)] := by simpa using ((Holds.new _ #[.int .i64 (s.n), .int .i64 (s.u)] 25).alloc _).below hb
    have hB : Holds v1 (w.heap.size + 1 + 1 + 1 + 1) [.int .i64 (0), .int .i64 (0), .int .i64 (0)] := by simpa using (Holds.new _ #[.int .i64 (0), .int .i64 (0), .int .i64 (0)] 23).below hb
    have hx := below_next (show Below w.heap.size w _ from by repeat (first | exact Below.refl _ _ | refine Below.alloc ?_ (by simp <;> omega) _)) hb
    clear hb
    have gA := Holds.other3 (b := w.heap.size + 1 + 1 + 1 + 1) (x := .int .i64 (d1)) (y := .int .i64 (d2)) (z := .int .i64 (d3)) hA (by omega)
    have gX := Holds.other3 (b := w.heap.size + 1 + 1 + 1 + 1) (x := .int .i64 (d1)) (y := .int .i64 (d2)) (z := .int .i64 (d3)) hX (by omega)
    have gR := Holds.other3 (b := w.heap.size + 1 + 1 + 1 + 1) (x := .int .i64 (d1)) (y := .int .i64 (d2)) (z := .int .i64 (d3)) hR (by omega)
    have gB := Holds.set3 hB (.int .i64 (d1)) (.int .i64 (d2)) (.int .i64 (d3))
    have lA := hA.1
    have zA := hA.2.2
    have yA := gA.2.2
    have cA0 := hA.at_ 0 rfl
    have cA1 := hA.at_ 1 rfl
    have cA2 := hA.at_ 2 rfl
    have eA0 := gA.at_ 0 rfl
    have eA1 := gA.at_ 1 rfl
    have eA2 := gA.at_ 2 rfl
    have lX := hX.1
    have zX := hX.2.2
    have yX := gX.2.2
    have cX0 := hX.at_ 0 rfl
    have cX1 := hX.at_ 1 rfl
    have cX2 := hX.at_ 2 rfl
    have cX3 := hX.at_ 3 rfl
    have eX0 := gX.at_ 0 rfl
    have eX1 := gX.at_ 1 rfl
    have eX2 := gX.at_ 2 rfl
    have eX3 := gX.at_ 3 rfl
    have lR := hR.1
    have zR := hR.2.2
    have yR := gR.2.2
    have cR0 := hR.at_ 0 rfl
    have cR1 := hR.at_ 1 rfl
    have cR2 := hR.at_ 2 rfl
    have eR0 := gR.at_ 0 rfl
    have eR1 := gR.at_ 1 rfl
    have eR2 := gR.at_ 2 rfl
    have lB := hB.1
    have zB := hB.2.2
    have yB := gB.2.2
    have cB0 := hB.at_ 0 rfl
    have cB1 := hB.at_ 1 rfl
    have cB2 := hB.at_ 2 rfl
    have eB0 := gB.at_ 0 rfl
    have eB1 := gB.at_ 1 rfl
    have eB2 := gB.at_ 2 rfl
    clear hA hX hR hH hB gA gX gR gB
    go_wp2_with fail
    refine bodyPost_ret (v := .tuple #[.agg #[.int .i64 f, .int .i64 h, .int .i64 q], .int .i64 0, .int .i64 d4]) (by simp [results, Try.results42, go_sem, eR0, eR1, eR2]) rfl ⟨?_, (((((hx.setCell (p := ⟨w.heap.size + 1 + 1 + 1 + 1, 0, none⟩) (show w.heap.size ≤ w.heap.size + 1 + 1 + 1 + 1 by omega) _).setCell (p := ⟨w.heap.size + 1 + 1 + 1 + 1, 1, none⟩) (show w.heap.size ≤ w.heap.size + 1 + 1 + 1 + 1 by omega) _).setCell (p := ⟨w.heap.size + 1 + 1 + 1 + 1, 2, none⟩) (show w.heap.size ≤ w.heap.size + 1 + 1 + 1 + 1 by omega) _).setCell (p := ⟨w.heap.size + 1 + 1, 0, none⟩) (show w.heap.size ≤ w.heap.size + 1 + 1 by omega) _).setCell (p := ⟨w.heap.size + 1 + 1, 1, none⟩) (show w.heap.size ≤ w.heap.size + 1 + 1 by omega) _).setCell (p := ⟨w.heap.size + 1 + 1, 2, none⟩) (show w.heap.size ≤ w.heap.size + 1 + 1 by omega) _⟩
    skip
    rfl
theorem lchange_any (f h q : Int) (s : St) (w : World) (hk : Ac.okA f h q = true) (hk9 : s.k < 256) (hl : -9223372036854775808 ≤ s.n) (hu : s.n ≤ 9223372036854775807) :
    Calls Try.prog 42 #[acc f h q, stepV s] w (GivesStep w (Ac.step f h q s)) := by
  have hm : s.k % 9 = 0 ∨ s.k % 9 = 1 ∨ s.k % 9 = 2 ∨ s.k % 9 = 3 ∨ s.k % 9 = 4 ∨ s.k % 9 = 5 ∨ s.k % 9 = 6 ∨ s.k % 9 = 7 ∨ s.k % 9 = 8 := by omega
  rcases hm with hm | hm | hm | hm | hm | hm | hm | hm | hm
  · exact lchange_0 f h q s w hk hk9 hl hu hm
  · exact lchange_1 f h q s w hk hk9 hl hu hm
  · exact lchange_2 f h q s w hk hk9 hl hu hm
  · exact lchange_3 f h q s w hk hk9 hl hu hm
  · exact lchange_4 f h q s w hk hk9 hl hu hm
  · exact lchange_5 f h q s w hk hk9 hl hu hm
  · exact lchange_6 f h q s w hk hk9 hl hu hm
  · exact lchange_7 f h q s w hk hk9 hl hu hm
  · exact lchange_8 f h q s w hk hk9 hl hu hm
end Go.Proofs.Ytionaciiaahacaa
