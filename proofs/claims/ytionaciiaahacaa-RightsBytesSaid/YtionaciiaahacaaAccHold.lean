/- What rights' Reserve, Cancel and the document's return. -/
import Derived.Test.YtionaciiaahacaaAccChg
namespace Go.Proofs.Ytionaciiaahacaa
open Go.RowKit
set_option linter.unusedVariables false
namespace Ac
def reserve (f h q n u : Int) : Int × Int × Int × Int :=
  if (okA f h q && okH n u) = true then (if f < n then (0, 0, 0, 201) else if q < h + n then (0, 0, 0, 205) else (f - n, h + n, q, 0)) else (0, 0, 0, 206)
def cancel (f h q n u : Int) : Int × Int × Int × Int :=
  if (okA f h q && okH n u) = true then (if h < n then (0, 0, 0, 201) else (f + n, h - n, q, 0)) else (0, 0, 0, 206)
def confirm (f h q n u t : Int) : Int × Int × Int × Int :=
  if (okA f h q && okH n u) = true then (if 0 ≤ t ∧ t ≤ 1099511627776 then (if u < t then (0, 0, 0, 204) else if h < n then (0, 0, 0, 201) else (f, h - n, q, 0)) else (0, 0, 0, 1)) else (0, 0, 0, 206)
def expire (f h q n u t : Int) : Int × Int × Int × Int :=
  if (okA f h q && okH n u) = true then (if 0 ≤ t ∧ t ≤ 1099511627776 then (if t ≤ u then (f, h, q, 0) else cancel f h q n u) else (0, 0, 0, 1)) else (0, 0, 0, 206)
end Ac
theorem hold_yes {n u : Int} (hk : Ac.okH n u = true) (w : World) : Calls Try.prog 13 #[hold n u] w fun e w' => e = .returned (.int .i64 0) ∧ w.alloc (.cells #[.int .i64 n, .int .i64 u] 25) = w' := by
  have := checkhold_any n u w
  rwa [show chkH n u = 0 by unfold chkH; rw [hk]; rfl] at this
theorem hold_no {n u : Int} (hk : Ac.okH n u = false) (w : World) : Calls Try.prog 13 #[hold n u] w fun e w' => e = .returned (.int .i64 206) ∧ w.alloc (.cells #[.int .i64 n, .int .i64 u] 25) = w' := by
  have := checkhold_any n u w
  rwa [show chkH n u = 206 by unfold chkH; rw [hk]; rfl] at this
theorem rhold_yes {n u : Int} (hk : Ac.okH n u = true) (w : World) : Calls Try.prog 14 #[hold n u] w fun e w' => e = .returned (.int .i64 0) ∧ w.alloc (.cells #[.int .i64 n, .int .i64 u] 25) = w' := by
  have := rcheckhold_any n u w
  rwa [show chkH n u = 0 by unfold chkH; rw [hk]; rfl] at this
theorem rhold_no {n u : Int} (hk : Ac.okH n u = false) (w : World) : Calls Try.prog 14 #[hold n u] w fun e w' => e = .returned (.int .i64 206) ∧ w.alloc (.cells #[.int .i64 n, .int .i64 u] 25) = w' := by
  have := rcheckhold_any n u w
  rwa [show chkH n u = 206 by unfold chkH; rw [hk]; rfl] at this
set_option maxRecDepth 100000 in
theorem reserve_any (f h q n u : Int) (w : World)  :
    Calls Try.prog 26 #[acc f h q, hold n u] w (GivesAcc w (Ac.reserve f h q n u)) := by
  rcases hk : Ac.okA f h q with _ | _
  · skip
    have e : Ac.reserve f h q n u = (0, 0, 0, 206) := by unfold Ac.reserve; rw [hk]; rfl
    rw [e]
    clear e
    have h_1 := fun (w' : World) => check_no hk w'
    unfold acc at h_1 ⊢
    unfold hold at ⊢
    have H_1 := Lib.hid h_1
    clear h_1
    go_enter Try.func26, Try.ntmps26
    go_wp2_with fail
    refine (H_1.out _).mono ?_
    rintro e w1 ⟨rfl, rfl⟩
    go_wp2_with fail
    exact bodyPost_ret (v := .tuple #[.agg #[.int .i64 (0), .int .i64 (0), .int .i64 (0)], .int .i64 (206)]) (by simp [results, Try.results26, go_sem]) rfl ⟨rfl, (by repeat (first | exact hX | exact Below.refl _ _ | refine Below.setCell ?_ (by simp <;> omega) _ | refine Below.alloc ?_ (by simp <;> omega) _))⟩
  · skip
    rcases hj : Ac.okH n u with _ | _
    · skip
      have e : Ac.reserve f h q n u = (0, 0, 0, 206) := by unfold Ac.reserve; rw [hk, hj]; rfl
      rw [e]
      clear e
      have h_1 := fun (w' : World) => check_yes hk w'
      have h_2 := fun (w' : World) => hold_no hj w'
      unfold acc at h_1 ⊢
      unfold hold at h_2 ⊢
      have H_1 := Lib.hid h_1
      have H_2 := Lib.hid h_2
      clear h_1 h_2
      go_enter Try.func26, Try.ntmps26
      go_wp2_with fail
      refine (H_1.out _).mono ?_
      rintro e w1 ⟨rfl, rfl⟩
      go_wp2_with fail
      refine (H_2.out _).mono ?_
      rintro e w2 ⟨rfl, rfl⟩
      go_wp2_with fail
      exact bodyPost_ret (v := .tuple #[.agg #[.int .i64 (0), .int .i64 (0), .int .i64 (0)], .int .i64 (206)]) (by simp [results, Try.results26, go_sem]) rfl ⟨rfl, (by repeat (first | exact hX | exact Below.refl _ _ | refine Below.setCell ?_ (by simp <;> omega) _ | refine Below.alloc ?_ (by simp <;> omega) _))⟩
    · skip
      by_cases hm : f < n
      · skip
        obtain ⟨k1, k2, k3, k4, k5, k6, k7⟩ := Ac.okA_iff.1 hk
        obtain ⟨j1, j2, j3, j4⟩ := Ac.okH_iff.1 hj
        have Hk := Lib.hid hk
        have Hj := Lib.hid hj
        clear hk hj
        have e : Ac.reserve f h q n u = (0, 0, 0, 201) := by unfold Ac.reserve; rw [Hk.out, Hj.out, if_pos (show (true && true) = true from rfl), if_pos hm]
        rw [e]
        clear e
        have h_1 := fun (w' : World) => check_yes Hk.out w'
        have h_2 := fun (w' : World) => hold_yes Hj.out w'
        unfold acc at h_1 ⊢
        unfold hold at h_2 ⊢
        have H_1 := Lib.hid h_1
        have H_2 := Lib.hid h_2
        clear h_1 h_2
        go_enter Try.func26, Try.ntmps26
        go_wp2_with fail
        refine (H_1.out _).mono ?_
        rintro e w1 ⟨rfl, rfl⟩
        go_wp2_with fail
        refine (H_2.out _).mono ?_
        rintro e w2 ⟨rfl, rfl⟩
        go_wp2_with fail
        exact bodyPost_ret (v := .tuple #[.agg #[.int .i64 (0), .int .i64 (0), .int .i64 (0)], .int .i64 (201)]) (by simp [results, Try.results26, go_sem]) rfl ⟨rfl, (by repeat (first | exact hX | exact Below.refl _ _ | refine Below.setCell ?_ (by simp <;> omega) _ | refine Below.alloc ?_ (by simp <;> omega) _))⟩
      · skip
        by_cases hm2 : q < h + n
        · skip
          obtain ⟨k1, k2, k3, k4, k5, k6, k7⟩ := Ac.okA_iff.1 hk
          obtain ⟨j1, j2, j3, j4⟩ := Ac.okH_iff.1 hj
          have Hk := Lib.hid hk
          have Hj := Lib.hid hj
          clear hk hj
          have e : Ac.reserve f h q n u = (0, 0, 0, 205) := by unfold Ac.reserve; rw [Hk.out, Hj.out, if_pos (show (true && true) = true from rfl), if_neg hm, if_pos hm2]
          rw [e]
          clear e
          have h_1 := fun (w' : World) => check_yes Hk.out w'
          have h_2 := fun (w' : World) => hold_yes Hj.out w'
          unfold acc at h_1 ⊢
          unfold hold at h_2 ⊢
          have H_1 := Lib.hid h_1
          have H_2 := Lib.hid h_2
          clear h_1 h_2
          go_enter Try.func26, Try.ntmps26
          go_wp2_with fail
          refine (H_1.out _).mono ?_
          rintro e w1 ⟨rfl, rfl⟩
          go_wp2_with fail
          refine (H_2.out _).mono ?_
          rintro e w2 ⟨rfl, rfl⟩
          go_wp2_with fail
          exact bodyPost_ret (v := .tuple #[.agg #[.int .i64 (0), .int .i64 (0), .int .i64 (0)], .int .i64 (205)]) (by simp [results, Try.results26, go_sem]) rfl ⟨rfl, (by repeat (first | exact hX | exact Below.refl _ _ | refine Below.setCell ?_ (by simp <;> omega) _ | refine Below.alloc ?_ (by simp <;> omega) _))⟩
        · skip
          obtain ⟨k1, k2, k3, k4, k5, k6, k7⟩ := Ac.okA_iff.1 hk
          obtain ⟨j1, j2, j3, j4⟩ := Ac.okH_iff.1 hj
          have Hk := Lib.hid hk
          have Hj := Lib.hid hj
          clear hk hj
          have e : Ac.reserve f h q n u = (f - n, h + n, q, 0) := by unfold Ac.reserve; rw [Hk.out, Hj.out, if_pos (show (true && true) = true from rfl), if_neg hm, if_neg hm2]
          rw [e]
          clear e
          have h_1 := fun (w' : World) => check_yes Hk.out w'
          have h_2 := fun (w' : World) => hold_yes Hj.out w'
          unfold acc at h_1 ⊢
          unfold hold at h_2 ⊢
          have H_1 := Lib.hid h_1
          have H_2 := Lib.hid h_2
          clear h_1 h_2
          go_enter Try.func26, Try.ntmps26
          go_wp2_with fail
          refine (H_1.out _).mono ?_
          rintro e w1 ⟨rfl, rfl⟩
          go_wp2_with fail
          refine (H_2.out _).mono ?_
          rintro e w2 ⟨rfl, rfl⟩
          go_wp2_with fail
          exact bodyPost_ret (v := .tuple #[.agg #[.int .i64 (f - n), .int .i64 (h + n), .int .i64 (q)], .int .i64 (0)]) (by simp [results, Try.results26, go_sem]) rfl ⟨rfl, (by repeat (first | exact hX | exact Below.refl _ _ | refine Below.setCell ?_ (by simp <;> omega) _ | refine Below.alloc ?_ (by simp <;> omega) _))⟩
set_option maxRecDepth 100000 in
theorem cancel_any (f h q n u : Int) (w : World)  :
    Calls Try.prog 28 #[acc f h q, hold n u] w (GivesAcc w (Ac.cancel f h q n u)) := by
  rcases hk : Ac.okA f h q with _ | _
  · skip
    have e : Ac.cancel f h q n u = (0, 0, 0, 206) := by unfold Ac.cancel; rw [hk]; rfl
    rw [e]
    clear e
    have h_1 := fun (w' : World) => check_no hk w'
    unfold acc at h_1 ⊢
    unfold hold at ⊢
    have H_1 := Lib.hid h_1
    clear h_1
    go_enter Try.func28, Try.ntmps28
    go_wp2_with fail
    refine (H_1.out _).mono ?_
    rintro e w1 ⟨rfl, rfl⟩
    go_wp2_with fail
    exact bodyPost_ret (v := .tuple #[.agg #[.int .i64 (0), .int .i64 (0), .int .i64 (0)], .int .i64 (206)]) (by simp [results, Try.results28, go_sem]) rfl ⟨rfl, (by repeat (first | exact hX | exact Below.refl _ _ | refine Below.setCell ?_ (by simp <;> omega) _ | refine Below.alloc ?_ (by simp <;> omega) _))⟩
  · skip
    rcases hj : Ac.okH n u with _ | _
    · skip
      have e : Ac.cancel f h q n u = (0, 0, 0, 206) := by unfold Ac.cancel; rw [hk, hj]; rfl
      rw [e]
      clear e
      have h_1 := fun (w' : World) => check_yes hk w'
      have h_2 := fun (w' : World) => hold_no hj w'
      unfold acc at h_1 ⊢
      unfold hold at h_2 ⊢
      have H_1 := Lib.hid h_1
      have H_2 := Lib.hid h_2
      clear h_1 h_2
      go_enter Try.func28, Try.ntmps28
      go_wp2_with fail
      refine (H_1.out _).mono ?_
      rintro e w1 ⟨rfl, rfl⟩
      go_wp2_with fail
      refine (H_2.out _).mono ?_
      rintro e w2 ⟨rfl, rfl⟩
      go_wp2_with fail
      exact bodyPost_ret (v := .tuple #[.agg #[.int .i64 (0), .int .i64 (0), .int .i64 (0)], .int .i64 (206)]) (by simp [results, Try.results28, go_sem]) rfl ⟨rfl, (by repeat (first | exact hX | exact Below.refl _ _ | refine Below.setCell ?_ (by simp <;> omega) _ | refine Below.alloc ?_ (by simp <;> omega) _))⟩
    · skip
      by_cases hm : h < n
      · skip
        obtain ⟨k1, k2, k3, k4, k5, k6, k7⟩ := Ac.okA_iff.1 hk
        obtain ⟨j1, j2, j3, j4⟩ := Ac.okH_iff.1 hj
        have Hk := Lib.hid hk
        have Hj := Lib.hid hj
        clear hk hj
        have e : Ac.cancel f h q n u = (0, 0, 0, 201) := by unfold Ac.cancel; rw [Hk.out, Hj.out, if_pos (show (true && true) = true from rfl), if_pos hm]
        rw [e]
        clear e
        have h_1 := fun (w' : World) => check_yes Hk.out w'
        have h_2 := fun (w' : World) => hold_yes Hj.out w'
        unfold acc at h_1 ⊢
        unfold hold at h_2 ⊢
        have H_1 := Lib.hid h_1
        have H_2 := Lib.hid h_2
        clear h_1 h_2
        go_enter Try.func28, Try.ntmps28
        go_wp2_with fail
        refine (H_1.out _).mono ?_
        rintro e w1 ⟨rfl, rfl⟩
        go_wp2_with fail
        refine (H_2.out _).mono ?_
        rintro e w2 ⟨rfl, rfl⟩
        go_wp2_with fail
        exact bodyPost_ret (v := .tuple #[.agg #[.int .i64 (0), .int .i64 (0), .int .i64 (0)], .int .i64 (201)]) (by simp [results, Try.results28, go_sem]) rfl ⟨rfl, (by repeat (first | exact hX | exact Below.refl _ _ | refine Below.setCell ?_ (by simp <;> omega) _ | refine Below.alloc ?_ (by simp <;> omega) _))⟩
      · skip
        obtain ⟨k1, k2, k3, k4, k5, k6, k7⟩ := Ac.okA_iff.1 hk
        obtain ⟨j1, j2, j3, j4⟩ := Ac.okH_iff.1 hj
        have Hk := Lib.hid hk
        have Hj := Lib.hid hj
        clear hk hj
        have e : Ac.cancel f h q n u = (f + n, h - n, q, 0) := by unfold Ac.cancel; rw [Hk.out, Hj.out, if_pos (show (true && true) = true from rfl), if_neg hm]
        rw [e]
        clear e
        have h_1 := fun (w' : World) => check_yes Hk.out w'
        have h_2 := fun (w' : World) => hold_yes Hj.out w'
        unfold acc at h_1 ⊢
        unfold hold at h_2 ⊢
        have H_1 := Lib.hid h_1
        have H_2 := Lib.hid h_2
        clear h_1 h_2
        go_enter Try.func28, Try.ntmps28
        go_wp2_with fail
        refine (H_1.out _).mono ?_
        rintro e w1 ⟨rfl, rfl⟩
        go_wp2_with fail
        refine (H_2.out _).mono ?_
        rintro e w2 ⟨rfl, rfl⟩
        go_wp2_with fail
        exact bodyPost_ret (v := .tuple #[.agg #[.int .i64 (f + n), .int .i64 (h - n), .int .i64 (q)], .int .i64 (0)]) (by simp [results, Try.results28, go_sem]) rfl ⟨rfl, (by repeat (first | exact hX | exact Below.refl _ _ | refine Below.setCell ?_ (by simp <;> omega) _ | refine Below.alloc ?_ (by simp <;> omega) _))⟩
set_option maxRecDepth 100000 in
theorem confirm_any (f h q n u t : Int) (w : World)  :
    Calls Try.prog 30 #[acc f h q, hold n u, .int .i64 t] w (GivesAcc w (Ac.confirm f h q n u t)) := by
  rcases hk : Ac.okA f h q with _ | _
  · skip
    have e : Ac.confirm f h q n u t = (0, 0, 0, 206) := by unfold Ac.confirm; rw [hk]; rfl
    rw [e]
    clear e
    have h_1 := fun (w' : World) => check_no hk w'
    unfold acc at h_1 ⊢
    unfold hold at ⊢
    have H_1 := Lib.hid h_1
    clear h_1
    go_enter Try.func30, Try.ntmps30
    go_wp2_with fail
    refine (H_1.out _).mono ?_
    rintro e w1 ⟨rfl, rfl⟩
    go_wp2_with fail
    exact bodyPost_ret (v := .tuple #[.agg #[.int .i64 (0), .int .i64 (0), .int .i64 (0)], .int .i64 (206)]) (by simp [results, Try.results30, go_sem]) rfl ⟨rfl, (by repeat (first | exact hX | exact Below.refl _ _ | refine Below.setCell ?_ (by simp <;> omega) _ | refine Below.alloc ?_ (by simp <;> omega) _))⟩
  · skip
    rcases hj : Ac.okH n u with _ | _
    · skip
      have e : Ac.confirm f h q n u t = (0, 0, 0, 206) := by unfold Ac.confirm; rw [hk, hj]; rfl
      rw [e]
      clear e
      have h_1 := fun (w' : World) => check_yes hk w'
      have h_2 := fun (w' : World) => hold_no hj w'
      unfold acc at h_1 ⊢
      unfold hold at h_2 ⊢
      have H_1 := Lib.hid h_1
      have H_2 := Lib.hid h_2
      clear h_1 h_2
      go_enter Try.func30, Try.ntmps30
      go_wp2_with fail
      refine (H_1.out _).mono ?_
      rintro e w1 ⟨rfl, rfl⟩
      go_wp2_with fail
      refine (H_2.out _).mono ?_
      rintro e w2 ⟨rfl, rfl⟩
      go_wp2_with fail
      exact bodyPost_ret (v := .tuple #[.agg #[.int .i64 (0), .int .i64 (0), .int .i64 (0)], .int .i64 (206)]) (by simp [results, Try.results30, go_sem]) rfl ⟨rfl, (by repeat (first | exact hX | exact Below.refl _ _ | refine Below.setCell ?_ (by simp <;> omega) _ | refine Below.alloc ?_ (by simp <;> omega) _))⟩
    · skip
      by_cases hm : ¬ (0 ≤ t ∧ t ≤ 1099511627776)
      · skip
        obtain ⟨k1, k2, k3, k4, k5, k6, k7⟩ := Ac.okA_iff.1 hk
        obtain ⟨j1, j2, j3, j4⟩ := Ac.okH_iff.1 hj
        have Hk := Lib.hid hk
        have Hj := Lib.hid hj
        clear hk hj
        have e : Ac.confirm f h q n u t = (0, 0, 0, 1) := by unfold Ac.confirm; rw [Hk.out, Hj.out, if_pos (show (true && true) = true from rfl), if_neg hm]
        rw [e]
        clear e
        have h_1 := fun (w' : World) => check_yes Hk.out w'
        have h_2 := fun (w' : World) => hold_yes Hj.out w'
        have h_3 := fun (w' : World) => within_no hm w'
        unfold acc at h_1 ⊢
        unfold hold at h_2 ⊢
        have H_1 := Lib.hid h_1
        have H_2 := Lib.hid h_2
        have H_3 := Lib.hid h_3
        clear h_1 h_2 h_3
        go_enter Try.func30, Try.ntmps30
        go_wp2_with fail
        refine (H_1.out _).mono ?_
        rintro e w1 ⟨rfl, rfl⟩
        go_wp2_with fail
        refine (H_2.out _).mono ?_
        rintro e w2 ⟨rfl, rfl⟩
        go_wp2_with fail
        refine (H_3.out _).mono ?_
        rintro e w3 ⟨rfl, rfl⟩
        go_wp2_with fail
        exact bodyPost_ret (v := .tuple #[.agg #[.int .i64 (0), .int .i64 (0), .int .i64 (0)], .int .i64 (1)]) (by simp [results, Try.results30, go_sem]) rfl ⟨rfl, (by repeat (first | exact hX | exact Below.refl _ _ | refine Below.setCell ?_ (by simp <;> omega) _ | refine Below.alloc ?_ (by simp <;> omega) _))⟩
      · skip
        by_cases hm2 : u < t
        · skip
          obtain ⟨k1, k2, k3, k4, k5, k6, k7⟩ := Ac.okA_iff.1 hk
          obtain ⟨j1, j2, j3, j4⟩ := Ac.okH_iff.1 hj
          have Hk := Lib.hid hk
          have Hj := Lib.hid hj
          clear hk hj
          have hm := Classical.not_not.1 hm
          have e : Ac.confirm f h q n u t = (0, 0, 0, 204) := by unfold Ac.confirm; rw [Hk.out, Hj.out, if_pos (show (true && true) = true from rfl), if_pos hm, if_pos hm2]
          rw [e]
          clear e
          have h_1 := fun (w' : World) => check_yes Hk.out w'
          have h_2 := fun (w' : World) => hold_yes Hj.out w'
          have h_3 := fun (w' : World) => within_yes hm w'
          unfold acc at h_1 ⊢
          unfold hold at h_2 ⊢
          have H_1 := Lib.hid h_1
          have H_2 := Lib.hid h_2
          have H_3 := Lib.hid h_3
          clear h_1 h_2 h_3
          go_enter Try.func30, Try.ntmps30
          go_wp2_with fail
          refine (H_1.out _).mono ?_
          rintro e w1 ⟨rfl, rfl⟩
          go_wp2_with fail
          refine (H_2.out _).mono ?_
          rintro e w2 ⟨rfl, rfl⟩
          go_wp2_with fail
          refine (H_3.out _).mono ?_
          rintro e w3 ⟨rfl, rfl⟩
          go_wp2_with fail
          exact bodyPost_ret (v := .tuple #[.agg #[.int .i64 (0), .int .i64 (0), .int .i64 (0)], .int .i64 (204)]) (by simp [results, Try.results30, go_sem]) rfl ⟨rfl, (by repeat (first | exact hX | exact Below.refl _ _ | refine Below.setCell ?_ (by simp <;> omega) _ | refine Below.alloc ?_ (by simp <;> omega) _))⟩
        · skip
          by_cases hm3 : h < n
          · skip
            obtain ⟨k1, k2, k3, k4, k5, k6, k7⟩ := Ac.okA_iff.1 hk
            obtain ⟨j1, j2, j3, j4⟩ := Ac.okH_iff.1 hj
            have Hk := Lib.hid hk
            have Hj := Lib.hid hj
            clear hk hj
            have hm := Classical.not_not.1 hm
            have e : Ac.confirm f h q n u t = (0, 0, 0, 201) := by unfold Ac.confirm; rw [Hk.out, Hj.out, if_pos (show (true && true) = true from rfl), if_pos hm, if_neg hm2, if_pos hm3]
            rw [e]
            clear e
            have h_1 := fun (w' : World) => check_yes Hk.out w'
            have h_2 := fun (w' : World) => hold_yes Hj.out w'
            have h_3 := fun (w' : World) => within_yes hm w'
            unfold acc at h_1 ⊢
            unfold hold at h_2 ⊢
            have H_1 := Lib.hid h_1
            have H_2 := Lib.hid h_2
            have H_3 := Lib.hid h_3
            clear h_1 h_2 h_3
            go_enter Try.func30, Try.ntmps30
            go_wp2_with fail
            refine (H_1.out _).mono ?_
            rintro e w1 ⟨rfl, rfl⟩
            go_wp2_with fail
            refine (H_2.out _).mono ?_
            rintro e w2 ⟨rfl, rfl⟩
            go_wp2_with fail
            refine (H_3.out _).mono ?_
            rintro e w3 ⟨rfl, rfl⟩
            go_wp2_with fail
            exact bodyPost_ret (v := .tuple #[.agg #[.int .i64 (0), .int .i64 (0), .int .i64 (0)], .int .i64 (201)]) (by simp [results, Try.results30, go_sem]) rfl ⟨rfl, (by repeat (first | exact hX | exact Below.refl _ _ | refine Below.setCell ?_ (by simp <;> omega) _ | refine Below.alloc ?_ (by simp <;> omega) _))⟩
          · skip
            obtain ⟨k1, k2, k3, k4, k5, k6, k7⟩ := Ac.okA_iff.1 hk
            obtain ⟨j1, j2, j3, j4⟩ := Ac.okH_iff.1 hj
            have Hk := Lib.hid hk
            have Hj := Lib.hid hj
            clear hk hj
            have hm := Classical.not_not.1 hm
            have e : Ac.confirm f h q n u t = (f, h - n, q, 0) := by unfold Ac.confirm; rw [Hk.out, Hj.out, if_pos (show (true && true) = true from rfl), if_pos hm, if_neg hm2, if_neg hm3]
            rw [e]
            clear e
            have h_1 := fun (w' : World) => check_yes Hk.out w'
            have h_2 := fun (w' : World) => hold_yes Hj.out w'
            have h_3 := fun (w' : World) => within_yes hm w'
            unfold acc at h_1 ⊢
            unfold hold at h_2 ⊢
            have H_1 := Lib.hid h_1
            have H_2 := Lib.hid h_2
            have H_3 := Lib.hid h_3
            clear h_1 h_2 h_3
            go_enter Try.func30, Try.ntmps30
            go_wp2_with fail
            refine (H_1.out _).mono ?_
            rintro e w1 ⟨rfl, rfl⟩
            go_wp2_with fail
            refine (H_2.out _).mono ?_
            rintro e w2 ⟨rfl, rfl⟩
            go_wp2_with fail
            refine (H_3.out _).mono ?_
            rintro e w3 ⟨rfl, rfl⟩
            go_wp2_with fail
            exact bodyPost_ret (v := .tuple #[.agg #[.int .i64 (f), .int .i64 (h - n), .int .i64 (q)], .int .i64 (0)]) (by simp [results, Try.results30, go_sem]) rfl ⟨rfl, (by repeat (first | exact hX | exact Below.refl _ _ | refine Below.setCell ?_ (by simp <;> omega) _ | refine Below.alloc ?_ (by simp <;> omega) _))⟩
set_option maxRecDepth 100000 in
theorem expire_any (f h q n u t : Int) (w : World)  :
    Calls Try.prog 32 #[acc f h q, hold n u, .int .i64 t] w (GivesAcc w (Ac.expire f h q n u t)) := by
  rcases hk : Ac.okA f h q with _ | _
  · skip
    have e : Ac.expire f h q n u t = (0, 0, 0, 206) := by unfold Ac.expire; rw [hk]; rfl
    rw [e]
    clear e
    have h_1 := fun (w' : World) => check_no hk w'
    unfold acc at h_1 ⊢
    unfold hold at ⊢
    have H_1 := Lib.hid h_1
    clear h_1
    go_enter Try.func32, Try.ntmps32
    go_wp2_with fail
    refine (H_1.out _).mono ?_
    rintro e w1 ⟨rfl, rfl⟩
    go_wp2_with fail
    exact bodyPost_ret (v := .tuple #[.agg #[.int .i64 (0), .int .i64 (0), .int .i64 (0)], .int .i64 (206)]) (by simp [results, Try.results32, go_sem]) rfl ⟨rfl, (by repeat (first | exact hX | exact Below.refl _ _ | refine Below.setCell ?_ (by simp <;> omega) _ | refine Below.alloc ?_ (by simp <;> omega) _))⟩
  · skip
    rcases hj : Ac.okH n u with _ | _
    · skip
      have e : Ac.expire f h q n u t = (0, 0, 0, 206) := by unfold Ac.expire; rw [hk, hj]; rfl
      rw [e]
      clear e
      have h_1 := fun (w' : World) => check_yes hk w'
      have h_2 := fun (w' : World) => hold_no hj w'
      unfold acc at h_1 ⊢
      unfold hold at h_2 ⊢
      have H_1 := Lib.hid h_1
      have H_2 := Lib.hid h_2
      clear h_1 h_2
      go_enter Try.func32, Try.ntmps32
      go_wp2_with fail
      refine (H_1.out _).mono ?_
      rintro e w1 ⟨rfl, rfl⟩
      go_wp2_with fail
      refine (H_2.out _).mono ?_
      rintro e w2 ⟨rfl, rfl⟩
      go_wp2_with fail
      exact bodyPost_ret (v := .tuple #[.agg #[.int .i64 (0), .int .i64 (0), .int .i64 (0)], .int .i64 (206)]) (by simp [results, Try.results32, go_sem]) rfl ⟨rfl, (by repeat (first | exact hX | exact Below.refl _ _ | refine Below.setCell ?_ (by simp <;> omega) _ | refine Below.alloc ?_ (by simp <;> omega) _))⟩
    · skip
      by_cases hm : ¬ (0 ≤ t ∧ t ≤ 1099511627776)
      · skip
        obtain ⟨k1, k2, k3, k4, k5, k6, k7⟩ := Ac.okA_iff.1 hk
        obtain ⟨j1, j2, j3, j4⟩ := Ac.okH_iff.1 hj
        have Hk := Lib.hid hk
        have Hj := Lib.hid hj
        clear hk hj
        have e : Ac.expire f h q n u t = (0, 0, 0, 1) := by unfold Ac.expire; rw [Hk.out, Hj.out, if_pos (show (true && true) = true from rfl), if_neg hm]
        rw [e]
        clear e
        have h_1 := fun (w' : World) => check_yes Hk.out w'
        have h_2 := fun (w' : World) => hold_yes Hj.out w'
        have h_3 := fun (w' : World) => within_no hm w'
        unfold acc at h_1 ⊢
        unfold hold at h_2 ⊢
        have H_1 := Lib.hid h_1
        have H_2 := Lib.hid h_2
        have H_3 := Lib.hid h_3
        clear h_1 h_2 h_3
        go_enter Try.func32, Try.ntmps32
        go_wp2_with fail
        refine (H_1.out _).mono ?_
        rintro e w1 ⟨rfl, rfl⟩
        go_wp2_with fail
        refine (H_2.out _).mono ?_
        rintro e w2 ⟨rfl, rfl⟩
        go_wp2_with fail
        refine (H_3.out _).mono ?_
        rintro e w3 ⟨rfl, rfl⟩
        go_wp2_with fail
        exact bodyPost_ret (v := .tuple #[.agg #[.int .i64 (0), .int .i64 (0), .int .i64 (0)], .int .i64 (1)]) (by simp [results, Try.results32, go_sem]) rfl ⟨rfl, (by repeat (first | exact hX | exact Below.refl _ _ | refine Below.setCell ?_ (by simp <;> omega) _ | refine Below.alloc ?_ (by simp <;> omega) _))⟩
      · skip
        by_cases hm2 : t ≤ u
        · skip
          obtain ⟨k1, k2, k3, k4, k5, k6, k7⟩ := Ac.okA_iff.1 hk
          obtain ⟨j1, j2, j3, j4⟩ := Ac.okH_iff.1 hj
          have Hk := Lib.hid hk
          have Hj := Lib.hid hj
          clear hk hj
          have hm := Classical.not_not.1 hm
          have e : Ac.expire f h q n u t = (f, h, q, 0) := by unfold Ac.expire; rw [Hk.out, Hj.out, if_pos (show (true && true) = true from rfl), if_pos hm, if_pos hm2]
          rw [e]
          clear e
          have h_1 := fun (w' : World) => check_yes Hk.out w'
          have h_2 := fun (w' : World) => hold_yes Hj.out w'
          have h_3 := fun (w' : World) => within_yes hm w'
          unfold acc at h_1 ⊢
          unfold hold at h_2 ⊢
          have H_1 := Lib.hid h_1
          have H_2 := Lib.hid h_2
          have H_3 := Lib.hid h_3
          clear h_1 h_2 h_3
          go_enter Try.func32, Try.ntmps32
          go_wp2_with fail
          refine (H_1.out _).mono ?_
          rintro e w1 ⟨rfl, rfl⟩
          go_wp2_with fail
          refine (H_2.out _).mono ?_
          rintro e w2 ⟨rfl, rfl⟩
          go_wp2_with fail
          refine (H_3.out _).mono ?_
          rintro e w3 ⟨rfl, rfl⟩
          go_wp2_with fail
          exact bodyPost_ret (v := .tuple #[.agg #[.int .i64 (f), .int .i64 (h), .int .i64 (q)], .int .i64 (0)]) (by simp [results, Try.results32, go_sem]) rfl ⟨rfl, (by repeat (first | exact hX | exact Below.refl _ _ | refine Below.setCell ?_ (by simp <;> omega) _ | refine Below.alloc ?_ (by simp <;> omega) _))⟩
        · skip
          obtain ⟨k1, k2, k3, k4, k5, k6, k7⟩ := Ac.okA_iff.1 hk
          obtain ⟨j1, j2, j3, j4⟩ := Ac.okH_iff.1 hj
          have Hk := Lib.hid hk
          have Hj := Lib.hid hj
          clear hk hj
          have hm := Classical.not_not.1 hm
          have e : Ac.expire f h q n u t = Ac.cancel f h q n u := by unfold Ac.expire; rw [Hk.out, Hj.out, if_pos (show (true && true) = true from rfl), if_pos hm, if_neg hm2]
          rw [e]
          clear e
          have hcan := fun w' => cancel_any f h q n u w'
          generalize Ac.cancel f h q n u = g at hcan ⊢
          obtain ⟨g1, g2, g3, g4⟩ := g
          unfold GivesAcc at hcan
          have h_1 := fun (w' : World) => check_yes Hk.out w'
          have h_2 := fun (w' : World) => hold_yes Hj.out w'
          have h_3 := fun (w' : World) => within_yes hm w'
          have h_4 := fun (w' : World) => hcan w'
          clear hcan
          unfold acc at h_1 h_4 ⊢
          unfold hold at h_2 h_4 ⊢
          have H_1 := Lib.hid h_1
          have H_2 := Lib.hid h_2
          have H_3 := Lib.hid h_3
          have H_4 := Lib.hid h_4
          clear h_1 h_2 h_3 h_4
          go_enter Try.func32, Try.ntmps32
          go_wp2_with fail
          refine (H_1.out _).mono ?_
          rintro e w1 ⟨rfl, rfl⟩
          go_wp2_with fail
          refine (H_2.out _).mono ?_
          rintro e w2 ⟨rfl, rfl⟩
          go_wp2_with fail
          refine (H_3.out _).mono ?_
          rintro e w3 ⟨rfl, rfl⟩
          go_wp2_with fail
          refine (H_4.out _).mono ?_
          rintro e w4 ⟨rfl, hb4⟩
          have hX : Below w.heap.size w w4 := below_next (by repeat (first | exact Below.refl _ _ | refine Below.setCell ?_ (by simp <;> omega) _ | refine Below.alloc ?_ (by simp <;> omega) _)) hb4
          have HB := hb4
          clear hb4
          obtain ⟨hc4, hf4⟩ := bcell HB
          go_wp2_with fail
          exact bodyPost_ret (v := .tuple #[.agg #[.int .i64 (g1), .int .i64 (g2), .int .i64 (g3)], .int .i64 (g4)]) (by simp [results, Try.results32, go_sem, hc4]) rfl ⟨rfl, (by repeat (first | exact hX | exact Below.refl _ _ | refine Below.setCell ?_ (by simp <;> omega) _ | refine Below.alloc ?_ (by simp <;> omega) _))⟩
set_option maxRecDepth 100000 in
theorem rreserve_any (f h q n u : Int) (w : World)  :
    Calls Try.prog 27 #[acc f h q, hold n u] w (GivesAcc w (Ac.reserve f h q n u)) := by
  rcases hk : Ac.okA f h q with _ | _
  · skip
    have e : Ac.reserve f h q n u = (0, 0, 0, 206) := by unfold Ac.reserve; rw [hk]; rfl
    rw [e]
    clear e
    have h_1 := fun (w' : World) => rcheck_no hk w'
    unfold acc at h_1 ⊢
    unfold hold at ⊢
    have H_1 := Lib.hid h_1
    clear h_1
    go_enter Try.func27, Try.ntmps27
    go_wp2_with fail
    refine (H_1.out _).mono ?_
    rintro e w1 ⟨rfl, rfl⟩
    go_wp2_with fail
    exact bodyPost_ret (v := .tuple #[.agg #[.int .i64 (0), .int .i64 (0), .int .i64 (0)], .int .i64 (206)]) (by simp [results, Try.results27, go_sem]) rfl ⟨rfl, (by repeat (first | exact hX | exact Below.refl _ _ | refine Below.setCell ?_ (by simp <;> omega) _ | refine Below.alloc ?_ (by simp <;> omega) _))⟩
  · skip
    rcases hj : Ac.okH n u with _ | _
    · skip
      have e : Ac.reserve f h q n u = (0, 0, 0, 206) := by unfold Ac.reserve; rw [hk, hj]; rfl
      rw [e]
      clear e
      have h_1 := fun (w' : World) => rcheck_yes hk w'
      have h_2 := fun (w' : World) => rhold_no hj w'
      unfold acc at h_1 ⊢
      unfold hold at h_2 ⊢
      have H_1 := Lib.hid h_1
      have H_2 := Lib.hid h_2
      clear h_1 h_2
      go_enter Try.func27, Try.ntmps27
      go_wp2_with fail
      refine (H_1.out _).mono ?_
      rintro e w1 ⟨rfl, rfl⟩
      go_wp2_with fail
      refine (H_2.out _).mono ?_
      rintro e w2 ⟨rfl, rfl⟩
      go_wp2_with fail
      exact bodyPost_ret (v := .tuple #[.agg #[.int .i64 (0), .int .i64 (0), .int .i64 (0)], .int .i64 (206)]) (by simp [results, Try.results27, go_sem]) rfl ⟨rfl, (by repeat (first | exact hX | exact Below.refl _ _ | refine Below.setCell ?_ (by simp <;> omega) _ | refine Below.alloc ?_ (by simp <;> omega) _))⟩
    · skip
      by_cases hm : f < n
      · skip
        obtain ⟨k1, k2, k3, k4, k5, k6, k7⟩ := Ac.okA_iff.1 hk
        obtain ⟨j1, j2, j3, j4⟩ := Ac.okH_iff.1 hj
        have Hk := Lib.hid hk
        have Hj := Lib.hid hj
        clear hk hj
        have e : Ac.reserve f h q n u = (0, 0, 0, 201) := by unfold Ac.reserve; rw [Hk.out, Hj.out, if_pos (show (true && true) = true from rfl), if_pos hm]
        rw [e]
        clear e
        have h_1 := fun (w' : World) => rcheck_yes Hk.out w'
        have h_2 := fun (w' : World) => rhold_yes Hj.out w'
        unfold acc at h_1 ⊢
        unfold hold at h_2 ⊢
        have H_1 := Lib.hid h_1
        have H_2 := Lib.hid h_2
        clear h_1 h_2
        go_enter Try.func27, Try.ntmps27
        go_wp2_with fail
        refine (H_1.out _).mono ?_
        rintro e w1 ⟨rfl, rfl⟩
        go_wp2_with fail
        refine (H_2.out _).mono ?_
        rintro e w2 ⟨rfl, rfl⟩
        go_wp2_with fail
        exact bodyPost_ret (v := .tuple #[.agg #[.int .i64 (0), .int .i64 (0), .int .i64 (0)], .int .i64 (201)]) (by simp [results, Try.results27, go_sem]) rfl ⟨rfl, (by repeat (first | exact hX | exact Below.refl _ _ | refine Below.setCell ?_ (by simp <;> omega) _ | refine Below.alloc ?_ (by simp <;> omega) _))⟩
      · skip
        by_cases hm2 : q < h + n
        · skip
          obtain ⟨k1, k2, k3, k4, k5, k6, k7⟩ := Ac.okA_iff.1 hk
          obtain ⟨j1, j2, j3, j4⟩ := Ac.okH_iff.1 hj
          have Hk := Lib.hid hk
          have Hj := Lib.hid hj
          clear hk hj
          have e : Ac.reserve f h q n u = (0, 0, 0, 205) := by unfold Ac.reserve; rw [Hk.out, Hj.out, if_pos (show (true && true) = true from rfl), if_neg hm, if_pos hm2]
          rw [e]
          clear e
          have h_1 := fun (w' : World) => rcheck_yes Hk.out w'
          have h_2 := fun (w' : World) => rhold_yes Hj.out w'
          unfold acc at h_1 ⊢
          unfold hold at h_2 ⊢
          have H_1 := Lib.hid h_1
          have H_2 := Lib.hid h_2
          clear h_1 h_2
          go_enter Try.func27, Try.ntmps27
          go_wp2_with fail
          refine (H_1.out _).mono ?_
          rintro e w1 ⟨rfl, rfl⟩
          go_wp2_with fail
          refine (H_2.out _).mono ?_
          rintro e w2 ⟨rfl, rfl⟩
          go_wp2_with fail
          exact bodyPost_ret (v := .tuple #[.agg #[.int .i64 (0), .int .i64 (0), .int .i64 (0)], .int .i64 (205)]) (by simp [results, Try.results27, go_sem]) rfl ⟨rfl, (by repeat (first | exact hX | exact Below.refl _ _ | refine Below.setCell ?_ (by simp <;> omega) _ | refine Below.alloc ?_ (by simp <;> omega) _))⟩
        · skip
          obtain ⟨k1, k2, k3, k4, k5, k6, k7⟩ := Ac.okA_iff.1 hk
          obtain ⟨j1, j2, j3, j4⟩ := Ac.okH_iff.1 hj
          have Hk := Lib.hid hk
          have Hj := Lib.hid hj
          clear hk hj
          have e : Ac.reserve f h q n u = (f - n, h + n, q, 0) := by unfold Ac.reserve; rw [Hk.out, Hj.out, if_pos (show (true && true) = true from rfl), if_neg hm, if_neg hm2]
          rw [e]
          clear e
          have h_1 := fun (w' : World) => rcheck_yes Hk.out w'
          have h_2 := fun (w' : World) => rhold_yes Hj.out w'
          unfold acc at h_1 ⊢
          unfold hold at h_2 ⊢
          have H_1 := Lib.hid h_1
          have H_2 := Lib.hid h_2
          clear h_1 h_2
          go_enter Try.func27, Try.ntmps27
          go_wp2_with fail
          refine (H_1.out _).mono ?_
          rintro e w1 ⟨rfl, rfl⟩
          go_wp2_with fail
          refine (H_2.out _).mono ?_
          rintro e w2 ⟨rfl, rfl⟩
          go_wp2_with fail
          exact bodyPost_ret (v := .tuple #[.agg #[.int .i64 (f - n), .int .i64 (h + n), .int .i64 (q)], .int .i64 (0)]) (by simp [results, Try.results27, go_sem]) rfl ⟨rfl, (by repeat (first | exact hX | exact Below.refl _ _ | refine Below.setCell ?_ (by simp <;> omega) _ | refine Below.alloc ?_ (by simp <;> omega) _))⟩
set_option maxRecDepth 100000 in
theorem rcancel_any (f h q n u : Int) (w : World)  :
    Calls Try.prog 29 #[acc f h q, hold n u] w (GivesAcc w (Ac.cancel f h q n u)) := by
  rcases hk : Ac.okA f h q with _ | _
  · skip
    have e : Ac.cancel f h q n u = (0, 0, 0, 206) := by unfold Ac.cancel; rw [hk]; rfl
    rw [e]
    clear e
    have h_1 := fun (w' : World) => rcheck_no hk w'
    unfold acc at h_1 ⊢
    unfold hold at ⊢
    have H_1 := Lib.hid h_1
    clear h_1
    go_enter Try.func29, Try.ntmps29
    go_wp2_with fail
    refine (H_1.out _).mono ?_
    rintro e w1 ⟨rfl, rfl⟩
    go_wp2_with fail
    exact bodyPost_ret (v := .tuple #[.agg #[.int .i64 (0), .int .i64 (0), .int .i64 (0)], .int .i64 (206)]) (by simp [results, Try.results29, go_sem]) rfl ⟨rfl, (by repeat (first | exact hX | exact Below.refl _ _ | refine Below.setCell ?_ (by simp <;> omega) _ | refine Below.alloc ?_ (by simp <;> omega) _))⟩
  · skip
    rcases hj : Ac.okH n u with _ | _
    · skip
      have e : Ac.cancel f h q n u = (0, 0, 0, 206) := by unfold Ac.cancel; rw [hk, hj]; rfl
      rw [e]
      clear e
      have h_1 := fun (w' : World) => rcheck_yes hk w'
      have h_2 := fun (w' : World) => rhold_no hj w'
      unfold acc at h_1 ⊢
      unfold hold at h_2 ⊢
      have H_1 := Lib.hid h_1
      have H_2 := Lib.hid h_2
      clear h_1 h_2
      go_enter Try.func29, Try.ntmps29
      go_wp2_with fail
      refine (H_1.out _).mono ?_
      rintro e w1 ⟨rfl, rfl⟩
      go_wp2_with fail
      refine (H_2.out _).mono ?_
      rintro e w2 ⟨rfl, rfl⟩
      go_wp2_with fail
      exact bodyPost_ret (v := .tuple #[.agg #[.int .i64 (0), .int .i64 (0), .int .i64 (0)], .int .i64 (206)]) (by simp [results, Try.results29, go_sem]) rfl ⟨rfl, (by repeat (first | exact hX | exact Below.refl _ _ | refine Below.setCell ?_ (by simp <;> omega) _ | refine Below.alloc ?_ (by simp <;> omega) _))⟩
    · skip
      by_cases hm : h < n
      · skip
        obtain ⟨k1, k2, k3, k4, k5, k6, k7⟩ := Ac.okA_iff.1 hk
        obtain ⟨j1, j2, j3, j4⟩ := Ac.okH_iff.1 hj
        have Hk := Lib.hid hk
        have Hj := Lib.hid hj
        clear hk hj
        have e : Ac.cancel f h q n u = (0, 0, 0, 201) := by unfold Ac.cancel; rw [Hk.out, Hj.out, if_pos (show (true && true) = true from rfl), if_pos hm]
        rw [e]
        clear e
        have h_1 := fun (w' : World) => rcheck_yes Hk.out w'
        have h_2 := fun (w' : World) => rhold_yes Hj.out w'
        unfold acc at h_1 ⊢
        unfold hold at h_2 ⊢
        have H_1 := Lib.hid h_1
        have H_2 := Lib.hid h_2
        clear h_1 h_2
        go_enter Try.func29, Try.ntmps29
        go_wp2_with fail
        refine (H_1.out _).mono ?_
        rintro e w1 ⟨rfl, rfl⟩
        go_wp2_with fail
        refine (H_2.out _).mono ?_
        rintro e w2 ⟨rfl, rfl⟩
        go_wp2_with fail
        exact bodyPost_ret (v := .tuple #[.agg #[.int .i64 (0), .int .i64 (0), .int .i64 (0)], .int .i64 (201)]) (by simp [results, Try.results29, go_sem]) rfl ⟨rfl, (by repeat (first | exact hX | exact Below.refl _ _ | refine Below.setCell ?_ (by simp <;> omega) _ | refine Below.alloc ?_ (by simp <;> omega) _))⟩
      · skip
        obtain ⟨k1, k2, k3, k4, k5, k6, k7⟩ := Ac.okA_iff.1 hk
        obtain ⟨j1, j2, j3, j4⟩ := Ac.okH_iff.1 hj
        have Hk := Lib.hid hk
        have Hj := Lib.hid hj
        clear hk hj
        have e : Ac.cancel f h q n u = (f + n, h - n, q, 0) := by unfold Ac.cancel; rw [Hk.out, Hj.out, if_pos (show (true && true) = true from rfl), if_neg hm]
        rw [e]
        clear e
        have h_1 := fun (w' : World) => rcheck_yes Hk.out w'
        have h_2 := fun (w' : World) => rhold_yes Hj.out w'
        unfold acc at h_1 ⊢
        unfold hold at h_2 ⊢
        have H_1 := Lib.hid h_1
        have H_2 := Lib.hid h_2
        clear h_1 h_2
        go_enter Try.func29, Try.ntmps29
        go_wp2_with fail
        refine (H_1.out _).mono ?_
        rintro e w1 ⟨rfl, rfl⟩
        go_wp2_with fail
        refine (H_2.out _).mono ?_
        rintro e w2 ⟨rfl, rfl⟩
        go_wp2_with fail
        exact bodyPost_ret (v := .tuple #[.agg #[.int .i64 (f + n), .int .i64 (h - n), .int .i64 (q)], .int .i64 (0)]) (by simp [results, Try.results29, go_sem]) rfl ⟨rfl, (by repeat (first | exact hX | exact Below.refl _ _ | refine Below.setCell ?_ (by simp <;> omega) _ | refine Below.alloc ?_ (by simp <;> omega) _))⟩
end Go.Proofs.Ytionaciiaahacaa
