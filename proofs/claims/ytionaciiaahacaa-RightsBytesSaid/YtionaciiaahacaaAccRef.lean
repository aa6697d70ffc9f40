/- What the document's own More, Less, Quota, Confirm and Expire return. -/
import Derived.Test.YtionaciiaahacaaAccHold
namespace Go.Proofs.Ytionaciiaahacaa
open Go.RowKit
set_option linter.unusedVariables false
set_option maxRecDepth 100000 in
theorem asked_no (f h q n least : Int) (w : World) (hk : Ac.okA f h q = false) :
    Calls Try.prog 46 #[acc f h q, .int .i64 n, .int .i64 least] w fun e w' => e = .returned (.int .i64 206) ∧ (w.alloc (.cells #[.int .i64 f, .int .i64 h, .int .i64 q] 23)).alloc (.cells #[.int .i64 f, .int .i64 h, .int .i64 q] 23) = w' := by
  have h_1 := fun (w' : World) => rcheck_no hk w'
  unfold acc at h_1 ⊢
  have H_1 := Lib.hid h_1
  clear h_1
  go_enter Try.func46, Try.ntmps46
  go_wp2_with fail
  refine (H_1.out _).mono ?_
  rintro e w1 ⟨rfl, rfl⟩
  go_wp2_with fail
  go_ret
  exact ⟨rfl, rfl⟩
set_option maxRecDepth 100000 in
theorem asked_bad (f h q n least : Int) (w : World) (hk : Ac.okA f h q = true) (hm : ¬ (least ≤ n ∧ n ≤ 1125899906842624)) :
    Calls Try.prog 46 #[acc f h q, .int .i64 n, .int .i64 least] w fun e w' => e = .returned (.int .i64 1) ∧ (w.alloc (.cells #[.int .i64 f, .int .i64 h, .int .i64 q] 23)).alloc (.cells #[.int .i64 f, .int .i64 h, .int .i64 q] 23) = w' := by
  have hlow : n < least ∨ ¬ n < least ∧ 1125899906842624 < n := by omega
  have h_1 := fun (w' : World) => rcheck_yes hk w'
  unfold acc at h_1 ⊢
  have H_1 := Lib.hid h_1
  clear h_1
  rcases hlow with hlow | ⟨hlow, hlow2⟩
  all_goals
    go_enter Try.func46, Try.ntmps46
    go_wp2_with fail
    refine (H_1.out _).mono ?_
    rintro e w1 ⟨rfl, rfl⟩
    go_wp2_with fail
    go_ret
    exact ⟨rfl, rfl⟩
set_option maxRecDepth 100000 in
theorem asked_ok (f h q n least : Int) (w : World) (hk : Ac.okA f h q = true) (hl : least ≤ n) (hm : n ≤ 1125899906842624) :
    Calls Try.prog 46 #[acc f h q, .int .i64 n, .int .i64 least] w fun e w' => e = .returned (.int .i64 0) ∧ (w.alloc (.cells #[.int .i64 f, .int .i64 h, .int .i64 q] 23)).alloc (.cells #[.int .i64 f, .int .i64 h, .int .i64 q] 23) = w' := by
  have h_1 := fun (w' : World) => rcheck_yes hk w'
  unfold acc at h_1 ⊢
  have H_1 := Lib.hid h_1
  clear h_1
  go_enter Try.func46, Try.ntmps46
  go_wp2_with fail
  refine (H_1.out _).mono ?_
  rintro e w1 ⟨rfl, rfl⟩
  go_wp2_with fail
  go_ret
  exact ⟨rfl, rfl⟩
set_option maxRecDepth 100000 in
theorem timed_noa (f h q n u t : Int) (w : World) (hk : Ac.okA f h q = false) :
    Calls Try.prog 50 #[acc f h q, hold n u, .int .i64 t] w fun e w' => e = .returned (.int .i64 206) ∧ ((w.alloc (.cells #[.int .i64 f, .int .i64 h, .int .i64 q] 23)).alloc (.cells #[.int .i64 n, .int .i64 u] 25)).alloc (.cells #[.int .i64 f, .int .i64 h, .int .i64 q] 23) = w' := by
  have h_1 := fun (w' : World) => rcheck_no hk w'
  unfold acc at h_1 ⊢
  unfold hold at ⊢
  have H_1 := Lib.hid h_1
  clear h_1
  go_enter Try.func50, Try.ntmps50
  go_wp2_with fail
  refine (H_1.out _).mono ?_
  rintro e w1 ⟨rfl, rfl⟩
  go_wp2_with fail
  go_ret
  exact ⟨rfl, rfl⟩
set_option maxRecDepth 100000 in
theorem timed_noh (f h q n u t : Int) (w : World) (hk : Ac.okA f h q = true) (hj : Ac.okH n u = false) :
    Calls Try.prog 50 #[acc f h q, hold n u, .int .i64 t] w fun e w' => e = .returned (.int .i64 206) ∧ (((w.alloc (.cells #[.int .i64 f, .int .i64 h, .int .i64 q] 23)).alloc (.cells #[.int .i64 n, .int .i64 u] 25)).alloc (.cells #[.int .i64 f, .int .i64 h, .int .i64 q] 23)).alloc (.cells #[.int .i64 n, .int .i64 u] 25) = w' := by
  have h_1 := fun (w' : World) => rcheck_yes hk w'
  have h_2 := fun (w' : World) => rhold_no hj w'
  unfold acc at h_1 ⊢
  unfold hold at h_2 ⊢
  have H_1 := Lib.hid h_1
  have H_2 := Lib.hid h_2
  clear h_1 h_2
  go_enter Try.func50, Try.ntmps50
  go_wp2_with fail
  refine (H_1.out _).mono ?_
  rintro e w1 ⟨rfl, rfl⟩
  go_wp2_with fail
  refine (H_2.out _).mono ?_
  rintro e w2 ⟨rfl, rfl⟩
  go_wp2_with fail
  go_ret
  exact ⟨rfl, rfl⟩
set_option maxRecDepth 100000 in
theorem timed_bad (f h q n u t : Int) (w : World) (hk : Ac.okA f h q = true) (hj : Ac.okH n u = true) (hm : ¬ (0 ≤ t ∧ t ≤ 1099511627776)) :
    Calls Try.prog 50 #[acc f h q, hold n u, .int .i64 t] w fun e w' => e = .returned (.int .i64 1) ∧ (((w.alloc (.cells #[.int .i64 f, .int .i64 h, .int .i64 q] 23)).alloc (.cells #[.int .i64 n, .int .i64 u] 25)).alloc (.cells #[.int .i64 f, .int .i64 h, .int .i64 q] 23)).alloc (.cells #[.int .i64 n, .int .i64 u] 25) = w' := by
  have hlow : t < 0 ∨ ¬ t < 0 ∧ 1099511627776 < t := by omega
  have h_1 := fun (w' : World) => rcheck_yes hk w'
  have h_2 := fun (w' : World) => rhold_yes hj w'
  unfold acc at h_1 ⊢
  unfold hold at h_2 ⊢
  have H_1 := Lib.hid h_1
  have H_2 := Lib.hid h_2
  clear h_1 h_2
  rcases hlow with hlow | ⟨hlow, hlow2⟩
  all_goals
    go_enter Try.func50, Try.ntmps50
    go_wp2_with fail
    refine (H_1.out _).mono ?_
    rintro e w1 ⟨rfl, rfl⟩
    go_wp2_with fail
    refine (H_2.out _).mono ?_
    rintro e w2 ⟨rfl, rfl⟩
    go_wp2_with fail
    go_ret
    exact ⟨rfl, rfl⟩
set_option maxRecDepth 100000 in
theorem timed_ok (f h q n u t : Int) (w : World) (hk : Ac.okA f h q = true) (hj : Ac.okH n u = true) (hl : 0 ≤ t) (hm : t ≤ 1099511627776) :
    Calls Try.prog 50 #[acc f h q, hold n u, .int .i64 t] w fun e w' => e = .returned (.int .i64 0) ∧ (((w.alloc (.cells #[.int .i64 f, .int .i64 h, .int .i64 q] 23)).alloc (.cells #[.int .i64 n, .int .i64 u] 25)).alloc (.cells #[.int .i64 f, .int .i64 h, .int .i64 q] 23)).alloc (.cells #[.int .i64 n, .int .i64 u] 25) = w' := by
  have h_1 := fun (w' : World) => rcheck_yes hk w'
  have h_2 := fun (w' : World) => rhold_yes hj w'
  unfold acc at h_1 ⊢
  unfold hold at h_2 ⊢
  have H_1 := Lib.hid h_1
  have H_2 := Lib.hid h_2
  clear h_1 h_2
  go_enter Try.func50, Try.ntmps50
  go_wp2_with fail
  refine (H_1.out _).mono ?_
  rintro e w1 ⟨rfl, rfl⟩
  go_wp2_with fail
  refine (H_2.out _).mono ?_
  rintro e w2 ⟨rfl, rfl⟩
  go_wp2_with fail
  go_ret
  exact ⟨rfl, rfl⟩
set_option maxRecDepth 100000 in
theorem rmore_any (f h q n : Int) (w : World)  :
    Calls Try.prog 20 #[acc f h q, .int .i64 n] w (GivesAcc w (Ac.chg f h q n 1 (Ac.more f h q n))) := by
  rcases hk : Ac.okA f h q with _ | _
  · skip
    have e : Ac.chg f h q n 1 (Ac.more f h q n) = (0, 0, 0, 206) := by unfold Ac.chg; rw [hk]; rfl
    rw [e]
    clear e
    have h_1 := fun (w' : World) => asked_no f h q n 1 w' hk
    unfold acc at h_1 ⊢
    have H_1 := Lib.hid h_1
    clear h_1
    go_enter Try.func20, Try.ntmps20
    go_wp2_with fail
    refine (H_1.out _).mono ?_
    rintro e w1 ⟨rfl, rfl⟩
    go_wp2_with fail
    exact bodyPost_ret (v := .tuple #[.agg #[.int .i64 (0), .int .i64 (0), .int .i64 (0)], .int .i64 (206)]) (by simp [results, Try.results20, go_sem]) rfl ⟨rfl, (by repeat (first | exact hX | exact Below.refl _ _ | refine Below.setCell ?_ (by simp <;> omega) _ | refine Below.alloc ?_ (by simp <;> omega) _))⟩
  · skip
    by_cases hm : ¬ (1 ≤ n ∧ n ≤ 1125899906842624)
    · skip
      obtain ⟨k1, k2, k3, k4, k5, k6, k7⟩ := Ac.okA_iff.1 hk
      have Hk := Lib.hid hk
      clear hk
      have e : Ac.chg f h q n 1 (Ac.more f h q n) = (0, 0, 0, 1) := by unfold Ac.chg; rw [Hk.out, if_pos rfl, if_neg hm]
      rw [e]
      clear e
      have h_1 := fun (w' : World) => asked_bad f h q n 1 w' Hk.out hm
      unfold acc at h_1 ⊢
      have H_1 := Lib.hid h_1
      clear h_1
      go_enter Try.func20, Try.ntmps20
      go_wp2_with fail
      refine (H_1.out _).mono ?_
      rintro e w1 ⟨rfl, rfl⟩
      go_wp2_with fail
      exact bodyPost_ret (v := .tuple #[.agg #[.int .i64 (0), .int .i64 (0), .int .i64 (0)], .int .i64 (1)]) (by simp [results, Try.results20, go_sem]) rfl ⟨rfl, (by repeat (first | exact hX | exact Below.refl _ _ | refine Below.setCell ?_ (by simp <;> omega) _ | refine Below.alloc ?_ (by simp <;> omega) _))⟩
    · skip
      by_cases hc : 1125899906842624 < f + h + n
      · skip
        obtain ⟨k1, k2, k3, k4, k5, k6, k7⟩ := Ac.okA_iff.1 hk
        have Hk := Lib.hid hk
        clear hk
        have hm := Classical.not_not.1 hm
        have e : Ac.chg f h q n 1 (Ac.more f h q n) = (0, 0, 0, 200) := by unfold Ac.chg Ac.more; rw [Hk.out, if_pos rfl, if_pos hm, if_pos hc]
        rw [e]
        clear e
        have h_1 := fun (w' : World) => asked_ok f h q n 1 w' Hk.out hm.1 hm.2
        unfold acc at h_1 ⊢
        have H_1 := Lib.hid h_1
        clear h_1
        go_enter Try.func20, Try.ntmps20
        go_wp2_with fail
        refine (H_1.out _).mono ?_
        rintro e w1 ⟨rfl, rfl⟩
        go_wp2_with fail
        exact bodyPost_ret (v := .tuple #[.agg #[.int .i64 (0), .int .i64 (0), .int .i64 (0)], .int .i64 (200)]) (by simp [results, Try.results20, go_sem]) rfl ⟨rfl, (by repeat (first | exact hX | exact Below.refl _ _ | refine Below.setCell ?_ (by simp <;> omega) _ | refine Below.alloc ?_ (by simp <;> omega) _))⟩
      · skip
        obtain ⟨k1, k2, k3, k4, k5, k6, k7⟩ := Ac.okA_iff.1 hk
        have Hk := Lib.hid hk
        clear hk
        have hm := Classical.not_not.1 hm
        have e : Ac.chg f h q n 1 (Ac.more f h q n) = (f + n, h, q, 0) := by unfold Ac.chg Ac.more; rw [Hk.out, if_pos rfl, if_pos hm, if_neg hc]
        rw [e]
        clear e
        have h_1 := fun (w' : World) => asked_ok f h q n 1 w' Hk.out hm.1 hm.2
        unfold acc at h_1 ⊢
        have H_1 := Lib.hid h_1
        clear h_1
        go_enter Try.func20, Try.ntmps20
        go_wp2_with fail
        refine (H_1.out _).mono ?_
        rintro e w1 ⟨rfl, rfl⟩
        go_wp2_with fail
        exact bodyPost_ret (v := .tuple #[.agg #[.int .i64 (f + n), .int .i64 (h), .int .i64 (q)], .int .i64 (0)]) (by simp [results, Try.results20, go_sem]) rfl ⟨rfl, (by repeat (first | exact hX | exact Below.refl _ _ | refine Below.setCell ?_ (by simp <;> omega) _ | refine Below.alloc ?_ (by simp <;> omega) _))⟩
set_option maxRecDepth 100000 in
theorem rless_any (f h q n : Int) (w : World)  :
    Calls Try.prog 23 #[acc f h q, .int .i64 n] w (GivesAcc w (Ac.chg f h q n 1 (Ac.less f h q n))) := by
  rcases hk : Ac.okA f h q with _ | _
  · skip
    have e : Ac.chg f h q n 1 (Ac.less f h q n) = (0, 0, 0, 206) := by unfold Ac.chg; rw [hk]; rfl
    rw [e]
    clear e
    have h_1 := fun (w' : World) => asked_no f h q n 1 w' hk
    unfold acc at h_1 ⊢
    have H_1 := Lib.hid h_1
    clear h_1
    go_enter Try.func23, Try.ntmps23
    go_wp2_with fail
    refine (H_1.out _).mono ?_
    rintro e w1 ⟨rfl, rfl⟩
    go_wp2_with fail
    exact bodyPost_ret (v := .tuple #[.agg #[.int .i64 (0), .int .i64 (0), .int .i64 (0)], .int .i64 (206)]) (by simp [results, Try.results23, go_sem]) rfl ⟨rfl, (by repeat (first | exact hX | exact Below.refl _ _ | refine Below.setCell ?_ (by simp <;> omega) _ | refine Below.alloc ?_ (by simp <;> omega) _))⟩
  · skip
    by_cases hm : ¬ (1 ≤ n ∧ n ≤ 1125899906842624)
    · skip
      obtain ⟨k1, k2, k3, k4, k5, k6, k7⟩ := Ac.okA_iff.1 hk
      have Hk := Lib.hid hk
      clear hk
      have e : Ac.chg f h q n 1 (Ac.less f h q n) = (0, 0, 0, 1) := by unfold Ac.chg; rw [Hk.out, if_pos rfl, if_neg hm]
      rw [e]
      clear e
      have h_1 := fun (w' : World) => asked_bad f h q n 1 w' Hk.out hm
      unfold acc at h_1 ⊢
      have H_1 := Lib.hid h_1
      clear h_1
      go_enter Try.func23, Try.ntmps23
      go_wp2_with fail
      refine (H_1.out _).mono ?_
      rintro e w1 ⟨rfl, rfl⟩
      go_wp2_with fail
      exact bodyPost_ret (v := .tuple #[.agg #[.int .i64 (0), .int .i64 (0), .int .i64 (0)], .int .i64 (1)]) (by simp [results, Try.results23, go_sem]) rfl ⟨rfl, (by repeat (first | exact hX | exact Below.refl _ _ | refine Below.setCell ?_ (by simp <;> omega) _ | refine Below.alloc ?_ (by simp <;> omega) _))⟩
    · skip
      by_cases hc : f < n
      · skip
        obtain ⟨k1, k2, k3, k4, k5, k6, k7⟩ := Ac.okA_iff.1 hk
        have Hk := Lib.hid hk
        clear hk
        have hm := Classical.not_not.1 hm
        have e : Ac.chg f h q n 1 (Ac.less f h q n) = (0, 0, 0, 201) := by unfold Ac.chg Ac.less; rw [Hk.out, if_pos rfl, if_pos hm, if_pos hc]
        rw [e]
        clear e
        have h_1 := fun (w' : World) => asked_ok f h q n 1 w' Hk.out hm.1 hm.2
        unfold acc at h_1 ⊢
        have H_1 := Lib.hid h_1
        clear h_1
        go_enter Try.func23, Try.ntmps23
        go_wp2_with fail
        refine (H_1.out _).mono ?_
        rintro e w1 ⟨rfl, rfl⟩
        go_wp2_with fail
        exact bodyPost_ret (v := .tuple #[.agg #[.int .i64 (0), .int .i64 (0), .int .i64 (0)], .int .i64 (201)]) (by simp [results, Try.results23, go_sem]) rfl ⟨rfl, (by repeat (first | exact hX | exact Below.refl _ _ | refine Below.setCell ?_ (by simp <;> omega) _ | refine Below.alloc ?_ (by simp <;> omega) _))⟩
      · skip
        obtain ⟨k1, k2, k3, k4, k5, k6, k7⟩ := Ac.okA_iff.1 hk
        have Hk := Lib.hid hk
        clear hk
        have hm := Classical.not_not.1 hm
        have e : Ac.chg f h q n 1 (Ac.less f h q n) = (f - n, h, q, 0) := by unfold Ac.chg Ac.less; rw [Hk.out, if_pos rfl, if_pos hm, if_neg hc]
        rw [e]
        clear e
        have h_1 := fun (w' : World) => asked_ok f h q n 1 w' Hk.out hm.1 hm.2
        unfold acc at h_1 ⊢
        have H_1 := Lib.hid h_1
        clear h_1
        go_enter Try.func23, Try.ntmps23
        go_wp2_with fail
        refine (H_1.out _).mono ?_
        rintro e w1 ⟨rfl, rfl⟩
        go_wp2_with fail
        exact bodyPost_ret (v := .tuple #[.agg #[.int .i64 (f - n), .int .i64 (h), .int .i64 (q)], .int .i64 (0)]) (by simp [results, Try.results23, go_sem]) rfl ⟨rfl, (by repeat (first | exact hX | exact Below.refl _ _ | refine Below.setCell ?_ (by simp <;> omega) _ | refine Below.alloc ?_ (by simp <;> omega) _))⟩
set_option maxRecDepth 100000 in
theorem rquota_any (f h q n : Int) (w : World)  :
    Calls Try.prog 25 #[acc f h q, .int .i64 n] w (GivesAcc w (Ac.chg f h q n 0 ((f, h, n, (0 : Int))))) := by
  rcases hk : Ac.okA f h q with _ | _
  · skip
    have e : Ac.chg f h q n 0 ((f, h, n, (0 : Int))) = (0, 0, 0, 206) := by unfold Ac.chg; rw [hk]; rfl
    rw [e]
    clear e
    have h_1 := fun (w' : World) => asked_no f h q n 0 w' hk
    unfold acc at h_1 ⊢
    have H_1 := Lib.hid h_1
    clear h_1
    go_enter Try.func25, Try.ntmps25
    go_wp2_with fail
    refine (H_1.out _).mono ?_
    rintro e w1 ⟨rfl, rfl⟩
    go_wp2_with fail
    exact bodyPost_ret (v := .tuple #[.agg #[.int .i64 (0), .int .i64 (0), .int .i64 (0)], .int .i64 (206)]) (by simp [results, Try.results25, go_sem]) rfl ⟨rfl, (by repeat (first | exact hX | exact Below.refl _ _ | refine Below.setCell ?_ (by simp <;> omega) _ | refine Below.alloc ?_ (by simp <;> omega) _))⟩
  · skip
    by_cases hm : ¬ (0 ≤ n ∧ n ≤ 1125899906842624)
    · skip
      obtain ⟨k1, k2, k3, k4, k5, k6, k7⟩ := Ac.okA_iff.1 hk
      have Hk := Lib.hid hk
      clear hk
      have e : Ac.chg f h q n 0 ((f, h, n, (0 : Int))) = (0, 0, 0, 1) := by unfold Ac.chg; rw [Hk.out, if_pos rfl, if_neg hm]
      rw [e]
      clear e
      have h_1 := fun (w' : World) => asked_bad f h q n 0 w' Hk.out hm
      unfold acc at h_1 ⊢
      have H_1 := Lib.hid h_1
      clear h_1
      go_enter Try.func25, Try.ntmps25
      go_wp2_with fail
      refine (H_1.out _).mono ?_
      rintro e w1 ⟨rfl, rfl⟩
      go_wp2_with fail
      exact bodyPost_ret (v := .tuple #[.agg #[.int .i64 (0), .int .i64 (0), .int .i64 (0)], .int .i64 (1)]) (by simp [results, Try.results25, go_sem]) rfl ⟨rfl, (by repeat (first | exact hX | exact Below.refl _ _ | refine Below.setCell ?_ (by simp <;> omega) _ | refine Below.alloc ?_ (by simp <;> omega) _))⟩
    · skip
      obtain ⟨k1, k2, k3, k4, k5, k6, k7⟩ := Ac.okA_iff.1 hk
      have Hk := Lib.hid hk
      clear hk
      have hm := Classical.not_not.1 hm
      have e : Ac.chg f h q n 0 ((f, h, n, (0 : Int))) = (f, h, n, 0) := by unfold Ac.chg; rw [Hk.out, if_pos rfl, if_pos hm]
      rw [e]
      clear e
      have h_1 := fun (w' : World) => asked_ok f h q n 0 w' Hk.out hm.1 hm.2
      unfold acc at h_1 ⊢
      have H_1 := Lib.hid h_1
      clear h_1
      go_enter Try.func25, Try.ntmps25
      go_wp2_with fail
      refine (H_1.out _).mono ?_
      rintro e w1 ⟨rfl, rfl⟩
      go_wp2_with fail
      exact bodyPost_ret (v := .tuple #[.agg #[.int .i64 (f), .int .i64 (h), .int .i64 (n)], .int .i64 (0)]) (by simp [results, Try.results25, go_sem]) rfl ⟨rfl, (by repeat (first | exact hX | exact Below.refl _ _ | refine Below.setCell ?_ (by simp <;> omega) _ | refine Below.alloc ?_ (by simp <;> omega) _))⟩
set_option maxRecDepth 100000 in
theorem rconfirm_any (f h q n u t : Int) (w : World)  :
    Calls Try.prog 31 #[acc f h q, hold n u, .int .i64 t] w (GivesAcc w (Ac.confirm f h q n u t)) := by
  rcases hk : Ac.okA f h q with _ | _
  · skip
    have e : Ac.confirm f h q n u t = (0, 0, 0, 206) := by unfold Ac.confirm; rw [hk]; rfl
    rw [e]
    clear e
    have h_1 := fun (w' : World) => timed_noa f h q n u t w' hk
    unfold acc at h_1 ⊢
    unfold hold at h_1 ⊢
    have H_1 := Lib.hid h_1
    clear h_1
    go_enter Try.func31, Try.ntmps31
    go_wp2_with fail
    refine (H_1.out _).mono ?_
    rintro e w1 ⟨rfl, rfl⟩
    go_wp2_with fail
    exact bodyPost_ret (v := .tuple #[.agg #[.int .i64 (0), .int .i64 (0), .int .i64 (0)], .int .i64 (206)]) (by simp [results, Try.results31, go_sem]) rfl ⟨rfl, (by repeat (first | exact hX | exact Below.refl _ _ | refine Below.setCell ?_ (by simp <;> omega) _ | refine Below.alloc ?_ (by simp <;> omega) _))⟩
  · skip
    rcases hj : Ac.okH n u with _ | _
    · skip
      have e : Ac.confirm f h q n u t = (0, 0, 0, 206) := by unfold Ac.confirm; rw [hk, hj]; rfl
      rw [e]
      clear e
      have h_1 := fun (w' : World) => timed_noh f h q n u t w' hk hj
      unfold acc at h_1 ⊢
      unfold hold at h_1 ⊢
      have H_1 := Lib.hid h_1
      clear h_1
      go_enter Try.func31, Try.ntmps31
      go_wp2_with fail
      refine (H_1.out _).mono ?_
      rintro e w1 ⟨rfl, rfl⟩
      go_wp2_with fail
      exact bodyPost_ret (v := .tuple #[.agg #[.int .i64 (0), .int .i64 (0), .int .i64 (0)], .int .i64 (206)]) (by simp [results, Try.results31, go_sem]) rfl ⟨rfl, (by repeat (first | exact hX | exact Below.refl _ _ | refine Below.setCell ?_ (by simp <;> omega) _ | refine Below.alloc ?_ (by simp <;> omega) _))⟩
    · skip
      by_cases hm : ¬ (0 ≤ t ∧ t ≤ 1099511627776)
      · skip
        obtain ⟨k1, k2, k3, k4, k5, k6, k7⟩ := Ac.okA_iff.1 hk
        obtain ⟨j1, j2, j3, j4⟩ := Ac.okH_iff.1 hj
        have Hk := Lib.hid hk
        have Hj := Lib.hid hj
        clear hk hj
        have e : Ac.confirm f h q n u t = (0, 0, 0, 1) := by unfold Ac.confirm; rw [Hk.out, Hj.out, if_pos (show (true && true) = true from rfl), if_neg hm]
        rw [e]
        clear e
        have h_1 := fun (w' : World) => timed_bad f h q n u t w' Hk.out Hj.out hm
        unfold acc at h_1 ⊢
        unfold hold at h_1 ⊢
        have H_1 := Lib.hid h_1
        clear h_1
        go_enter Try.func31, Try.ntmps31
        go_wp2_with fail
        refine (H_1.out _).mono ?_
        rintro e w1 ⟨rfl, rfl⟩
        go_wp2_with fail
        exact bodyPost_ret (v := .tuple #[.agg #[.int .i64 (0), .int .i64 (0), .int .i64 (0)], .int .i64 (1)]) (by simp [results, Try.results31, go_sem]) rfl ⟨rfl, (by repeat (first | exact hX | exact Below.refl _ _ | refine Below.setCell ?_ (by simp <;> omega) _ | refine Below.alloc ?_ (by simp <;> omega) _))⟩
      · skip
        by_cases hm2 : u < t
        · skip
          obtain ⟨k1, k2, k3, k4, k5, k6, k7⟩ := Ac.okA_iff.1 hk
          obtain ⟨j1, j2, j3, j4⟩ := Ac.okH_iff.1 hj
          have Hk := Lib.hid hk
          have Hj := Lib.hid hj
          clear hk hj
          have hm := Classical.not_not.1 hm
          have e : Ac.confirm f h q n u t = (0, 0, 0, 204) := by unfold Ac.confirm; rw [Hk.out, Hj.out, if_pos (show (true && true) = true from rfl), if_pos hm, if_pos hm2]
          rw [e]
          clear e
          have h_1 := fun (w' : World) => timed_ok f h q n u t w' Hk.out Hj.out hm.1 hm.2
          unfold acc at h_1 ⊢
          unfold hold at h_1 ⊢
          have H_1 := Lib.hid h_1
          clear h_1
          go_enter Try.func31, Try.ntmps31
          go_wp2_with fail
          refine (H_1.out _).mono ?_
          rintro e w1 ⟨rfl, rfl⟩
          go_wp2_with fail
          exact bodyPost_ret (v := .tuple #[.agg #[.int .i64 (0), .int .i64 (0), .int .i64 (0)], .int .i64 (204)]) (by simp [results, Try.results31, go_sem]) rfl ⟨rfl, (by repeat (first | exact hX | exact Below.refl _ _ | refine Below.setCell ?_ (by simp <;> omega) _ | refine Below.alloc ?_ (by simp <;> omega) _))⟩
        · skip
          by_cases hm3 : h < n
          · skip
            obtain ⟨k1, k2, k3, k4, k5, k6, k7⟩ := Ac.okA_iff.1 hk
            obtain ⟨j1, j2, j3, j4⟩ := Ac.okH_iff.1 hj
            have Hk := Lib.hid hk
            have Hj := Lib.hid hj
            clear hk hj
            have hm := Classical.not_not.1 hm
            have e : Ac.confirm f h q n u t = (0, 0, 0, 201) := by unfold Ac.confirm; rw [Hk.out, Hj.out, if_pos (show (true && true) = true from rfl), if_pos hm, if_neg hm2, if_pos hm3]
            rw [e]
            clear e
            have h_1 := fun (w' : World) => timed_ok f h q n u t w' Hk.out Hj.out hm.1 hm.2
            unfold acc at h_1 ⊢
            unfold hold at h_1 ⊢
            have H_1 := Lib.hid h_1
            clear h_1
            go_enter Try.func31, Try.ntmps31
            go_wp2_with fail
            refine (H_1.out _).mono ?_
            rintro e w1 ⟨rfl, rfl⟩
            go_wp2_with fail
            exact bodyPost_ret (v := .tuple #[.agg #[.int .i64 (0), .int .i64 (0), .int .i64 (0)], .int .i64 (201)]) (by simp [results, Try.results31, go_sem]) rfl ⟨rfl, (by repeat (first | exact hX | exact Below.refl _ _ | refine Below.setCell ?_ (by simp <;> omega) _ | refine Below.alloc ?_ (by simp <;> omega) _))⟩
          · skip
            obtain ⟨k1, k2, k3, k4, k5, k6, k7⟩ := Ac.okA_iff.1 hk
            obtain ⟨j1, j2, j3, j4⟩ := Ac.okH_iff.1 hj
            have Hk := Lib.hid hk
            have Hj := Lib.hid hj
            clear hk hj
            have hm := Classical.not_not.1 hm
            have e : Ac.confirm f h q n u t = (f, h - n, q, 0) := by unfold Ac.confirm; rw [Hk.out, Hj.out, if_pos (show (true && true) = true from rfl), if_pos hm, if_neg hm2, if_neg hm3]
            rw [e]
            clear e
            have h_1 := fun (w' : World) => timed_ok f h q n u t w' Hk.out Hj.out hm.1 hm.2
            unfold acc at h_1 ⊢
            unfold hold at h_1 ⊢
            have H_1 := Lib.hid h_1
            clear h_1
            go_enter Try.func31, Try.ntmps31
            go_wp2_with fail
            refine (H_1.out _).mono ?_
            rintro e w1 ⟨rfl, rfl⟩
            go_wp2_with fail
            exact bodyPost_ret (v := .tuple #[.agg #[.int .i64 (f), .int .i64 (h - n), .int .i64 (q)], .int .i64 (0)]) (by simp [results, Try.results31, go_sem]) rfl ⟨rfl, (by repeat (first | exact hX | exact Below.refl _ _ | refine Below.setCell ?_ (by simp <;> omega) _ | refine Below.alloc ?_ (by simp <;> omega) _))⟩
set_option maxRecDepth 100000 in
theorem rexpire_any (f h q n u t : Int) (w : World)  :
    Calls Try.prog 33 #[acc f h q, hold n u, .int .i64 t] w (GivesAcc w (Ac.expire f h q n u t)) := by
  rcases hk : Ac.okA f h q with _ | _
  · skip
    have e : Ac.expire f h q n u t = (0, 0, 0, 206) := by unfold Ac.expire; rw [hk]; rfl
    rw [e]
    clear e
    have h_1 := fun (w' : World) => timed_noa f h q n u t w' hk
    unfold acc at h_1 ⊢
    unfold hold at h_1 ⊢
    have H_1 := Lib.hid h_1
    clear h_1
    go_enter Try.func33, Try.ntmps33
    go_wp2_with fail
    refine (H_1.out _).mono ?_
    rintro e w1 ⟨rfl, rfl⟩
    go_wp2_with fail
    exact bodyPost_ret (v := .tuple #[.agg #[.int .i64 (0), .int .i64 (0), .int .i64 (0)], .int .i64 (206)]) (by simp [results, Try.results33, go_sem]) rfl ⟨rfl, (by repeat (first | exact hX | exact Below.refl _ _ | refine Below.setCell ?_ (by simp <;> omega) _ | refine Below.alloc ?_ (by simp <;> omega) _))⟩
  · skip
    rcases hj : Ac.okH n u with _ | _
    · skip
      have e : Ac.expire f h q n u t = (0, 0, 0, 206) := by unfold Ac.expire; rw [hk, hj]; rfl
      rw [e]
      clear e
      have h_1 := fun (w' : World) => timed_noh f h q n u t w' hk hj
      unfold acc at h_1 ⊢
      unfold hold at h_1 ⊢
      have H_1 := Lib.hid h_1
      clear h_1
      go_enter Try.func33, Try.ntmps33
      go_wp2_with fail
      refine (H_1.out _).mono ?_
      rintro e w1 ⟨rfl, rfl⟩
      go_wp2_with fail
      exact bodyPost_ret (v := .tuple #[.agg #[.int .i64 (0), .int .i64 (0), .int .i64 (0)], .int .i64 (206)]) (by simp [results, Try.results33, go_sem]) rfl ⟨rfl, (by repeat (first | exact hX | exact Below.refl _ _ | refine Below.setCell ?_ (by simp <;> omega) _ | refine Below.alloc ?_ (by simp <;> omega) _))⟩
    · skip
      by_cases hm : ¬ (0 ≤ t ∧ t ≤ 1099511627776)
      · skip
        obtain ⟨k1, k2, k3, k4, k5, k6, k7⟩ := Ac.okA_iff.1 hk
        obtain ⟨j1, j2, j3, j4⟩ := Ac.okH_iff.1 hj
        have Hk := Lib.hid hk
        have Hj := Lib.hid hj
        clear hk hj
        have e : Ac.expire f h q n u t = (0, 0, 0, 1) := by unfold Ac.expire; rw [Hk.out, Hj.out, if_pos (show (true && true) = true from rfl), if_neg hm]
        rw [e]
        clear e
        have h_1 := fun (w' : World) => timed_bad f h q n u t w' Hk.out Hj.out hm
        unfold acc at h_1 ⊢
        unfold hold at h_1 ⊢
        have H_1 := Lib.hid h_1
        clear h_1
        go_enter Try.func33, Try.ntmps33
        go_wp2_with fail
        refine (H_1.out _).mono ?_
        rintro e w1 ⟨rfl, rfl⟩
        go_wp2_with fail
        exact bodyPost_ret (v := .tuple #[.agg #[.int .i64 (0), .int .i64 (0), .int .i64 (0)], .int .i64 (1)]) (by simp [results, Try.results33, go_sem]) rfl ⟨rfl, (by repeat (first | exact hX | exact Below.refl _ _ | refine Below.setCell ?_ (by simp <;> omega) _ | refine Below.alloc ?_ (by simp <;> omega) _))⟩
      · skip
        by_cases hm2 : t ≤ u
        · skip
          obtain ⟨k1, k2, k3, k4, k5, k6, k7⟩ := Ac.okA_iff.1 hk
          obtain ⟨j1, j2, j3, j4⟩ := Ac.okH_iff.1 hj
          have Hk := Lib.hid hk
          have Hj := Lib.hid hj
          clear hk hj
          have hm := Classical.not_not.1 hm
          have e : Ac.expire f h q n u t = (f, h, q, 0) := by unfold Ac.expire; rw [Hk.out, Hj.out, if_pos (show (true && true) = true from rfl), if_pos hm, if_pos hm2]
          rw [e]
          clear e
          have h_1 := fun (w' : World) => timed_ok f h q n u t w' Hk.out Hj.out hm.1 hm.2
          unfold acc at h_1 ⊢
          unfold hold at h_1 ⊢
          have H_1 := Lib.hid h_1
          clear h_1
          go_enter Try.func33, Try.ntmps33
          go_wp2_with fail
          refine (H_1.out _).mono ?_
          rintro e w1 ⟨rfl, rfl⟩
          go_wp2_with fail
          exact bodyPost_ret (v := .tuple #[.agg #[.int .i64 (f), .int .i64 (h), .int .i64 (q)], .int .i64 (0)]) (by simp [results, Try.results33, go_sem]) rfl ⟨rfl, (by repeat (first | exact hX | exact Below.refl _ _ | refine Below.setCell ?_ (by simp <;> omega) _ | refine Below.alloc ?_ (by simp <;> omega) _))⟩
        · skip
          obtain ⟨k1, k2, k3, k4, k5, k6, k7⟩ := Ac.okA_iff.1 hk
          obtain ⟨j1, j2, j3, j4⟩ := Ac.okH_iff.1 hj
          have Hk := Lib.hid hk
          have Hj := Lib.hid hj
          clear hk hj
          have hm := Classical.not_not.1 hm
          have e : Ac.expire f h q n u t = Ac.cancel f h q n u := by unfold Ac.expire; rw [Hk.out, Hj.out, if_pos (show (true && true) = true from rfl), if_pos hm, if_neg hm2]
          rw [e]
          clear e
          have hcan := fun w' => rcancel_any f h q n u w'
          generalize Ac.cancel f h q n u = g at hcan ⊢
          obtain ⟨g1, g2, g3, g4⟩ := g
          unfold GivesAcc at hcan
          have h_1 := fun (w' : World) => timed_ok f h q n u t w' Hk.out Hj.out hm.1 hm.2
          have h_2 := fun (w' : World) => hcan w'
          clear hcan
          unfold acc at h_1 h_2 ⊢
          unfold hold at h_1 h_2 ⊢
          have H_1 := Lib.hid h_1
          have H_2 := Lib.hid h_2
          clear h_1 h_2
          go_enter Try.func33, Try.ntmps33
          go_wp2_with fail
          refine (H_1.out _).mono ?_
          rintro e w1 ⟨rfl, rfl⟩
          go_wp2_with fail
          refine (H_2.out _).mono ?_
          rintro e w2 ⟨rfl, hb2⟩
          have hX : Below w.heap.size w w2 := below_next (by repeat (first | exact Below.refl _ _ | refine Below.setCell ?_ (by simp <;> omega) _ | refine Below.alloc ?_ (by simp <;> omega) _)) hb2
          have HB := hb2
          clear hb2
          obtain ⟨hc2, hf2⟩ := bcell HB
          go_wp2_with fail
          exact bodyPost_ret (v := .tuple #[.agg #[.int .i64 (g1), .int .i64 (g2), .int .i64 (g3)], .int .i64 (g4)]) (by simp [results, Try.results33, go_sem, hc2]) rfl ⟨rfl, (by repeat (first | exact hX | exact Below.refl _ _ | refine Below.setCell ?_ (by simp <;> omega) _ | refine Below.alloc ?_ (by simp <;> omega) _))⟩
end Go.Proofs.Ytionaciiaahacaa
