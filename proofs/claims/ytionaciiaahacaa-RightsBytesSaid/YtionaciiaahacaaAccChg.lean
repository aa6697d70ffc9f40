/- What rights' changes by a number return: more, less, Quota and what is made of them. -/
import Derived.Test.YtionaciiaahacaaAcc
namespace Go.Proofs.Ytionaciiaahacaa
open Go.RowKit
set_option linter.unusedVariables false
set_option maxRecDepth 100000 in
theorem more1_any (b : Nat) (f h q n : Int) (w : World) (hb : b < w.heap.size) (hn : w.cell? ⟨b, 0, none⟩ = some (.int .i64 n)) (hk : Ac.okA f h q = true) (h1 : 1 ≤ n) (h2 : n ≤ 1125899906842624) :
    Calls Try.prog 55 #[acc f h q, .pointer (some ⟨b, 0, none⟩)] w (GivesAcc w (Ac.more f h q n)) := by
  unfold acc
  obtain ⟨k1, k2, k3, k4, k5, k6, k7⟩ := Ac.okA_iff.1 hk
  have Hk := Lib.hid hk
  clear hk
  by_cases hm : 1125899906842624 < f + h + n
  · skip
    have e : Ac.more f h q n = (0, 0, 0, 200) := by unfold Ac.more; rw [if_pos hm]
    rw [e]
    clear e
    go_enter Try.func55, Try.ntmps55
    go_wp2
    exact bodyPost_ret (v := .tuple #[.agg #[.int .i64 (0), .int .i64 (0), .int .i64 (0)], .int .i64 (200)]) (by simp [results, Try.results55, go_sem]) rfl ⟨rfl, (by repeat (first | exact hX | exact Below.refl _ _ | refine Below.setCell ?_ (by simp <;> omega) _ | refine Below.alloc ?_ (by simp <;> omega) _))⟩
  · skip
    have e : Ac.more f h q n = (f + n, h, q, 0) := by unfold Ac.more; rw [if_neg hm]
    rw [e]
    clear e
    go_enter Try.func55, Try.ntmps55
    go_wp2
    exact bodyPost_ret (v := .tuple #[.agg #[.int .i64 (f + n), .int .i64 (h), .int .i64 (q)], .int .i64 (0)]) (by simp [results, Try.results55, go_sem]) rfl ⟨rfl, (by repeat (first | exact hX | exact Below.refl _ _ | refine Below.setCell ?_ (by simp <;> omega) _ | refine Below.alloc ?_ (by simp <;> omega) _))⟩
set_option maxRecDepth 100000 in
theorem less1_any (b : Nat) (f h q n : Int) (w : World) (hb : b < w.heap.size) (hn : w.cell? ⟨b, 0, none⟩ = some (.int .i64 n)) (hk : Ac.okA f h q = true) (h1 : 1 ≤ n) (h2 : n ≤ 1125899906842624) :
    Calls Try.prog 56 #[acc f h q, .pointer (some ⟨b, 0, none⟩)] w (GivesAcc w (Ac.less f h q n)) := by
  unfold acc
  obtain ⟨k1, k2, k3, k4, k5, k6, k7⟩ := Ac.okA_iff.1 hk
  have Hk := Lib.hid hk
  clear hk
  by_cases hm : f < n
  · skip
    have e : Ac.less f h q n = (0, 0, 0, 201) := by unfold Ac.less; rw [if_pos hm]
    rw [e]
    clear e
    go_enter Try.func56, Try.ntmps56
    go_wp2
    exact bodyPost_ret (v := .tuple #[.agg #[.int .i64 (0), .int .i64 (0), .int .i64 (0)], .int .i64 (201)]) (by simp [results, Try.results56, go_sem]) rfl ⟨rfl, (by repeat (first | exact hX | exact Below.refl _ _ | refine Below.setCell ?_ (by simp <;> omega) _ | refine Below.alloc ?_ (by simp <;> omega) _))⟩
  · skip
    have e : Ac.less f h q n = (f - n, h, q, 0) := by unfold Ac.less; rw [if_neg hm]
    rw [e]
    clear e
    go_enter Try.func56, Try.ntmps56
    go_wp2
    exact bodyPost_ret (v := .tuple #[.agg #[.int .i64 (f - n), .int .i64 (h), .int .i64 (q)], .int .i64 (0)]) (by simp [results, Try.results56, go_sem]) rfl ⟨rfl, (by repeat (first | exact hX | exact Below.refl _ _ | refine Below.setCell ?_ (by simp <;> omega) _ | refine Below.alloc ?_ (by simp <;> omega) _))⟩
set_option maxRecDepth 100000 in
theorem quota1_any (b : Nat) (f h q n : Int) (w : World) (hb : b < w.heap.size) (hn : w.cell? ⟨b, 0, none⟩ = some (.int .i64 n)) :
    Calls Try.prog 49 #[acc f h q, .pointer (some ⟨b, 0, none⟩)] w (GivesAcc w ((f, h, n, (0 : Int)))) := by
  unfold acc
  have e : (f, h, n, (0 : Int)) = (f, h, n, 0) := by rfl
  rw [e]
  clear e
  go_enter Try.func49, Try.ntmps49
  go_wp2
  exact bodyPost_ret (v := .tuple #[.agg #[.int .i64 (f), .int .i64 (h), .int .i64 (n)], .int .i64 (0)]) (by simp [results, Try.results49, go_sem]) rfl ⟨rfl, (by repeat (first | exact hX | exact Below.refl _ _ | refine Below.setCell ?_ (by simp <;> omega) _ | refine Below.alloc ?_ (by simp <;> omega) _))⟩
set_option maxRecDepth 100000 in
theorem change_more (b : Nat) (f h q n least : Int) (g : Int × Int × Int × Int) (w : World) (hb : b < w.heap.size)
    (hdo : Ac.okA f h q = true → least ≤ n → n ≤ 1125899906842624 → ∀ w', Below w.heap.size w w' → Calls Try.prog 55 #[acc f h q, .pointer (some ⟨b, 0, none⟩)] w' (GivesAcc w' g)) :
    Calls Try.prog 48 #[acc f h q, .int .i64 n, .int .i64 least, .func (.func 55) #[] #[.pointer (some ⟨b, 0, none⟩)]] w (GivesAcc w (Ac.chg f h q n least g)) := by
  rcases hk : Ac.okA f h q with _ | _
  · have e : Ac.chg f h q n least g = (0, 0, 0, 206) := by unfold Ac.chg; rw [hk]; rfl
    rw [e]
    clear e hdo
    have hc := fun w' => check_no hk w'
    unfold acc at hc ⊢
    have Hc := Lib.hid hc
    clear hc hk
    go_enter Try.func48, Try.ntmps48
    go_wp2_with fail
    refine (Hc.out _).mono ?_
    rintro e w1 ⟨rfl, rfl⟩
    go_wp2_with fail
    exact bodyPost_ret (v := .tuple #[.agg #[.int .i64 (0), .int .i64 (0), .int .i64 (0)], .int .i64 (206)]) (by simp [results, Try.results48, go_sem]) rfl ⟨rfl, (by repeat (first | exact hX | exact Below.refl _ _ | refine Below.setCell ?_ (by simp <;> omega) _ | refine Below.alloc ?_ (by simp <;> omega) _))⟩
  · by_cases hn : least ≤ n ∧ n ≤ 1125899906842624
    · have e : Ac.chg f h q n least g = g := by unfold Ac.chg; rw [hk, if_pos rfl, if_pos hn]
      rw [e]
      clear e
      have hd := hdo hk hn.1 hn.2
      have hc := fun w' => check_yes hk w'
      have hwi := fun w' => within_yes hn w'
      obtain ⟨g1, g2, g3, g4⟩ := g
      unfold GivesAcc at hd
      unfold acc at hc hd ⊢
      have Hc := Lib.hid hc
      have Hd := Lib.hid hd
      have Hw := Lib.hid hwi
      clear hc hk hd hdo hwi hn
      go_enter Try.func48, Try.ntmps48
      go_wp2_with fail
      refine (Hc.out _).mono ?_
      rintro e w1 ⟨rfl, rfl⟩
      go_wp2_with fail
      refine (Hw.out _).mono ?_
      rintro e w2 ⟨rfl, rfl⟩
      go_wp2_with fail
      refine (Hd.out _ (by repeat (first | exact Below.refl _ _ | refine Below.alloc ?_ (by simp <;> omega) _))).mono ?_
      rintro e w1 ⟨rfl, hb1⟩
      have hX : Below w.heap.size w w1 := below_next (by repeat (first | exact Below.refl _ _ | refine Below.setCell ?_ (by simp <;> omega) _ | refine Below.alloc ?_ (by simp <;> omega) _)) hb1
      have HB := hb1
      clear hb1
      obtain ⟨hc1, hf1⟩ := bcell HB
      go_wp2_with fail
      exact bodyPost_ret (v := .tuple #[.agg #[.int .i64 g1, .int .i64 g2, .int .i64 g3], .int .i64 g4]) (by simp [results, Try.results48, go_sem, hc1]) rfl ⟨rfl, (by repeat (first | exact hX | exact Below.refl _ _ | refine Below.setCell ?_ (by simp <;> omega) _ | refine Below.alloc ?_ (by simp <;> omega) _))⟩
    · have e : Ac.chg f h q n least g = (0, 0, 0, 1) := by unfold Ac.chg; rw [hk, if_pos rfl, if_neg hn]
      rw [e]
      clear e
      have hc := fun w' => check_yes hk w'
      have hwi := fun w' => within_no hn w'
      unfold acc at hc ⊢
      have Hc := Lib.hid hc
      have Hw := Lib.hid hwi
      clear hc hk hdo hwi hn
      go_enter Try.func48, Try.ntmps48
      go_wp2_with fail
      refine (Hc.out _).mono ?_
      rintro e w1 ⟨rfl, rfl⟩
      go_wp2_with fail
      refine (Hw.out _).mono ?_
      rintro e w2 ⟨rfl, rfl⟩
      go_wp2_with fail
      exact bodyPost_ret (v := .tuple #[.agg #[.int .i64 (0), .int .i64 (0), .int .i64 (0)], .int .i64 (1)]) (by simp [results, Try.results48, go_sem]) rfl ⟨rfl, (by repeat (first | exact hX | exact Below.refl _ _ | refine Below.setCell ?_ (by simp <;> omega) _ | refine Below.alloc ?_ (by simp <;> omega) _))⟩
set_option maxRecDepth 100000 in
theorem change_less (b : Nat) (f h q n least : Int) (g : Int × Int × Int × Int) (w : World) (hb : b < w.heap.size)
    (hdo : Ac.okA f h q = true → least ≤ n → n ≤ 1125899906842624 → ∀ w', Below w.heap.size w w' → Calls Try.prog 56 #[acc f h q, .pointer (some ⟨b, 0, none⟩)] w' (GivesAcc w' g)) :
    Calls Try.prog 48 #[acc f h q, .int .i64 n, .int .i64 least, .func (.func 56) #[] #[.pointer (some ⟨b, 0, none⟩)]] w (GivesAcc w (Ac.chg f h q n least g)) := by
  rcases hk : Ac.okA f h q with _ | _
  · have e : Ac.chg f h q n least g = (0, 0, 0, 206) := by unfold Ac.chg; rw [hk]; rfl
    rw [e]
    clear e hdo
    have hc := fun w' => check_no hk w'
    unfold acc at hc ⊢
    have Hc := Lib.hid hc
    clear hc hk
    go_enter Try.func48, Try.ntmps48
    go_wp2_with fail
    refine (Hc.out _).mono ?_
    rintro e w1 ⟨rfl, rfl⟩
    go_wp2_with fail
    exact bodyPost_ret (v := .tuple #[.agg #[.int .i64 (0), .int .i64 (0), .int .i64 (0)], .int .i64 (206)]) (by simp [results, Try.results48, go_sem]) rfl ⟨rfl, (by repeat (first | exact hX | exact Below.refl _ _ | refine Below.setCell ?_ (by simp <;> omega) _ | refine Below.alloc ?_ (by simp <;> omega) _))⟩
  · by_cases hn : least ≤ n ∧ n ≤ 1125899906842624
    · have e : Ac.chg f h q n least g = g := by unfold Ac.chg; rw [hk, if_pos rfl, if_pos hn]
      rw [e]
      clear e
      have hd := hdo hk hn.1 hn.2
      have hc := fun w' => check_yes hk w'
      have hwi := fun w' => within_yes hn w'
      obtain ⟨g1, g2, g3, g4⟩ := g
      unfold GivesAcc at hd
      unfold acc at hc hd ⊢
      have Hc := Lib.hid hc
      have Hd := Lib.hid hd
      have Hw := Lib.hid hwi
      clear hc hk hd hdo hwi hn
      go_enter Try.func48, Try.ntmps48
      go_wp2_with fail
      refine (Hc.out _).mono ?_
      rintro e w1 ⟨rfl, rfl⟩
      go_wp2_with fail
      refine (Hw.out _).mono ?_
      rintro e w2 ⟨rfl, rfl⟩
      go_wp2_with fail
      refine (Hd.out _ (by repeat (first | exact Below.refl _ _ | refine Below.alloc ?_ (by simp <;> omega) _))).mono ?_
      rintro e w1 ⟨rfl, hb1⟩
      have hX : Below w.heap.size w w1 := below_next (by repeat (first | exact Below.refl _ _ | refine Below.setCell ?_ (by simp <;> omega) _ | refine Below.alloc ?_ (by simp <;> omega) _)) hb1
      have HB := hb1
      clear hb1
      obtain ⟨hc1, hf1⟩ := bcell HB
      go_wp2_with fail
      exact bodyPost_ret (v := .tuple #[.agg #[.int .i64 g1, .int .i64 g2, .int .i64 g3], .int .i64 g4]) (by simp [results, Try.results48, go_sem, hc1]) rfl ⟨rfl, (by repeat (first | exact hX | exact Below.refl _ _ | refine Below.setCell ?_ (by simp <;> omega) _ | refine Below.alloc ?_ (by simp <;> omega) _))⟩
    · have e : Ac.chg f h q n least g = (0, 0, 0, 1) := by unfold Ac.chg; rw [hk, if_pos rfl, if_neg hn]
      rw [e]
      clear e
      have hc := fun w' => check_yes hk w'
      have hwi := fun w' => within_no hn w'
      unfold acc at hc ⊢
      have Hc := Lib.hid hc
      have Hw := Lib.hid hwi
      clear hc hk hdo hwi hn
      go_enter Try.func48, Try.ntmps48
      go_wp2_with fail
      refine (Hc.out _).mono ?_
      rintro e w1 ⟨rfl, rfl⟩
      go_wp2_with fail
      refine (Hw.out _).mono ?_
      rintro e w2 ⟨rfl, rfl⟩
      go_wp2_with fail
      exact bodyPost_ret (v := .tuple #[.agg #[.int .i64 (0), .int .i64 (0), .int .i64 (0)], .int .i64 (1)]) (by simp [results, Try.results48, go_sem]) rfl ⟨rfl, (by repeat (first | exact hX | exact Below.refl _ _ | refine Below.setCell ?_ (by simp <;> omega) _ | refine Below.alloc ?_ (by simp <;> omega) _))⟩
set_option maxRecDepth 100000 in
theorem change_quota (b : Nat) (f h q n least : Int) (g : Int × Int × Int × Int) (w : World) (hb : b < w.heap.size)
    (hdo : Ac.okA f h q = true → least ≤ n → n ≤ 1125899906842624 → ∀ w', Below w.heap.size w w' → Calls Try.prog 49 #[acc f h q, .pointer (some ⟨b, 0, none⟩)] w' (GivesAcc w' g)) :
    Calls Try.prog 48 #[acc f h q, .int .i64 n, .int .i64 least, .func (.func 49) #[] #[.pointer (some ⟨b, 0, none⟩)]] w (GivesAcc w (Ac.chg f h q n least g)) := by
  rcases hk : Ac.okA f h q with _ | _
  · have e : Ac.chg f h q n least g = (0, 0, 0, 206) := by unfold Ac.chg; rw [hk]; rfl
    rw [e]
    clear e hdo
    have hc := fun w' => check_no hk w'
    unfold acc at hc ⊢
    have Hc := Lib.hid hc
    clear hc hk
    go_enter Try.func48, Try.ntmps48
    go_wp2_with fail
    refine (Hc.out _).mono ?_
    rintro e w1 ⟨rfl, rfl⟩
    go_wp2_with fail
    exact bodyPost_ret (v := .tuple #[.agg #[.int .i64 (0), .int .i64 (0), .int .i64 (0)], .int .i64 (206)]) (by simp [results, Try.results48, go_sem]) rfl ⟨rfl, (by repeat (first | exact hX | exact Below.refl _ _ | refine Below.setCell ?_ (by simp <;> omega) _ | refine Below.alloc ?_ (by simp <;> omega) _))⟩
  · by_cases hn : least ≤ n ∧ n ≤ 1125899906842624
    · have e : Ac.chg f h q n least g = g := by unfold Ac.chg; rw [hk, if_pos rfl, if_pos hn]
      rw [e]
      clear e
      have hd := hdo hk hn.1 hn.2
      have hc := fun w' => check_yes hk w'
      have hwi := fun w' => within_yes hn w'
      obtain ⟨g1, g2, g3, g4⟩ := g
      unfold GivesAcc at hd
      unfold acc at hc hd ⊢
      have Hc := Lib.hid hc
      have Hd := Lib.hid hd
      have Hw := Lib.hid hwi
      clear hc hk hd hdo hwi hn
      go_enter Try.func48, Try.ntmps48
      go_wp2_with fail
      refine (Hc.out _).mono ?_
      rintro e w1 ⟨rfl, rfl⟩
      go_wp2_with fail
      refine (Hw.out _).mono ?_
      rintro e w2 ⟨rfl, rfl⟩
      go_wp2_with fail
      refine (Hd.out _ (by repeat (first | exact Below.refl _ _ | refine Below.alloc ?_ (by simp <;> omega) _))).mono ?_
      rintro e w1 ⟨rfl, hb1⟩
      have hX : Below w.heap.size w w1 := below_next (by repeat (first | exact Below.refl _ _ | refine Below.setCell ?_ (by simp <;> omega) _ | refine Below.alloc ?_ (by simp <;> omega) _)) hb1
      have HB := hb1
      clear hb1
      obtain ⟨hc1, hf1⟩ := bcell HB
      go_wp2_with fail
      exact bodyPost_ret (v := .tuple #[.agg #[.int .i64 g1, .int .i64 g2, .int .i64 g3], .int .i64 g4]) (by simp [results, Try.results48, go_sem, hc1]) rfl ⟨rfl, (by repeat (first | exact hX | exact Below.refl _ _ | refine Below.setCell ?_ (by simp <;> omega) _ | refine Below.alloc ?_ (by simp <;> omega) _))⟩
    · have e : Ac.chg f h q n least g = (0, 0, 0, 1) := by unfold Ac.chg; rw [hk, if_pos rfl, if_neg hn]
      rw [e]
      clear e
      have hc := fun w' => check_yes hk w'
      have hwi := fun w' => within_no hn w'
      unfold acc at hc ⊢
      have Hc := Lib.hid hc
      have Hw := Lib.hid hwi
      clear hc hk hdo hwi hn
      go_enter Try.func48, Try.ntmps48
      go_wp2_with fail
      refine (Hc.out _).mono ?_
      rintro e w1 ⟨rfl, rfl⟩
      go_wp2_with fail
      refine (Hw.out _).mono ?_
      rintro e w2 ⟨rfl, rfl⟩
      go_wp2_with fail
      exact bodyPost_ret (v := .tuple #[.agg #[.int .i64 (0), .int .i64 (0), .int .i64 (0)], .int .i64 (1)]) (by simp [results, Try.results48, go_sem]) rfl ⟨rfl, (by repeat (first | exact hX | exact Below.refl _ _ | refine Below.setCell ?_ (by simp <;> omega) _ | refine Below.alloc ?_ (by simp <;> omega) _))⟩
set_option maxRecDepth 100000 in
theorem more_any (f h q n : Int) (w : World) : Calls Try.prog 45 #[acc f h q, .int .i64 n] w (GivesAcc w (Ac.chg f h q n 1 (Ac.more f h q n))) := by
  have hc := fun (w' : World) (hb : w.heap.size + 1 < w'.heap.size) (hn : w'.cell? ⟨w.heap.size + 1, 0, none⟩ = some (.int .i64 n)) => change_more (w.heap.size + 1) f h q n 1 (Ac.more f h q n) w' hb (fun hk hl hm w2 hb2 => more1_any (w.heap.size + 1) f h q n w2 (Nat.lt_of_lt_of_le hb hb2.size) ((hb2.cell (p := ⟨w.heap.size + 1, 0, none⟩) hb).trans hn) hk hl hm)
  generalize Ac.chg f h q n 1 (Ac.more f h q n) = g at hc ⊢
  obtain ⟨g1, g2, g3, g4⟩ := g
  unfold GivesAcc at hc
  unfold acc at hc ⊢
  have Hc := Lib.hid hc
  clear hc
  go_enter Try.func45, Try.ntmps45
  go_wp2_with fail
  refine (Hc.out _ (by simp) (by go_simp)).mono ?_
  rintro e w1 ⟨rfl, hb1⟩
  have hX : Below w.heap.size w w1 := below_next (by repeat (first | exact Below.refl _ _ | refine Below.setCell ?_ (by simp <;> omega) _ | refine Below.alloc ?_ (by simp <;> omega) _)) hb1
  have HB := hb1
  clear hb1
  obtain ⟨hc1, hf1⟩ := bcell HB
  go_wp2_with fail
  exact bodyPost_ret (v := .tuple #[.agg #[.int .i64 g1, .int .i64 g2, .int .i64 g3], .int .i64 g4]) (by simp [results, Try.results45, go_sem, hc1]) rfl ⟨rfl, (by repeat (first | exact hX | exact Below.refl _ _ | refine Below.setCell ?_ (by simp <;> omega) _ | refine Below.alloc ?_ (by simp <;> omega) _))⟩
set_option maxRecDepth 100000 in
theorem less_any (f h q n : Int) (w : World) : Calls Try.prog 47 #[acc f h q, .int .i64 n] w (GivesAcc w (Ac.chg f h q n 1 (Ac.less f h q n))) := by
  have hc := fun (w' : World) (hb : w.heap.size + 1 < w'.heap.size) (hn : w'.cell? ⟨w.heap.size + 1, 0, none⟩ = some (.int .i64 n)) => change_less (w.heap.size + 1) f h q n 1 (Ac.less f h q n) w' hb (fun hk hl hm w2 hb2 => less1_any (w.heap.size + 1) f h q n w2 (Nat.lt_of_lt_of_le hb hb2.size) ((hb2.cell (p := ⟨w.heap.size + 1, 0, none⟩) hb).trans hn) hk hl hm)
  generalize Ac.chg f h q n 1 (Ac.less f h q n) = g at hc ⊢
  obtain ⟨g1, g2, g3, g4⟩ := g
  unfold GivesAcc at hc
  unfold acc at hc ⊢
  have Hc := Lib.hid hc
  clear hc
  go_enter Try.func47, Try.ntmps47
  go_wp2_with fail
  refine (Hc.out _ (by simp) (by go_simp)).mono ?_
  rintro e w1 ⟨rfl, hb1⟩
  have hX : Below w.heap.size w w1 := below_next (by repeat (first | exact Below.refl _ _ | refine Below.setCell ?_ (by simp <;> omega) _ | refine Below.alloc ?_ (by simp <;> omega) _)) hb1
  have HB := hb1
  clear hb1
  obtain ⟨hc1, hf1⟩ := bcell HB
  go_wp2_with fail
  exact bodyPost_ret (v := .tuple #[.agg #[.int .i64 g1, .int .i64 g2, .int .i64 g3], .int .i64 g4]) (by simp [results, Try.results47, go_sem, hc1]) rfl ⟨rfl, (by repeat (first | exact hX | exact Below.refl _ _ | refine Below.setCell ?_ (by simp <;> omega) _ | refine Below.alloc ?_ (by simp <;> omega) _))⟩
set_option maxRecDepth 100000 in
theorem quota_any (f h q n : Int) (w : World) : Calls Try.prog 24 #[acc f h q, .int .i64 n] w (GivesAcc w (Ac.chg f h q n 0 ((f, h, n, (0 : Int))))) := by
  have hc := fun (w' : World) (hb : w.heap.size + 1 < w'.heap.size) (hn : w'.cell? ⟨w.heap.size + 1, 0, none⟩ = some (.int .i64 n)) => change_quota (w.heap.size + 1) f h q n 0 ((f, h, n, (0 : Int))) w' hb (fun hk hl hm w2 hb2 => quota1_any (w.heap.size + 1) f h q n w2 (Nat.lt_of_lt_of_le hb hb2.size) ((hb2.cell (p := ⟨w.heap.size + 1, 0, none⟩) hb).trans hn))
  generalize Ac.chg f h q n 0 ((f, h, n, (0 : Int))) = g at hc ⊢
  obtain ⟨g1, g2, g3, g4⟩ := g
  unfold GivesAcc at hc
  unfold acc at hc ⊢
  have Hc := Lib.hid hc
  clear hc
  go_enter Try.func24, Try.ntmps24
  go_wp2_with fail
  refine (Hc.out _ (by simp) (by go_simp)).mono ?_
  rintro e w1 ⟨rfl, hb1⟩
  have hX : Below w.heap.size w w1 := below_next (by repeat (first | exact Below.refl _ _ | refine Below.setCell ?_ (by simp <;> omega) _ | refine Below.alloc ?_ (by simp <;> omega) _)) hb1
  have HB := hb1
  clear hb1
  obtain ⟨hc1, hf1⟩ := bcell HB
  go_wp2_with fail
  exact bodyPost_ret (v := .tuple #[.agg #[.int .i64 g1, .int .i64 g2, .int .i64 g3], .int .i64 g4]) (by simp [results, Try.results24, go_sem, hc1]) rfl ⟨rfl, (by repeat (first | exact hX | exact Below.refl _ _ | refine Below.setCell ?_ (by simp <;> omega) _ | refine Below.alloc ?_ (by simp <;> omega) _))⟩
set_option maxRecDepth 100000 in
theorem grant_any (f h q n : Int) (w : World) : Calls Try.prog 18 #[acc f h q, .int .i64 n] w (GivesAcc w (Ac.chg f h q n 1 (Ac.more f h q n))) := by
  have hc := fun (w' : World) => more_any f h q n w'
  generalize Ac.chg f h q n 1 (Ac.more f h q n) = g at hc ⊢
  obtain ⟨g1, g2, g3, g4⟩ := g
  unfold GivesAcc at hc
  unfold acc at hc ⊢
  have Hc := Lib.hid hc
  clear hc
  go_enter Try.func18, Try.ntmps18
  go_wp2_with fail
  refine (Hc.out _).mono ?_
  rintro e w1 ⟨rfl, hb1⟩
  have hX : Below w.heap.size w w1 := below_next (by repeat (first | exact Below.refl _ _ | refine Below.setCell ?_ (by simp <;> omega) _ | refine Below.alloc ?_ (by simp <;> omega) _)) hb1
  have HB := hb1
  clear hb1
  obtain ⟨hc1, hf1⟩ := bcell HB
  go_wp2_with fail
  exact bodyPost_ret (v := .tuple #[.agg #[.int .i64 g1, .int .i64 g2, .int .i64 g3], .int .i64 g4]) (by simp [results, Try.results18, go_sem, hc1]) rfl ⟨rfl, (by repeat (first | exact hX | exact Below.refl _ _ | refine Below.setCell ?_ (by simp <;> omega) _ | refine Below.alloc ?_ (by simp <;> omega) _))⟩
set_option maxRecDepth 100000 in
theorem credit_any (f h q n : Int) (w : World) : Calls Try.prog 19 #[acc f h q, .int .i64 n] w (GivesAcc w (Ac.chg f h q n 1 (Ac.more f h q n))) := by
  have hc := fun (w' : World) => more_any f h q n w'
  generalize Ac.chg f h q n 1 (Ac.more f h q n) = g at hc ⊢
  obtain ⟨g1, g2, g3, g4⟩ := g
  unfold GivesAcc at hc
  unfold acc at hc ⊢
  have Hc := Lib.hid hc
  clear hc
  go_enter Try.func19, Try.ntmps19
  go_wp2_with fail
  refine (Hc.out _).mono ?_
  rintro e w1 ⟨rfl, hb1⟩
  have hX : Below w.heap.size w w1 := below_next (by repeat (first | exact Below.refl _ _ | refine Below.setCell ?_ (by simp <;> omega) _ | refine Below.alloc ?_ (by simp <;> omega) _)) hb1
  have HB := hb1
  clear hb1
  obtain ⟨hc1, hf1⟩ := bcell HB
  go_wp2_with fail
  exact bodyPost_ret (v := .tuple #[.agg #[.int .i64 g1, .int .i64 g2, .int .i64 g3], .int .i64 g4]) (by simp [results, Try.results19, go_sem, hc1]) rfl ⟨rfl, (by repeat (first | exact hX | exact Below.refl _ _ | refine Below.setCell ?_ (by simp <;> omega) _ | refine Below.alloc ?_ (by simp <;> omega) _))⟩
set_option maxRecDepth 100000 in
theorem spend_any (f h q n : Int) (w : World) : Calls Try.prog 21 #[acc f h q, .int .i64 n] w (GivesAcc w (Ac.chg f h q n 1 (Ac.less f h q n))) := by
  have hc := fun (w' : World) => less_any f h q n w'
  generalize Ac.chg f h q n 1 (Ac.less f h q n) = g at hc ⊢
  obtain ⟨g1, g2, g3, g4⟩ := g
  unfold GivesAcc at hc
  unfold acc at hc ⊢
  have Hc := Lib.hid hc
  clear hc
  go_enter Try.func21, Try.ntmps21
  go_wp2_with fail
  refine (Hc.out _).mono ?_
  rintro e w1 ⟨rfl, hb1⟩
  have hX : Below w.heap.size w w1 := below_next (by repeat (first | exact Below.refl _ _ | refine Below.setCell ?_ (by simp <;> omega) _ | refine Below.alloc ?_ (by simp <;> omega) _)) hb1
  have HB := hb1
  clear hb1
  obtain ⟨hc1, hf1⟩ := bcell HB
  go_wp2_with fail
  exact bodyPost_ret (v := .tuple #[.agg #[.int .i64 g1, .int .i64 g2, .int .i64 g3], .int .i64 g4]) (by simp [results, Try.results21, go_sem, hc1]) rfl ⟨rfl, (by repeat (first | exact hX | exact Below.refl _ _ | refine Below.setCell ?_ (by simp <;> omega) _ | refine Below.alloc ?_ (by simp <;> omega) _))⟩
set_option maxRecDepth 100000 in
theorem debit_any (f h q n : Int) (w : World) : Calls Try.prog 22 #[acc f h q, .int .i64 n] w (GivesAcc w (Ac.chg f h q n 1 (Ac.less f h q n))) := by
  have hc := fun (w' : World) => less_any f h q n w'
  generalize Ac.chg f h q n 1 (Ac.less f h q n) = g at hc ⊢
  obtain ⟨g1, g2, g3, g4⟩ := g
  unfold GivesAcc at hc
  unfold acc at hc ⊢
  have Hc := Lib.hid hc
  clear hc
  go_enter Try.func22, Try.ntmps22
  go_wp2_with fail
  refine (Hc.out _).mono ?_
  rintro e w1 ⟨rfl, hb1⟩
  have hX : Below w.heap.size w w1 := below_next (by repeat (first | exact Below.refl _ _ | refine Below.setCell ?_ (by simp <;> omega) _ | refine Below.alloc ?_ (by simp <;> omega) _)) hb1
  have HB := hb1
  clear hb1
  obtain ⟨hc1, hf1⟩ := bcell HB
  go_wp2_with fail
  exact bodyPost_ret (v := .tuple #[.agg #[.int .i64 g1, .int .i64 g2, .int .i64 g3], .int .i64 g4]) (by simp [results, Try.results22, go_sem, hc1]) rfl ⟨rfl, (by repeat (first | exact hX | exact Below.refl _ _ | refine Below.setCell ?_ (by simp <;> omega) _ | refine Below.alloc ?_ (by simp <;> omega) _))⟩
end Go.Proofs.Ytionaciiaahacaa
