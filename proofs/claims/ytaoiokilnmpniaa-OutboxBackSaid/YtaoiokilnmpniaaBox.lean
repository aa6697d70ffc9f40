/- What outbox's within, CheckInbox, Has and the document's Is, Has return. -/
import Derived.Test.YtaoiokilnmpniaaBoxMath
import Derived.Test.YtaoiokilnmpniaaBytes
import Derived.Test.YtaoiokilnmpniaaStr
namespace Go.Proofs.Ytaoiokilnmpniaa
open Go.RowKit
set_option linter.unusedVariables false
def withinB (n a b : Int) : Bool := decide (a ≤ n ∧ n ≤ b)
theorem within_any (n a b : Int) (w : World) : Calls Try.prog 52 #[.int .i64 n, .int .i64 a, .int .i64 b] w fun e w' => e = .returned (.bool (withinB n a b)) ∧ w = w' := by
  by_cases h1 : a ≤ n
  all_goals
    go_enter Try.func52, Try.ntmps52
    go_wp2
    go_ret
    refine ⟨?_, rfl⟩
    unfold withinB
    simp
    omega
/-- An inbox as a value. -/
def boxV (f : Int) (m : Nat) : Value := .agg #[.int .i64 f, .int .u64 (m : Int)]
def chkB (f : Int) (m : Nat) : Int := if Ob.isB f m then 0 else 215
theorem odd_and (m : Nat) (hm : m < 18446744073709551616) : (bits .and .u64 (m : Int) 1 == 1) = decide (m % 2 = 1) := by
  have h : bits .and .u64 (m : Int) ((1 : Nat) : Int) = _ := u64_and_nat _ _ hm (by omega)
  show (bits .and .u64 (m : Int) ((1 : Nat) : Int) == 1) = _
  rw [h, Nat.and_one_is_mod]
  rcases Nat.mod_two_eq_zero_or_one m with e | e <;> rw [e] <;> rfl
theorem odd_and0 (m : Nat) (hm : m < 18446744073709551616) : (bits .and .u64 (m : Int) 1 == 0) = decide (¬ m % 2 = 1) := by
  have h : bits .and .u64 (m : Int) ((1 : Nat) : Int) = _ := u64_and_nat _ _ hm (by omega)
  show (bits .and .u64 (m : Int) ((1 : Nat) : Int) == 0) = _
  rw [h, Nat.and_one_is_mod]
  rcases Nat.mod_two_eq_zero_or_one m with e | e <;> rw [e] <;> rfl
set_option maxRecDepth 100000 in
theorem checkbox_any (f : Int) (m : Nat) (w : World) (hm : m < 18446744073709551616) :
    Calls Try.prog 14 #[boxV f m] w fun e w' => e = .returned (.int .i64 (chkB f m)) ∧ w.alloc (.cells #[.int .i64 f, .int .u64 (m : Int)] 24) = w' := by
  have hw := fun W => within_any f 0 1099511627776 W
  have ho := odd_and m hm
  unfold boxV
  by_cases h1 : 0 ≤ f ∧ f ≤ 1099511627776
  · rw [show withinB f 0 1099511627776 = true from decide_eq_true h1] at hw
    by_cases h2 : m % 2 = 1
    · have e : chkB f m = 215 := by unfold chkB; rw [Ob.isB_not.2 (by omega)]; rfl
      rw [e]
      rw [decide_eq_true h2] at ho
      have Hw := Lib.hid hw
      clear hw e h2
      go_enter Try.func14, Try.ntmps14
      go_wp2_with (first | (go_at_call 52; refine (Hw.out _).mono ?_; rintro e w' ⟨rfl, rfl⟩))
      go_ret
      exact ⟨rfl, rfl⟩
    · have e : chkB f m = 0 := by unfold chkB; rw [Ob.isB_iff.2 (by omega)]; rfl
      rw [e]
      rw [decide_eq_false h2] at ho
      have Hw := Lib.hid hw
      clear hw e h2
      go_enter Try.func14, Try.ntmps14
      go_wp2_with (first | (go_at_call 52; refine (Hw.out _).mono ?_; rintro e w' ⟨rfl, rfl⟩))
      go_ret
      exact ⟨rfl, rfl⟩
  · rw [show withinB f 0 1099511627776 = false from decide_eq_false h1] at hw
    have e : chkB f m = 215 := by unfold chkB; rw [Ob.isB_not.2 (by omega)]; rfl
    rw [e]
    have Hw := Lib.hid hw
    clear hw e
    go_enter Try.func14, Try.ntmps14
    go_wp2_with (first | (go_at_call 52; refine (Hw.out _).mono ?_; rintro e w' ⟨rfl, rfl⟩))
    go_ret
    exact ⟨rfl, rfl⟩
set_option maxRecDepth 100000 in
theorem isbox_any (f : Int) (m : Nat) (w : World) (hm : m < 18446744073709551616) :
    Calls Try.prog 17 #[boxV f m] w fun e w' => e = .returned (.bool (Ob.isB f m)) ∧ w.alloc (.cells #[.int .i64 f, .int .u64 (m : Int)] 24) = w' := by
  unfold boxV
  have hi : Ob.isB f m = decide (0 ≤ f ∧ f ≤ 1099511627776 ∧ m % 2 = 0) := rfl
  have hmod : ((m : Int) % 2 == 0) = decide (m % 2 = 0) := by
    rw [Bool.eq_iff_iff, beq_iff_eq, decide_eq_true_iff]; omega
  by_cases h1 : 0 ≤ f
  · by_cases h2 : f ≤ 1099511627776
    · have e : Ob.isB f m = decide (m % 2 = 0) := by
        rw [hi, Bool.eq_iff_iff, decide_eq_true_iff, decide_eq_true_iff]; omega
      rw [e]
      cases hb : decide (m % 2 = 0)
      all_goals
        rw [hb] at hmod
        clear hi e hb
        go_enter Try.func17, Try.ntmps17
        go_wp2
        go_ret
        exact ⟨rfl, rfl⟩
    · have e : Ob.isB f m = false := Ob.isB_not.2 (by omega)
      rw [e]
      clear hi e hmod
      go_enter Try.func17, Try.ntmps17
      go_wp2
      go_ret
      exact ⟨rfl, rfl⟩
  · have e : Ob.isB f m = false := Ob.isB_not.2 (by omega)
    rw [e]
    clear hi e hmod
    go_enter Try.func17, Try.ntmps17
    go_wp2
    go_ret
    exact ⟨rfl, rfl⟩
theorem shift_and (m j : Nat) (hm : m < 18446744073709551616) : (bits .and .u64 ((m : Int) / 2 ^ j) 1 == 1) = m.testBit j := by
  have e : (m : Int) / 2 ^ j = ((m / 2 ^ j : Nat) : Int) := by simp
  rw [e, odd_and _ (Nat.lt_of_le_of_lt (Nat.div_le_self _ _) hm), Nat.testBit_eq_decide_div_mod_eq]
theorem shift_rem (m j : Nat) : (((m : Int) / 2 ^ j).tmod 2 == 1) = m.testBit j := by
  have e1 : (m : Int) / 2 ^ j = ((m / 2 ^ j : Nat) : Int) := by simp
  have e : ((m : Int) / 2 ^ j).tmod 2 = ((m / 2 ^ j % 2 : Nat) : Int) := by rw [e1]; rfl
  rw [e, Nat.testBit_eq_decide_div_mod_eq]
  rcases Nat.mod_two_eq_zero_or_one (m / 2 ^ j) with h | h <;> rw [h] <;> rfl
set_option maxRecDepth 100000 in
theorem hasbox_any (f : Int) (m : Nat) (s : Int) (w : World) (hm : m < 18446744073709551616) (hs : s ≤ 9223372036854775807) :
    Calls Try.prog 15 #[boxV f m, .int .i64 s] w fun e w' => e = .returned (.bool (Ob.hasB f m s)) ∧ Below w.heap.size w w' := by
  have hck := fun W => checkbox_any f m W hm
  unfold boxV at hck ⊢
  cases hI : Ob.isB f m
  · have e : Ob.hasB f m s = false := by unfold Ob.hasB; rw [hI]; rfl
    rw [e]
    rw [show chkB f m = 215 by unfold chkB; rw [hI]; rfl] at hck
    have Hck := Lib.hid hck
    clear hck e hI
    go_enter Try.func15, Try.ntmps15
    go_wp2_with (first | (go_at_call 14; refine (Hck.out _).mono ?_; rintro e w' ⟨rfl, rfl⟩))
    go_ret
    exact ⟨rfl, ((Below.refl _ _).alloc (Nat.le_refl _) _).alloc (by simp) _⟩
  · obtain ⟨i1, i2, i3⟩ := Ob.isB_iff.1 hI
    rw [show chkB f m = 0 by unfold chkB; rw [hI]; rfl] at hck
    have hB : Ob.hasB f m s = (decide (0 ≤ s) && Ob.inB f m s) := by unfold Ob.hasB; rw [hI]; rfl
    have Hck := Lib.hid hck
    clear hck hI i3
    by_cases h1 : s < 0
    · have e : Ob.hasB f m s = false := by rw [hB, decide_eq_false (by omega)]; rfl
      rw [e]
      clear e hB
      go_enter Try.func15, Try.ntmps15
      go_wp2_with (first | (go_at_call 14; refine (Hck.out _).mono ?_; rintro e w' ⟨rfl, rfl⟩))
      go_ret
      exact ⟨rfl, ((Below.refl _ _).alloc (Nat.le_refl _) _).alloc (by simp) _⟩
    · by_cases h2 : s - f < 0
      · have e : Ob.hasB f m s = true := by
          rw [hB]; unfold Ob.inB; rw [decide_eq_true (by omega), decide_eq_true (by omega)]; rfl
        rw [e]
        clear e hB
        go_enter Try.func15, Try.ntmps15
        go_wp2_with (first | (go_at_call 14; refine (Hck.out _).mono ?_; rintro e w' ⟨rfl, rfl⟩))
        go_ret
        exact ⟨rfl, ((Below.refl _ _).alloc (Nat.le_refl _) _).alloc (by simp) _⟩
      · have hd : decide (s - f < 0) = false := decide_eq_false h2
        by_cases h3 : s - f < 64
        · obtain ⟨j, hj⟩ : ∃ j : Nat, s - f = (j : Int) := ⟨(s - f).toNat, by omega⟩
          have e : Ob.hasB f m s = m.testBit j := by
            rw [hB]; unfold Ob.inB; rw [decide_eq_true (show 0 ≤ s by omega), decide_eq_false (show ¬ s < f by omega), decide_eq_true h3, hj, Int.toNat_natCast]; rfl
          rw [e]
          have ha := shift_and m j hm
          cases hb : m.testBit j
          all_goals
            rw [hb] at ha
            clear e hB hb
            go_enter Try.func15, Try.ntmps15
            go_wp2_with (first | (go_at_call 14; refine (Hck.out _).mono ?_; rintro e w' ⟨rfl, rfl⟩))
            go_ret
            exact ⟨rfl, ((Below.refl _ _).alloc (Nat.le_refl _) _).alloc (by simp) _⟩
        · have e : Ob.hasB f m s = false := by
            rw [hB]; unfold Ob.inB; rw [decide_eq_false (show ¬ s < f by omega), decide_eq_false h3]; simp
          rw [e]
          clear e hB
          go_enter Try.func15, Try.ntmps15
          go_wp2_with (first | (go_at_call 14; refine (Hck.out _).mono ?_; rintro e w' ⟨rfl, rfl⟩))
          go_ret
          exact ⟨rfl, ((Below.refl _ _).alloc (Nat.le_refl _) _).alloc (by simp) _⟩
set_option maxRecDepth 100000 in
theorem rhasbox_any (f : Int) (m : Nat) (s : Int) (w : World) (hm : m < 18446744073709551616) (hs : s ≤ 9223372036854775807) :
    Calls Try.prog 16 #[boxV f m, .int .i64 s] w fun e w' => e = .returned (.bool (Ob.hasB f m s)) ∧ Below w.heap.size w w' := by
  have hck := fun W => isbox_any f m W hm
  unfold boxV at hck ⊢
  cases hI : Ob.isB f m
  · have e : Ob.hasB f m s = false := by unfold Ob.hasB; rw [hI]; rfl
    rw [e]
    rw [hI] at hck
    have Hck := Lib.hid hck
    clear hck e hI
    go_enter Try.func16, Try.ntmps16
    go_wp2_with (first | (go_at_call 17; refine (Hck.out _).mono ?_; rintro e w' ⟨rfl, rfl⟩))
    go_ret
    exact ⟨rfl, ((Below.refl _ _).alloc (Nat.le_refl _) _).alloc (by simp) _⟩
  · obtain ⟨i1, i2, i3⟩ := Ob.isB_iff.1 hI
    rw [hI] at hck
    have hB : Ob.hasB f m s = (decide (0 ≤ s) && Ob.inB f m s) := by unfold Ob.hasB; rw [hI]; rfl
    have Hck := Lib.hid hck
    clear hck hI i3
    by_cases h1 : s < 0
    · have e : Ob.hasB f m s = false := by rw [hB, decide_eq_false (by omega)]; rfl
      rw [e]
      clear e hB
      go_enter Try.func16, Try.ntmps16
      go_wp2_with (first | (go_at_call 17; refine (Hck.out _).mono ?_; rintro e w' ⟨rfl, rfl⟩))
      go_ret
      exact ⟨rfl, ((Below.refl _ _).alloc (Nat.le_refl _) _).alloc (by simp) _⟩
    · by_cases h2 : s < f
      · have e : Ob.hasB f m s = true := by
          rw [hB]; unfold Ob.inB; rw [decide_eq_true (by omega), decide_eq_true (by omega)]; rfl
        rw [e]
        clear e hB
        go_enter Try.func16, Try.ntmps16
        go_wp2_with (first | (go_at_call 17; refine (Hck.out _).mono ?_; rintro e w' ⟨rfl, rfl⟩))
        go_ret
        exact ⟨rfl, ((Below.refl _ _).alloc (Nat.le_refl _) _).alloc (by simp) _⟩
      · have hd : decide (s < f) = false := decide_eq_false h2
        by_cases h3 : s - f < 64
        · obtain ⟨j, hj⟩ : ∃ j : Nat, s - f = (j : Int) := ⟨(s - f).toNat, by omega⟩
          have e : Ob.hasB f m s = m.testBit j := by
            rw [hB]; unfold Ob.inB; rw [decide_eq_true (show 0 ≤ s by omega), decide_eq_false (show ¬ s < f by omega), decide_eq_true h3, hj, Int.toNat_natCast]; rfl
          rw [e]
          have ha := shift_rem m j
          cases hb : m.testBit j
          all_goals
            rw [hb] at ha
            clear e hB hb
            go_enter Try.func16, Try.ntmps16
            go_wp2_with (first | (go_at_call 17; refine (Hck.out _).mono ?_; rintro e w' ⟨rfl, rfl⟩))
            go_ret
            exact ⟨rfl, ((Below.refl _ _).alloc (Nat.le_refl _) _).alloc (by simp) _⟩
        · have e : Ob.hasB f m s = false := by
            rw [hB]; unfold Ob.inB; rw [decide_eq_false (show ¬ s < f by omega), decide_eq_false h3]; simp
          rw [e]
          clear e hB
          go_enter Try.func16, Try.ntmps16
          go_wp2_with (first | (go_at_call 17; refine (Hck.out _).mono ?_; rintro e w' ⟨rfl, rfl⟩))
          go_ret
          exact ⟨rfl, ((Below.refl _ _).alloc (Nat.le_refl _) _).alloc (by simp) _⟩
end Go.Proofs.Ytaoiokilnmpniaa
