/- Inboxes, as numbers: which may be, what they have, what becomes of them. Nothing of the program is imported here. -/
namespace Go.Proofs.Ytaoiokilnmpniaa.Ob
def isB (f : Int) (m : Nat) : Bool := decide (0 ≤ f ∧ f ≤ 1099511627776 ∧ m % 2 = 0)
/-- Has an inbox that may be a number that is not below 0? -/
def inB (f : Int) (m : Nat) (s : Int) : Bool := decide (s < f) || (decide (s - f < 64) && m.testBit (s - f).toNat)
def hasB (f : Int) (m : Nat) (s : Int) : Bool := isB f m && decide (0 ≤ s) && inB f m s
theorem isB_iff {f : Int} {m : Nat} : isB f m = true ↔ 0 ≤ f ∧ f ≤ 1099511627776 ∧ m % 2 = 0 := by unfold isB; exact decide_eq_true_iff
theorem isB_not {f : Int} {m : Nat} : isB f m = false ↔ ¬ (0 ≤ f ∧ f ≤ 1099511627776 ∧ m % 2 = 0) := by unfold isB; exact decide_eq_false_iff_not
/-- All ones at the low end go, one by one. -/
def slide : Nat → Int → Nat → Int × Nat
  | 0, f, m => (f, m)
  | n + 1, f, m => if m % 2 = 1 then slide n (f + 1) (m / 2) else (f, m)
theorem slide_odd {n : Nat} {f : Int} {m : Nat} (h : m % 2 = 1) : slide (n + 1) f m = slide n (f + 1) (m / 2) := by
  show (if m % 2 = 1 then _ else _) = _; rw [if_pos h]
theorem slide_even {n : Nat} {f : Int} {m : Nat} (h : ¬ m % 2 = 1) : slide n f m = (f, m) := by
  cases n with
  | zero => rfl
  | succ n => show (if m % 2 = 1 then _ else _) = _; rw [if_neg h]
/-- What is left of an inbox whose number's bit is set. -/
def doneB (f : Int) (q : Nat) : Int × Nat × Int := if 1099511627776 < (slide 64 f q).1 then (0, 0, 3) else ((slide 64 f q).1, (slide 64 f q).2, 0)
theorem doneB_big {f g : Int} {q x : Nat} (h : slide 64 f q = (g, x)) (hb : 1099511627776 < g) : doneB f q = (0, 0, 3) := by unfold doneB; rw [h, if_pos hb]
theorem doneB_in {f g : Int} {q x : Nat} (h : slide 64 f q = (g, x)) (hb : ¬ 1099511627776 < g) : doneB f q = (g, x, 0) := by unfold doneB; rw [h, if_neg hb]
/-- The inbox that has a number, too; and an error. -/
def takeB (f : Int) (m : Nat) (s : Int) : Int × Nat × Int :=
  if isB f m = false then (0, 0, 215) else if s < 0 ∨ 1099511627776 < s then (0, 0, 1) else if inB f m s = true then (0, 0, 212) else if 64 ≤ s - f then (0, 0, 211)
  else doneB f (m ||| 2 ^ (s - f).toNat)
def sendB (n k : Int) : Int × Int :=
  if n < 0 ∨ 1099511627776 < n ∨ k < 0 then (0, 1) else if 64 ≤ k then (0, 214) else if n = 1099511627776 then (0, 3) else (n + 1, 0)
theorem slide_snd (n : Nat) (f : Int) (m : Nat) (h : m < 2 ^ n) : (slide n f m).2 % 2 = 0 := by
  induction n generalizing f m with
  | zero => simp at h; subst h; rfl
  | succ n ih =>
    by_cases e : m % 2 = 1
    · rw [slide_odd e]; exact ih _ _ (by rw [Nat.pow_succ] at h; omega)
    · rw [slide_even e]; show m % 2 = 0; omega
theorem slide_fst (n : Nat) (f : Int) (m : Nat) : f ≤ (slide n f m).1 ∧ (slide n f m).1 ≤ f + n := by
  induction n generalizing f m with
  | zero => exact ⟨Int.le_refl _, by show f ≤ f + _; omega⟩
  | succ n ih =>
    by_cases e : m % 2 = 1
    · rw [slide_odd e]; have := ih (f + 1) (m / 2); omega
    · rw [slide_even e]; exact ⟨Int.le_refl _, by show f ≤ f + _; omega⟩
theorem slide_le (n : Nat) (f : Int) (m : Nat) : (slide n f m).2 ≤ m := by
  induction n generalizing f m with
  | zero => exact Nat.le_refl _
  | succ n ih =>
    by_cases e : m % 2 = 1
    · rw [slide_odd e]; exact Nat.le_trans (ih _ _) (Nat.div_le_self _ _)
    · rw [slide_even e]; exact Nat.le_refl _
/-- Sliding takes no number away and adds none: the ones that go are those below the new floor. -/
theorem slide_in (n : Nat) (f : Int) (m : Nat) (h : m < 2 ^ 64) (s : Int) (hs : f ≤ s) : inB (slide n f m).1 (slide n f m).2 s = inB f m s := by
  induction n generalizing f m with
  | zero => rfl
  | succ n ih =>
    by_cases e : m % 2 = 1
    · rw [slide_odd e]
      by_cases e2 : s = f
      · subst e2
        have h1 := (slide_fst n (s + 1) (m / 2)).1
        unfold inB
        rw [decide_eq_true (show s < (slide n (s + 1) (m / 2)).1 by omega)]
        have e3 : m.testBit (s - s).toNat = true := by
          rw [show (s - s).toNat = 0 by omega, Nat.testBit_zero]; simpa using e
        rw [e3]; simp
      · rw [ih (f + 1) (m / 2) (by omega) (by omega)]
        unfold inB
        have e4 : (m / 2).testBit (s - (f + 1)).toNat = m.testBit (s - f).toNat := by
          rw [show (s - f).toNat = (s - (f + 1)).toNat + 1 by omega, Nat.testBit_succ]
        rw [e4, decide_eq_false (show ¬ s < f + 1 by omega), decide_eq_false (show ¬ s < f by omega)]
        by_cases e5 : s - f < 64
        · rw [decide_eq_true e5, decide_eq_true (show s - (f + 1) < 64 by omega)]
        · by_cases e6 : s - (f + 1) < 64
          · have : m.testBit (s - f).toNat = false := Nat.testBit_lt_two_pow (by
              rw [show (s - f).toNat = 64 by omega]; exact h)
            rw [this]; simp
          · rw [decide_eq_false e5, decide_eq_false e6]
    · rw [slide_even e]
end Go.Proofs.Ytaoiokilnmpniaa.Ob
