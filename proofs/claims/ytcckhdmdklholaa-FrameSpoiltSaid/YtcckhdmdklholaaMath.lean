/- Plain mathematics of the register of CRC-32C over natural numbers: a step, many steps, bytes that go in, the product of polynomials. Nothing of the program is imported here. -/
namespace Go.Proofs.Ytcckhdmdklholaa
namespace Cr

def step (r : Nat) : Nat := r / 2 ^^^ (if r % 2 = 1 then 2197175160 else 0)
def steps : Nat → Nat → Nat
  | 0, r => r
  | n + 1, r => steps n (step r)
def inB (r x : Nat) : Nat := steps 8 (r ^^^ x)
def run : Nat → List Nat → Nat
  | r, [] => r
  | r, x :: l => run (inB r x) l
def more (c : Nat) (l : List Nat) : Nat := run (c ^^^ 4294967295) l ^^^ 4294967295

theorem testBit_step (r j : Nat) : (step r).testBit j = (r.testBit (j + 1) ^^ (r.testBit 0 && Nat.testBit 2197175160 j)) := by
  unfold step
  rw [Nat.testBit_xor, ← Nat.testBit_succ]
  by_cases h : r % 2 = 1
  · rw [if_pos h]; simp [Nat.testBit_zero, h]
  · rw [if_neg h]; simp [Nat.testBit_zero, h]
theorem step_xor (a b : Nat) : step (a ^^^ b) = step a ^^^ step b := by
  apply Nat.eq_of_testBit_eq; intro j
  rw [Nat.testBit_xor, testBit_step, testBit_step, testBit_step, Nat.testBit_xor, Nat.testBit_xor]
  cases a.testBit (j + 1) <;> cases b.testBit (j + 1) <;> cases a.testBit 0 <;> cases b.testBit 0 <;> cases Nat.testBit 2197175160 j <;> rfl
theorem xor_lt {a b : Nat} (ha : a < 4294967296) (hb : b < 4294967296) : a ^^^ b < 4294967296 := Nat.xor_lt_two_pow (n := 32) ha hb
theorem step_lt {r : Nat} (h : r < 4294967296) : step r < 4294967296 := by
  unfold step
  refine xor_lt (by omega) ?_
  split <;> omega
theorem step_even {r : Nat} (h : r % 2 = 0) : step r = r / 2 := by
  unfold step; rw [if_neg (by omega)]; simp
theorem step_zero : step 0 = 0 := by decide
theorem step_ne {r : Nat} (hr : r < 4294967296) (h : r ≠ 0) : step r ≠ 0 := by
  by_cases e : r % 2 = 1
  · intro h0
    have hb := testBit_step r 31
    rw [h0] at hb
    have h1 : r.testBit 32 = false := Nat.testBit_lt_two_pow hr
    have h2 : r.testBit 0 = true := by simp [Nat.testBit_zero, e]
    have h3 : Nat.testBit 2197175160 31 = true := by decide
    rw [h1, h2, h3] at hb
    simp at hb
  · rw [step_even (by omega)]; omega

theorem steps_succ (n r : Nat) : steps (n + 1) r = step (steps n r) := by
  induction n generalizing r with
  | zero => rfl
  | succ n ih => show steps (n + 1) (step r) = _; rw [ih]; rfl
theorem steps_add (m n r : Nat) : steps (m + n) r = steps n (steps m r) := by
  induction m generalizing r with
  | zero => simp [steps]
  | succ m ih => rw [Nat.succ_add]; exact ih (step r)
theorem steps_comm (m n r : Nat) : steps m (steps n r) = steps n (steps m r) := by rw [← steps_add, ← steps_add, Nat.add_comm]
theorem steps_xor (n a b : Nat) : steps n (a ^^^ b) = steps n a ^^^ steps n b := by
  induction n generalizing a b with
  | zero => rfl
  | succ n ih => show steps n (step (a ^^^ b)) = _; rw [step_xor, ih]; rfl
theorem steps_lt (n : Nat) {r : Nat} (h : r < 4294967296) : steps n r < 4294967296 := by
  induction n generalizing r with
  | zero => exact h
  | succ n ih => exact ih (step_lt h)
theorem steps_zero (n : Nat) : steps n 0 = 0 := by
  induction n with
  | zero => rfl
  | succ n ih => show steps n (step 0) = 0; rw [step_zero, ih]
theorem steps_ne (n : Nat) {r : Nat} (hr : r < 4294967296) (h : r ≠ 0) : steps n r ≠ 0 := by
  induction n generalizing r with
  | zero => exact h
  | succ n ih => exact ih (step_lt hr) (step_ne hr h)
theorem steps_shift (k q : Nat) : steps k (2 ^ k * q) = q := by
  induction k generalizing q with
  | zero => simp [steps]
  | succ k ih =>
    show steps k (step (2 ^ (k + 1) * q)) = q
    have e : 2 ^ (k + 1) * q = 2 * (2 ^ k * q) := by rw [Nat.pow_succ, Nat.mul_comm (2 ^ k) 2, Nat.mul_assoc]
    rw [e, step_even (by omega), Nat.mul_div_cancel_left _ (by omega), ih]

theorem split_low (r : Nat) : 256 * (r / 256) ^^^ r % 256 = r := by
  apply Nat.eq_of_testBit_eq; intro j
  rw [Nat.testBit_xor, show (256 : Nat) = 2 ^ 8 by rfl, Nat.testBit_two_pow_mul, Nat.testBit_div_two_pow, Nat.testBit_mod_two_pow]
  by_cases h : 8 ≤ j
  · have h' : ¬ j < 8 := by omega
    simp [h, h']
  · have h' : j < 8 := by omega
    simp [h, h']
/-- What the rows of bytes give: a byte goes in by one look-up. -/
theorem inB_look (r x : Nat) : r / 256 ^^^ steps 8 (r % 256 ^^^ x) = inB r x := by
  unfold inB
  have h : steps 8 (256 * (r / 256)) = r / 256 := steps_shift 8 _
  conv => rhs; rw [← split_low r, Nat.xor_assoc, steps_xor, h]

theorem inB_lt {r x : Nat} (hr : r < 4294967296) (hx : x < 4294967296) : inB r x < 4294967296 := steps_lt 8 (xor_lt hr hx)
theorem run_lt {l : List Nat} (hl : ∀ x ∈ l, x < 256) {r : Nat} (hr : r < 4294967296) : run r l < 4294967296 := by
  induction l generalizing r with
  | nil => exact hr
  | cons x l ih => exact ih (fun y hy => hl y (List.mem_cons_of_mem _ hy)) (inB_lt hr (by have := hl x (List.mem_cons_self ..); omega))
theorem run_append (r : Nat) (a b : List Nat) : run r (a ++ b) = run (run r a) b := by
  induction a generalizing r with
  | nil => rfl
  | cons x a ih => exact ih _
theorem run_snoc (r : Nat) (a : List Nat) (x : Nat) : run r (a ++ [x]) = inB (run r a) x := run_append r a [x]
theorem more_lt {l : List Nat} (hl : ∀ x ∈ l, x < 256) {c : Nat} (hc : c < 4294967296) : more c l < 4294967296 :=
  xor_lt (run_lt hl (xor_lt hc (by omega))) (by omega)
theorem xor_xor (a b : Nat) : a ^^^ b ^^^ b = a := by rw [Nat.xor_assoc, Nat.xor_self, Nat.xor_zero]
theorem more_append (c : Nat) (a b : List Nat) : more c (a ++ b) = more (more c a) b := by
  unfold more; rw [xor_xor, run_append]

/-! ### the product -/
def prodTo (a b : Nat) : Nat → Nat
  | 0 => 0
  | k + 1 => prodTo a b k ^^^ (if a / 2 ^ (31 - k) % 2 = 1 then steps k b else 0)
theorem prodTo_steps (a b m k : Nat) : prodTo a (steps m b) k = steps m (prodTo a b k) := by
  induction k with
  | zero => show 0 = steps m 0; rw [steps_zero]
  | succ k ih =>
    unfold prodTo
    rw [steps_xor, ih, steps_comm k m]
    split
    · rfl
    · rw [steps_zero]
theorem prodTo_lt (a : Nat) {b : Nat} (hb : b < 4294967296) (k : Nat) : prodTo a b k < 4294967296 := by
  induction k with
  | zero => show (0 : Nat) < _; omega
  | succ k ih => unfold prodTo; refine xor_lt ih ?_; split; exact steps_lt k hb; omega
theorem steps_one {k : Nat} (h : k ≤ 31) : steps k 2147483648 = 2 ^ (31 - k) := by
  have e : (2147483648 : Nat) = 2 ^ k * 2 ^ (31 - k) := by rw [← Nat.pow_add, show k + (31 - k) = 31 by omega]
  rw [e, steps_shift]
theorem prodTo_bits (a : Nat) (k j : Nat) (hk : k ≤ 32) : (prodTo a 2147483648 k).testBit j = (decide (32 - k ≤ j ∧ j < 32) && a.testBit j) := by
  induction k with
  | zero =>
    have : ¬ (32 - 0 ≤ j ∧ j < 32) := by omega
    simp [prodTo, this]
  | succ k ih =>
    unfold prodTo
    rw [Nat.testBit_xor, ih (by omega), steps_one (by omega)]
    have hb : a / 2 ^ (31 - k) % 2 = 1 ↔ a.testBit (31 - k) = true := by simp [Nat.testBit_eq_decide_div_mod_eq]
    by_cases e : j = 31 - k
    · subst e
      have h1 : decide (32 - k ≤ 31 - k ∧ 31 - k < 32) = false := by simp; omega
      have h2 : decide (32 - (k + 1) ≤ 31 - k ∧ 31 - k < 32) = true := by simp; omega
      rw [h1, h2, Bool.false_and, Bool.true_and]
      by_cases h : a / 2 ^ (31 - k) % 2 = 1
      · rw [if_pos h, hb.1 h, Nat.testBit_two_pow_self]; rfl
      · have h5 : a.testBit (31 - k) = false := by
          rcases Bool.eq_false_or_eq_true (a.testBit (31 - k)) with e | e
          · exact absurd (hb.2 e) h
          · exact e
        rw [if_neg h, h5, Nat.zero_testBit]; rfl
    · have h3 : (32 - (k + 1) ≤ j ∧ j < 32) ↔ (32 - k ≤ j ∧ j < 32) := by omega
      have h4 : (if a / 2 ^ (31 - k) % 2 = 1 then 2 ^ (31 - k) else 0).testBit j = false := by
        split
        · rw [Nat.testBit_two_pow]; simp; omega
        · simp
      rw [h4]; simp only [h3, Bool.xor_false]
theorem prodTo_one {a : Nat} (ha : a < 4294967296) : prodTo a 2147483648 32 = a := by
  apply Nat.eq_of_testBit_eq; intro j
  rw [prodTo_bits a 32 j (by omega)]
  by_cases h : j < 32
  · simp [h]
  · have h1 : a.testBit j = false := Nat.testBit_lt_two_pow (Nat.lt_of_lt_of_le ha (show 2 ^ 32 ≤ 2 ^ j from Nat.pow_le_pow_right (by omega) (by omega)))
    simp [h1]
/-- The product with x^m is m steps. -/
theorem prod_step {a : Nat} (ha : a < 4294967296) (m : Nat) : prodTo a (steps m 2147483648) 32 = steps m a := by
  rw [prodTo_steps, prodTo_one ha]

theorem inB_zero (r : Nat) : inB r 0 = steps 8 r := by unfold inB; rw [Nat.xor_zero]
end Cr
end Go.Proofs.Ytcckhdmdklholaa
