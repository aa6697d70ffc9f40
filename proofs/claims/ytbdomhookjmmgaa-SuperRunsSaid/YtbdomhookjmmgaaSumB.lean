/- Plain mathematics of the register of CRC-32C over natural numbers: a step, many steps, bytes that go in, the product of polynomials. Nothing of the program is imported here. What step, eightSteps of package sum and the document's step and in return. What rowsOfBytes of package sum returns: the row of what each byte makes of a register of 0. No condition. What Of and More of package sum, the document's own Of and More, and the law's cut return, for every slice of at most 1,000,000 bytes that reads as a list. -/
import Derived.Test.YtbdomhookjmmgaaBytes
import Derived.BigRegion
import Derived.RegionTactic
import Derived.Laws.Rows
namespace Go.Proofs.Ytbdomhookjmmgaa
namespace Cr

def step (r : Nat) : Nat := r / 2 ^^^ (if r % 2 = 1 then 2197175160 else 0)
def steps : Nat → Nat → Nat
  | 0, r => r
  | n + 1, r => steps n (step r)
def inB (r x : Nat) : Nat := steps 8 (r ^^^ x)
def run : Nat → List Nat → Nat
  | r, [] => r
  | r, x :: l => run (inB r x) l
def more (c : Nat) (l : List Nat) : Nat := run (c ^^^ 4294967295) l ^^^ 4294967295

theorem testBit_step (r j : Nat) : (step r).testBit j = (r.testBit (j + 1) ^^ (r.testBit 0 && Nat.testBit 2197175160 j)) := by
  unfold step
  rw [Nat.testBit_xor, ← Nat.testBit_succ]
  by_cases h : r % 2 = 1
  · rw [if_pos h]; simp [Nat.testBit_zero, h]
  · rw [if_neg h]; simp [Nat.testBit_zero, h]
theorem step_xor (a b : Nat) : step (a ^^^ b) = step a ^^^ step b := by
  apply Nat.eq_of_testBit_eq; intro j
  rw [Nat.testBit_xor, testBit_step, testBit_step, testBit_step, Nat.testBit_xor, Nat.testBit_xor]
  cases a.testBit (j + 1) <;> cases b.testBit (j + 1) <;> cases a.testBit 0 <;> cases b.testBit 0 <;> cases Nat.testBit 2197175160 j <;> rfl
theorem xor_lt {a b : Nat} (ha : a < 4294967296) (hb : b < 4294967296) : a ^^^ b < 4294967296 := Nat.xor_lt_two_pow (n := 32) ha hb
theorem step_lt {r : Nat} (h : r < 4294967296) : step r < 4294967296 := by
  unfold step
  refine xor_lt (by omega) ?_
  split <;> omega
theorem step_even {r : Nat} (h : r % 2 = 0) : step r = r / 2 := by
  unfold step; rw [if_neg (by omega)]; simp
theorem step_zero : step 0 = 0 := by decide
theorem step_ne {r : Nat} (hr : r < 4294967296) (h : r ≠ 0) : step r ≠ 0 := by
  by_cases e : r % 2 = 1
  · intro h0
    have hb := testBit_step r 31
    rw [h0] at hb
    have h1 : r.testBit 32 = false := Nat.testBit_lt_two_pow hr
    have h2 : r.testBit 0 = true := by simp [Nat.testBit_zero, e]
    have h3 : Nat.testBit 2197175160 31 = true := by decide
    rw [h1, h2, h3] at hb
    simp at hb
  · rw [step_even (by omega)]; omega

theorem steps_succ (n r : Nat) : steps (n + 1) r = step (steps n r) := by
  induction n generalizing r with
  | zero => rfl
  | succ n ih => show steps (n + 1) (step r) = _; rw [ih]; rfl
theorem steps_add (m n r : Nat) : steps (m + n) r = steps n (steps m r) := by
  induction m generalizing r with
  | zero => simp [steps]
  | succ m ih => rw [Nat.succ_add]; exact ih (step r)
theorem steps_comm (m n r : Nat) : steps m (steps n r) = steps n (steps m r) := by rw [← steps_add, ← steps_add, Nat.add_comm]
theorem steps_xor (n a b : Nat) : steps n (a ^^^ b) = steps n a ^^^ steps n b := by
  induction n generalizing a b with
  | zero => rfl
  | succ n ih => show steps n (step (a ^^^ b)) = _; rw [step_xor, ih]; rfl
theorem steps_lt (n : Nat) {r : Nat} (h : r < 4294967296) : steps n r < 4294967296 := by
  induction n generalizing r with
  | zero => exact h
  | succ n ih => exact ih (step_lt h)
theorem steps_zero (n : Nat) : steps n 0 = 0 := by
  induction n with
  | zero => rfl
  | succ n ih => show steps n (step 0) = 0; rw [step_zero, ih]
theorem steps_ne (n : Nat) {r : Nat} (hr : r < 4294967296) (h : r ≠ 0) : steps n r ≠ 0 := by
  induction n generalizing r with
  | zero => exact h
  | succ n ih => exact ih (step_lt hr) (step_ne hr h)
theorem steps_shift (k q : Nat) : steps k (2 ^ k * q) = q := by
  induction k generalizing q with
  | zero => simp [steps]
  | succ k ih =>
    show steps k (step (2 ^ (k + 1) * q)) = q
    have e : 2 ^ (k + 1) * q = 2 * (2 ^ k * q) := by rw [Nat.pow_succ, Nat.mul_comm (2 ^ k) 2, Nat.mul_assoc]
    rw [e, step_even (by omega), Nat.mul_div_cancel_left _ (by omega), ih]

theorem split_low (r : Nat) : 256 * (r / 256) ^^^ r % 256 = r := by
  apply Nat.eq_of_testBit_eq; intro j
  rw [Nat.testBit_xor, show (256 : Nat) = 2 ^ 8 by rfl, Nat.testBit_two_pow_mul, Nat.testBit_div_two_pow, Nat.testBit_mod_two_pow]
  by_cases h : 8 ≤ j
  · have h' : ¬ j < 8 := by omega
    simp [h, h']
  · have h' : j < 8 := by omega
    simp [h, h']
/-- What the rows of bytes give: a byte goes in by one look-up. -/
theorem inB_look (r x : Nat) : r / 256 ^^^ steps 8 (r % 256 ^^^ x) = inB r x := by
  unfold inB
  have h : steps 8 (256 * (r / 256)) = r / 256 := steps_shift 8 _
  conv => rhs; rw [← split_low r, Nat.xor_assoc, steps_xor, h]

theorem inB_lt {r x : Nat} (hr : r < 4294967296) (hx : x < 4294967296) : inB r x < 4294967296 := steps_lt 8 (xor_lt hr hx)
theorem run_lt {l : List Nat} (hl : ∀ x ∈ l, x < 256) {r : Nat} (hr : r < 4294967296) : run r l < 4294967296 := by
  induction l generalizing r with
  | nil => exact hr
  | cons x l ih => exact ih (fun y hy => hl y (List.mem_cons_of_mem _ hy)) (inB_lt hr (by have := hl x (List.mem_cons_self ..); omega))
theorem run_append (r : Nat) (a b : List Nat) : run r (a ++ b) = run (run r a) b := by
  induction a generalizing r with
  | nil => rfl
  | cons x a ih => exact ih _
theorem run_snoc (r : Nat) (a : List Nat) (x : Nat) : run r (a ++ [x]) = inB (run r a) x := run_append r a [x]
theorem more_lt {l : List Nat} (hl : ∀ x ∈ l, x < 256) {c : Nat} (hc : c < 4294967296) : more c l < 4294967296 :=
  xor_lt (run_lt hl (xor_lt hc (by omega))) (by omega)
theorem xor_xor (a b : Nat) : a ^^^ b ^^^ b = a := by rw [Nat.xor_assoc, Nat.xor_self, Nat.xor_zero]
theorem more_append (c : Nat) (a b : List Nat) : more c (a ++ b) = more (more c a) b := by
  unfold more; rw [xor_xor, run_append]

/-! ### the product -/
def prodTo (a b : Nat) : Nat → Nat
  | 0 => 0
  | k + 1 => prodTo a b k ^^^ (if a / 2 ^ (31 - k) % 2 = 1 then steps k b else 0)
theorem prodTo_steps (a b m k : Nat) : prodTo a (steps m b) k = steps m (prodTo a b k) := by
  induction k with
  | zero => show 0 = steps m 0; rw [steps_zero]
  | succ k ih =>
    unfold prodTo
    rw [steps_xor, ih, steps_comm k m]
    split
    · rfl
    · rw [steps_zero]
theorem prodTo_lt (a : Nat) {b : Nat} (hb : b < 4294967296) (k : Nat) : prodTo a b k < 4294967296 := by
  induction k with
  | zero => show (0 : Nat) < _; omega
  | succ k ih => unfold prodTo; refine xor_lt ih ?_; split; exact steps_lt k hb; omega
theorem steps_one {k : Nat} (h : k ≤ 31) : steps k 2147483648 = 2 ^ (31 - k) := by
  have e : (2147483648 : Nat) = 2 ^ k * 2 ^ (31 - k) := by rw [← Nat.pow_add, show k + (31 - k) = 31 by omega]
  rw [e, steps_shift]
theorem prodTo_bits (a : Nat) (k j : Nat) (hk : k ≤ 32) : (prodTo a 2147483648 k).testBit j = (decide (32 - k ≤ j ∧ j < 32) && a.testBit j) := by
  induction k with
  | zero =>
    have : ¬ (32 - 0 ≤ j ∧ j < 32) := by omega
    simp [prodTo, this]
  | succ k ih =>
    unfold prodTo
    rw [Nat.testBit_xor, ih (by omega), steps_one (by omega)]
    have hb : a / 2 ^ (31 - k) % 2 = 1 ↔ a.testBit (31 - k) = true := by simp [Nat.testBit_eq_decide_div_mod_eq]
    by_cases e : j = 31 - k
    · subst e
      have h1 : decide (32 - k ≤ 31 - k ∧ 31 - k < 32) = false := by simp; omega
      have h2 : decide (32 - (k + 1) ≤ 31 - k ∧ 31 - k < 32) = true := by simp; omega
      rw [h1, h2, Bool.false_and, Bool.true_and]
      by_cases h : a / 2 ^ (31 - k) % 2 = 1
      · rw [if_pos h, hb.1 h, Nat.testBit_two_pow_self]; rfl
      · have h5 : a.testBit (31 - k) = false := by
          rcases Bool.eq_false_or_eq_true (a.testBit (31 - k)) with e | e
          · exact absurd (hb.2 e) h
          · exact e
        rw [if_neg h, h5, Nat.zero_testBit]; rfl
    · have h3 : (32 - (k + 1) ≤ j ∧ j < 32) ↔ (32 - k ≤ j ∧ j < 32) := by omega
      have h4 : (if a / 2 ^ (31 - k) % 2 = 1 then 2 ^ (31 - k) else 0).testBit j = false := by
        split
        · rw [Nat.testBit_two_pow]; simp; omega
        · simp
      rw [h4]; simp only [h3, Bool.xor_false]
theorem prodTo_one {a : Nat} (ha : a < 4294967296) : prodTo a 2147483648 32 = a := by
  apply Nat.eq_of_testBit_eq; intro j
  rw [prodTo_bits a 32 j (by omega)]
  by_cases h : j < 32
  · simp [h]
  · have h1 : a.testBit j = false := Nat.testBit_lt_two_pow (Nat.lt_of_lt_of_le ha (show 2 ^ 32 ≤ 2 ^ j from Nat.pow_le_pow_right (by omega) (by omega)))
    simp [h1]
/-- The product with x^m is m steps. -/
theorem prod_step {a : Nat} (ha : a < 4294967296) (m : Nat) : prodTo a (steps m 2147483648) 32 = steps m a := by
  rw [prodTo_steps, prodTo_one ha]

theorem inB_zero (r : Nat) : inB r 0 = steps 8 r := by unfold inB; rw [Nat.xor_zero]
end Cr
end Go.Proofs.Ytbdomhookjmmgaa
namespace Go.Proofs.Ytbdomhookjmmgaa
open Go.RowKit
theorem step_val (r : Nat) (h : r < 4294967296) : bits .xor .u32 ((r : Int) / 2) (bits .and .u32 2197175160 (-bits .and .u32 (r : Int) 1 % 4294967296)) = (Cr.step r : Int) := by
  have h1 : bits .and .u32 (r : Int) 1 = ((r % 2 : Nat) : Int) := by
    have := u32_and_nat r 1 h (by omega)
    rw [Nat.and_one_is_mod] at this
    exact this
  rw [h1]
  unfold Cr.step
  by_cases e : r % 2 = 1
  · rw [e, if_pos rfl]
    have h2 : (-((1 : Nat) : Int)) % 4294967296 = ((4294967295 : Nat) : Int) := by decide
    have h3 : bits .and .u32 2197175160 ((4294967295 : Nat) : Int) = ((2197175160 : Nat) : Int) := u32_and_nat 2197175160 4294967295 (by omega) (by omega)
    rw [h2, h3]
    exact u32_xor_nat (r / 2) 2197175160 (by omega) (by omega)
  · have e0 : r % 2 = 0 := by omega
    rw [e0, if_neg (by omega)]
    have h2 : (-((0 : Nat) : Int)) % 4294967296 = ((0 : Nat) : Int) := by decide
    have h3 : bits .and .u32 2197175160 ((0 : Nat) : Int) = ((0 : Nat) : Int) := u32_and_nat 2197175160 0 (by omega) (by omega)
    rw [h2, h3]
    exact u32_xor_nat (r / 2) 0 (by omega) (by omega)
theorem step_any (r : Nat) (h : r < 4294967296) (w : World) :
    Calls Try.prog 109 #[.int .u32 (r : Int)] w fun e w' => e = .returned (.int .u32 (Cr.step r : Int)) ∧ w = w' := by
  have hr : (r : Int) < 4294967296 := by omega
  go_enter Try.func109, Try.ntmps109
  go_wp2
  go_ret
  exact ⟨ret_u32 (step_val r h), rfl⟩
set_option maxRecDepth 100000 in
theorem rstep_any (r : Nat) (h : r < 4294967296) (w : World) :
    Calls Try.prog 107 #[.int .u32 (r : Int)] w fun e w' => e = .returned (.int .u32 (Cr.step r : Int)) ∧ w = w' := by
  have hr : (r : Int) < 4294967296 := by omega
  by_cases e : r % 2 = 1
  · have he : ((r : Int) % 2 == 1) = true := by simp; omega
    go_enter Try.func107, Try.ntmps107
    go_wp2
    go_ret
    refine ⟨ret_u32 ?_, rfl⟩
    unfold Cr.step
    rw [if_pos e]
    exact u32_xor_nat (r / 2) 2197175160 (by omega) (by omega)
  · have he : ((r : Int) % 2 == 1) = false := by simp; omega
    go_enter Try.func107, Try.ntmps107
    go_wp2
    go_ret
    refine ⟨ret_u32 ?_, rfl⟩
    rw [Cr.step_even (by omega)]
    omega
theorem eight_any (r : Nat) (h : r < 4294967296) (w : World) :
    Calls Try.prog 106 #[.int .u32 (r : Int)] w fun e w' => e = .returned (.int .u32 (Cr.steps 8 r : Int)) ∧ w = w' := by
  go_enter Try.func106, Try.ntmps106
  go_wp2
  go_loop [0, 3] (fun t i => ∃ k : Nat, k ≤ 8 ∧ i = .int .i64 k ∧ t = .int .u32 (Cr.steps k r : Int)) (fun _ i => 8 - (intOf i).toNat)
  case atStart => exact ⟨0, by omega, rfl, rfl⟩
  case round =>
    obtain ⟨k, hk, rfl, rfl⟩ := hrel
    have hlt := Cr.steps_lt k h
    by_cases hk8 : k < 8
    · go_wp2_with (go_at_call 109; refine (step_any _ hlt _).mono ?_; rintro e w' ⟨rfl, rfl⟩)
      go_round
      case rel => exact ⟨k + 1, by omega, by go_num, by rw [Cr.steps_succ]⟩
      case measure => simp [intOf]; omega
    · have hk8 : k = 8 := by omega
      subst hk8
      go_wp2
      go_ret
      exact ⟨rfl, rfl⟩
set_option maxRecDepth 100000 in
theorem in_any (r x : Nat) (h : r < 4294967296) (hx : x < 256) (w : World) :
    Calls Try.prog 100 #[.int .u32 (r : Int), .int .u8 (x : Int)] w fun e w' => e = .returned (.int .u32 (Cr.inB r x : Int)) ∧ w = w' := by
  have hx2 : (x : Int) < 256 := by omega
  have hx0 : bits .xor .u32 (r : Int) (x : Int) = ((r ^^^ x : Nat) : Int) := u32_xor_nat r x h (by omega)
  have hrx : r ^^^ x < 4294967296 := Cr.xor_lt h (by omega)
  go_enter Try.func100, Try.ntmps100
  go_wp2
  go_loop [0, 5] (fun t i => ∃ k : Nat, k ≤ 8 ∧ i = .int .i64 k ∧ t = .int .u32 (Cr.steps k (r ^^^ x) : Int)) (fun _ i => 8 - (intOf i).toNat)
  case atStart => exact ⟨0, by omega, rfl, rfl⟩
  case round =>
    obtain ⟨k, hk, rfl, rfl⟩ := hrel
    have hlt := Cr.steps_lt k hrx
    by_cases hk8 : k < 8
    · go_wp2_with (go_at_call 107; refine (rstep_any _ hlt _).mono ?_; rintro e w' ⟨rfl, rfl⟩)
      go_round
      case rel => exact ⟨k + 1, by omega, by go_num, by rw [Cr.steps_succ]⟩
      case measure => simp [intOf]; omega
    · have hk8 : k = 8 := by omega
      subst hk8
      go_wp2
      go_ret
      exact ⟨rfl, rfl⟩
/-- A length as it counts. -/
def len20 (n : Int) : Nat := if n < 0 then 0 else if n > 1048576 then 1048576 else n.toNat
end Go.Proofs.Ytbdomhookjmmgaa
namespace Go.Proofs.Ytbdomhookjmmgaa
open Go.RowKit
def rowsTo (k : Nat) : Array Value := Array.ofFn (n := 256) fun i => if i.val < k then .int .u32 (Cr.steps 8 i.val : Int) else .int .u32 0
theorem rowsTo_size (k : Nat) : (rowsTo k).size = 256 := by simp [rowsTo]
theorem rowsTo_at {k j : Nat} (hj : j < k) (hk : k ≤ 256) : (rowsTo k)[j]? = some (.int .u32 (Cr.steps 8 j : Int)) := by
  have h : j < 256 := by omega
  simp [rowsTo, hj, h]
theorem rowsTo_cell {k j : Nat} (hj : j < 256) : ∃ n : Int, (rowsTo k)[j]? = some (.int .u32 n) := by
  by_cases h : j < k
  · exact ⟨_, by simp [rowsTo, hj, h]; rfl⟩
  · exact ⟨_, by simp [rowsTo, hj, h]; rfl⟩
theorem rowsTo_set {k : Nat} : (rowsTo k).setIfInBounds k (.int .u32 (Cr.steps 8 k : Int)) = rowsTo (k + 1) := by
  apply Array.ext
  · simp [rowsTo]
  · intro i h1 h2
    rw [Array.getElem_setIfInBounds (by simpa using h1)]
    simp only [rowsTo, Array.getElem_ofFn]
    by_cases e : k = i
    · subst e; simp
    · have : (i < k + 1) ↔ i < k := by omega
      simp [e, this]
def lowN (k : Nat) : Nat := k &&& (256 - k)
theorem low_val : ∀ k : Fin 256, bits .and .i64 (k.val : Int) (-(k.val : Int)) = (lowN k.val : Int) := by decide +kernel
theorem low_lt : ∀ k : Fin 256, lowN k.val ≤ k.val ∧ k.val ^^^ lowN k.val < 256 ∧ (lowN k.val ≠ k.val → k.val ^^^ lowN k.val < k.val) := by decide +kernel
theorem low_split : ∀ k : Fin 256, lowN k.val ^^^ (k.val ^^^ lowN k.val) = k.val := by decide +kernel
theorem low_val' {k : Nat} (hk : k < 256) : bits .and .i64 (k : Int) (-(k : Int)) = (lowN k : Int) := low_val ⟨k, hk⟩
theorem low_le {k : Nat} (hk : k < 256) : lowN k ≤ k := (low_lt ⟨k, hk⟩).1
theorem low_rest {k : Nat} (hk : k < 256) (h : lowN k ≠ k) : k ^^^ lowN k < k := (low_lt ⟨k, hk⟩).2.2 h
theorem i64_xor_nat (a b : Nat) (ha : a < 9223372036854775808) (hb : b < 9223372036854775808) : bits .xor .i64 (a : Int) (b : Int) = ((a ^^^ b : Nat) : Int) := by
  have hx : a ^^^ b < 2 ^ 63 := Nat.xor_lt_two_pow (by omega) (by omega)
  show IntKind.i64.wrap ((BitVec.ofInt 64 (a : Int) ^^^ BitVec.ofInt 64 (b : Int)).toNat : Int) = _
  rw [BitVec.toNat_xor, ofInt_i64 a ha, ofInt_i64 b hb, IntKind.wrap_i64]
  omega
theorem rows_join {k : Nat} (hk : k < 256) : Cr.steps 8 (lowN k) ^^^ Cr.steps 8 (k ^^^ lowN k) = Cr.steps 8 k := by
  rw [← Cr.steps_xor, low_split ⟨k, hk⟩]
theorem zero43 (w : World) : (zeroValue 150).run Try.prog w = .ok (.agg (rowsTo 0)) w := by kernel_rfl
theorem info43 : (Try.prog.info? 150).map (·.size) = some 256 := by kernel_rfl
theorem rowsTo_one (k : Nat) : (rowsTo k).all (·.oneCell') = true := by
  rw [Array.all_eq_true]
  intro i hi
  simp only [rowsTo, Array.getElem_ofFn]
  split <;> rfl
theorem info43' (k : Nat) : (Try.prog.info? 150).map (·.size) = some (rowsTo k).size := by rw [rowsTo_size]; exact info43
set_option maxRecDepth 100000 in
theorem rows_any (w : World) :
    Calls Try.prog 99 #[] w fun e w' => e = .returned (.agg (rowsTo 256)) ∧ Below w.heap.size w w' := by
  have hz := zero43
  go_enter Try.func99, Try.ntmps99
  go_wp2
  clear hz
  go_loopw [2, 3, 4] (fun _ _ i wr => ∃ k : Nat, k ≤ 256 ∧ i = .int .i64 k ∧ wr.heap[w.heap.size]? = some (.cells (rowsTo 0) 150 (0, 0)) ∧ wr.heap[w.heap.size + 1]? = some (.cells (rowsTo k) 150 (0, 0)) ∧ Below w.heap.size w wr) (fun _ _ i _ => 256 - (intOf i).toNat)
  case atStart =>
    exact ⟨0, by omega, rfl, (Below.heap_alloc _ _ _ (by simp)).trans (heap_alloc_new _ _), by simpa using heap_alloc_new (w.alloc (.cells (rowsTo 0) 150)) (.cells (rowsTo 0) 150), ((Below.refl _ _).alloc (Nat.le_refl _) _).alloc (by simp) _⟩
  case round =>
    obtain ⟨k, hk, rfl, hb0, hb1, hbl⟩ := hrel
    by_cases hk8 : k < 256
    · obtain ⟨n0, hn0⟩ := rowsTo_cell (k := k) hk8
      have hcw : wr.cell? ⟨w.heap.size + 1, k, none⟩ = some (.int .u32 n0) := (cell_of_row _ _ _ _ _ _ hb1).trans hn0
      have hfz : wr.frozen? ⟨w.heap.size + 1, k, none⟩ = false := frozen_of_row _ _ _ _ _ hb1
      have hlow := low_val' hk8
      have hb0' := Lib.hid hb0
      have hb1' := Lib.hid hb1
      have hle := low_le hk8
      by_cases hl : lowN k = k
      · have hne : ((lowN k : Int) != (k : Int)) = false := by rw [bne_eq_false_iff_eq]; omega
        have i3 : (k : Int) < 256 := by omega
        have hk32 : k < 4294967296 := by omega
        have hbl' := Lib.hid hbl
        clear hb0 hb1 hl hn0 hbl
        go_wp2_with (go_at_call 106; refine (eight_any _ hk32 _).mono ?_; rintro e w' ⟨rfl, rfl⟩)
        go_roundw
        case rel =>
          refine ⟨k + 1, by omega, by go_num, ?_, ?_, ?_⟩
          · exact (Below.heap_setCell _ _ _ _ (by simp)).trans hb0'.out
          · rw [← rowsTo_set]; exact heap_setCell_same _ _ _ _ _ _ hb1'.out
          · exact hbl'.out.setCell (by simp) _
        case measure => simp [intOf]; omega
      · have hl2 := low_rest hk8 hl
        have hl3 : lowN k < k := by omega
        have hc1 : wr.cell? ⟨w.heap.size + 1, lowN k, none⟩ = some (.int .u32 (Cr.steps 8 (lowN k) : Int)) := (cell_of_row _ _ _ _ _ _ hb1).trans (rowsTo_at hl3 hk)
        have hc2 : wr.cell? ⟨w.heap.size + 1, k ^^^ lowN k, none⟩ = some (.int .u32 (Cr.steps 8 (k ^^^ lowN k) : Int)) := (cell_of_row _ _ _ _ _ _ hb1).trans (rowsTo_at hl2 hk)
        have hne : ((lowN k : Int) != (k : Int)) = true := by rw [bne_iff_ne]; omega
        have hx : bits .xor .i64 (k : Int) (lowN k : Int) = ((k ^^^ lowN k : Nat) : Int) := i64_xor_nat _ _ (by omega) (by omega)
        have hv : bits .xor .u32 (Cr.steps 8 (lowN k) : Int) (Cr.steps 8 (k ^^^ lowN k) : Int) = (Cr.steps 8 k : Int) := by
          rw [u32_xor_nat _ _ (Cr.steps_lt 8 (by omega)) (Cr.steps_lt 8 (by omega)), rows_join hk8]
        have i1 : (lowN k : Int) < 256 := by omega
        have i2 : ((k ^^^ lowN k : Nat) : Int) < 256 := by omega
        have i3 : (k : Int) < 256 := by omega
        have hbl' := Lib.hid hbl
        clear hb0 hb1 hl hn0 hbl
        go_wp2
        go_region
        go_wp2
        go_roundw
        case rel =>
          refine ⟨k + 1, by omega, by go_num, ?_, ?_, ?_⟩
          · exact (Below.heap_setCell _ _ _ _ (by simp)).trans hb0'.out
          · rw [← rowsTo_set]; exact heap_setCell_same _ _ _ _ _ _ hb1'.out
          · exact (hbl'.out.setCell (p := ⟨w.heap.size + 1, k, none⟩) (by simp) _).drew
        case measure => simp [intOf]; omega
    · have hk8 : k = 256 := by omega
      subst hk8
      have hb1' := Lib.hid hb1
      have hb0' := Lib.hid hb0
      have hbl' := Lib.hid hbl
      clear hb1 hb0 hbl
      go_wp2_with (first | (refine wpList_load_row rfl 150 (.tmp 1) rfl (w.heap.size + 1) rfl 150 (rowsTo 256) (0, 0) _ hb1'.out Try.underlying150 rfl (info43' _) ?_) | (refine wpList_store_row rfl 150 (.tmp 0) (.tmp 31) rfl w.heap.size (rowsTo 256) rfl rfl 150 (rowsTo 0) hb0'.out (info43' _) (by rw [rowsTo_size, rowsTo_size]) (rowsTo_one _) ?_))
      refine bodyPost_ret (results_cell_row rfl _ _ w.heap.size 150 (rowsTo 256) (0, 0) _ rfl (setRow_heap _ _ _ _ _ _ hb0'.out) Try.underlying150 rfl (info43' _)) rfl ⟨rfl, below_setRow hbl'.out (Nat.le_refl _) _⟩
end Go.Proofs.Ytbdomhookjmmgaa
namespace Go.Proofs.Ytbdomhookjmmgaa
open Go.RowKit
theorem not_val (c : Nat) (hc : c < 4294967296) : bits .xor .u32 IntKind.u32.max (c : Int) = ((c ^^^ 4294967295 : Nat) : Int) := by
  rw [Nat.xor_comm]
  exact u32_xor_nat 4294967295 c (by omega) hc
theorem byte_val (R x : Nat) (hx : x < 256) : bits .xor .u8 ((R : Int) % 256) (x : Int) = ((R % 256 ^^^ x : Nat) : Int) := by
  have e : (R : Int) % 256 = ((R % 256 : Nat) : Int) := by omega
  rw [e]; exact u8_xor_nat _ x (by omega) hx
theorem look_val (R x : Nat) (hR : R < 4294967296) (hx : x < 256) : bits .xor .u32 ((R : Int) / 256) (Cr.steps 8 (R % 256 ^^^ x) : Int) = (Cr.inB R x : Int) := by
  have e : (R : Int) / 256 = ((R / 256 : Nat) : Int) := by omega
  rw [e, u32_xor_nat _ _ (by omega) (Cr.steps_lt 8 (Cr.xor_lt (by omega) (by omega))), Cr.inB_look]
set_option maxRecDepth 100000 in
theorem more_any (c : Nat) (hc : c < 4294967296) (A : Option Addr) (n cap : Nat) (l : List Nat) (w : World) (hl : Rd w A n l) (hn : n ≤ 1000000) :
    Calls Try.prog 85 #[.int .u32 (c : Int), .slice A n cap] w fun e w' => e = .returned (.int .u32 (Cr.more c l : Int)) ∧ Below w.heap.size w w' := by
  have hz := zero43
  have hnv := not_val c hc
  have hc1 : c ^^^ 4294967295 < 4294967296 := Cr.xor_lt hc (by omega)
  go_enter Try.func85, Try.ntmps85
  go_wp2_with (first | (go_at_call 99; refine (rows_any _).mono ?_; rintro e w1 ⟨rfl, hb1⟩) | (refine wpList_store_row rfl 150 (.tmp 5) (.tmp 9) rfl w1.heap.size (rowsTo 256) rfl rfl 150 (rowsTo 0) (heap_alloc_new _ _) (info43' _) (by rw [rowsTo_size, rowsTo_size]) (rowsTo_one _) ?_))
  have hg : ((w1.alloc (Obj.cells (rowsTo 0) 150)).setRow w1.heap.size (rowsTo 256)).heap[w1.heap.size]? = some (.cells (rowsTo 256) 150 (0, 0)) := setRow_heap _ _ _ _ _ _ (heap_alloc_new _ _)
  have hb2 : Below w.heap.size w ((w1.alloc (Obj.cells (rowsTo 0) 150)).setRow w1.heap.size (rowsTo 256)) := below_setRow (hb1.alloc hb1.size _) hb1.size _
  generalize ((w1.alloc (Obj.cells (rowsTo 0) 150)).setRow w1.heap.size (rowsTo 256)) = W at hg hb2 ⊢
  have hl2 := hl.below hb2
  have Hg := Lib.hid hg
  have Hb := Lib.hid hb2
  clear hg hb2 hz hnv
  go_loop [6, 14] (fun r i => ∃ k : Nat, k ≤ n ∧ i = .int .i64 k ∧ r = .int .u32 (Cr.run (c ^^^ 4294967295) (l.take k) : Int)) (fun _ i => n - (intOf i).toNat)
  case atStart => exact ⟨0, by omega, rfl, rfl⟩
  case round =>
    obtain ⟨k, hk, rfl, rfl⟩ := hrel
    have hrl : Cr.run (c ^^^ 4294967295) (l.take k) < 4294967296 := Cr.run_lt (fun x hx => hl.lt (List.mem_of_mem_take hx)) hc1
    by_cases hlt : k < n
    · obtain ⟨b, o, x, rfl, hb, hx, hx256, hcell⟩ := hl2.at_ hlt
      have hx2 : (x : Int) < 256 := by omega
      have hix : Cr.run (c ^^^ 4294967295) (l.take k) % 256 ^^^ x < 256 := Nat.xor_lt_two_pow (n := 8) (by omega) (by omega)
      have hxor : bits .xor .u8 ((Cr.run (c ^^^ 4294967295) (l.take k) : Int) % 256) (x : Int) = ((Cr.run (c ^^^ 4294967295) (l.take k) % 256 ^^^ x : Nat) : Int) := byte_val _ x hx256
      have hrow : W.cell? ⟨w1.heap.size, Cr.run (c ^^^ 4294967295) (l.take k) % 256 ^^^ x, none⟩ = some (.int .u32 (Cr.steps 8 (Cr.run (c ^^^ 4294967295) (l.take k) % 256 ^^^ x) : Int)) := (cell_of_row _ _ _ _ _ _ Hg.out).trans (rowsTo_at hix (by omega))
      have hix2 : ((Cr.run (c ^^^ 4294967295) (l.take k) % 256 ^^^ x : Nat) : Int) < 256 := by omega
      have Hx := Lib.hid hx
      clear hx
      go_wp2
      go_round
      case rel => exact ⟨k + 1, by omega, by go_num, by rw [look_val _ x hrl hx256, take_snoc Hx.out, Cr.run_snoc]⟩
      case measure => simp [intOf]; omega
    · have hk8 : k = n := by omega
      have hnv2 := not_val _ hrl
      have HK := Lib.hid hk8
      clear hk8
      go_wp2
      go_ret
      refine ⟨?_, Hb.out⟩
      unfold Cr.more
      rw [HK.out, List.take_of_length_le (Nat.le_of_eq hl2.1)]
      rfl
set_option maxRecDepth 100000 in
theorem of_any (A : Option Addr) (n cap : Nat) (l : List Nat) (w : World) (hl : Rd w A n l) (hn : n ≤ 1000000) :
    Calls Try.prog 75 #[.slice A n cap] w fun e w' => e = .returned (.int .u32 (Cr.more 0 l : Int)) ∧ Below w.heap.size w w' := by
  have h0 := more_any 0 (by omega) A n cap l w hl hn
  have H0 := Lib.hid h0
  clear h0
  go_enter Try.func75, Try.ntmps75
  go_wp2_with (go_at_call 85; refine H0.out.mono ?_; rintro e w1 ⟨rfl, hb1⟩)
  go_ret
  exact ⟨rfl, hb1⟩
theorem rnot_val (c : Nat) (hc : c < 4294967296) : bits .xor .u32 (c : Int) 4294967295 = ((c ^^^ 4294967295 : Nat) : Int) :=
  u32_xor_nat c 4294967295 hc (by omega)
set_option maxRecDepth 100000 in
theorem rmore_any (c : Nat) (hc : c < 4294967296) (A : Option Addr) (n cap : Nat) (l : List Nat) (w : World) (hl : Rd w A n l) (hn : n ≤ 1000000) :
    Calls Try.prog 86 #[.int .u32 (c : Int), .slice A n cap] w fun e w' => e = .returned (.int .u32 (Cr.more c l : Int)) ∧ w = w' := by
  have hnv := rnot_val c hc
  have hc1 : c ^^^ 4294967295 < 4294967296 := Cr.xor_lt hc (by omega)
  go_enter Try.func86, Try.ntmps86
  go_wp2
  clear hnv
  go_loop [0, 5] (fun r i => ∃ k : Nat, k ≤ n ∧ i = .int .i64 k ∧ r = .int .u32 (Cr.run (c ^^^ 4294967295) (l.take k) : Int)) (fun _ i => n - (intOf i).toNat)
  case atStart => exact ⟨0, by omega, rfl, rfl⟩
  case round =>
    obtain ⟨k, hk, rfl, rfl⟩ := hrel
    have hrl : Cr.run (c ^^^ 4294967295) (l.take k) < 4294967296 := Cr.run_lt (fun x hx => hl.lt (List.mem_of_mem_take hx)) hc1
    by_cases hlt : k < n
    · obtain ⟨b, o, x, rfl, hb, hx, hx256, hcell⟩ := hl.at_ hlt
      have hx2 : (x : Int) < 256 := by omega
      have Hx := Lib.hid hx
      clear hx
      go_wp2_with (go_at_call 100; refine (in_any _ _ hrl hx256 _).mono ?_; rintro e w' ⟨rfl, rfl⟩)
      go_round
      case rel => exact ⟨k + 1, by omega, by go_num, by rw [take_snoc Hx.out, Cr.run_snoc]⟩
      case measure => simp [intOf]; omega
    · have hk8 : k = n := by omega
      have hnv2 := rnot_val _ hrl
      have HK := Lib.hid hk8
      clear hk8
      go_wp2
      go_ret
      refine ⟨?_, rfl⟩
      unfold Cr.more
      rw [HK.out, List.take_of_length_le (Nat.le_of_eq hl.1)]
      rfl
set_option maxRecDepth 100000 in
theorem rof_any (A : Option Addr) (n cap : Nat) (l : List Nat) (w : World) (hl : Rd w A n l) (hn : n ≤ 1000000) :
    Calls Try.prog 78 #[.slice A n cap] w fun e w' => e = .returned (.int .u32 (Cr.more 0 l : Int)) ∧ w = w' := by
  have h0 := rmore_any 0 (by omega) A n cap l w hl hn
  have H0 := Lib.hid h0
  clear h0
  go_enter Try.func78, Try.ntmps78
  go_wp2_with (go_at_call 86; refine H0.out.mono ?_; rintro e w1 ⟨rfl, rfl⟩)
  go_ret
  exact ⟨rfl, rfl⟩
end Go.Proofs.Ytbdomhookjmmgaa
