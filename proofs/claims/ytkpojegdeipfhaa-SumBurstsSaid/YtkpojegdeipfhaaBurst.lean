/- Plain mathematics: a burst of turned bits is told by a sealed text's register. -/
import Derived.Test.YtkpojegdeipfhaaTurn
namespace Go.Proofs.Ytkpojegdeipfhaa
namespace Cr
theorem xor_shift (x f : Nat) (hx : x < 256) : x ^^^ 256 * f = x + 256 * f := by
  apply Nat.eq_of_testBit_eq; intro j
  have e : x + 256 * f = 256 * f ||| x := by
    rw [Nat.add_comm]
    exact Nat.two_pow_add_eq_or_of_lt (i := 8) hx f
  rw [e, Nat.testBit_xor, Nat.testBit_or, show (256 : Nat) = 2 ^ 8 by rfl, Nat.testBit_two_pow_mul]
  by_cases h : 8 ≤ j
  · have h1 : x.testBit j = false := Nat.testBit_lt_two_pow (Nat.lt_of_lt_of_le hx (show 2 ^ 8 ≤ 2 ^ j from Nat.pow_le_pow_right (by omega) h))
    simp [h1, h]
  · simp [h]
/-- Bytes go in at once. -/
theorem run_fromLe (l : List Nat) (hl : ∀ x ∈ l, x < 256) (r : Nat) : run r l = steps (8 * l.length) (r ^^^ fromLe l) := by
  induction l generalizing r with
  | nil => show r = steps 0 (r ^^^ 0); rw [Nat.xor_zero]; rfl
  | cons x t ih =>
    show run (inB r x) t = _
    rw [ih (fun y hy => hl y (List.mem_cons_of_mem _ hy))]
    have h8 : fromLe t = steps 8 (256 * fromLe t) := (steps_shift 8 (fromLe t)).symm
    have e1 : inB r x ^^^ fromLe t = steps 8 (r ^^^ fromLe (x :: t)) := by
      unfold inB
      conv => lhs; rw [h8]
      rw [← steps_xor, Nat.xor_assoc, xor_shift x _ (hl x (List.mem_cons_self ..))]
      rfl
    rw [e1, ← steps_add, List.length_cons, Nat.mul_add, Nat.add_comm (8 * t.length)]
/-- What the register is behind a text and its four last bytes. -/
theorem run_tail {m : Nat} {L : List Nat} (h : L.length = m + 4) (hl : ∀ x ∈ L, x < 256) :
    run 4294967295 L = steps 32 (more 0 (L.take m) ^^^ fromLe (L.drop m)) ^^^ steps 32 4294967295 := by
  have hd : (L.drop m).length = 4 := by rw [List.length_drop, h]; omega
  conv => lhs; rw [← List.take_append_drop m L]
  rw [run_append, run_fromLe _ (fun x hx => hl x (List.mem_of_mem_drop hx)), hd]
  have e : run 4294967295 (L.take m) = more 0 (L.take m) ^^^ 4294967295 := by
    unfold more; rw [xor_xor, Nat.zero_xor]
  rw [e, ← steps_xor]
  congr 1
  rw [Nat.xor_assoc, Nat.xor_assoc, Nat.xor_comm 4294967295]
theorem xor_eq_zero {a b : Nat} (h : a ^^^ b = 0) : a = b := by
  have := congrArg (· ^^^ b) h
  simp only [xor_xor, Nat.zero_xor] at this
  exact this
theorem opened_iff {m : Nat} {L : List Nat} (h : L.length = m + 4) (hl : ∀ x ∈ L, x < 256) : run 4294967295 L = steps 32 4294967295 ↔ fromLe (L.drop m) = more 0 (L.take m) := by
  have hd : (L.drop m).length = 4 := by rw [List.length_drop, h]; omega
  have hm := more_lt (c := 0) (l := L.take m) (fun x hx => hl x (List.mem_of_mem_take hx)) (by omega)
  have hf := fromLe_lt (L.drop m) (fun x hx => hl x (List.mem_of_mem_drop hx))
  rw [hd] at hf
  rw [run_tail h hl]
  constructor
  · intro e
    have e1 : steps 32 (more 0 (L.take m) ^^^ fromLe (L.drop m)) = 0 := by
      have := congrArg (· ^^^ steps 32 4294967295) e
      simp only [xor_xor, Nat.xor_self] at this
      exact this
    by_cases h0 : more 0 (L.take m) ^^^ fromLe (L.drop m) = 0
    · exact (xor_eq_zero h0).symm
    · exact absurd e1 (steps_ne 32 (xor_lt hm hf) h0)
  · intro e
    rw [e, Nat.xor_self, steps_zero, Nat.zero_xor]
theorem sealed_take (l : List Nat) : (sealed l).take l.length = l ∧ (sealed l).drop l.length = le4 (more 0 l) := by
  unfold sealed
  exact ⟨by rw [List.take_append_of_le_length (Nat.le_refl _), List.take_length], by rw [List.drop_append_of_le_length (Nat.le_refl _), List.drop_length, List.nil_append]⟩
theorem run_sealed {l : List Nat} (hl : ∀ x ∈ l, x < 256) : run 4294967295 (sealed l) = steps 32 4294967295 := by
  rw [opened_iff (m := l.length) (by rw [sealed_length]) (sealed_lt hl), (sealed_take l).1, (sealed_take l).2]
  exact fromLe_le4 (more_lt hl (by omega))
/-- Of which texts, some of whose bits are turned, Open tells. -/
theorem opened_turned {m N acc : Nat} {L : List Nat} (h : L.length = m + 4) (hl : ∀ x ∈ L, x < 256) (ha : acc < 4294967296) (hr : run 4294967295 L = steps 32 4294967295 ^^^ steps N acc) :
    (acc = 0 → ∃ x, opened L = some x) ∧ (acc ≠ 0 → opened L = none) := by
  have hi := opened_iff h hl
  rw [opened_long h hl]
  constructor
  · intro h0
    subst h0
    rw [steps_zero, Nat.xor_zero] at hr
    rw [if_pos (hi.1 hr)]
    exact ⟨_, rfl⟩
  · intro h0
    rw [if_neg]
    intro e
    have e1 := hi.2 e
    rw [hr] at e1
    have e2 : steps N acc = 0 := by
      have := congrArg (fun z => steps 32 4294967295 ^^^ z) e1
      simp only [← Nat.xor_assoc, Nat.xor_self, Nat.zero_xor] at this
      exact this
    exact steps_ne N ha h0 e2
/-- One more bit is turned. -/
theorem turn_step {L : List Nat} {n p k q j x acc : Nat} (hL : L.length = n) (hb : p + k < 8 * n) (hq : q = (p + k) / 8) (hj : j = (p + k) % 8) (hx : L[q]? = some x) (R : Nat)
    (hr : run 4294967295 L = R ^^^ steps (8 * n - p) acc) : run 4294967295 (L.set q (x ^^^ 2 ^ j)) = R ^^^ steps (8 * n - p) (acc ^^^ 2 ^ k) := by
  rw [run_set L q x _ _ hx, hr, hL, Nat.xor_assoc, steps_xor]
  congr 2
  have e1 : steps (8 * (n - q)) (2 ^ j) = steps (8 * n - (p + k)) 1 := by
    rw [show 8 * (n - q) = j + (8 * n - (p + k)) by omega, steps_add]
    congr 1
    have := steps_shift j 1
    rw [Nat.mul_one] at this
    exact this
  have e2 : steps (8 * n - p) (2 ^ k) = steps (8 * n - (p + k)) 1 := by
    rw [show 8 * n - p = k + (8 * n - (p + k)) by omega, steps_add]
    congr 1
    have := steps_shift k 1
    rw [Nat.mul_one] at this
    exact this
  rw [e1, e2]
theorem acc_next {acc k : Nat} (h : acc < 2 ^ k) : acc ^^^ 2 ^ k < 2 ^ (k + 1) ∧ acc ^^^ 2 ^ k ≠ 0 := by
  refine ⟨Nat.xor_lt_two_pow (Nat.lt_of_lt_of_le h (Nat.pow_le_pow_right (by omega) (by omega))) (Nat.pow_lt_pow_right (by omega) (by omega)), ?_⟩
  intro e
  have := xor_eq_zero e
  omega
theorem pow_next {acc k : Nat} (h : acc < 2 ^ k) : acc < 2 ^ (k + 1) := Nat.lt_of_lt_of_le h (Nat.pow_le_pow_right (by omega) (by omega))
end Cr
end Go.Proofs.Ytkpojegdeipfhaa
