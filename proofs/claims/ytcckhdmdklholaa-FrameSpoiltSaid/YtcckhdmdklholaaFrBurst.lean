/- Plain mathematics: a frame with a burst of turned bits is none. -/
import Derived.Test.YtcckhdmdklholaaFrIff
import Derived.Test.YtcckhdmdklholaaSumOf
namespace Go.Proofs.Ytcckhdmdklholaa
open Go.RowKit Fr
set_option linter.unusedVariables false
namespace Cr
theorem inB_lin (a b x : Nat) : inB (a ^^^ b) x = steps 8 a ^^^ inB b x := by unfold inB; rw [Nat.xor_assoc, steps_xor]
theorem run_lin (a b : Nat) (y : List Nat) : run (a ^^^ b) y = steps (8 * y.length) a ^^^ run b y := by
  induction y generalizing a b with
  | nil => rfl
  | cons x y ih =>
    show run (inB (a ^^^ b) x) y = _
    rw [inB_lin, ih, ← steps_add, List.length_cons, Nat.mul_add, Nat.add_comm (8 * y.length)]
    rfl
/-- What a turned byte turns. -/
theorem run_set (l : List Nat) (q x m r : Nat) (h : l[q]? = some x) : run r (l.set q (x ^^^ m)) = run r l ^^^ steps (8 * (l.length - q)) m := by
  induction l generalizing q r with
  | nil => simp at h
  | cons y t ih =>
    cases q with
    | zero =>
      simp only [List.getElem?_cons_zero, Option.some.injEq] at h
      subst h
      show run (inB r (y ^^^ m)) t = run (inB r y) t ^^^ _
      have e : inB r (y ^^^ m) = steps 8 m ^^^ inB r y := by
        unfold inB
        rw [← steps_xor]
        congr 1
        rw [← Nat.xor_assoc, Nat.xor_comm (r ^^^ y) m]
      rw [e, run_lin, ← steps_add, Nat.xor_comm]
      congr 2
      rw [List.length_cons]; omega
    | succ q =>
      show run (inB r y) (t.set q (x ^^^ m)) = run (inB r y) t ^^^ _
      rw [ih q _ (by simpa using h)]
      congr 2
      rw [List.length_cons]; omega
theorem xor_shift (x f : Nat) (hx : x < 256) : x ^^^ 256 * f = x + 256 * f := by
  apply Nat.eq_of_testBit_eq; intro j
  have e : x + 256 * f = 256 * f ||| x := by
    rw [Nat.add_comm]
    exact Nat.two_pow_add_eq_or_of_lt (i := 8) hx f
  rw [e, Nat.testBit_xor, Nat.testBit_or, show (256 : Nat) = 2 ^ 8 by rfl, Nat.testBit_two_pow_mul]
  by_cases h : 8 ≤ j
  · have h1 : x.testBit j = false := Nat.testBit_lt_two_pow (Nat.lt_of_lt_of_le hx (show 2 ^ 8 ≤ 2 ^ j from Nat.pow_le_pow_right (by omega) h))
    simp [h1, h]
  · simp [h]
/-- Bytes go in at once. -/
theorem run_num (l : List Nat) (hl : ∀ x ∈ l, x < 256) (r : Nat) : run r l = steps (8 * l.length) (r ^^^ num l) := by
  induction l generalizing r with
  | nil => show r = steps 0 (r ^^^ 0); rw [Nat.xor_zero]; rfl
  | cons x t ih =>
    show run (inB r x) t = _
    rw [ih (fun y hy => hl y (List.mem_cons_of_mem _ hy))]
    have h8 : num t = steps 8 (256 * num t) := (steps_shift 8 (num t)).symm
    have e1 : inB r x ^^^ num t = steps 8 (r ^^^ num (x :: t)) := by
      unfold inB
      conv => lhs; rw [h8]
      rw [← steps_xor, Nat.xor_assoc, xor_shift x _ (hl x (List.mem_cons_self ..))]
      rfl
    rw [e1, ← steps_add, List.length_cons, Nat.mul_add, Nat.add_comm (8 * t.length)]
/-- What the register is behind a text and its four last bytes. -/
theorem run_tail {m : Nat} {L : List Nat} (h : L.length = m + 4) (hl : ∀ x ∈ L, x < 256) :
    run 4294967295 L = steps 32 (more 0 (L.take m) ^^^ num (L.drop m)) ^^^ steps 32 4294967295 := by
  have hd : (L.drop m).length = 4 := by rw [List.length_drop, h]; omega
  conv => lhs; rw [← List.take_append_drop m L]
  rw [run_append, run_num _ (fun x hx => hl x (List.mem_of_mem_drop hx)), hd]
  have e : run 4294967295 (L.take m) = more 0 (L.take m) ^^^ 4294967295 := by
    unfold more; rw [xor_xor, Nat.zero_xor]
  rw [e, ← steps_xor]
  congr 1
  rw [Nat.xor_assoc, Nat.xor_assoc, Nat.xor_comm 4294967295]
theorem xor_eq_zero {a b : Nat} (h : a ^^^ b = 0) : a = b := by
  have := congrArg (· ^^^ b) h
  simp only [xor_xor, Nat.zero_xor] at this
  exact this
theorem opened_iff {m : Nat} {L : List Nat} (h : L.length = m + 4) (hl : ∀ x ∈ L, x < 256) : run 4294967295 L = steps 32 4294967295 ↔ num (L.drop m) = more 0 (L.take m) := by
  have hd : (L.drop m).length = 4 := by rw [List.length_drop, h]; omega
  have hm := more_lt (c := 0) (l := L.take m) (fun x hx => hl x (List.mem_of_mem_take hx)) (by omega)
  have hf := num_lt (L.drop m) (fun x hx => hl x (List.mem_of_mem_drop hx))
  rw [hd] at hf
  rw [run_tail h hl]
  constructor
  · intro e
    have e1 : steps 32 (more 0 (L.take m) ^^^ num (L.drop m)) = 0 := by
      have := congrArg (· ^^^ steps 32 4294967295) e
      simp only [xor_xor, Nat.xor_self] at this
      exact this
    by_cases h0 : more 0 (L.take m) ^^^ num (L.drop m) = 0
    · exact (xor_eq_zero h0).symm
    · exact absurd e1 (steps_ne 32 (xor_lt hm hf) h0)
  · intro e
    rw [e, Nat.xor_self, steps_zero, Nat.zero_xor]
/-- One more bit is turned. -/
theorem turn_step {L : List Nat} {n p k q j x acc : Nat} (hL : L.length = n) (hb : p + k < 8 * n) (hq : q = (p + k) / 8) (hj : j = (p + k) % 8) (hx : L[q]? = some x) (R : Nat)
    (hr : run 4294967295 L = R ^^^ steps (8 * n - p) acc) : run 4294967295 (L.set q (x ^^^ 2 ^ j)) = R ^^^ steps (8 * n - p) (acc ^^^ 2 ^ k) := by
  rw [run_set L q x _ _ hx, hr, hL, Nat.xor_assoc, steps_xor]
  congr 2
  have e1 : steps (8 * (n - q)) (2 ^ j) = steps (8 * n - (p + k)) 1 := by
    rw [show 8 * (n - q) = j + (8 * n - (p + k)) by omega, steps_add]
    congr 1
    have := steps_shift j 1
    rw [Nat.mul_one] at this
    exact this
  have e2 : steps (8 * n - p) (2 ^ k) = steps (8 * n - (p + k)) 1 := by
    rw [show 8 * n - p = k + (8 * n - (p + k)) by omega, steps_add]
    congr 1
    have := steps_shift k 1
    rw [Nat.mul_one] at this
    exact this
  rw [e1, e2]
theorem acc_next {acc k : Nat} (h : acc < 2 ^ k) : acc ^^^ 2 ^ k < 2 ^ (k + 1) ∧ acc ^^^ 2 ^ k ≠ 0 := by
  refine ⟨Nat.xor_lt_two_pow (Nat.lt_of_lt_of_le h (Nat.pow_le_pow_right (by omega) (by omega))) (Nat.pow_lt_pow_right (by omega) (by omega)), ?_⟩
  intro e
  have := xor_eq_zero e
  omega
theorem pow_next {acc k : Nat} (h : acc < 2 ^ k) : acc < 2 ^ (k + 1) := Nat.lt_of_lt_of_le h (Nat.pow_le_pow_right (by omega) (by omega))
end Cr
namespace Fr
theorem run_frame {l : List Nat} (h : ∀ x ∈ l, x < 256) (hf : isF l = true) : Cr.run 4294967295 l = Cr.steps 32 4294967295 := by
  obtain ⟨hl, _, _, _, _, _, hsum⟩ := isF_iff.1 hf
  rw [Cr.opened_iff (m := 124) (by rw [hl]) h, ← hsum]
  unfold F
  rw [List.take_of_length_le (by rw [List.length_drop]; omega)]
theorem bent_none {l : List Nat} {N acc : Nat} (h : ∀ x ∈ l, x < 256) (ha : acc < 4294967296) (h0 : acc ≠ 0) (hr : Cr.run 4294967295 l = Cr.steps 32 4294967295 ^^^ Cr.steps N acc) : isF l = false := by
  rw [Bool.eq_false_iff]
  intro hf
  rw [run_frame h hf] at hr
  have e2 : Cr.steps N acc = 0 := by
    have := congrArg (fun z => Cr.steps 32 4294967295 ^^^ z) hr
    simp only [← Nat.xor_assoc, Nat.xor_self, Nat.zero_xor] at this
    exact this.symm
  exact Cr.steps_ne N ha h0 e2
end Fr
end Go.Proofs.Ytcckhdmdklholaa
