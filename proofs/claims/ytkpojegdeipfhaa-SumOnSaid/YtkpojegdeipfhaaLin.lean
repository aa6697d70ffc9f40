/- Plain mathematics: the register is linear: two texts behind one another, three texts of one length, a turned bit, a burst of turned bits. -/
import Derived.Test.YtkpojegdeipfhaaIn
namespace Go.Proofs.Ytkpojegdeipfhaa
namespace Cr
theorem inB_lin (a b x : Nat) : inB (a ^^^ b) x = steps 8 a ^^^ inB b x := by unfold inB; rw [Nat.xor_assoc, steps_xor]
theorem run_lin (a b : Nat) (y : List Nat) : run (a ^^^ b) y = steps (8 * y.length) a ^^^ run b y := by
  induction y generalizing a b with
  | nil => rfl
  | cons x y ih =>
    show run (inB (a ^^^ b) x) y = _
    rw [inB_lin, ih, ← steps_add, List.length_cons, Nat.mul_add, Nat.add_comm (8 * y.length)]
    rfl
/-- The sum of two texts out of both sums. -/
theorem join_more (X : Nat) (y : List Nat) : steps (8 * y.length) X ^^^ more 0 y = more X y := by
  unfold more
  rw [run_lin X 4294967295 y, Nat.zero_xor, Nat.xor_assoc]
/-- Three texts of one length. -/
def xor3 : List Nat → List Nat → List Nat → List Nat
  | x :: a, y :: b, z :: c => (x ^^^ y ^^^ z) :: xor3 a b c
  | _, _, _ => []
theorem xor_4 (a b c x y z : Nat) : (a ^^^ b ^^^ c) ^^^ (x ^^^ y ^^^ z) = (a ^^^ x) ^^^ (b ^^^ y) ^^^ (c ^^^ z) := by
  apply Nat.eq_of_testBit_eq; intro j
  simp only [Nat.testBit_xor]
  cases a.testBit j <;> cases b.testBit j <;> cases c.testBit j <;> cases x.testBit j <;> cases y.testBit j <;> cases z.testBit j <;> rfl
theorem run_xor3 (x y z : List Nat) (h1 : x.length = y.length) (h2 : y.length = z.length) (a b c : Nat) : run (a ^^^ b ^^^ c) (xor3 x y z) = run a x ^^^ run b y ^^^ run c z := by
  induction x generalizing y z a b c with
  | nil =>
    match y, z, h1, h2 with
    | [], [], _, _ => rfl
  | cons p x ih =>
    match y, z, h1, h2 with
    | q :: y, r :: z, h1, h2 =>
      show run (inB (a ^^^ b ^^^ c) (p ^^^ q ^^^ r)) (xor3 x y z) = _
      have e : inB (a ^^^ b ^^^ c) (p ^^^ q ^^^ r) = inB a p ^^^ inB b q ^^^ inB c r := by
        unfold inB
        rw [xor_4, steps_xor, steps_xor]
      rw [e, ih y z (by simpa using h1) (by simpa using h2)]
      rfl
theorem more_xor3 (x y z : List Nat) (h1 : x.length = y.length) (h2 : y.length = z.length) : more 0 (xor3 x y z) = more 0 x ^^^ more 0 y ^^^ more 0 z := by
  unfold more
  have e : (0 : Nat) ^^^ 4294967295 = (0 ^^^ 4294967295) ^^^ (0 ^^^ 4294967295) ^^^ (0 ^^^ 4294967295) := by decide
  conv => lhs; rw [e, run_xor3 x y z h1 h2]
  apply Nat.eq_of_testBit_eq; intro j
  simp only [Nat.testBit_xor]
  generalize (run (0 ^^^ 4294967295) x).testBit j = p
  generalize (run (0 ^^^ 4294967295) y).testBit j = q
  generalize (run (0 ^^^ 4294967295) z).testBit j = r
  generalize Nat.testBit 4294967295 j = f
  cases p <;> cases q <;> cases r <;> cases f <;> rfl
theorem xor3_length (x y z : List Nat) (h1 : x.length = y.length) (h2 : y.length = z.length) : (xor3 x y z).length = x.length := by
  induction x generalizing y z with
  | nil => rfl
  | cons p x ih =>
    match y, z, h1, h2 with
    | q :: y, r :: z, h1, h2 =>
      show (xor3 x y z).length + 1 = x.length + 1
      rw [ih y z (by simpa using h1) (by simpa using h2)]
theorem xor3_snoc (x y z : List Nat) (p q r : Nat) (h1 : x.length = y.length) (h2 : y.length = z.length) : xor3 (x ++ [p]) (y ++ [q]) (z ++ [r]) = xor3 x y z ++ [p ^^^ q ^^^ r] := by
  induction x generalizing y z with
  | nil =>
    match y, z, h1, h2 with
    | [], [], _, _ => rfl
  | cons a x ih =>
    match y, z, h1, h2 with
    | b :: y, c :: z, h1, h2 =>
      show (a ^^^ b ^^^ c) :: xor3 (x ++ [p]) (y ++ [q]) (z ++ [r]) = _
      rw [ih y z (by simpa using h1) (by simpa using h2)]
      rfl
end Cr
end Go.Proofs.Ytkpojegdeipfhaa
