/- Plain mathematics of numbers as bytes: seven bits a byte, the lowest first; so many bytes, the highest first. Nothing of the program is imported here. -/
namespace Go.Proofs.Ytbfjcpblbmlfcaa
namespace Cd
/-- A number as few bytes as may be; f: how many more than the last there may be. -/
def numF : Nat → Nat → List Nat
  | 0, n => [n]
  | f + 1, n => if n < 128 then [n] else (n % 128 + 128) :: numF f (n / 128)
def num (n : Nat) : List Nat := numF 10 n
theorem numF_small {f n : Nat} (h : n < 128) : numF f n = [n] := by
  cases f with
  | zero => rfl
  | succ f => show (if n < 128 then [n] else _) = _; rw [if_pos h]
theorem numF_big {f n : Nat} (h : ¬ n < 128) : numF (f + 1) n = (n % 128 + 128) :: numF f (n / 128) := by
  show (if n < 128 then [n] else _) = _; rw [if_neg h]
theorem numF_lt (f n : Nat) (h : n < 128 ^ f * 128) : ∀ x ∈ numF f n, x < 256 := by
  induction f generalizing n with
  | zero => intro x hx; simp [numF] at hx; omega
  | succ f ih =>
    intro x hx
    by_cases hn : n < 128
    · rw [numF_small hn] at hx; simp at hx; omega
    · rw [numF_big hn] at hx
      rcases List.mem_cons.1 hx with h1 | h1
      · omega
      · refine ih (n / 128) ?_ x h1
        rw [Nat.pow_succ] at h
        omega
theorem numF_length (f n : Nat) : (numF f n).length ≤ f + 1 := by
  induction f generalizing n with
  | zero => simp [numF]
  | succ f ih =>
    by_cases hn : n < 128
    · rw [numF_small hn]; simp
    · rw [numF_big hn, List.length_cons]; have := ih (n / 128); omega
theorem num_lt {n : Nat} (h : n < 18446744073709551616) : ∀ x ∈ num n, x < 256 := numF_lt 10 n (by rw [show 128 ^ 10 * 128 = 151115727451828646838272 by decide]; omega)
theorem num_length (n : Nat) : (num n).length ≤ 11 := numF_length 10 n
/-- The lowest k bytes of a number, the lowest first. -/
def lowTo (n : Nat) : Nat → List Nat
  | 0 => []
  | k + 1 => lowTo n k ++ [n / 256 ^ k % 256]
theorem lowTo_length (n k : Nat) : (lowTo n k).length = k := by
  induction k with
  | zero => rfl
  | succ k ih => show (lowTo n k ++ _).length = _; rw [List.length_append, ih]; rfl
theorem lowTo_lt (n k : Nat) : ∀ x ∈ lowTo n k, x < 256 := by
  induction k with
  | zero => intro x hx; cases hx
  | succ k ih =>
    intro x hx
    rcases List.mem_append.1 hx with h | h
    · exact ih x h
    · rw [List.mem_singleton.1 h]; exact Nat.mod_lt _ (by omega)
/-- The lowest bytes of a number, the highest of these first; nothing, if their count is out of bounds. -/
def fixed (n : Nat) (size : Int) : List Nat := if size < 1 ∨ 8 < size then [] else (lowTo n size.toNat).reverse
theorem fixed_lt (n : Nat) (size : Int) : ∀ x ∈ fixed n size, x < 256 := by
  intro x hx
  unfold fixed at hx
  split at hx
  · cases hx
  · exact lowTo_lt _ _ x (List.mem_reverse.1 hx)
theorem fixed_length (n : Nat) (size : Int) : (fixed n size).length ≤ 8 := by
  unfold fixed
  split
  · simp
  · rw [List.length_reverse, lowTo_length]; omega
/-- The number of bytes, the highest first. -/
def be (l : List Nat) : Nat := l.foldl (fun v x => v * 256 + x) 0
theorem be_snoc (l : List Nat) (x : Nat) : be (l ++ [x]) = be l * 256 + x := by unfold be; rw [List.foldl_append]; rfl
theorem be_lt (l : List Nat) (hl : ∀ x ∈ l, x < 256) (k : Nat) (hk : k ≤ l.length) : be (l.take k) < 256 ^ k := by
  induction k with
  | zero => simp [be]
  | succ k ih =>
    have hx : l[k]? = some (l[k]'(by omega)) := List.getElem?_eq_getElem _
    rw [List.take_add_one, hx]
    show be (l.take k ++ [l[k]'(by omega)]) < _
    rw [be_snoc, Nat.pow_succ]
    have h1 := ih (by omega)
    have h2 := hl _ (List.getElem_mem (show k < l.length by omega))
    omega
/-- The number of the first bytes, and what stands behind them. -/
def takeFixed (l : List Nat) (size : Int) : Option (Nat × List Nat) :=
  if size < 1 ∨ 8 < size ∨ (l.length : Int) < size then none else some (be (l.take size.toNat), l.drop size.toNat)
end Cd
end Go.Proofs.Ytbfjcpblbmlfcaa
