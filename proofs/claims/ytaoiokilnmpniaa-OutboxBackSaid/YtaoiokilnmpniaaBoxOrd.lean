/- The order of keys of two and three parts; which keys begin with which; numbers as bytes are ordered as numbers. Plain mathematics. -/
import Derived.Test.YtaoiokilnmpniaaBoxAwake
import Derived.Deep.DeepCutAuto
namespace Go.Proofs.Ytaoiokilnmpniaa
open Go.RowKit
theorem lowTo_mod (n k : Nat) : Cd.lowTo (n % 256 ^ k) k = Cd.lowTo n k := by
  have aux : ∀ j, j ≤ k → Cd.lowTo (n % 256 ^ k) j = Cd.lowTo n j := by
    intro j
    induction j with
    | zero => intro _; rfl
    | succ j ih =>
      intro hj
      show Cd.lowTo (n % 256 ^ k) j ++ [n % 256 ^ k / 256 ^ j % 256] = Cd.lowTo n j ++ [n / 256 ^ j % 256]
      rw [ih (by omega)]
      congr 2
      have e : 256 ^ k = 256 ^ j * 256 ^ (k - j) := by rw [← Nat.pow_add]; congr 1; omega
      rw [e, Nat.mod_mul_right_div_self]
      have e2 : 256 ^ (k - j) = 256 * 256 ^ (k - j - 1) := by rw [← Nat.pow_succ']; congr 1; omega
      rw [e2, Nat.mod_mul_right_mod]
  exact aux k (Nat.le_refl _)
/-- So many bytes, the highest first, are ordered as their numbers. -/
theorem be_less (k n m : Nat) : lessL (Cd.lowTo n k).reverse (Cd.lowTo m k).reverse = decide (n % 256 ^ k < m % 256 ^ k) := by
  induction k with
  | zero => simp [Cd.lowTo, lessL, Nat.mod_one]
  | succ k ih =>
    show lessL (Cd.lowTo n k ++ [n / 256 ^ k % 256]).reverse (Cd.lowTo m k ++ [m / 256 ^ k % 256]).reverse = _
    rw [List.reverse_append, List.reverse_append]
    show (decide (n / 256 ^ k % 256 < m / 256 ^ k % 256) || (decide (n / 256 ^ k % 256 = m / 256 ^ k % 256) && lessL (Cd.lowTo n k).reverse (Cd.lowTo m k).reverse)) = _
    rw [ih]
    have e : ∀ x : Nat, x % 256 ^ (k + 1) = x / 256 ^ k % 256 * 256 ^ k + x % 256 ^ k := by
      intro x
      rw [Nat.pow_succ, Nat.mod_mul, Nat.mul_comm]; omega
    rw [e n, e m]
    have hn := Nat.mod_lt n (Nat.pow_pos (n := k) (show 0 < 256 by omega))
    have hm := Nat.mod_lt m (Nat.pow_pos (n := k) (show 0 < 256 by omega))
    generalize n / 256 ^ k % 256 = a
    generalize m / 256 ^ k % 256 = b
    generalize n % 256 ^ k = r at *
    generalize m % 256 ^ k = s at *
    generalize 256 ^ k = P at *
    rw [Bool.eq_iff_iff]
    simp only [Bool.or_eq_true, Bool.and_eq_true, decide_eq_true_iff]
    constructor
    · rintro (h | ⟨h, h2⟩)
      · have : (a + 1) * P ≤ b * P := Nat.mul_le_mul_right _ h
        rw [Nat.add_mul, Nat.one_mul] at this
        omega
      · subst h; omega
    · intro h
      rcases Nat.lt_trichotomy a b with h1 | h1 | h1
      · exact .inl h1
      · subst h1; exact .inr ⟨rfl, by omega⟩
      · have : (b + 1) * P ≤ a * P := Nat.mul_le_mul_right _ h1
        rw [Nat.add_mul, Nat.one_mul] at this
        omega
theorem bs_numS (n : Nat) (k : Nat) (hn : n < 18446744073709551616) (hk1 : 1 ≤ k) (hk : k ≤ 8) : bs (numS (n : Int) k) = (Cd.lowTo n k).reverse := by
  unfold numS
  have e : (IntKind.u64.wrap (n : Int)).toNat = n := by rw [IntKind.wrap_u64]; omega
  rw [e, bs_str (Cd.fixed_lt _ _)]
  unfold Cd.fixed
  rw [if_neg (by omega), Int.toNat_natCast]
theorem numS_less (n m k : Nat) (hn : n < 256 ^ k) (hm : m < 256 ^ k) (h64 : 256 ^ k ≤ 18446744073709551616) (hk1 : 1 ≤ k) (hk : k ≤ 8) : lessL (bs (numS (n : Int) k)) (bs (numS (m : Int) k)) = decide (n < m) := by
  rw [bs_numS n k (by omega) hk1 hk, bs_numS m k (by omega) hk1 hk, be_less, Nat.mod_eq_of_lt hn, Nat.mod_eq_of_lt hm]
theorem lessL_irrefl (l : List Nat) : lessL l l = false := by
  induction l with
  | nil => rfl
  | cons a t ih => show (decide (a < a) || (decide (a = a) && lessL t t)) = false; rw [ih]; simp
theorem numS_inj (n m k : Nat) (hn : n < 256 ^ k) (hm : m < 256 ^ k) (h64 : 256 ^ k ≤ 18446744073709551616) (hk1 : 1 ≤ k) (hk : k ≤ 8) : numS (n : Int) k = numS (m : Int) k ↔ n = m := by
  constructor
  · intro h
    have h1 := numS_less n m k hn hm h64 hk1 hk
    have h2 := numS_less m n k hm hn h64 hk1 hk
    rw [h, lessL_irrefl] at h1 h2
    have h3 := of_decide_eq_false h1.symm
    have h4 := of_decide_eq_false h2.symm
    omega
  · intro h; rw [h]
theorem numS_inj' (p q : Nat) (hp : p < 256) (hq : q < 256) : (numS (p : Int) 1 = numS (q : Int) 1) = (p = q) := by
  rw [numS_inj p q 1 (by omega) (by omega) (by omega) (by omega) (by omega)]
/-- Rows of three parts with one head. -/
theorem three_less (c a b x y : ByteArray) : lessL (Cd.keyOf [c, a, x]) (Cd.keyOf [c, b, y]) = if a = b then lessL (bs x) (bs y) else lessL (bs a) (bs b) := by
  rw [keyOf_less]
  show (if c = c then (if a = b then (if x = y then false else lessL (bs x) (bs y)) else lessL (bs a) (bs b)) else _) = _
  rw [if_pos rfl]
  by_cases h : a = b
  · rw [if_pos h, if_pos h]
    by_cases h2 : x = y
    · rw [if_pos h2, h2, lessL_irrefl]
    · rw [if_neg h2]
  · rw [if_neg h, if_neg h]
theorem key_split (c a y : ByteArray) : Cd.keyOf [c, a, y] = Cd.keyOf [c, a] ++ Cd.keyOf [y] := by
  show Cd.esc (bs c) ++ [0, 1] ++ (Cd.esc (bs a) ++ [0, 1] ++ Cd.keyOf [y]) = Cd.esc (bs c) ++ [0, 1] ++ (Cd.esc (bs a) ++ [0, 1] ++ []) ++ Cd.keyOf [y]
  simp
theorem parse_two (c a : ByteArray) (r : List Nat) : Cd.parse (Cd.keyOf [c, a] ++ r) [] [] false = Cd.parse r [] [c, a] false := by
  have e : Cd.keyOf [c, a] ++ r = Cd.esc (bs c) ++ 0 :: 1 :: (Cd.esc (bs a) ++ 0 :: 1 :: r) := by
    show Cd.esc (bs c) ++ [0, 1] ++ (Cd.esc (bs a) ++ [0, 1] ++ []) ++ r = _
    simp
  rw [e, parse_esc_part, parse_esc_part]
  simp [str_bs]
/-- What begins with the key of two parts has these two first. -/
theorem begins_two (c a b y : ByteArray) (r : List Nat) (hr : ∀ x ∈ r, x < 256) (h : Cd.keyOf [c, b, y] = Cd.keyOf [c, a] ++ r) : a = b := by
  have h1 := parse_keyOf [c, b, y] []
  rw [h, parse_two] at h1
  obtain ⟨ps, h2, _⟩ := parse_some r.length r [] [c, a] _ false (Nat.le_refl _) (fun _ => rfl) hr (by simp) h1
  simp at h2
  exact h2.1.symm
theorem str_size (l : List Nat) : (str l).size = l.length := by
  unfold str
  show (List.toArray _).size = _
  simp
theorem begins_yes (c a y : ByteArray) : (str (Cd.keyOf [c, a])).size ≤ (str (Cd.keyOf [c, a, y])).size ∧ (((str (Cd.keyOf [c, a, y])).extract 0 (str (Cd.keyOf [c, a])).size).toList == (str (Cd.keyOf [c, a])).toList) = true := by
  rw [str_size, str_size, key_split, toList_beq, bs_extract, decide_eq_true_iff]
  refine ⟨by rw [List.length_append]; omega, ?_⟩
  rw [bs_str (by rw [← key_split]; exact Cd.keyOf_lt _), bs_str (Cd.keyOf_lt _), List.drop_zero, Nat.sub_zero, List.take_left']
  rfl
theorem begins_no (c a b y : ByteArray) (h : ¬ a = b) : (((str (Cd.keyOf [c, b, y])).extract 0 (str (Cd.keyOf [c, a])).size).toList == (str (Cd.keyOf [c, a])).toList) = false := by
  rw [str_size, toList_beq, bs_extract, decide_eq_false_iff_not, bs_str (Cd.keyOf_lt _), bs_str (Cd.keyOf_lt _), List.drop_zero, Nat.sub_zero]
  intro e
  apply h
  refine begins_two c a b y ((Cd.keyOf [c, b, y]).drop (Cd.keyOf [c, a]).length) (fun x hx => Cd.keyOf_lt _ x (List.mem_of_mem_drop hx)) ?_
  have := List.take_append_drop (Cd.keyOf [c, a]).length (Cd.keyOf [c, b, y])
  rw [e] at this
  exact this.symm
theorem keys_less (c a b x y : ByteArray) : Op.bytesLess (str (Cd.keyOf [c, a, x])).toList (str (Cd.keyOf [c, b, y])).toList = if a = b then lessL (bs x) (bs y) else lessL (bs a) (bs b) := by
  rw [bytesLess_bs, bs_str (Cd.keyOf_lt _), bs_str (Cd.keyOf_lt _), three_less]
theorem key_short (c a x : ByteArray) (hc : c.size ≤ 1) (ha : a.size ≤ 16) (hx : x.size ≤ 8) : (str (Cd.keyOf [c, a, x])).size ≤ 64 := by
  rw [str_size]
  show (Cd.esc (bs c) ++ [0, 1] ++ (Cd.esc (bs a) ++ [0, 1] ++ (Cd.esc (bs x) ++ [0, 1] ++ []))).length ≤ 64
  have h1 := Cd.esc_length (bs c)
  have h2 := Cd.esc_length (bs a)
  have h3 := Cd.esc_length (bs x)
  rw [bs_length] at h1 h2 h3
  simp only [List.length_append, List.length_cons, List.length_nil]
  omega
end Go.Proofs.Ytaoiokilnmpniaa
