/- Filters of bits: bytes out of a test on places, a bit set, bits counted; places of a hash. Plain mathematics: no program is imported. -/
namespace Go.Proofs.Ytpoogjdkjolkhaa.Bl
/-- The number whose bits from base on are P's, n of them. -/
def bitsTo (P : Nat → Bool) (base : Nat) : Nat → Nat
  | 0 => 0
  | n + 1 => bitsTo P base n + (if P (base + n) then 2 ^ n else 0)
theorem bitsTo_lt (P : Nat → Bool) (base n : Nat) : bitsTo P base n < 2 ^ n := by
  induction n with
  | zero => simp [bitsTo]
  | succ n ih =>
    have : 2 ^ (n + 1) = 2 ^ n + 2 ^ n := by rw [Nat.pow_succ]; omega
    simp only [bitsTo]; split <;> omega
theorem bitsTo_test (P : Nat → Bool) (base n k : Nat) : (bitsTo P base n).testBit k = (decide (k < n) && P (base + k)) := by
  induction n with
  | zero => simp [bitsTo]
  | succ n ih =>
    have hlt := bitsTo_lt P base n
    simp only [bitsTo]
    by_cases h : P (base + n) = true
    · rw [if_pos h, Nat.add_comm]
      by_cases e : k = n
      · subst e
        rw [Nat.testBit_two_pow_add_eq, Nat.testBit_lt_two_pow hlt, h]; simp
      · by_cases hk : k < n
        · rw [Nat.testBit_two_pow_add_gt hk, ih]; simp [hk, show k < n + 1 by omega]
        · rw [Nat.testBit_lt_two_pow (show 2 ^ n + bitsTo P base n < 2 ^ k by
            have h2 : 2 ^ (n + 1) ≤ 2 ^ k := Nat.pow_le_pow_right (by omega) (by omega)
            have : 2 ^ (n + 1) = 2 ^ n + 2 ^ n := by rw [Nat.pow_succ]; omega
            omega)]
          simp [show ¬ k < n + 1 by omega]
    · rw [if_neg h, Nat.add_zero, ih]
      by_cases e : k = n
      · subst e; simp [h]
      · have : decide (k < n + 1) = decide (k < n) := by
          rw [Bool.eq_iff_iff, decide_eq_true_iff, decide_eq_true_iff]; omega
        rw [this]
/-- A byte of a field. -/
def byteOf (P : Nat → Bool) (j : Nat) : Nat := bitsTo P (8 * j) 8
/-- A field of n bytes. -/
def field (P : Nat → Bool) (n : Nat) : List Nat := (List.range n).map (byteOf P)
theorem byteOf_lt (P : Nat → Bool) (j : Nat) : byteOf P j < 256 := bitsTo_lt P (8 * j) 8
theorem byteOf_test (P : Nat → Bool) (j k : Nat) : (byteOf P j).testBit k = (decide (k < 8) && P (8 * j + k)) := bitsTo_test P (8 * j) 8 k
theorem field_length (P : Nat → Bool) (n : Nat) : (field P n).length = n := by simp [field]
theorem field_at (P : Nat → Bool) {n j : Nat} (h : j < n) : (field P n)[j]? = some (byteOf P j) := by simp [field, h]
theorem field_lt (P : Nat → Bool) (n : Nat) : ∀ x ∈ field P n, x < 256 := by
  intro x hx
  obtain ⟨j, _, rfl⟩ := List.mem_map.1 hx
  exact byteOf_lt P j
theorem field_congr {P Q : Nat → Bool} {n : Nat} (h : ∀ q, q < 8 * n → P q = Q q) : field P n = field Q n := by
  apply List.map_congr_left
  intro j hj
  have hj := List.mem_range.1 hj
  apply Nat.eq_of_testBit_eq
  intro k
  rw [byteOf_test, byteOf_test]
  by_cases hk : k < 8
  · rw [h _ (by omega)]
  · simp [hk]
/-- Places so far. -/
def has (S : List Nat) (q : Nat) : Bool := decide (q ∈ S)
theorem byteOf_more (S : List Nat) (p : Nat) : byteOf (has S) (p / 8) ||| 2 ^ (p % 8) = byteOf (has (S ++ [p])) (p / 8) := by
  apply Nat.eq_of_testBit_eq
  intro k
  rw [Nat.testBit_or, byteOf_test, byteOf_test, Nat.testBit_two_pow]
  unfold has
  by_cases hk : k < 8
  · have e : (8 * (p / 8) + k = p) ↔ p % 8 = k := by omega
    simp [hk, e]
  · have : ¬ p % 8 = k := by omega
    simp [hk, this]
theorem byteOf_else (S : List Nat) (p j : Nat) (h : j ≠ p / 8) : byteOf (has (S ++ [p])) j = byteOf (has S) j := by
  apply Nat.eq_of_testBit_eq
  intro k
  rw [byteOf_test, byteOf_test]
  unfold has
  by_cases hk : k < 8
  · have e : ¬ (8 * j + k = p) := by omega
    simp [hk, e]
  · simp [hk]
theorem field_more (S : List Nat) (p n : Nat) (h : p < 8 * n) : (field (has S) n).set (p / 8) (byteOf (has S) (p / 8) ||| 2 ^ (p % 8)) = field (has (S ++ [p])) n := by
  rw [byteOf_more]
  apply List.ext_getElem?
  intro j
  rw [List.getElem?_set]
  by_cases e : p / 8 = j
  · subst e
    rw [if_pos rfl, field_at _ (by omega), if_pos (by rw [field_length]; omega)]
  · rw [if_neg e]
    by_cases hj : j < n
    · rw [field_at _ hj, field_at _ hj, byteOf_else S p j (fun x => e x.symm)]
    · rw [List.getElem?_eq_none (by rw [field_length]; omega), List.getElem?_eq_none (by rw [field_length]; omega)]
theorem field_none (n : Nat) : field (has []) n = List.replicate n 0 := by
  apply List.ext_getElem?
  intro j
  by_cases hj : j < n
  · have e : byteOf (has []) j = 0 := by
      apply Nat.eq_of_testBit_eq
      intro k
      rw [byteOf_test]; simp [has]
    rw [field_at _ hj, e, List.getElem?_replicate, if_pos hj]
  · rw [List.getElem?_eq_none (by rw [field_length]; omega), List.getElem?_eq_none (by simp; omega)]
/-- How many bits of a number are set, of the lowest n. -/
def ones (x : Nat) : Nat → Nat
  | 0 => 0
  | n + 1 => ones x n + x / 2 ^ n % 2
def count (l : List Nat) : Nat := (l.map fun x => ones x 8).sum
theorem ones_le (x n : Nat) : ones x n ≤ n := by
  induction n with
  | zero => exact Nat.le_refl _
  | succ n ih => simp only [ones]; have := Nat.mod_lt (x / 2 ^ n) (show 0 < 2 by omega); omega
theorem count_snoc (l : List Nat) (x : Nat) : count (l ++ [x]) = count l + ones x 8 := by simp [count]
theorem count_le (l : List Nat) : count l ≤ 8 * l.length := by
  induction l with
  | nil => simp [count]
  | cons x t ih => have := ones_le x 8; simp only [count, List.map_cons, List.sum_cons, List.length_cons] at *; omega
theorem ones_test (x n : Nat) : ones x n = ((List.range n).map fun k => if x.testBit k then 1 else 0).sum := by
  induction n with
  | zero => rfl
  | succ n ih =>
    have e : x / 2 ^ n % 2 = if x.testBit n then 1 else 0 := by
      rw [Nat.testBit_eq_decide_div_mod_eq]
      have := Nat.mod_lt (x / 2 ^ n) (show 0 < 2 by omega)
      by_cases h : x / 2 ^ n % 2 = 1
      · simp [h]
      · simp only [h, decide_false, Bool.false_eq_true, if_false]; omega
    rw [List.range_succ, List.map_append, List.sum_append, ← ih]
    simp [ones, e]
/-- Of a field no more bits are set than there are places. -/
theorem ones_sub {n b : Nat} (a p : Nat) (h : a ||| 2 ^ p = b) : ones b n ≤ ones a n + (if p < n then 1 else 0) := by
  induction n with
  | zero => simp [ones]
  | succ n ih =>
    have e : ∀ x : Nat, x / 2 ^ n % 2 = if x.testBit n then 1 else 0 := by
      intro x
      rw [Nat.testBit_eq_decide_div_mod_eq]
      have := Nat.mod_lt (x / 2 ^ n) (show 0 < 2 by omega)
      by_cases h : x / 2 ^ n % 2 = 1
      · simp [h]
      · simp only [h, decide_false, Bool.false_eq_true, if_false]; omega
    simp only [ones, e]
    have hb : b.testBit n = (a.testBit n || decide (p = n)) := by rw [← h, Nat.testBit_or, Nat.testBit_two_pow]
    rw [hb]
    by_cases hp : p = n
    · subst hp
      rw [if_neg (Nat.lt_irrefl p)] at ih
      rw [if_pos (Nat.lt_succ_self p)]
      split <;> split <;> omega
    · have : decide (p = n) = false := by simpa using hp
      rw [this, Bool.or_false]
      have e2 : (if p < n + 1 then 1 else 0) = if p < n then 1 else 0 := by
        by_cases h1 : p < n
        · rw [if_pos h1, if_pos (by omega)]
        · rw [if_neg h1, if_neg (by omega)]
      rw [e2]; omega
theorem count_set (l : List Nat) (j x y : Nat) (h : l[j]? = some x) : count (l.set j y) + ones x 8 = count l + ones y 8 := by
  induction l generalizing j with
  | nil => cases h
  | cons a t ih =>
    cases j with
    | zero => simp at h; subst h; simp [count]; omega
    | succ j => have := ih j (by simpa using h); simp [count] at *; omega
theorem count_field (S : List Nat) (n : Nat) (h : ∀ p ∈ S, p < 8 * n) : count (field (has S) n) ≤ S.length := by
  suffices hs : ∀ T : List Nat, (∀ p ∈ T, p < 8 * n) → ∀ S : List Nat, count (field (has S) n) ≤ S.length → count (field (has (S ++ T)) n) ≤ (S ++ T).length by
    have e0 : ones 0 8 = 0 := by decide
    have := hs S h [] (by rw [field_none]; simp [count, e0])
    simpa using this
  intro T
  induction T with
  | nil => intro _ S hS; simpa using hS
  | cons p T ih =>
    intro hT S hS
    have := ih (fun q hq => hT q (List.mem_cons_of_mem _ hq)) (S ++ [p]) (by
      have hp := hT p (List.mem_cons_self ..)
      rw [← field_more S p n hp]
      have h1 := count_set (field (has S) n) (p / 8) (byteOf (has S) (p / 8)) (byteOf (has S) (p / 8) ||| 2 ^ (p % 8)) (field_at _ (by omega))
      have h2 := ones_sub (n := 8) (byteOf (has S) (p / 8)) (p % 8) rfl
      rw [List.length_append, List.length_singleton]
      split at h2 <;> omega)
    simpa using this
/-- A hash's step, and its i-th place of m. -/
def st (c : Nat) : Nat := if c / 2 ^ 33 = 0 then 1 else c / 2 ^ 33
def at_ (c i : Nat) : Nat := (c + i * st c) % 18446744073709551616
def places (c m n : Nat) : List Nat := (List.range n).map fun i => at_ c i % m
theorem places_length (c m n : Nat) : (places c m n).length = n := by simp [places]
theorem places_snoc (c m n : Nat) : places c m (n + 1) = places c m n ++ [at_ c n % m] := by simp [places, List.range_succ]
theorem places_at (c m : Nat) {n i : Nat} (h : i < n) : (places c m n)[i]? = some (at_ c i % m) := by simp [places, h]
theorem places_lt (c m n : Nat) (hm : 0 < m) : ∀ p ∈ places c m n, p < m := by
  intro p hp
  obtain ⟨i, _, rfl⟩ := List.mem_map.1 hp
  exact Nat.mod_lt _ hm
theorem at_zero (c : Nat) (h : c < 18446744073709551616) : at_ c 0 = c := by unfold at_; omega
theorem at_lt (c i : Nat) : at_ c i < 18446744073709551616 := Nat.mod_lt _ (by omega)
theorem at_succ (c i : Nat) : (at_ c i + st c) % 18446744073709551616 = at_ c (i + 1) := by
  unfold at_; rw [Nat.add_mul, Nat.one_mul]; omega
theorem st_lt (c : Nat) (h : c < 18446744073709551616) : st c < 2147483648 := by
  unfold st; have : (2 : Nat) ^ 33 = 8589934592 := by decide
  rw [this]; split <;> omega
/-- All places of keys whose hashes are cs. -/
def all (cs : List Nat) (m n : Nat) : List Nat := cs.flatMap fun c => places c m n
theorem all_lt (cs : List Nat) (m n : Nat) (hm : 0 < m) : ∀ p ∈ all cs m n, p < m := by
  intro p hp
  obtain ⟨c, _, h⟩ := List.mem_flatMap.1 hp
  exact places_lt c m n hm p h
theorem all_snoc (cs : List Nat) (c m n : Nat) : all (cs ++ [c]) m n = all cs m n ++ places c m n := by simp [all]
theorem all_length (cs : List Nat) (m n : Nat) : (all cs m n).length = n * cs.length := by
  induction cs with
  | nil => rfl
  | cons c t ih => simp only [all, List.flatMap_cons, List.length_append, places_length, List.length_cons] at *; rw [ih, Nat.mul_succ]; omega
/-- Is a place's bit set in a filter's bytes? -/
def set (f : List Nat) (p : Nat) : Bool := (f.getD (1 + p / 8) 0).testBit (p % 8)
/-- A filter of so many bits and probes. -/
def filter (cs : List Nat) (m n : Nat) : List Nat := n :: field (has (all cs m n)) (m / 8)
theorem filter_set (cs : List Nat) (m n p : Nat) (h : p < m / 8 * 8) : set (filter cs m n) p = has (all cs m n) p := by
  unfold set filter
  have hp : p / 8 < m / 8 := by omega
  rw [Nat.add_comm, List.getD_cons_succ, List.getD_eq_getElem?_getD, field_at _ hp, Option.getD_some, byteOf_test]
  have : 8 * (p / 8) + p % 8 = p := by omega
  rw [this]; simp [Nat.mod_lt]
/-- Has a filter's bytes all places of a hash? -/
def hasAll (f : List Nat) (c m n : Nat) : Bool := (places c m n).all (set f)
theorem filter_has (cs : List Nat) (c m n : Nat) (hc : c ∈ cs) (hm : 0 < m) (h8 : m % 8 = 0) : hasAll (filter cs m n) c m n = true := by
  unfold hasAll
  rw [List.all_eq_true]
  intro p hp
  have := places_lt c m n hm p hp
  rw [filter_set _ _ _ _ (by omega)]
  unfold has
  rw [decide_eq_true_iff]
  exact List.mem_flatMap.2 ⟨c, hc, hp⟩
theorem filter_same (cs ds : List Nat) (m n : Nat) (h : ∀ c, c ∈ cs ↔ c ∈ ds) : filter cs m n = filter ds m n := by
  unfold filter
  congr 1
  apply field_congr
  intro q _
  unfold has all
  rw [Bool.eq_iff_iff, decide_eq_true_iff, decide_eq_true_iff, List.mem_flatMap, List.mem_flatMap]
  exact ⟨fun ⟨c, hc, hp⟩ => ⟨c, (h c).1 hc, hp⟩, fun ⟨c, hc, hp⟩ => ⟨c, (h c).2 hc, hp⟩⟩
/-- May bytes of this length with this first byte be a filter? m: how many bits they would have. -/
def sizeOf (k bits : Nat) : Nat := max 64 ((k * bits + 7) / 8 * 8)
def probesOf (bits : Nat) : Nat := max 1 (bits * 7 / 10)
end Go.Proofs.Ytpoogjdkjolkhaa.Bl
