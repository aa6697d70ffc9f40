/- Whole numbers as floats: what a sum, a comparison, a negation and a cut of them give. -/
import Derived.Laws.ComplexArith
import GoSem.Op.Unary
namespace Go.Proofs.Ytcoekdfmfjglpaa
namespace Bo
open Ieee
/-- The bits of a whole number. -/
def fl (n : Int) : Nat := floatOfInt .f64 n
theorem log2_pow {k : Nat} (hk : k ≠ 0) (a : Nat) : (k * 2 ^ a).log2 = k.log2 + a := by
  have h1 : 0 < 2 ^ a := Nat.two_pow_pos a
  have h2 : k * 2 ^ a ≠ 0 := Nat.mul_ne_zero hk (by omega)
  rw [Nat.log2_eq_iff h2]
  obtain ⟨h3, h4⟩ := (Nat.log2_eq_iff hk).1 rfl
  rw [Nat.pow_add, show k.log2 + a + 1 = (k.log2 + 1) + a by omega, Nat.pow_add]
  exact ⟨Nat.mul_le_mul_right _ h3, (Nat.mul_lt_mul_right h1).2 h4⟩
theorem log2_low {k : Nat} (hk : k ≠ 0) (h : k < 2 ^ 53) : k.log2 ≤ 52 := by
  have := (Nat.log2_lt hk).2 h
  omega
theorem cut_none (s : Bool) (n : Nat) : Toward.even.cut s n 0 = n := by
  simp [Toward.cut, Nat.mod_one]
theorem cut_pow (way : Toward) (s : Bool) (n d : Nat) (hn : n ≠ 0) : way.cut s (n * 2 ^ d) d = n := by
  unfold Toward.cut
  have hd : min d ((n * 2 ^ d).log2 + 2) = d := by rw [log2_pow hn]; omega
  rw [hd]
  have h1 : 0 < 2 ^ d := Nat.two_pow_pos d
  rw [Nat.one_shiftLeft]
  dsimp only
  rw [Nat.mul_div_cancel _ h1, Nat.mul_mod_left]
  cases way <;> simp <;> omega
/-- The rung of a whole number. -/
def rung (k : Nat) : Nat := (k.log2 + 1022) * 4503599627370496 + k * 2 ^ (52 - k.log2)
theorem nearest_pow (s : Bool) (k a : Nat) (hk : k ≠ 0) (hk2 : k < 2 ^ 53) (_ha : a ≤ 1074) : double.nearest s (k * 2 ^ a) (-(a : Int)) = double.word s (rung k) := by
  have h1 : 0 < 2 ^ a := Nat.two_pow_pos a
  have h2 : k * 2 ^ a ≠ 0 := Nat.mul_ne_zero hk (by omega)
  have hL := log2_low hk hk2
  unfold Format.nearest
  rw [if_neg h2, log2_pow hk]
  have hl : max (-(a : Int) + ((k.log2 + a : Nat) : Int) - (double.fractionBits : Int)) double.leastPlace = (k.log2 : Int) - 52 := by
    rw [show double.leastPlace = -1074 from by decide, show ((double.fractionBits : Nat) : Int) = 52 from rfl]
    omega
  dsimp only
  rw [hl]
  have hc : Toward.even.cut s ((k * 2 ^ a) <<< (-(a : Int) - ((k.log2 : Int) - 52)).toNat) ((k.log2 : Int) - 52 - -(a : Int)).toNat = k * 2 ^ (52 - k.log2) := by
    by_cases h : a ≤ 52 - k.log2
    · rw [show ((k.log2 : Int) - 52 - -(a : Int)).toNat = 0 by omega, cut_none, show (-(a : Int) - ((k.log2 : Int) - 52)).toNat = 52 - k.log2 - a by omega, Nat.shiftLeft_eq, Nat.mul_assoc, ← Nat.pow_add]
      rw [show a + (52 - k.log2 - a) = 52 - k.log2 by omega]
    · rw [show (-(a : Int) - ((k.log2 : Int) - 52)).toNat = 0 by omega, show ((k.log2 : Int) - 52 - -(a : Int)).toNat = a - (52 - k.log2) by omega, Nat.shiftLeft_zero]
      have e : k * 2 ^ a = k * 2 ^ (52 - k.log2) * 2 ^ (a - (52 - k.log2)) := by
        rw [Nat.mul_assoc, ← Nat.pow_add, show 52 - k.log2 + (a - (52 - k.log2)) = a by omega]
      rw [e]
      exact cut_pow _ _ _ _ (Nat.mul_ne_zero hk (by have := Nat.two_pow_pos (52 - k.log2); omega))
  rw [hc]
  have hb : k * 2 ^ (52 - k.log2) < 9007199254740992 := by
    have h3 : k < 2 ^ (k.log2 + 1) := Nat.lt_log2_self
    have h4 : k * 2 ^ (52 - k.log2) < 2 ^ (k.log2 + 1) * 2 ^ (52 - k.log2) := (Nat.mul_lt_mul_right (Nat.two_pow_pos _)).2 h3
    rw [← Nat.pow_add, show k.log2 + 1 + (52 - k.log2) = 53 by omega] at h4
    exact h4
  have hm : min (((k.log2 : Int) - 52 - double.leastPlace).toNat * double.binade + k * 2 ^ (52 - k.log2)) double.infRung = rung k := by
    rw [show double.leastPlace = -1074 from by decide, show double.binade = 4503599627370496 from by decide, show double.infRung = 9218868437227405312 from by decide, show ((k.log2 : Int) - 52 - -1074).toNat = k.log2 + 1022 by omega]
    unfold rung
    rw [Nat.min_eq_left (by omega)]
  rw [hm]
theorem rung_low {k : Nat} (hk : k ≠ 0) (hk2 : k < 2 ^ 53) : 4503599627370496 ≤ k * 2 ^ (52 - k.log2) ∧ k * 2 ^ (52 - k.log2) < 9007199254740992 := by
  have hL := log2_low hk hk2
  constructor
  · have h3 : 2 ^ k.log2 ≤ k := Nat.log2_self_le hk
    have h4 := Nat.mul_le_mul_right (2 ^ (52 - k.log2)) h3
    rw [← Nat.pow_add, show k.log2 + (52 - k.log2) = 52 by omega] at h4
    exact h4
  · have h3 : k < 2 ^ (k.log2 + 1) := Nat.lt_log2_self
    have h4 : k * 2 ^ (52 - k.log2) < 2 ^ (k.log2 + 1) * 2 ^ (52 - k.log2) := (Nat.mul_lt_mul_right (Nat.two_pow_pos _)).2 h3
    rw [← Nat.pow_add, show k.log2 + 1 + (52 - k.log2) = 53 by omega] at h4
    exact h4
theorem read_word (s : Bool) (k : Nat) (hk : k ≠ 0) (hk2 : k < 2 ^ 53) : double.read (double.word s (rung k)) = .number s (k * 2 ^ (52 - k.log2)) (-((52 - k.log2 : Nat) : Int)) := by
  have hL := log2_low hk hk2
  obtain ⟨h1, h2⟩ := rung_low hk hk2
  unfold rung
  generalize k * 2 ^ (52 - k.log2) = M at h1 h2
  generalize k.log2 = L at hL
  unfold Format.read Format.word
  rw [show double.signWeight = 9223372036854775808 from by decide, show double.binade = 4503599627370496 from by decide, show double.infRung = 9218868437227405312 from by decide, show double.leastPlace = -1074 from by decide]
  have e1 : ((if s = true then 9223372036854775808 + ((L + 1022) * 4503599627370496 + M) else (L + 1022) * 4503599627370496 + M) % 9223372036854775808) = (L + 1022) * 4503599627370496 + M := by
    cases s <;> simp <;> omega
  have e2 : ((if s = true then 9223372036854775808 + ((L + 1022) * 4503599627370496 + M) else (L + 1022) * 4503599627370496 + M) / 9223372036854775808 % 2 == 1) = s := by
    cases s
    · simp; omega
    · simp; omega
  dsimp only
  rw [e1, e2, if_neg (by omega), if_pos (by omega)]
  rw [show ((L + 1022) * 4503599627370496 + M) % 4503599627370496 = M - 4503599627370496 by omega, show ((L + 1022) * 4503599627370496 + M) / 4503599627370496 = L + 1023 by omega]
  rw [show 4503599627370496 + (M - 4503599627370496) = M by omega, show (-1074 : Int) + ((L + 1023 - 1 : Nat) : Int) = -((52 - L : Nat) : Int) by omega]
/-- A datum stands for a whole number. -/
def Rep (d : Datum) (x : Int) : Prop := ∃ a : Nat, d = .number (decide (x < 0)) (x.natAbs * 2 ^ a) (-(a : Int)) ∧ a ≤ 1074
theorem fl_zero : fl 0 = 0 := by decide
theorem fl_word {x : Int} (hx : x ≠ 0) (h : x.natAbs < 2 ^ 53) : fl x = double.word (decide (x < 0)) (rung x.natAbs) := by
  have h1 := nearest_pow (decide (x < 0)) x.natAbs 0 (by omega) h (by omega)
  rw [Nat.pow_zero, Nat.mul_one] at h1
  exact h1
theorem read_fl {x : Int} (h : x.natAbs < 2 ^ 53) : Rep (double.read (fl x)) x := by
  by_cases hx : x = 0
  · subst hx
    obtain ⟨a, ha⟩ : ∃ a : Nat, a = 1074 := ⟨_, rfl⟩
    refine ⟨a, ?_, by omega⟩
    rw [fl_zero, Int.natAbs_zero, Nat.zero_mul, ha]
    decide
  · rw [fl_word hx h]
    exact ⟨52 - x.natAbs.log2, read_word _ _ (by omega) h, by omega⟩
theorem write_rep {d : Datum} {x : Int} (h : Rep d x) (hx : x.natAbs < 2 ^ 53) : double.write d = fl x := by
  obtain ⟨a, rfl, ha⟩ := h
  by_cases h0 : x = 0
  · subst h0
    rw [fl_zero]
    show double.nearest _ _ _ = 0
    unfold Format.nearest
    rw [if_pos (by simp)]
    rfl
  · rw [fl_word h0 hx]
    exact nearest_pow _ _ _ (by omega) hx ha
theorem signed_pow (x : Int) (a c : Nat) (h : a ≤ c) : signed (decide (x < 0)) (x.natAbs * 2 ^ a) (-(a : Int) - -(c : Int)).toNat = x * 2 ^ c := by
  have e : (-(a : Int) - -(c : Int)).toNat = c - a := by omega
  unfold signed
  rw [e, Nat.shiftLeft_eq, Nat.mul_assoc, ← Nat.pow_add, show a + (c - a) = c by omega]
  have e2 : ((x.natAbs * 2 ^ c : Nat) : Int) = (x.natAbs : Int) * 2 ^ c := by simp
  by_cases hx : x < 0
  · rw [decide_eq_true hx, if_pos rfl, e2, show (x.natAbs : Int) = -x by omega]
    rw [Int.neg_mul, Int.neg_neg]
  · rw [decide_eq_false hx, if_neg (by decide), e2, show (x.natAbs : Int) = x by omega]
theorem pow_posI (c : Nat) : (0 : Int) < 2 ^ c := by
  have h := Nat.two_pow_pos c
  have e : ((2 ^ c : Nat) : Int) = 2 ^ c := by simp
  omega
theorem mul_neg_iff {x : Int} (c : Nat) : x * 2 ^ c < 0 ↔ x < 0 := by
  have h := pow_posI c
  constructor
  · intro h1
    by_cases hx : x < 0
    · exact hx
    · have := Int.mul_nonneg (show 0 ≤ x by omega) (Int.le_of_lt h)
      omega
  · intro hx
    exact Int.mul_neg_of_neg_of_pos hx h
theorem rep_sum {d e : Datum} {x y : Int} (h1 : Rep d x) (h2 : Rep e y) : ∃ z, d.sum e = some z ∧ Rep z (x + y) := by
  obtain ⟨a, rfl, ha⟩ := h1
  obtain ⟨b, rfl, hb⟩ := h2
  have hm : min (-(a : Int)) (-(b : Int)) = -((max a b : Nat) : Int) := by omega
  refine ⟨_, rfl, max a b, ?_, by omega⟩
  rw [hm, signed_pow x a (max a b) (by omega), signed_pow y b (max a b) (by omega), ← Int.add_mul]
  generalize max a b = c
  congr 1
  · by_cases h0 : x + y = 0
    · rw [if_pos (by rw [h0, Int.zero_mul])]
      by_cases hx : x < 0
      · rw [decide_eq_false (show ¬ y < 0 by omega), decide_eq_false (show ¬ x + y < 0 by omega), Bool.and_false]
      · rw [decide_eq_false hx, decide_eq_false (show ¬ x + y < 0 by omega), Bool.false_and]
    · have hne : ¬ (x + y) * 2 ^ c = 0 := by
        intro h
        rcases Int.mul_eq_zero.1 h with h | h
        · exact h0 h
        · have := pow_posI c; omega
      rw [if_neg hne]
      by_cases h : x + y < 0
      · rw [decide_eq_true h, decide_eq_true ((mul_neg_iff c).2 h)]
      · rw [decide_eq_false h, decide_eq_false (fun h2 => h ((mul_neg_iff c).1 h2))]
  · rw [Int.natAbs_mul]
    congr 1
theorem add_fl {x y : Int} (hx : x.natAbs < 2 ^ 53) (hy : y.natAbs < 2 ^ 53) (hxy : (x + y).natAbs < 2 ^ 53) : floatBits .add .f64 (fl x) (fl y) = some (fl (x + y)) := by
  show (((double.read (fl x)).sum (double.read (fl y))).map double.write) = _
  obtain ⟨z, h1, h2⟩ := rep_sum (read_fl hx) (read_fl hy)
  rw [h1, Option.map_some, write_rep h2 hxy]
theorem cadd_fl {a b c d : Int} (h1 : a.natAbs < 2 ^ 52) (h2 : b.natAbs < 2 ^ 52) (h3 : c.natAbs < 2 ^ 52) (h4 : d.natAbs < 2 ^ 52) : cSumBits .add .f64 (fl a) (fl b) (fl c) (fl d) = some (fl (a + c), fl (b + d)) := by
  unfold cSumBits
  rw [add_fl (by omega) (by omega) (by omega), add_fl (by omega) (by omega) (by omega)]
  rfl
theorem xor_top {R : Nat} (h : R < 2 ^ 63) : R ^^^ 2 ^ 63 = 2 ^ 63 + R := by
  refine Nat.eq_of_testBit_eq fun i => ?_
  rw [Nat.testBit_xor, Nat.testBit_two_pow]
  by_cases h1 : i = 63
  · subst h1
    rw [Nat.testBit_two_pow_add_eq]
    simp
  · rw [decide_eq_false (by omega), Bool.xor_false]
    by_cases h2 : i < 63
    · rw [Nat.testBit_two_pow_add_gt h2]
    · have h3 : 2 ^ 64 ≤ 2 ^ i := Nat.pow_le_pow_right (by decide) (by omega)
      rw [Nat.testBit_lt_two_pow (by omega), Nat.testBit_lt_two_pow (by omega)]
theorem cmp_pow (x y : Int) (c : Nat) : compare (x * 2 ^ c) (y * 2 ^ c) = compare x y := by
  have h := pow_posI c
  have e1 : x * 2 ^ c < y * 2 ^ c ↔ x < y := Int.mul_lt_mul_right h
  have e2 : x * 2 ^ c = y * 2 ^ c ↔ x = y := by
    constructor
    · intro e
      exact Int.eq_of_mul_eq_mul_right (by omega) e
    · rintro rfl; rfl
  show compareOfLessAndEq _ _ = compareOfLessAndEq _ _
  unfold compareOfLessAndEq
  simp only [e1, e2]
theorem neg_fl {x : Int} (h0 : x ≠ 0) (hx : x.natAbs < 2 ^ 53) : Op.negFloat .f64 (fl x) = fl (-x) := by
  rw [fl_word h0 hx, fl_word (show -x ≠ 0 by omega) (by omega), show (-x).natAbs = x.natAbs by omega]
  show (double.word _ _) ^^^ 2 ^ 63 = _
  have hR : rung x.natAbs < 2 ^ 63 := by
    have := rung_low (k := x.natAbs) (by omega) hx
    have := log2_low (k := x.natAbs) (by omega) hx
    unfold rung
    omega
  unfold Format.word
  rw [show double.signWeight = 2 ^ 63 from by decide]
  by_cases h : x < 0
  · rw [decide_eq_true h, decide_eq_false (show ¬ -x < 0 by omega), if_pos rfl, if_neg (by decide)]
    rw [← xor_top hR, Nat.xor_assoc, Nat.xor_self, Nat.xor_zero]
  · rw [decide_eq_false h, decide_eq_true (show -x < 0 by omega), if_neg (by decide), if_pos rfl]
    exact xor_top hR
theorem ord_fl {x y : Int} (hx : x.natAbs < 2 ^ 53) (hy : y.natAbs < 2 ^ 53) : FloatKind.f64.format.order (fl x) (fl y) = some (compare x y) := by
  show (double.read (fl x)).order (double.read (fl y)) = _
  obtain ⟨a, e1, ha⟩ := read_fl hx
  obtain ⟨b, e2, hb⟩ := read_fl hy
  rw [e1, e2]
  show some (compare (signed _ _ _) (signed _ _ _)) = _
  have hm : min (-(a : Int)) (-(b : Int)) = -((max a b : Nat) : Int) := by omega
  rw [hm, signed_pow x a (max a b) (by omega), signed_pow y b (max a b) (by omega)]
  generalize max a b = c
  rw [cmp_pow]
theorem int_fl {x : Int} (hx : x.natAbs < 2 ^ 53) : floatToIntVal .f64 (fl x) .i64 = some x := by
  obtain ⟨a, e1, ha⟩ := read_fl hx
  have e : (FloatKind.f64.decode (fl x)).toInt .zero = some x := by
    show (double.read (fl x)).toInt .zero = some x
    rw [e1]
    show some (signed _ (Toward.zero.cut _ ((x.natAbs * 2 ^ a) <<< (-(a : Int)).toNat) (- -(a : Int)).toNat) 0) = _
    rw [show (-(a : Int)).toNat = 0 by omega, Nat.shiftLeft_zero, show (- -(a : Int)).toNat = a by omega]
    have hc : Toward.zero.cut (decide (x < 0)) (x.natAbs * 2 ^ a) a = x.natAbs := by
      by_cases h0 : x.natAbs = 0
      · rw [h0]; simp [Toward.cut]
      · exact cut_pow _ _ _ _ h0
    rw [hc]
    have h5 := signed_pow x 0 0 (Nat.le_refl _)
    simp at h5
    rw [h5]
  unfold floatToIntVal
  rw [e]
  dsimp only
  rw [if_pos (by have e1 : IntKind.i64.min = -9223372036854775808 := rfl; have e2 : IntKind.i64.max = 9223372036854775807 := rfl; rw [e1, e2]; omega)]
end Bo
end Go.Proofs.Ytcoekdfmfjglpaa
