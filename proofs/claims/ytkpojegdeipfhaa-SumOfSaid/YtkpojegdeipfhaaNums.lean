/- What the functions of package sum over plain numbers return (a step, eight steps, a length, a product, zeros, Join), and those of the document's own package (in, Join): for every argument in its kind. -/
import Derived.Test.YtkpojegdeipfhaaRows
import Derived.Test.YtkpojegdeipfhaaMath
import Derived.WalkKit
import Derived.WalkLawsBesides
import Derived.Lib.Hide
import Derived.Laws.BitsAllLaws
namespace Go.Proofs.Ytkpojegdeipfhaa
open Go.RowKit
theorem ret_u32 {a b : Int} (h : a = b) : Ending.returned (.int .u32 a) = .returned (.int .u32 b) := by rw [h]
theorem step_val (r : Nat) (h : r < 4294967296) : bits .xor .u32 ((r : Int) / 2) (bits .and .u32 2197175160 (-bits .and .u32 (r : Int) 1 % 4294967296)) = (Cr.step r : Int) := by
  have h1 : bits .and .u32 (r : Int) 1 = ((r % 2 : Nat) : Int) := by
    have := u32_and_nat r 1 h (by omega)
    rw [Nat.and_one_is_mod] at this
    exact this
  rw [h1]
  unfold Cr.step
  by_cases e : r % 2 = 1
  · rw [e, if_pos rfl]
    have h2 : (-((1 : Nat) : Int)) % 4294967296 = ((4294967295 : Nat) : Int) := by decide
    have h3 : bits .and .u32 2197175160 ((4294967295 : Nat) : Int) = ((2197175160 : Nat) : Int) := u32_and_nat 2197175160 4294967295 (by omega) (by omega)
    rw [h2, h3]
    exact u32_xor_nat (r / 2) 2197175160 (by omega) (by omega)
  · have e0 : r % 2 = 0 := by omega
    rw [e0, if_neg (by omega)]
    have h2 : (-((0 : Nat) : Int)) % 4294967296 = ((0 : Nat) : Int) := by decide
    have h3 : bits .and .u32 2197175160 ((0 : Nat) : Int) = ((0 : Nat) : Int) := u32_and_nat 2197175160 0 (by omega) (by omega)
    rw [h2, h3]
    exact u32_xor_nat (r / 2) 0 (by omega) (by omega)
theorem step_any (r : Nat) (h : r < 4294967296) (w : World) :
    Calls Try.prog 33 #[.int .u32 (r : Int)] w fun e w' => e = .returned (.int .u32 (Cr.step r : Int)) ∧ w = w' := by
  have hr : (r : Int) < 4294967296 := by omega
  go_enter Try.func33, Try.ntmps33
  go_wp2
  go_ret
  exact ⟨ret_u32 (step_val r h), rfl⟩
set_option maxRecDepth 100000 in
theorem rstep_any (r : Nat) (h : r < 4294967296) (w : World) :
    Calls Try.prog 31 #[.int .u32 (r : Int)] w fun e w' => e = .returned (.int .u32 (Cr.step r : Int)) ∧ w = w' := by
  have hr : (r : Int) < 4294967296 := by omega
  by_cases e : r % 2 = 1
  · have he : ((r : Int) % 2 == 1) = true := by simp; omega
    go_enter Try.func31, Try.ntmps31
    go_wp2
    go_ret
    refine ⟨ret_u32 ?_, rfl⟩
    unfold Cr.step
    rw [if_pos e]
    exact u32_xor_nat (r / 2) 2197175160 (by omega) (by omega)
  · have he : ((r : Int) % 2 == 1) = false := by simp; omega
    go_enter Try.func31, Try.ntmps31
    go_wp2
    go_ret
    refine ⟨ret_u32 ?_, rfl⟩
    rw [Cr.step_even (by omega)]
    omega
theorem eight_any (r : Nat) (h : r < 4294967296) (w : World) :
    Calls Try.prog 30 #[.int .u32 (r : Int)] w fun e w' => e = .returned (.int .u32 (Cr.steps 8 r : Int)) ∧ w = w' := by
  go_enter Try.func30, Try.ntmps30
  go_wp2
  go_loop [0, 3] (fun t i => ∃ k : Nat, k ≤ 8 ∧ i = .int .i64 k ∧ t = .int .u32 (Cr.steps k r : Int)) (fun _ i => 8 - (intOf i).toNat)
  case atStart => exact ⟨0, by omega, rfl, rfl⟩
  case round =>
    obtain ⟨k, hk, rfl, rfl⟩ := hrel
    have hlt := Cr.steps_lt k h
    by_cases hk8 : k < 8
    · go_wp2_with (go_at_call 33; refine (step_any _ hlt _).mono ?_; rintro e w' ⟨rfl, rfl⟩)
      go_round
      case rel => exact ⟨k + 1, by omega, by go_num, by rw [Cr.steps_succ]⟩
      case measure => simp [intOf]; omega
    · have hk8 : k = 8 := by omega
      subst hk8
      go_wp2
      go_ret
      exact ⟨rfl, rfl⟩
set_option maxRecDepth 100000 in
theorem in_any (r x : Nat) (h : r < 4294967296) (hx : x < 256) (w : World) :
    Calls Try.prog 26 #[.int .u32 (r : Int), .int .u8 (x : Int)] w fun e w' => e = .returned (.int .u32 (Cr.inB r x : Int)) ∧ w = w' := by
  have hx2 : (x : Int) < 256 := by omega
  have hx0 : bits .xor .u32 (r : Int) (x : Int) = ((r ^^^ x : Nat) : Int) := u32_xor_nat r x h (by omega)
  have hrx : r ^^^ x < 4294967296 := Cr.xor_lt h (by omega)
  go_enter Try.func26, Try.ntmps26
  go_wp2
  go_loop [0, 5] (fun t i => ∃ k : Nat, k ≤ 8 ∧ i = .int .i64 k ∧ t = .int .u32 (Cr.steps k (r ^^^ x) : Int)) (fun _ i => 8 - (intOf i).toNat)
  case atStart => exact ⟨0, by omega, rfl, rfl⟩
  case round =>
    obtain ⟨k, hk, rfl, rfl⟩ := hrel
    have hlt := Cr.steps_lt k hrx
    by_cases hk8 : k < 8
    · go_wp2_with (go_at_call 31; refine (rstep_any _ hlt _).mono ?_; rintro e w' ⟨rfl, rfl⟩)
      go_round
      case rel => exact ⟨k + 1, by omega, by go_num, by rw [Cr.steps_succ]⟩
      case measure => simp [intOf]; omega
    · have hk8 : k = 8 := by omega
      subst hk8
      go_wp2
      go_ret
      exact ⟨rfl, rfl⟩
/-- A length as it counts. -/
def len20 (n : Int) : Nat := if n < 0 then 0 else if n > 1048576 then 1048576 else n.toNat
theorem ret_i64 {a b : Int} (h : a = b) : Ending.returned (.int .i64 a) = .returned (.int .i64 b) := by rw [h]
theorem length_any (n : Int) (w : World) :
    Calls Try.prog 28 #[.int .i64 n] w fun e w' => e = .returned (.int .i64 (len20 n : Int)) ∧ w = w' := by
  go_enter Try.func28, Try.ntmps28
  go_wp2
  all_goals go_ret
  all_goals refine ⟨ret_i64 ?_, rfl⟩
  all_goals (unfold len20; split <;> (try split) <;> omega)
theorem rlength_any (n : Int) (w : World) :
    Calls Try.prog 29 #[.int .i64 n] w fun e w' => e = .returned (.int .i64 (len20 n : Int)) ∧ w = w' := by
  go_enter Try.func29, Try.ntmps29
  go_wp2
  all_goals go_ret
  all_goals refine ⟨ret_i64 ?_, rfl⟩
  all_goals (unfold len20; split <;> (try split) <;> omega)
theorem mask_val (b m : Nat) (hb : b < 4294967296) (hm : m < 4294967296) : bits .and .u32 (b : Int) (-bits .and .u32 (m : Int) 1 % 4294967296) = ((if m % 2 = 1 then b else 0 : Nat) : Int) := by
  have h1 : bits .and .u32 (m : Int) 1 = ((m % 2 : Nat) : Int) := by
    have := u32_and_nat m 1 hm (by omega)
    rw [Nat.and_one_is_mod] at this
    exact this
  rw [h1]
  by_cases e : m % 2 = 1
  · rw [e, if_pos rfl]
    have h2 : (-((1 : Nat) : Int)) % 4294967296 = ((4294967295 : Nat) : Int) := by decide
    rw [h2, u32_and_nat b 4294967295 hb (by omega), show (4294967295 : Nat) = 2 ^ 32 - 1 by decide, Nat.and_two_pow_sub_one_eq_mod, Nat.mod_eq_of_lt hb]
  · have e0 : m % 2 = 0 := by omega
    rw [e0, if_neg (by omega)]
    have h2 : (-((0 : Nat) : Int)) % 4294967296 = ((0 : Nat) : Int) := by decide
    rw [h2, u32_and_nat b 0 hb (by omega), Nat.and_zero]
theorem div_pow_cast (a s : Nat) : (a : Int) / 2 ^ s = ((a / 2 ^ s : Nat) : Int) := by simp
theorem prod_val (a b p k : Nat) (ha : a < 4294967296) (hb : b < 4294967296) (hp : p < 4294967296) :
    bits .xor .u32 (p : Int) (bits .and .u32 (b : Int) (-bits .and .u32 ((a : Int) / 2 ^ (31 - k)) 1 % 4294967296)) = ((p ^^^ (if a / 2 ^ (31 - k) % 2 = 1 then b else 0) : Nat) : Int) := by
  rw [div_pow_cast, mask_val b _ hb (Nat.lt_of_le_of_lt (Nat.div_le_self _ _) ha)]
  refine u32_xor_nat p _ hp ?_
  split <;> omega
set_option maxRecDepth 100000 in
theorem product_any (a b : Nat) (ha : a < 4294967296) (hb : b < 4294967296) (w : World) :
    Calls Try.prog 32 #[.int .u32 (a : Int), .int .u32 (b : Int)] w fun e w' => e = .returned (.int .u32 (Cr.prodTo a b 32 : Int)) ∧ w = w' := by
  go_enter Try.func32, Try.ntmps32
  go_wp2
  go_loop [1, 5, 7] (fun t p i => ∃ k : Nat, k ≤ 32 ∧ i = .int .i64 k ∧ t = .int .u32 (Cr.steps k b : Int) ∧ p = .int .u32 (Cr.prodTo a b k)) (fun _ _ i => 32 - (intOf i).toNat)
  case atStart => exact ⟨0, by omega, rfl, rfl, rfl⟩
  case round =>
    obtain ⟨k, hk, rfl, rfl, rfl⟩ := hrel
    have hlt := Cr.steps_lt k hb
    have hpt := Cr.prodTo_lt a hb k
    by_cases hk8 : k < 32
    · go_wp2_with (go_at_call 33; refine (step_any _ hlt _).mono ?_; rintro e w' ⟨rfl, rfl⟩)
      go_round
      case rel => 
        exact ⟨k + 1, by omega, by go_num, by rw [Cr.steps_succ], by rw [prod_val a _ _ k ha hlt hpt]; rfl⟩
      case measure => simp [intOf]; omega
    · have hk8 : k = 32 := by omega
      subst hk8
      go_wp2
      go_ret
      exact ⟨rfl, rfl⟩
theorem ofInt_i64 (a : Nat) (ha : a < 9223372036854775808) : (BitVec.ofInt 64 (a : Int)).toNat = a := by
  rw [BitVec.ofInt_natCast, BitVec.toNat_ofNat]; exact Nat.mod_eq_of_lt (by omega)
theorem i64_and_nat (a b : Nat) (ha : a < 9223372036854775808) (hb : b < 9223372036854775808) : bits .and .i64 (a : Int) (b : Int) = ((a &&& b : Nat) : Int) := by
  have hx : a &&& b < 2 ^ 63 := Nat.and_lt_two_pow _ (by omega)
  show IntKind.i64.wrap ((BitVec.ofInt 64 (a : Int) &&& BitVec.ofInt 64 (b : Int)).toNat : Int) = _
  rw [BitVec.toNat_and, ofInt_i64 a ha, ofInt_i64 b hb, IntKind.wrap_i64]
  omega
theorem i64_odd (q : Nat) (h : q < 9223372036854775808) : bits .and .i64 (q : Int) 1 = ((q % 2 : Nat) : Int) := by
  have := i64_and_nat q 1 h (by omega)
  rw [Nat.and_one_is_mod] at this
  exact this
set_option maxRecDepth 100000 in
theorem zeros_any (r n : Nat) (hr : r < 4294967296) (hn : n ≤ 1048576) (w : World) :
    Calls Try.prog 27 #[.int .u32 (r : Int), .int .i64 (n : Int)] w fun e w' => e = .returned (.int .u32 (Cr.steps (8 * n) r : Int)) ∧ w = w' := by
  go_enter Try.func27, Try.ntmps27
  go_wp2
  go_loop [0, 1, 5] (fun t m s => ∃ (k q x : Nat), q ≤ 1048576 ∧ x < 4294967296 ∧ m = .int .i64 (q : Int) ∧ t = .int .u32 (x : Int) ∧ s = .int .u32 (Cr.steps k 2147483648 : Int) ∧ Hid (Cr.steps (k * q) x = Cr.steps (8 * n) r)) (fun _ m _ => (intOf m).toNat)
  case atStart => exact ⟨8, n, r, hn, hr, rfl, rfl, by rfl, Lib.hid rfl⟩
  case round =>
    obtain ⟨k, q, x, hq, hx, rfl, rfl, rfl, hH⟩ := hrel
    have hsq : Cr.steps k 2147483648 < 4294967296 := Cr.steps_lt k (by omega)
    by_cases hq0 : 0 < q
    · by_cases hq1 : q % 2 = 1
      · have hb : (bits .and .i64 (q : Int) 1 == 1) = true := by rw [i64_odd q (by omega), hq1]; rfl
        go_wp2_with (go_at_call 32; refine (product_any _ _ (by assumption) hsq _).mono ?_; rintro e w' ⟨rfl, rfl⟩)
        go_round
        case rel =>
          refine ⟨k + k, q / 2, Cr.steps k x, by omega, Cr.steps_lt k hx, by go_num, by rw [Cr.prod_step hx], by rw [Cr.prod_step hsq, Cr.steps_add], Lib.hid ?_⟩
          rw [← hH.out, ← Cr.steps_add]
          congr 1
          have : q = 2 * (q / 2) + 1 := by omega
          conv => rhs; rw [this, Nat.mul_add, ← Nat.mul_assoc, Nat.mul_one, Nat.mul_comm k 2, Nat.two_mul]
          omega
        case measure => simp [intOf]; omega
      · have hb : (bits .and .i64 (q : Int) 1 == 1) = false := by rw [i64_odd q (by omega), show q % 2 = 0 by omega]; rfl
        go_wp2_with (go_at_call 32; refine (product_any _ _ (by assumption) hsq _).mono ?_; rintro e w' ⟨rfl, rfl⟩)
        go_round
        case rel =>
          refine ⟨k + k, q / 2, x, by omega, hx, by go_num, rfl, by rw [Cr.prod_step hsq, Cr.steps_add], Lib.hid ?_⟩
          rw [← hH.out]
          congr 1
          have : q = 2 * (q / 2) := by omega
          conv => rhs; rw [this, ← Nat.mul_assoc, Nat.mul_comm k 2, Nat.two_mul]
        case measure => simp [intOf]; omega
    · have hk8 : q = 0 := by omega
      subst hk8
      have h0 := hH.out
      rw [Nat.mul_zero] at h0
      have hH2 := Lib.hid h0
      clear h0 hH
      go_wp2
      go_ret
      exact ⟨by rw [← hH2.out]; rfl, rfl⟩
theorem len20_le (n : Int) : len20 n ≤ 1048576 := by unfold len20; split <;> (try split) <;> omega
set_option maxRecDepth 100000 in
theorem join_any (a b : Nat) (n : Int) (ha : a < 4294967296) (hb : b < 4294967296) (w : World) :
    Calls Try.prog 17 #[.int .u32 (a : Int), .int .u32 (b : Int), .int .i64 n] w fun e w' => e = .returned (.int .u32 ((Cr.steps (8 * len20 n) a ^^^ b : Nat) : Int)) ∧ w = w' := by
  have hl := len20_le n
  have hx := Cr.steps_lt (8 * len20 n) ha
  go_enter Try.func17, Try.ntmps17
  go_wp2_with (first | (go_at_call 28; refine (length_any _ _).mono ?_; rintro e w' ⟨rfl, rfl⟩) | (go_at_call 27; refine (zeros_any _ _ ha hl _).mono ?_; rintro e w' ⟨rfl, rfl⟩))
  go_ret
  exact ⟨ret_u32 (u32_xor_nat _ _ hx hb), rfl⟩
set_option maxRecDepth 100000 in
theorem rjoin_any (a b : Nat) (n : Int) (ha : a < 4294967296) (hb : b < 4294967296) (w : World) :
    Calls Try.prog 18 #[.int .u32 (a : Int), .int .u32 (b : Int), .int .i64 n] w fun e w' => e = .returned (.int .u32 ((Cr.steps (8 * len20 n) a ^^^ b : Nat) : Int)) ∧ w = w' := by
  have hl := len20_le n
  have hx := Cr.steps_lt (8 * len20 n) ha
  go_enter Try.func18, Try.ntmps18
  go_wp2
  go_loop [0, 7] (fun t i => ∃ k : Nat, k ≤ len20 n ∧ i = .int .i64 k ∧ t = .int .u32 (Cr.steps (8 * k) a : Int)) (fun _ i => len20 n - (intOf i).toNat)
  case atStart => exact ⟨0, by omega, rfl, rfl⟩
  case round =>
    obtain ⟨k, hk, rfl, rfl⟩ := hrel
    have hlt := Cr.steps_lt (8 * k) ha
    by_cases hk8 : k < len20 n
    · have hin := in_any (Cr.steps (8 * k) a) 0 hlt (by omega)
      have Hin := Lib.hid hin
      clear hin
      go_wp2_with (first | (go_at_call 29; refine (rlength_any _ _).mono ?_; rintro e w' ⟨rfl, rfl⟩) | (go_at_call 26; refine (Hin.out _).mono ?_; rintro e w' ⟨rfl, rfl⟩))
      go_round
      case rel => exact ⟨k + 1, by omega, by go_num, by rw [Cr.inB_zero, ← Cr.steps_add, Nat.mul_add]⟩
      case measure => simp [intOf]; omega
    · have hk8 : k = len20 n := by omega
      have HK := Lib.hid hk8
      clear hk8
      go_wp2_with (first | (go_at_call 29; refine (rlength_any _ _).mono ?_; rintro e w' ⟨rfl, rfl⟩))
      go_ret
      exact ⟨by rw [← HK.out]; exact ret_u32 (u32_xor_nat _ _ hlt hb), rfl⟩
end Go.Proofs.Ytkpojegdeipfhaa
