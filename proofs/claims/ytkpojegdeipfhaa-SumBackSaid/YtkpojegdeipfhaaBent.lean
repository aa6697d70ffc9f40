/- What Bent of package sum and the document's own Bent return: one and the same number, for every two integers. -/
import Derived.Test.YtkpojegdeipfhaaNums
namespace Go.Proofs.Ytkpojegdeipfhaa
open Go.RowKit
def bentN (n bit : Int) : Nat := if bit < 0 ∨ 8 * (len20 n : Int) ≤ bit then 0 else Cr.steps (8 * (len20 n - bit.toNat / 8)) (2 ^ (bit.toNat % 8))
set_option maxRecDepth 100000 in
theorem bent_neg (n bit : Int) (hb : bit < 0) (w : World) :
    Calls Try.prog 19 #[.int .i64 n, .int .i64 bit] w fun e w' => e = .returned (.int .u32 0) ∧ w = w' := by
  go_enter Try.func19, Try.ntmps19
  go_wp2_with (first | (go_at_call 28; refine (length_any _ _).mono ?_; rintro e w' ⟨rfl, rfl⟩))
  go_ret
  exact ⟨rfl, rfl⟩
set_option maxRecDepth 100000 in
theorem bent_out (n bit : Int) (hb : ¬ bit < 0) (ho : 8 * (len20 n : Int) ≤ bit) (w : World) :
    Calls Try.prog 19 #[.int .i64 n, .int .i64 bit] w fun e w' => e = .returned (.int .u32 0) ∧ w = w' := by
  have hl := len20_le n
  go_enter Try.func19, Try.ntmps19
  go_wp2_with (first | (go_at_call 28; refine (length_any _ _).mono ?_; rintro e w' ⟨rfl, rfl⟩))
  go_ret
  exact ⟨rfl, rfl⟩
theorem pow_mod8_lt (b : Nat) : 2 ^ (b % 8) < 256 := by
  have : b % 8 < 8 := Nat.mod_lt _ (by omega)
  exact Nat.pow_lt_pow_right (a := 2) (m := b % 8) (n := 8) (by omega) this
theorem mod_u32 (x : Nat) (h : x < 4294967296) : (x : Int) % 4294967296 = x := by omega
theorem mod_u8 (x : Nat) (h : x < 256) : (x : Int) % 256 = x := by omega
theorem pow_cast (k : Nat) : (2 : Int) ^ k = ((2 ^ k : Nat) : Int) := by simp
set_option maxRecDepth 100000 in
theorem bent_in (n : Int) (b : Nat) (hi : b < 8 * len20 n) (w : World) :
    Calls Try.prog 19 #[.int .i64 n, .int .i64 (b : Int)] w fun e w' => e = .returned (.int .u32 (Cr.steps (8 * (len20 n - b / 8)) (2 ^ (b % 8)) : Int)) ∧ w = w' := by
  have hl := len20_le n
  have hp := pow_mod8_lt b
  have hb1 : ¬ 8 * (len20 n : Int) ≤ (b : Int) := by omega
  have e1 : (2 : Int) ^ (b % 8) % 4294967296 = ((2 ^ (b % 8) : Nat) : Int) := by
    rw [pow_cast]; exact mod_u32 _ (by omega)
  have e2 : (len20 n : Int) - (b : Int) / 8 = ((len20 n - b / 8 : Nat) : Int) := by omega
  have E1 := Lib.hid e1
  have E2 := Lib.hid e2
  clear e1 e2
  go_enter Try.func19, Try.ntmps19
  go_wp2_with (first | (go_at_call 28; refine (length_any _ _).mono ?_; rintro e w' ⟨rfl, rfl⟩) | (go_at_call 27; rw [E1.out, E2.out]; refine (zeros_any _ _ (by omega) (by omega) _).mono ?_; rintro e w' ⟨rfl, rfl⟩))
  go_ret
  exact ⟨rfl, rfl⟩
theorem bent_any (n bit : Int) (w : World) :
    Calls Try.prog 19 #[.int .i64 n, .int .i64 bit] w fun e w' => e = .returned (.int .u32 (bentN n bit : Int)) ∧ w = w' := by
  unfold bentN
  by_cases hb : bit < 0
  · rw [if_pos (Or.inl hb)]; exact bent_neg n bit hb w
  · by_cases ho : 8 * (len20 n : Int) ≤ bit
    · rw [if_pos (Or.inr ho)]; exact bent_out n bit hb ho w
    · rw [if_neg (by omega)]
      obtain ⟨b, rfl⟩ := Int.eq_ofNat_of_zero_le (show 0 ≤ bit by omega)
      rw [Int.toNat_natCast]
      exact bent_in n b (by omega) w
set_option maxRecDepth 100000 in
theorem rbent_neg (n bit : Int) (hb : bit < 0) (w : World) :
    Calls Try.prog 20 #[.int .i64 n, .int .i64 bit] w fun e w' => e = .returned (.int .u32 0) ∧ w = w' := by
  go_enter Try.func20, Try.ntmps20
  go_wp2_with (first | (go_at_call 29; refine (rlength_any _ _).mono ?_; rintro e w' ⟨rfl, rfl⟩))
  go_ret
  exact ⟨rfl, rfl⟩
set_option maxRecDepth 100000 in
theorem rbent_out (n bit : Int) (hb : ¬ bit < 0) (ho : 8 * (len20 n : Int) ≤ bit) (w : World) :
    Calls Try.prog 20 #[.int .i64 n, .int .i64 bit] w fun e w' => e = .returned (.int .u32 0) ∧ w = w' := by
  have hl := len20_le n
  go_enter Try.func20, Try.ntmps20
  go_wp2_with (first | (go_at_call 29; refine (rlength_any _ _).mono ?_; rintro e w' ⟨rfl, rfl⟩))
  go_ret
  exact ⟨rfl, rfl⟩
set_option maxRecDepth 100000 in
theorem rbent_in (n : Int) (b : Nat) (hi : b < 8 * len20 n) (w : World) :
    Calls Try.prog 20 #[.int .i64 n, .int .i64 (b : Int)] w fun e w' => e = .returned (.int .u32 (Cr.steps (8 * (len20 n - b / 8)) (2 ^ (b % 8)) : Int)) ∧ w = w' := by
  have hl := len20_le n
  have hp := pow_mod8_lt b
  have hb1 : ¬ 8 * (len20 n : Int) ≤ (b : Int) := by omega
  have e1 : (2 : Int) ^ (b % 8) % 256 = ((2 ^ (b % 8) : Nat) : Int) := by
    rw [pow_cast]; exact mod_u8 _ (by omega)
  have h0 := in_any 0 (2 ^ (b % 8)) (by omega) hp
  rw [← e1] at h0
  have H0 := Lib.hid h0
  clear h0 e1
  have hp32 : 2 ^ (b % 8) < 4294967296 := by omega
  clear hp
  go_enter Try.func20, Try.ntmps20
  go_wp2_with (first | (go_at_call 29; refine (rlength_any _ _).mono ?_; rintro e w' ⟨rfl, rfl⟩) | (go_at_call 26; refine (H0.out _).mono ?_; rintro e w' ⟨rfl, rfl⟩))
  go_loop [5, 6] (fun t i => ∃ k : Nat, b / 8 + 1 + k ≤ len20 n ∧ i = .int .i64 (((b / 8 + 1 + k : Nat) : Int)) ∧ t = .int .u32 (Cr.steps (8 * (k + 1)) (2 ^ (b % 8)) : Int)) (fun _ i => len20 n - (intOf i).toNat)
  case atStart => exact ⟨0, by omega, by go_num, by unfold Cr.inB; rw [Nat.zero_xor]⟩
  case round =>
    obtain ⟨k, hk, rfl, rfl⟩ := hrel
    have hlt := Cr.steps_lt (8 * (k + 1)) hp32
    by_cases hk8 : b / 8 + 1 + k < len20 n
    · have hin := in_any (Cr.steps (8 * (k + 1)) (2 ^ (b % 8))) 0 hlt (by omega)
      have Hin := Lib.hid hin
      clear hin
      go_wp2_with (first | (go_at_call 26; refine (Hin.out _).mono ?_; rintro e w' ⟨rfl, rfl⟩))
      go_round
      case rel => exact ⟨k + 1, by omega, by go_num, by rw [Cr.inB_zero, ← Cr.steps_add]; rfl⟩
      case measure => simp [intOf]; omega
    · have hk8 : len20 n - b / 8 = k + 1 := by omega
      have HK := Lib.hid hk8
      clear hk8
      go_wp2
      go_ret
      exact ⟨by rw [HK.out]; rfl, rfl⟩
theorem rbent_any (n bit : Int) (w : World) :
    Calls Try.prog 20 #[.int .i64 n, .int .i64 bit] w fun e w' => e = .returned (.int .u32 (bentN n bit : Int)) ∧ w = w' := by
  unfold bentN
  by_cases hb : bit < 0
  · rw [if_pos (Or.inl hb)]; exact rbent_neg n bit hb w
  · by_cases ho : 8 * (len20 n : Int) ≤ bit
    · rw [if_pos (Or.inr ho)]; exact rbent_out n bit hb ho w
    · rw [if_neg (by omega)]
      obtain ⟨b, rfl⟩ := Int.eq_ofNat_of_zero_le (show 0 ≤ bit by omega)
      rw [Int.toNat_natCast]
      exact rbent_in n b (by omega) w
end Go.Proofs.Ytkpojegdeipfhaa
