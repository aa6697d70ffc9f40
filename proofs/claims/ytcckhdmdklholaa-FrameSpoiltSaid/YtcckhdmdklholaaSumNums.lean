/- What step, eightSteps of package sum and the document's step and in return. -/
import Derived.Test.YtcckhdmdklholaaBytes
import Derived.Test.YtcckhdmdklholaaMath
namespace Go.Proofs.Ytcckhdmdklholaa
open Go.RowKit
theorem step_val (r : Nat) (h : r < 4294967296) : bits .xor .u32 ((r : Int) / 2) (bits .and .u32 2197175160 (-bits .and .u32 (r : Int) 1 % 4294967296)) = (Cr.step r : Int) := by
  have h1 : bits .and .u32 (r : Int) 1 = ((r % 2 : Nat) : Int) := by
    have := u32_and_nat r 1 h (by omega)
    rw [Nat.and_one_is_mod] at this
    exact this
  rw [h1]
  unfold Cr.step
  by_cases e : r % 2 = 1
  · rw [e, if_pos rfl]
    have h2 : (-((1 : Nat) : Int)) % 4294967296 = ((4294967295 : Nat) : Int) := by decide
    have h3 : bits .and .u32 2197175160 ((4294967295 : Nat) : Int) = ((2197175160 : Nat) : Int) := u32_and_nat 2197175160 4294967295 (by omega) (by omega)
    rw [h2, h3]
    exact u32_xor_nat (r / 2) 2197175160 (by omega) (by omega)
  · have e0 : r % 2 = 0 := by omega
    rw [e0, if_neg (by omega)]
    have h2 : (-((0 : Nat) : Int)) % 4294967296 = ((0 : Nat) : Int) := by decide
    have h3 : bits .and .u32 2197175160 ((0 : Nat) : Int) = ((0 : Nat) : Int) := u32_and_nat 2197175160 0 (by omega) (by omega)
    rw [h2, h3]
    exact u32_xor_nat (r / 2) 0 (by omega) (by omega)
theorem step_any (r : Nat) (h : r < 4294967296) (w : World) :
    Calls Try.prog 34 #[.int .u32 (r : Int)] w fun e w' => e = .returned (.int .u32 (Cr.step r : Int)) ∧ w = w' := by
  have hr : (r : Int) < 4294967296 := by omega
  go_enter Try.func34, Try.ntmps34
  go_wp2
  go_ret
  exact ⟨ret_u32 (step_val r h), rfl⟩
set_option maxRecDepth 100000 in
theorem rstep_any (r : Nat) (h : r < 4294967296) (w : World) :
    Calls Try.prog 33 #[.int .u32 (r : Int)] w fun e w' => e = .returned (.int .u32 (Cr.step r : Int)) ∧ w = w' := by
  have hr : (r : Int) < 4294967296 := by omega
  by_cases e : r % 2 = 1
  · have he : ((r : Int) % 2 == 1) = true := by simp; omega
    go_enter Try.func33, Try.ntmps33
    go_wp2
    go_ret
    refine ⟨ret_u32 ?_, rfl⟩
    unfold Cr.step
    rw [if_pos e]
    exact u32_xor_nat (r / 2) 2197175160 (by omega) (by omega)
  · have he : ((r : Int) % 2 == 1) = false := by simp; omega
    go_enter Try.func33, Try.ntmps33
    go_wp2
    go_ret
    refine ⟨ret_u32 ?_, rfl⟩
    rw [Cr.step_even (by omega)]
    omega
theorem eight_any (r : Nat) (h : r < 4294967296) (w : World) :
    Calls Try.prog 32 #[.int .u32 (r : Int)] w fun e w' => e = .returned (.int .u32 (Cr.steps 8 r : Int)) ∧ w = w' := by
  go_enter Try.func32, Try.ntmps32
  go_wp2
  go_loop [0, 3] (fun t i => ∃ k : Nat, k ≤ 8 ∧ i = .int .i64 k ∧ t = .int .u32 (Cr.steps k r : Int)) (fun _ i => 8 - (intOf i).toNat)
  case atStart => exact ⟨0, by omega, rfl, rfl⟩
  case round =>
    obtain ⟨k, hk, rfl, rfl⟩ := hrel
    have hlt := Cr.steps_lt k h
    by_cases hk8 : k < 8
    · go_wp2_with (go_at_call 34; refine (step_any _ hlt _).mono ?_; rintro e w' ⟨rfl, rfl⟩)
      go_round
      case rel => exact ⟨k + 1, by omega, by go_num, by rw [Cr.steps_succ]⟩
      case measure => simp [intOf]; omega
    · have hk8 : k = 8 := by omega
      subst hk8
      go_wp2
      go_ret
      exact ⟨rfl, rfl⟩
set_option maxRecDepth 100000 in
theorem in_any (r x : Nat) (h : r < 4294967296) (hx : x < 256) (w : World) :
    Calls Try.prog 31 #[.int .u32 (r : Int), .int .u8 (x : Int)] w fun e w' => e = .returned (.int .u32 (Cr.inB r x : Int)) ∧ w = w' := by
  have hx2 : (x : Int) < 256 := by omega
  have hx0 : bits .xor .u32 (r : Int) (x : Int) = ((r ^^^ x : Nat) : Int) := u32_xor_nat r x h (by omega)
  have hrx : r ^^^ x < 4294967296 := Cr.xor_lt h (by omega)
  go_enter Try.func31, Try.ntmps31
  go_wp2
  go_loop [0, 5] (fun t i => ∃ k : Nat, k ≤ 8 ∧ i = .int .i64 k ∧ t = .int .u32 (Cr.steps k (r ^^^ x) : Int)) (fun _ i => 8 - (intOf i).toNat)
  case atStart => exact ⟨0, by omega, rfl, rfl⟩
  case round =>
    obtain ⟨k, hk, rfl, rfl⟩ := hrel
    have hlt := Cr.steps_lt k hrx
    by_cases hk8 : k < 8
    · go_wp2_with (go_at_call 33; refine (rstep_any _ hlt _).mono ?_; rintro e w' ⟨rfl, rfl⟩)
      go_round
      case rel => exact ⟨k + 1, by omega, by go_num, by rw [Cr.steps_succ]⟩
      case measure => simp [intOf]; omega
    · have hk8 : k = 8 := by omega
      subst hk8
      go_wp2
      go_ret
      exact ⟨rfl, rfl⟩
/-- A length as it counts. -/
def len20 (n : Int) : Nat := if n < 0 then 0 else if n > 1048576 then 1048576 else n.toNat
end Go.Proofs.Ytcckhdmdklholaa
