/- What both Hash of layer 11 return: for every string, one number. -/
import Derived.Test.YtpoogjdkjolkhaaRow
import Derived.Test.YtpoogjdkjolkhaaStr
import Derived.Test.YtpoogjdkjolkhaaBloomMath
namespace Go.Proofs.Ytpoogjdkjolkhaa
open Go.RowKit
def hstep (h : Int) (x : Nat) : Int := IntKind.u64.wrap (bits .xor .u64 h (IntKind.u64.wrap (x : Int)) * 13787848793156543929)
def hfold (l : List Nat) : Int := l.foldl hstep 11400714819323198485
theorem hfold_snoc (l : List Nat) (x : Nat) : hfold (l ++ [x]) = hstep (hfold l) x := by simp [hfold]
def hmid (c : Int) : Int := IntKind.u64.wrap (bits .xor .u64 c (c / 2147483648) * 10723151780598845931)
def hend (m : Int) : Int := bits .xor .u64 m (m / 536870912)
/-- A text's hash. -/
def hashN (s : ByteArray) : Nat := (hend (hmid (hfold (bs s)))).toNat
theorem xor_u64_bound (a b : Int) : 0 ≤ bits .xor .u64 a b ∧ bits .xor .u64 a b < 18446744073709551616 := by
  unfold bits
  rw [IntKind.wrap_u64]
  omega
theorem hashN_eq (s : ByteArray) : hend (hmid (hfold (bs s))) = (hashN s : Int) := by
  have := (xor_u64_bound (hmid (hfold (bs s))) (hmid (hfold (bs s)) / 536870912)).1
  unfold hashN
  rw [Int.toNat_of_nonneg (by unfold hend; exact this)]
theorem hashN_lt (s : ByteArray) : hashN s < 18446744073709551616 := by
  have h := hashN_eq s
  have := (xor_u64_bound (hmid (hfold (bs s))) (hmid (hfold (bs s)) / 536870912)).2
  unfold hend at h
  omega
theorem ret_u64 {a b : Int} (h : a = b) : Ending.returned (.int .u64 a) = .returned (.int .u64 b) := by rw [h]
set_option maxRecDepth 100000 in
theorem hash_any (s : ByteArray) (hs : s.size ≤ 9223372036854775807) (w : World) :
    Calls Try.prog 12 #[.string s] w fun e w' => e = .returned (.int .u64 (hashN s : Int)) ∧ w = w' := by
  have Hh := Lib.hid (hashN_eq s)
  go_enter Try.func12, Try.ntmps12
  go_wp2
  go_loop [3, 7] (fun h i => ∃ k : Nat, k ≤ s.size ∧ i = .int .i64 (k : Int) ∧ h = .int .u64 (hfold ((bs s).take k))) (fun _ i => s.size - (intOf i).toNat)
  case atStart => exact ⟨0, by omega, rfl, rfl⟩
  case round =>
    obtain ⟨k, hk, rfl, rfl⟩ := hrel
    by_cases hlt : k < s.size
    · have Hx := Lib.hid (bs_at hlt)
      generalize hc : hfold ((bs s).take k) = c
      have Hc := Lib.hid hc
      clear hc
      go_wp2
      go_round
      case rel => exact ⟨k + 1, by omega, by go_num, by rw [take_snoc Hx.out, hfold_snoc, Hc.out]; rfl⟩
      case measure => simp [intOf]; omega
    · rw [List.take_of_length_le (by rw [bs_length]; omega)]
      generalize hc : hfold (bs s) = c
      have Hc := Lib.hid hc
      clear hc
      go_wp2
      go_ret
      refine ⟨ret_u64 ?_, rfl⟩
      rw [← Hh.out, Hc.out]; rfl
set_option maxRecDepth 100000 in
theorem rhash_any (s : ByteArray) (hs : s.size ≤ 9223372036854775807) (w : World) :
    Calls Try.prog 13 #[.string s] w fun e w' => e = .returned (.int .u64 (hashN s : Int)) ∧ w = w' := by
  have Hh := Lib.hid (hashN_eq s)
  go_enter Try.func13, Try.ntmps13
  go_wp2
  go_loop [3, 4] (fun h i => ∃ k : Nat, k ≤ s.size ∧ i = .int .i64 (k : Int) ∧ h = .int .u64 (hfold ((bs s).take k))) (fun _ i => s.size - (intOf i).toNat)
  case atStart => exact ⟨0, by omega, rfl, rfl⟩
  case round =>
    obtain ⟨k, hk, rfl, rfl⟩ := hrel
    by_cases hlt : k < s.size
    · have Hx := Lib.hid (bs_at hlt)
      generalize hc : hfold ((bs s).take k) = c
      have Hc := Lib.hid hc
      clear hc
      go_wp2
      go_round
      case rel => exact ⟨k + 1, by omega, by go_num, by rw [take_snoc Hx.out, hfold_snoc, Hc.out]; rfl⟩
      case measure => simp [intOf]; omega
    · rw [List.take_of_length_le (by rw [bs_length]; omega)]
      generalize hc : hfold (bs s) = c
      have Hc := Lib.hid hc
      clear hc
      go_wp2
      go_ret
      refine ⟨ret_u64 ?_, rfl⟩
      rw [← Hh.out, Hc.out]; rfl
end Go.Proofs.Ytpoogjdkjolkhaa
