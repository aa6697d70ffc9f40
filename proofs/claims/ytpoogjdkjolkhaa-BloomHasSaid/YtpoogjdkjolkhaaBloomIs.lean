/- What Check and the document's Is of layer 11 return: for every slice of bytes. -/
import Derived.Test.YtpoogjdkjolkhaaBloomHash
namespace Go.Proofs.Ytpoogjdkjolkhaa
open Go.RowKit
/-- How many bits bytes of a filter have, as an int. -/
def bitsI (n : Nat) : Int := IntKind.i64.wrap (8 * ((n : Int) - 1))
/-- Are bytes a filter? -/
def isF (l : List Nat) : Bool := decide (64 ≤ bitsI l.length ∧ bitsI l.length ≤ 65536 ∧ 1 ≤ l.getD 0 0 ∧ l.getD 0 0 ≤ 16)
theorem bitsI_zero : bitsI 0 = -8 := by decide
theorem bitsI_form (n : Nat) (h1 : 64 ≤ bitsI n) (h2 : bitsI n ≤ 65536) : ∃ m : Nat, bitsI n = (m : Int) ∧ 64 ≤ m ∧ m ≤ 65536 ∧ m % 8 = 0 ∧ m ≤ 8 * (n - 1) ∧ 1 ≤ n := by
  unfold bitsI at *
  rw [IntKind.wrap_i64] at *
  refine ⟨(IntKind.i64.wrap (8 * ((n : Int) - 1))).toNat, ?_⟩
  rw [IntKind.wrap_i64]
  omega
theorem wrap_pred (n : Nat) (h : n ≤ 9223372036854775807) : IntKind.i64.wrap ((n : Int) - 1) = (n : Int) - 1 := by rw [IntKind.wrap_i64]; omega
def errOf (b : Bool) : Int := if b then 0 else 110
set_option maxRecDepth 100000 in
theorem check_any (A : Option Addr) (n cap : Nat) (l : List Nat) (w : World) (hl : Rd w A n l) (hn : n ≤ 9223372036854775807) :
    Calls Try.prog 19 #[.slice A n cap] w fun e w' => e = .returned (.int .i64 (errOf (isF l))) ∧ w = w' := by
  have hI : isF l = decide (64 ≤ bitsI n ∧ bitsI n ≤ 65536 ∧ 1 ≤ l.getD 0 0 ∧ l.getD 0 0 ≤ 16) := by unfold isF; rw [hl.1]
  obtain ⟨m, hm⟩ : ∃ m : Int, IntKind.i64.wrap (8 * ((n : Int) - 1)) = m := ⟨_, rfl⟩
  have hb : bitsI n = m := hm
  have hb0 : n = 0 → m = -8 := by intro h; subst h; rw [← hb]; exact bitsI_zero
  rw [hb] at hI
  by_cases h1 : m < 64
  · have e : isF l = false := by rw [hI, decide_eq_false_iff_not]; omega
    rw [e]
    clear hI hb e hb0
    go_enter Try.func19, Try.ntmps19
    go_wp2
    go_ret
    exact ⟨rfl, rfl⟩
  · by_cases h2 : 65536 < m
    · have e : isF l = false := by rw [hI, decide_eq_false_iff_not]; omega
      rw [e]
      clear hI hb e hb0
      go_enter Try.func19, Try.ntmps19
      go_wp2
      go_ret
      exact ⟨rfl, rfl⟩
    · have hn1 : 0 < n := by rcases Nat.eq_zero_or_pos n with h | h; (· have := hb0 h; omega); exact h
      obtain ⟨b, o, x, rfl, hbl, hx, hx2, hcell⟩ := hl.at_ hn1
      have hg : l.getD 0 0 = x := by rw [List.getD_eq_getElem?_getD, hx]; rfl
      rw [hg] at hI
      have hn0 : (0 : Int) < (n : Int) := by omega
      rw [Nat.add_zero] at hcell
      clear hx hg hb hb0
      by_cases h3 : x < 1
      · have h3' : (x : Int) < 1 := by omega
        have e : isF l = false := by rw [hI, decide_eq_false_iff_not]; omega
        rw [e]
        clear hI e
        go_enter Try.func19, Try.ntmps19
        go_wp2
        go_ret
        exact ⟨rfl, rfl⟩
      · have h3' : ¬ (x : Int) < 1 := by omega
        by_cases h4 : 16 < x
        · have h4' : 16 < (x : Int) := by omega
          have e : isF l = false := by rw [hI, decide_eq_false_iff_not]; omega
          rw [e]
          clear hI e
          go_enter Try.func19, Try.ntmps19
          go_wp2
          go_ret
          exact ⟨rfl, rfl⟩
        · have h4' : ¬ 16 < (x : Int) := by omega
          have e : isF l = true := by rw [hI, decide_eq_true_iff]; omega
          rw [e]
          clear hI e
          go_enter Try.func19, Try.ntmps19
          go_wp2
          go_ret
          exact ⟨rfl, rfl⟩
set_option maxRecDepth 100000 in
theorem is_any (A : Option Addr) (n cap : Nat) (l : List Nat) (w : World) (hl : Rd w A n l) (hn : n ≤ 9223372036854775807) :
    Calls Try.prog 20 #[.slice A n cap] w fun e w' => e = .returned (.bool (isF l)) ∧ w = w' := by
  have hI : isF l = decide (64 ≤ bitsI n ∧ bitsI n ≤ 65536 ∧ 1 ≤ l.getD 0 0 ∧ l.getD 0 0 ≤ 16) := by unfold isF; rw [hl.1]
  obtain ⟨m, hm⟩ : ∃ m : Int, IntKind.i64.wrap (8 * ((n : Int) - 1)) = m := ⟨_, rfl⟩
  have hb : bitsI n = m := hm
  have hb0 : n = 0 → m = -8 := by intro h; subst h; rw [← hb]; exact bitsI_zero
  rw [hb] at hI
  by_cases hn1 : 0 < n
  · obtain ⟨b, o, x, rfl, hbl, hx, hx2, hcell⟩ := hl.at_ hn1
    have hg : l.getD 0 0 = x := by rw [List.getD_eq_getElem?_getD, hx]; rfl
    rw [hg] at hI
    have hn0 : (0 : Int) < (n : Int) := by omega
    rw [Nat.add_zero] at hcell
    clear hx hg hb hb0
    have hd1 : ((1 : Int) ≤ (x : Int)) ↔ 1 ≤ x := by omega
    by_cases h3 : 1 ≤ x
    · by_cases h4 : x ≤ 16
      · by_cases h1 : 64 ≤ m
        · by_cases h2 : m ≤ 65536
          · have h3' : (1 : Int) ≤ (x : Int) := by omega
            have h4' : (x : Int) ≤ 16 := by omega
            have e : isF l = true := by rw [hI, decide_eq_true_iff]; omega
            rw [e]
            clear hI e hd1
            go_enter Try.func20, Try.ntmps20
            go_wp2
            go_ret
            exact ⟨rfl, rfl⟩
          · have h3' : (1 : Int) ≤ (x : Int) := by omega
            have h4' : (x : Int) ≤ 16 := by omega
            have e : isF l = false := by rw [hI, decide_eq_false_iff_not]; omega
            rw [e]
            clear hI e hd1
            go_enter Try.func20, Try.ntmps20
            go_wp2
            go_ret
            exact ⟨rfl, rfl⟩
        · have h3' : (1 : Int) ≤ (x : Int) := by omega
          have h4' : (x : Int) ≤ 16 := by omega
          have e : isF l = false := by rw [hI, decide_eq_false_iff_not]; omega
          rw [e]
          clear hI e hd1
          go_enter Try.func20, Try.ntmps20
          go_wp2
          go_ret
          exact ⟨rfl, rfl⟩
      · have h3' : (1 : Int) ≤ (x : Int) := by omega
        have h4' : ¬ (x : Int) ≤ 16 := by omega
        have e : isF l = false := by rw [hI, decide_eq_false_iff_not]; omega
        rw [e]
        clear hI e hd1
        go_enter Try.func20, Try.ntmps20
        go_wp2
        go_ret
        exact ⟨rfl, rfl⟩
    · have h3' : ¬ (1 : Int) ≤ (x : Int) := by omega
      have e : isF l = false := by rw [hI, decide_eq_false_iff_not]; omega
      rw [e]
      clear hI e hd1
      go_enter Try.func20, Try.ntmps20
      go_wp2
      go_ret
      exact ⟨rfl, rfl⟩
  · have h0 : n = 0 := by omega
    have e : isF l = false := by rw [hI, decide_eq_false_iff_not]; have := hb0 h0; omega
    rw [e]
    subst h0
    clear hI e hb hb0 hm
    go_enter Try.func20, Try.ntmps20
    go_wp2
    go_ret
    exact ⟨rfl, rfl⟩
end Go.Proofs.Ytpoogjdkjolkhaa
