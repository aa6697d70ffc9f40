/- What space's Sector, Plots and the document's return. -/
import Derived.Test.YtakocojbpdpflaaBytes
namespace Go.Proofs.Ytakocojbpdpflaa
open Go.RowKit
set_option linter.unusedVariables false
namespace Sp
def sec (p i : Int) : Int × Int := if p < 0 ∨ 511 ≤ p ∨ i < 0 ∨ 8 ≤ i then (0, 5) else (4 + 8 * p + i, 0)
theorem sec_no {p i : Int} (h : p < 0 ∨ 511 ≤ p ∨ i < 0 ∨ 8 ≤ i) : sec p i = (0, 5) := if_pos h
theorem sec_yes {p i : Int} (h : ¬ (p < 0 ∨ 511 ≤ p ∨ i < 0 ∨ 8 ≤ i)) : sec p i = (4 + 8 * p + i, 0) := if_neg h
/-- How many plots a disk of so many sectors has. -/
def plots (s : Int) : Nat := if s ≤ 4 then 0 else if 4096 < s then 511 else (s.toNat - 4) / 8
end Sp
set_option maxRecDepth 100000 in
theorem spsector_any (p i : Int) (w : World) : Calls Try.prog 30 #[.int .i64 p, .int .i64 i] w fun e w' => e = .returned (.tuple #[.int .i64 (Sp.sec p i).1, .int .i64 (Sp.sec p i).2]) ∧ w = w' := by
  by_cases h1 : p < 0
  · rw [Sp.sec_no (by omega)]
    go_enter Try.func30, Try.ntmps30
    go_wp2
    go_ret2
    exact ⟨rfl, rfl⟩
  · by_cases h2 : 511 ≤ p
    · rw [Sp.sec_no (by omega)]
      have h2b : 510 < p := by omega
      go_enter Try.func30, Try.ntmps30
      go_wp2
      go_ret2
      exact ⟨rfl, rfl⟩
    · have h2b : ¬ 510 < p := by omega
      by_cases h3 : i < 0
      · rw [Sp.sec_no (by omega)]
        go_enter Try.func30, Try.ntmps30
        go_wp2
        go_ret2
        exact ⟨rfl, rfl⟩
      · by_cases h4 : 8 ≤ i
        · rw [Sp.sec_no (by omega)]
          have h4b : 7 < i := by omega
          go_enter Try.func30, Try.ntmps30
          go_wp2
          go_ret2
          exact ⟨rfl, rfl⟩
        · rw [Sp.sec_yes (by omega)]
          have h4b : ¬ 7 < i := by omega
          obtain ⟨q, rfl⟩ := Int.eq_ofNat_of_zero_le (show 0 ≤ p by omega)
          obtain ⟨j, rfl⟩ := Int.eq_ofNat_of_zero_le (show 0 ≤ i by omega)
          have w1 : IntKind.i64.wrap (8 * (q : Int)) = 8 * (q : Int) := by rw [IntKind.wrap_i64]; omega
          have w2 : IntKind.i64.wrap (4 + 8 * (q : Int)) = 4 + 8 * (q : Int) := by rw [IntKind.wrap_i64]; omega
          have w3 : IntKind.i64.wrap (4 + 8 * (q : Int) + (j : Int)) = 4 + 8 * (q : Int) + (j : Int) := by rw [IntKind.wrap_i64]; omega
          go_enter Try.func30, Try.ntmps30
          go_wp2
          go_ret2
          exact ⟨rfl, rfl⟩
set_option maxRecDepth 100000 in
theorem plots_any (s : Int) (w : World) (h : s ≤ 9223372036854775807) : Calls Try.prog 31 #[.int .i64 s] w fun e w' => e = .returned (.int .i64 (Sp.plots s : Int)) ∧ w = w' := by
  obtain ⟨a, ha⟩ : ∃ a, (if s < (4 : Int) then (4 : Int) else s) = a := ⟨_, rfl⟩
  obtain ⟨b, hb⟩ : ∃ b, (if (4096 : Int) < a then (4096 : Int) else a) = b := ⟨_, rfl⟩
  have hb1 : 4 ≤ b ∧ b ≤ 4096 := by rw [← hb, ← ha]; split <;> split <;> omega
  have hp : Sp.plots s = (b.toNat - 4) / 8 := by unfold Sp.plots; rw [← hb, ← ha]; split <;> split <;> split <;> (try split) <;> omega
  obtain ⟨n, rfl⟩ := Int.eq_ofNat_of_zero_le (show 0 ≤ b by omega)
  rw [hp]
  have w1 : IntKind.i64.wrap ((n : Int) - 4) = (n : Int) - 4 := by rw [IntKind.wrap_i64]; omega
  clear hp
  go_enter Try.func31, Try.ntmps31
  go_wp2
  go_ret
  rw [show ((((n : Int).toNat - 4) / 8 : Nat) : Int) = ((n : Int) - 4) / 8 by omega]
  exact ⟨rfl, rfl⟩
set_option maxRecDepth 100000 in
set_option maxHeartbeats 1000000 in
theorem rplots_any (s : Int) (w : World) (h : s ≤ 9223372036854775807) : Calls Try.prog 32 #[.int .i64 s] w fun e w' => e = .returned (.int .i64 (Sp.plots s : Int)) ∧ w = w' := by
  have hend : ∀ (j : Nat) (t : Int), (t = s ∧ s ≤ 4096 ∨ t = 4096 ∧ 4096 < s) → (j = 0 ∨ 8 * (j : Int) + 4 ≤ t) → j ≤ 511 → (j = 511 ∨ t < 8 * (j : Int) + 12) → j = Sp.plots s := by
    intro j t h1 h2 h3 h4
    unfold Sp.plots
    split
    · omega
    · split <;> omega
  have Hend := Lib.hid hend
  clear hend
  by_cases h1 : 4096 < s
  · skip
    go_enter Try.func32, Try.ntmps32
    go_wp2
    go_loop [3] (fun i => ∃ j : Nat, j ≤ 511 ∧ i = .int .i64 (j : Int) ∧ (j = 0 ∨ 8 * (j : Int) + 4 ≤ 4096)) (fun i => 511 - (intOf i).toNat)
    case atStart => exact ⟨0, by omega, rfl, .inl rfl⟩
    case round =>
      obtain ⟨j, hj, rfl, hj2⟩ := hrel
      have w1 : IntKind.i64.wrap (8 * (j : Int)) = 8 * (j : Int) := by rw [IntKind.wrap_i64]; omega
      have w2 : IntKind.i64.wrap (4 + 8 * (j : Int)) = 4 + 8 * (j : Int) := by rw [IntKind.wrap_i64]; omega
      have w3 : IntKind.i64.wrap (4 + 8 * (j : Int) + 8) = 4 + 8 * (j : Int) + 8 := by rw [IntKind.wrap_i64]; omega
      have Hj2 := Lib.hid hj2
      clear hj2
      by_cases h5 : (j : Int) < 511
      · by_cases h6 : 4 + 8 * (j : Int) + 8 ≤ 4096
        · go_wp2
          go_round
          case rel => exact ⟨j + 1, by omega, by go_num, .inr (by omega)⟩
          case measure => simp [intOf]; omega
        · have he := Hend.out j 4096 (.inr ⟨rfl, h1⟩) Hj2.out hj (.inr (by omega))
          have HE := Lib.hid he
          clear he
          go_wp2
          go_ret
          exact ⟨by rw [← HE.out]; rfl, rfl⟩
      · have he := Hend.out j 4096 (.inr ⟨rfl, h1⟩) Hj2.out hj (.inl (by omega))
        have HE := Lib.hid he
        clear he
        go_wp2
        go_ret
        exact ⟨by rw [← HE.out]; rfl, rfl⟩
  · skip
    go_enter Try.func32, Try.ntmps32
    go_wp2
    go_loop [3] (fun i => ∃ j : Nat, j ≤ 511 ∧ i = .int .i64 (j : Int) ∧ (j = 0 ∨ 8 * (j : Int) + 4 ≤ s)) (fun i => 511 - (intOf i).toNat)
    case atStart => exact ⟨0, by omega, rfl, .inl rfl⟩
    case round =>
      obtain ⟨j, hj, rfl, hj2⟩ := hrel
      have w1 : IntKind.i64.wrap (8 * (j : Int)) = 8 * (j : Int) := by rw [IntKind.wrap_i64]; omega
      have w2 : IntKind.i64.wrap (4 + 8 * (j : Int)) = 4 + 8 * (j : Int) := by rw [IntKind.wrap_i64]; omega
      have w3 : IntKind.i64.wrap (4 + 8 * (j : Int) + 8) = 4 + 8 * (j : Int) + 8 := by rw [IntKind.wrap_i64]; omega
      have Hj2 := Lib.hid hj2
      clear hj2
      by_cases h5 : (j : Int) < 511
      · by_cases h6 : 4 + 8 * (j : Int) + 8 ≤ s
        · go_wp2
          go_round
          case rel => exact ⟨j + 1, by omega, by go_num, .inr (by omega)⟩
          case measure => simp [intOf]; omega
        · have he := Hend.out j s (.inl ⟨rfl, by omega⟩) Hj2.out hj (.inr (by omega))
          have HE := Lib.hid he
          clear he
          go_wp2
          go_ret
          exact ⟨by rw [← HE.out]; rfl, rfl⟩
      · have he := Hend.out j s (.inl ⟨rfl, by omega⟩) Hj2.out hj (.inl (by omega))
        have HE := Lib.hid he
        clear he
        go_wp2
        go_ret
        exact ⟨by rw [← HE.out]; rfl, rfl⟩
end Go.Proofs.Ytakocojbpdpflaa
