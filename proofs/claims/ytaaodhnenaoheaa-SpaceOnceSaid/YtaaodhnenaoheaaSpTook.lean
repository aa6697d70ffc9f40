/- Take of both, whatever the number; pairs side by side. -/
import Derived.Test.YtaaodhnenaoheaaSpRTakeY
namespace Go.Proofs.Ytaaodhnenaoheaa
open Go.RowKit Sp
set_option linter.unusedVariables false
namespace Sp
/-- What Take makes of a map: the map, the plots, how many pairs, an error. -/
def took (T : List Bool) (m : Int) : List Bool × List Int × Nat × Int :=
  if m < 0 ∨ 64 < m then (T, [], 0, 1) else if free T < 2 * m.toNat then (T, [], 0, 60) else ((low T (2 * m.toNat) T.length).2, (low T (2 * m.toNat) T.length).1, m.toNat, 0)
theorem took_cases (T : List Bool) (m : Int) : ((m < 0 ∨ 64 < m) ∧ took T m = (T, [], 0, 1)) ∨ (∃ k : Nat, m = (k : Int) ∧ k ≤ 64 ∧ free T < 2 * k ∧ took T m = (T, [], 0, 60)) ∨ (∃ k : Nat, m = (k : Int) ∧ k ≤ 64 ∧ 2 * k ≤ free T ∧ took T m = ((low T (2 * k) T.length).2, (low T (2 * k) T.length).1, k, 0)) := by
  unfold took
  by_cases h : m < 0 ∨ 64 < m
  · exact .inl ⟨h, if_pos h⟩
  · obtain ⟨k, rfl⟩ := Int.eq_ofNat_of_zero_le (show 0 ≤ m by omega)
    rw [if_neg h]
    by_cases h2 : free T < 2 * k
    · exact .inr (.inl ⟨k, rfl, by omega, h2, if_pos h2⟩)
    · exact .inr (.inr ⟨k, rfl, by omega, by omega, if_neg h2⟩)
theorem took_len (T : List Bool) (m : Int) : (took T m).1.length = T.length := by
  rcases took_cases T m with ⟨_, h⟩ | ⟨k, _, _, _, h⟩ | ⟨k, _, _, _, h⟩ <;> rw [h]
  exact low_map_len _ _ _
end Sp
def GivesTook (b : Nat) (w : World) (r : List Bool × List Int × Nat × Int) (e : Ending) (w' : World) : Prop :=
  ∃ (A : Option Addr) (c : Nat), e = .returned (.tuple #[.slice A r.2.2.1 c, .int .i64 r.2.2.2]) ∧ OwnC 2 w' w.heap.size 56 A r.2.2.1 c (iv r.2.1) ∧ Ch b w w' ∧ MapAt w' b r.1
theorem take_any (b : Nat) (T : List Bool) (m : Int) (w : World) (h : MapAt w b T) : Calls Try.prog 21 #[.pointer (some ⟨b, 0, none⟩), .int .i64 m] w (GivesTook b w (took T m)) := by
  rcases took_cases T m with ⟨h1, h2⟩ | ⟨k, rfl, hk, hf, h2⟩ | ⟨k, rfl, hk, hf, h2⟩
  · rw [h2]
    exact (take_arg b T m w h h1).mono fun e w' ⟨he, hb⟩ => ⟨none, 0, he, OwnC.none_ _ _ _ _, Ch.of_below hb, h.below hb⟩
  · rw [h2]
    exact (take_space b T k w h hk hf).mono fun e w' ⟨he, hb⟩ => ⟨none, 0, he, OwnC.none_ _ _ _ _, Ch.of_below hb, h.below hb⟩
  · rw [h2]
    exact (take_yes b T k w h hk hf).mono fun e w' ⟨A, c, he, hO, hC, hM⟩ => ⟨A, c, he, hO, hC, hM⟩
theorem rtake_any (A : Option Addr) (n cap : Nat) (T : List Bool) (m : Int) (w : World) (h : RdT w A n T) (hn : n ≤ 511) : Calls Try.prog 22 #[.agg #[.slice A n cap], .int .i64 m] w (GivesTaken w A T (took T m).1 (took T m).2.2.1 (took T m).2.1 (took T m).2.2.2) := by
  rcases took_cases T m with ⟨h1, h2⟩ | ⟨k, rfl, hk, hf, h2⟩ | ⟨k, rfl, hk, hf, h2⟩
  · rw [h2]; exact rtake_arg A n cap T m w h h1
  · rw [h2]; exact rtake_space A n cap T k w h hn hk hf
  · rw [h2]; exact rtake_yes A n cap T k w h hn hk hf
set_option maxRecDepth 100000 in
set_option maxHeartbeats 1000000 in
theorem pairs_any (A : Option Addr) (n c : Nat) (B : Option Addr) (d : Nat) (l : List Int) (w : World) (ha : RdC 2 w A n (iv l)) (hb : RdC 2 w B n (iv l)) (hn : n ≤ 1000) : Calls Try.prog 23 #[.slice A n c, .slice B n d] w fun e w' => e = .returned (.bool true) ∧ Below w.heap.size w w' := by
  have HA := Lib.hid ha
  have HB := Lib.hid hb
  clear ha hb
  go_enter Try.func23, Try.ntmps23
  go_wp2
  go_loopw [5] (fun i wr => ∃ k : Nat, k ≤ n ∧ i = .int .i64 (k : Int) ∧ Below w.heap.size w wr) (fun i _ => n - (intOf i).toNat)
  case atStart => exact ⟨0, by omega, rfl, Below.refl _ _⟩
  case round =>
    obtain ⟨k, hk, rfl, hbr⟩ := hrel
    by_cases hkn : k < n
    · have hki : (k : Int) < (n : Int) := by omega
      have hlen : l.length = n * 2 := by have := HA.out.1; rw [iv_length] at this; exact this
      have e1 : (iv l)[k * 2]? = some (.int .i64 (l.getD (k * 2) 0)) := iv_at (by rw [List.getD_eq_getElem?_getD, List.getElem?_eq_getElem (by omega)]; rfl)
      have e2 : (iv l)[k * 2 + 1]? = some (.int .i64 (l.getD (k * 2 + 1) 0)) := iv_at (by rw [List.getD_eq_getElem?_getD, List.getElem?_eq_getElem (by omega)]; rfl)
      obtain ⟨b1, o1, rfl, hb1, hc1⟩ := (HA.out.below hbr).2 (by omega)
      obtain ⟨b2, o2, rfl, hb2, hc2⟩ := (HB.out.below hbr).2 (by omega)
      have c1x := hc1 _ _ e1
      have c1y := hc1 _ _ e2
      have c2x := hc2 _ _ e1
      have c2y := hc2 _ _ e2
      rw [← Nat.add_assoc] at c1y c2y
      clear hc1 hc2 e1 e2 hlen
      generalize l.getD (k * 2) 0 = x at *
      generalize l.getD (k * 2 + 1) 0 = y at *
      go_wp2_with fail
      go_region
      all_goals
        go_wp2_with fail
        go_roundw
        case rel => exact ⟨k + 1, by omega, by go_num, hbr.drew⟩
        case measure => simp [intOf]; omega
    · have hkn2 : k = n := by omega
      subst hkn2
      go_wp2
      go_ret
      exact ⟨rfl, hbr⟩
end Go.Proofs.Ytaaodhnenaoheaa
