/- What package code's own number returns: the number at the beginning of any bytes, and how many bytes it has there. -/
import Derived.Test.YthfcjlndaajkfaaGreatN04
namespace Go.Proofs.YthfcjlndaajkfaaGreat
open Go.RowKit
def GivesNumber (w : World) (l : List Nat) (o : Option (Nat × List Nat)) (e : Ending) (w' : World) : Prop :=
  w = w' ∧ match o with
  | none => e = .returned (.tuple #[.int .u64 0, .int .i64 0])
  | some (v, r) => ∃ k : Nat, e = .returned (.tuple #[.int .u64 (v : Int), .int .i64 (k : Int)]) ∧ 1 ≤ k ∧ k ≤ l.length ∧ r = l.drop k ∧ v < 18446744073709551616
/-- What the loop knows: the bytes so far are all of 128 or more, and their number. -/
def Sofar (l : List Nat) (j v : Nat) : Prop := Led l j ∧ v = Cd.val7 (l.take j) ∧ v < 128 ^ j
set_option maxRecDepth 100000 in
theorem number_any (A : Option Addr) (n cap : Nat) (l : List Nat) (w : World) (hl : Rd w A n l) (hc : n ≤ cap) (hn : n ≤ 1000000) :
    Calls Tryz.prog 102 #[.slice A n cap] w (GivesNumber w l (Cd.takeNum l)) := by
  obtain ⟨m, hm⟩ : ∃ m, m = min n 10 := ⟨_, rfl⟩
  have hm1 : m ≤ n := by omega
  have hm2 : m ≤ 10 := by omega
  have Hm := Lib.hid hm
  clear hm
  go_enter Tryz.func102, Tryz.ntmps102
  go_wp2
  all_goals
    have hmm := Hm.out
    first
    | (rw [show Value.slice A 10 cap = Value.slice A m cap by rw [show m = 10 by omega]])
    | (rw [show Value.slice A n cap = Value.slice A m cap by rw [show m = n by omega]])
    first
    | (rw [show Value.int .i64 (max 10 0) = Value.int .i64 (m : Int) by rw [show m = 10 by omega]; rfl])
    | (rw [show Value.int .i64 (n : Int) = Value.int .i64 (m : Int) by rw [show m = n by omega]])
    clear hmm
    go_loop [4, 13] (fun v i => ∃ j y : Nat, j ≤ m ∧ i = .int .i64 (j : Int) ∧ v = .int .u64 (y : Int) ∧ Hid (Sofar l j y)) (fun _ i => m - (intOf i).toNat)
    case atStart => exact ⟨0, 0, by omega, rfl, rfl, Lib.hid ⟨fun i x hi => by omega, rfl, by simp⟩⟩
    case round =>
      obtain ⟨j, y, hj, rfl, rfl, hS⟩ := hrel
      by_cases hjm : j < m
      · have hjm' : (j : Int) < (m : Int) := by omega
        obtain ⟨b, o, x, rfl, hb, hx, hx256, hcell⟩ := hl.at_ (k := j) (by omega)
        have hx2 : (x : Int) < 256 := by omega
        have Hx := Lib.hid hx
        have Hcell := Lib.hid hcell
        clear hx
        have hlj : j < l.length := by rw [hl.1]; omega
        have hy := hS.out.2.2
        by_cases h9 : j = 9 ∧ 1 < x
        · obtain ⟨h9a, h9b⟩ := h9
          have hb1 : ((j : Int) == 9) = true := by rw [beq_iff_eq]; omega
          have hb2 : (1 : Int) < (x : Int) := by omega
          have hnone := Cd.take_big hS.out.1 h9a Hx.out h9b
          have Hnone := Lib.hid hnone
          clear h9a hnone hy
          go_wp2
          go_ret2
          rw [Hnone.out]
          exact ⟨rfl, rfl⟩
        · have hx9 : j = 9 → x ≤ 1 := fun e => Nat.le_of_not_lt fun h => h9 ⟨e, h⟩
          have hv := or_step j y x (by omega) hy hx9
          have hbd := Cd.val_bound l j x (by omega) Hx.out hx9
          rw [Cd.val7_take l j x Hx.out, ← hS.out.2.1] at hbd
          obtain ⟨z, hz⟩ : ∃ z : Nat, z = y + x % 128 * 128 ^ j := ⟨_, rfl⟩
          rw [← hz] at hv hbd
          have Hz := Lib.hid hz
          have Hbd := Lib.hid hbd
          have Hx9 := Lib.hid hx9
          have hg : ((j : Int) == 9) = false ∨ ((j : Int) == 9) = true ∧ ¬ 1 < (x : Int) := by
            by_cases e : j = 9
            · right; rw [beq_iff_eq]; exact ⟨by omega, by have := hx9 e; omega⟩
            · left; rw [beq_eq_false_iff_ne]; omega
          clear h9 hx9 hz hy hbd
          by_cases h128 : 128 ≤ x
          · have hb1 : ((j : Int) == 9) = false := by rcases hg with hg | hg; exact hg; omega
            have hb2 : 128 ≤ (x : Int) := by omega
            clear hg
            go_wp2
            go_round
            case rel =>
              refine ⟨j + 1, z, by omega, by go_num, rfl, Lib.hid ⟨fun i c hi hy => ?_, ?_, ?_⟩⟩
              · by_cases e : i = j
                · subst e; rw [Hx.out] at hy; injection hy with hy; omega
                · exact hS.out.1 i c (by omega) hy
              · rw [Cd.val7_take l j x Hx.out, ← hS.out.2.1, Hz.out]
              · have h3 := Cd.val7_take_lt l (j + 1) (by omega)
                rw [Cd.val7_take l j x Hx.out, ← hS.out.2.1, ← Hz.out] at h3
                exact h3
            case measure => simp [intOf]; omega
          · have hb2 : ¬ 128 ≤ (x : Int) := by omega
            by_cases h0 : x = 0 ∧ 0 < j
            · obtain ⟨h0a, h0b⟩ := h0
              subst h0a
              have hnone := Cd.take_zero hS.out.1 h0b (by omega) Hx.out
              have Hnone := Lib.hid hnone
              have hbj : (0 : Int) < (j : Int) := by omega
              clear hnone
              rcases hg with hg | ⟨hg, hg2⟩
              all_goals
                go_wp2
                go_ret2
                rw [Hnone.out]
                exact ⟨rfl, rfl⟩
            · have hsome := Cd.take_some hS.out.1 (by omega) Hx.out (by omega) (by omega) Hx9.out
              rw [← hS.out.2.1, ← Hz.out] at hsome
              have Hsome := Lib.hid hsome
              clear hsome
              have hx0 : ((x : Int) == 0) = false ∨ ((x : Int) == 0) = true ∧ ¬ 0 < j := by
                by_cases e : x = 0
                · right; rw [beq_iff_eq]; omega
                · left; rw [beq_eq_false_iff_ne]; omega
              clear h0
              rcases hg with hg | ⟨hg, hg2⟩ <;> rcases hx0 with hx0 | ⟨hx0, hx0b⟩
              all_goals
                go_wp2
                go_ret2
                rw [Hsome.out]
                exact ⟨rfl, j + 1, rfl, by omega, by omega, rfl, Hbd.out⟩
      · have hjm2 : j = m := by omega
        subst hjm2
        have hnone := Cd.take_end hS.out.1 (by rw [hl.1]; exact Hm.out)
        have Hnone := Lib.hid hnone
        clear hnone
        go_wp2
        go_ret2
        rw [Hnone.out]
        exact ⟨rfl, rfl⟩
end Go.Proofs.YthfcjlndaajkfaaGreat
