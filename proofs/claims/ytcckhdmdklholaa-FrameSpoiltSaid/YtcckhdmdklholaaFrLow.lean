/- The document's Check and low. -/
import Derived.Test.YtcckhdmdklholaaFrCheck
import Derived.BigQuiet
namespace Go.Proofs.Ytcckhdmdklholaa
open Go.RowKit Fr
set_option linter.unusedVariables false
namespace Fr
/-- A number in k bytes, the lowest first. -/
def le (k n : Nat) : List Nat := (List.range k).map fun i => n / 256 ^ i % 256
theorem le_len (k n : Nat) : (le k n).length = k := by simp [le]
theorem le_lt (k n : Nat) : ∀ x ∈ le k n, x < 256 := by
  intro x hx
  obtain ⟨i, _, rfl⟩ := List.mem_map.1 hx
  exact Nat.mod_lt _ (by omega)
theorem le_snoc (k n : Nat) : le (k + 1) n = le k n ++ [n / 256 ^ k % 256] := by
  unfold le; rw [List.range_succ, List.map_append]; rfl
end Fr
set_option maxRecDepth 100000 in
set_option maxHeartbeats 1000000 in
theorem rcheck_any (f e i : Int) (w : World) : Calls Try.prog 13 #[.agg #[.int .i64 f, .int .i64 e, .int .i64 i]] w fun x w' => x = .returned (.int .i64 (if okS f e i then 0 else 1)) ∧ Below w.heap.size w w' := by
  by_cases h : okS f e i = true
  · obtain ⟨⟨f1, f2⟩, ⟨e1, e2⟩, i1, i2⟩ := okS_iff.1 h
    have f3 : ¬ f < 0 := by omega
    have f4 : ¬ 2147483647 < f := by omega
    have e3 : ¬ e < 0 := by omega
    have e4 : ¬ 2147483647 < e := by omega
    have i3 : ¬ i < 0 := by omega
    have i4 : ¬ 2147483647 < i := by omega
    rw [if_pos h]
    clear h
    go_enter Try.func13, Try.ntmps13
    go_wp2
    go_ret
    exact ⟨rfl, (Below.refl _ _).alloc (Nat.le_refl _) _⟩
  · rw [if_neg h]
    by_cases hf : okN f = true
    · obtain ⟨f1, f2⟩ := okN_iff.1 hf
      have f3 : ¬ f < 0 := by omega
      have f4 : ¬ 2147483647 < f := by omega
      by_cases he : okN e = true
      · obtain ⟨e1, e2⟩ := okN_iff.1 he
        have e3 : ¬ e < 0 := by omega
        have e4 : ¬ 2147483647 < e := by omega
        have hi : ¬ okN i = true := fun hi => h (by unfold okS; rw [hf, he, hi]; rfl)
        clear h hf he
        rcases okN_no hi with hi | ⟨hi, hi2⟩
        all_goals
          go_enter Try.func13, Try.ntmps13
          go_wp2
          go_ret
          exact ⟨rfl, (Below.refl _ _).alloc (Nat.le_refl _) _⟩
      · clear h hf
        rcases okN_no he with hi | ⟨hi, hi2⟩
        all_goals
          go_enter Try.func13, Try.ntmps13
          go_wp2
          go_ret
          exact ⟨rfl, (Below.refl _ _).alloc (Nat.le_refl _) _⟩
    · clear h
      rcases okN_no hf with hi | ⟨hi, hi2⟩
      all_goals
        go_enter Try.func13, Try.ntmps13
        go_wp2
        go_ret
        exact ⟨rfl, (Below.refl _ _).alloc (Nat.le_refl _) _⟩
/-- Bytes of the call's own. -/
def GivesOwnB (w : World) (l : List Nat) (e : Ending) (w' : World) : Prop :=
  ∃ (A : Option Addr) (c : Nat), e = .returned (.slice A l.length c) ∧ Own w' w.heap.size A l.length c l ∧ Below w.heap.size w w'
set_option maxRecDepth 100000 in
set_option maxHeartbeats 1000000 in
theorem low_any (n k : Nat) (w : World) (hn : n < 9223372036854775808) (hk : k ≤ 8) : Calls Try.prog 22 #[.int .i64 (n : Int), .int .i64 (k : Int)] w (GivesOwnB w (le k n)) := by
  go_enter Try.func22, Try.ntmps22
  go_wp2
  go_loopw [0, 5, 6] (fun m l i wr => ∃ (j q c : Nat) (B : Option Addr), j ≤ k ∧ i = .int .i64 (j : Int) ∧ m = .int .i64 (q : Int) ∧ q ≤ n ∧ Hid (q = n / 256 ^ j) ∧ l = .slice B j c ∧ Own wr w.heap.size B j c (le j n) ∧ Below w.heap.size w wr) (fun _ _ i _ => k - (intOf i).toNat)
  case atStart => exact ⟨0, n, 0, none, by omega, rfl, rfl, Nat.le_refl _, Lib.hid (by simp), rfl, Own.none_ _ _, Below.refl _ _⟩
  case round =>
    obtain ⟨j, q, c, B, hj, rfl, rfl, hqn, hQ, rfl, hO, hb⟩ := hrel
    by_cases hjk : j < k
    · have hji : (j : Int) < (k : Int) := by omega
      have hqi : (q : Int) ≤ 9223372036854775807 := by omega
      have hnext : q / 256 = n / 256 ^ (j + 1) := by rw [hQ.out, Nat.div_div_eq_div_mul, Nat.pow_succ]
      have hbyte : le (j + 1) n = le j n ++ [q % 256] := by rw [le_snoc, hQ.out]
      have HNext := Lib.hid hnext
      have HByte := Lib.hid hbyte
      have hOa : Own (wr.alloc (.cells #[.int .u8 ((q : Int) % 256)] 5)) w.heap.size B j c (le j n) := hO.alloc _
      have hra : Rd (wr.alloc (.cells #[.int .u8 ((q : Int) % 256)] 5)) (some ⟨wr.heap.size, 0, none⟩) 1 [q % 256] := by
        have := rd_new wr [q % 256] (by intro x hx; rw [List.mem_singleton] at hx; omega) (0, 0)
        simpa [bv] using this
      have hba : w.heap.size ≤ (wr.alloc (.cells #[.int .u8 ((q : Int) % 256)] 5)).heap.size := by have := hb.size; simp; omega
      have hbb : Below w.heap.size w (wr.alloc (.cells #[.int .u8 ((q : Int) % 256)] 5)) := hb.alloc hb.size _
      have HO := Lib.hid hO
      have hle : j + 1 ≤ 100000000 := by omega
      clear hnext hbyte hO
      go_wp2_with (first | (at_builtin; refine wpList_appB rfl (.tmp 12) (.tmp 16) rfl rfl hOa (some ⟨wr.heap.size, 0, none⟩) 1 1 [q % 256] rfl hra hle hba ?_; intro A3 c3 v3 hg3))
      have hb3 := hg3.below hbb hba (fun g h => (HO.out.blk g h).1)
      have hO3 := hg3.own
      rw [← HByte.out] at hO3
      clear hOa hra hba hbb hg3
      obtain ⟨q2, hq2⟩ : ∃ q2, q2 = q / 256 := ⟨_, rfl⟩
      have hq2i : (q : Int) / 256 = (q2 : Int) := by omega
      go_roundw
      case rel => exact ⟨j + 1, q2, c3, A3, by omega, by go_num, by rw [hq2i], by omega, Lib.hid (by rw [hq2]; exact HNext.out), rfl, hO3, hb3⟩
      case measure => simp [intOf]; omega
    · have hjk2 : j = k := by omega
      subst hjk2
      go_wp2
      go_ret
      have hl := le_len j n
      refine ⟨B, c, ?_, ?_, hb⟩
      · rw [hl]; rfl
      · rw [hl]; exact hO
end Go.Proofs.Ytcckhdmdklholaa
