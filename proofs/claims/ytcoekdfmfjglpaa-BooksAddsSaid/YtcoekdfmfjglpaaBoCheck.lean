/- Which lines may be: the program's and the document's. -/
import Derived.Test.YtcoekdfmfjglpaaBoBase
namespace Go.Proofs.Ytcoekdfmfjglpaa
open Go.RowKit
set_option maxRecDepth 100000 in
set_option maxHeartbeats 4000000 in
theorem checkl_any (x : Bo.Ln) (w : World) (hs : x.key.size ≤ 9223372036854775807) : Calls Try.prog 11 #[.agg x.cells.toArray] w fun e w' => e = .returned (.int .i64 (if Bo.okL x then 0 else 230)) ∧ Below w.heap.size w w' := by
  obtain ⟨kind, key, n⟩ := x
  have HB := Lib.hid (show Below w.heap.size w (w.alloc (.cells #[Value.int .i64 kind, .string key, .int .i64 n] 25)) from (Below.refl _ _).alloc (Nat.le_refl _) _)
  have HN := Lib.hid (fun (u : World) => isname_any key u hs)
  clear hs
  show Calls _ _ #[.agg #[.int .i64 kind, .string key, .int .i64 n]] _ _
  unfold Bo.okL
  dsimp only
  by_cases h1 : kind < 1
  · have f1 : kind < 1 := by omega
    rw [show (decide (1 ≤ kind ∧ kind ≤ 8) && Bo.nm key && decide (1 ≤ n ∧ n ≤ 1125899906842624)) = false from by rw [decide_eq_false (by omega)]; rfl]
    rw [if_neg (by decide)]
    clear h1
    go_enter Try.func11, Try.ntmps11
    go_wp2_with (go_at_call 23; refine (HN.out _).mono ?_; rintro e w1 ⟨rfl, rfl⟩)
    go_ret
    exact ⟨rfl, HB.out⟩
  by_cases h2 : 8 < kind
  · have f1 : ¬ kind < 1 := by omega
    have f2 : 8 < kind := by omega
    rw [show (decide (1 ≤ kind ∧ kind ≤ 8) && Bo.nm key && decide (1 ≤ n ∧ n ≤ 1125899906842624)) = false from by rw [decide_eq_false (by omega)]; rfl]
    rw [if_neg (by decide)]
    clear h1 h2
    go_enter Try.func11, Try.ntmps11
    go_wp2_with (go_at_call 23; refine (HN.out _).mono ?_; rintro e w1 ⟨rfl, rfl⟩)
    go_ret
    exact ⟨rfl, HB.out⟩
  have f1 : ¬ kind < 1 := by omega
  have f2 : ¬ 8 < kind := by omega
  have hk : decide (1 ≤ kind ∧ kind ≤ 8) = true := decide_eq_true (by omega)
  rw [hk]
  clear hk h1 h2
  cases hn : Bo.nm key with
  | false =>
    rw [hn] at HN
    rw [show (true && false && decide (1 ≤ n ∧ n ≤ 1125899906842624)) = false from rfl]
    rw [if_neg (by decide)]
    clear hn
    go_enter Try.func11, Try.ntmps11
    go_wp2_with (go_at_call 23; refine (HN.out _).mono ?_; rintro e w1 ⟨rfl, rfl⟩)
    go_ret
    exact ⟨rfl, HB.out⟩
  | true =>
    rw [hn] at HN
    clear hn
    rw [show (true && true && decide (1 ≤ n ∧ n ≤ 1125899906842624)) = decide (1 ≤ n ∧ n ≤ 1125899906842624) from rfl]
    by_cases h3 : n < 1
    · have f3 : n < 1 := by omega
      rw [decide_eq_false (by omega)]
      rw [if_neg (by decide)]
      clear h3
      go_enter Try.func11, Try.ntmps11
      go_wp2_with (go_at_call 23; refine (HN.out _).mono ?_; rintro e w1 ⟨rfl, rfl⟩)
      go_ret
      exact ⟨rfl, HB.out⟩
    by_cases h4 : 1125899906842624 < n
    · have f3 : ¬ n < 1 := by omega
      have f4 : 1125899906842624 < n := by omega
      rw [decide_eq_false (by omega)]
      rw [if_neg (by decide)]
      clear h3 h4
      go_enter Try.func11, Try.ntmps11
      go_wp2_with (go_at_call 23; refine (HN.out _).mono ?_; rintro e w1 ⟨rfl, rfl⟩)
      go_ret
      exact ⟨rfl, HB.out⟩
    have f3 : ¬ n < 1 := by omega
    have f4 : ¬ 1125899906842624 < n := by omega
    rw [decide_eq_true (by omega)]
    rw [if_pos rfl]
    clear h3 h4
    go_enter Try.func11, Try.ntmps11
    go_wp2_with (go_at_call 23; refine (HN.out _).mono ?_; rintro e w1 ⟨rfl, rfl⟩)
    go_ret
    exact ⟨rfl, HB.out⟩
set_option maxRecDepth 100000 in
set_option maxHeartbeats 4000000 in
theorem isl_any (x : Bo.Ln) (w : World) (hs : x.key.size ≤ 9223372036854775807) : Calls Try.prog 14 #[.agg x.cells.toArray] w fun e w' => e = .returned (.bool (Bo.okL x)) ∧ Below w.heap.size w w' := by
  obtain ⟨kind, key, n⟩ := x
  have HB := Lib.hid (show Below w.heap.size w (w.alloc (.cells #[Value.int .i64 kind, .string key, .int .i64 n] 25)) from (Below.refl _ _).alloc (Nat.le_refl _) _)
  have HN := Lib.hid (fun (u : World) => rname_any key u hs)
  clear hs
  show Calls _ _ #[.agg #[.int .i64 kind, .string key, .int .i64 n]] _ _
  unfold Bo.okL
  dsimp only
  by_cases h1 : kind < 1
  · have f1 : ¬ 1 ≤ kind := by omega
    rw [show (decide (1 ≤ kind ∧ kind ≤ 8) && Bo.nm key && decide (1 ≤ n ∧ n ≤ 1125899906842624)) = false from by rw [decide_eq_false (by omega)]; rfl]
    clear h1
    go_enter Try.func14, Try.ntmps14
    go_wp2_with (go_at_call 24; refine (HN.out _).mono ?_; rintro e w1 ⟨rfl, rfl⟩)
    go_ret
    exact ⟨rfl, HB.out⟩
  by_cases h2 : 8 < kind
  · have f1 : 1 ≤ kind := by omega
    have f2 : ¬ kind ≤ 8 := by omega
    rw [show (decide (1 ≤ kind ∧ kind ≤ 8) && Bo.nm key && decide (1 ≤ n ∧ n ≤ 1125899906842624)) = false from by rw [decide_eq_false (by omega)]; rfl]
    clear h1 h2
    go_enter Try.func14, Try.ntmps14
    go_wp2_with (go_at_call 24; refine (HN.out _).mono ?_; rintro e w1 ⟨rfl, rfl⟩)
    go_ret
    exact ⟨rfl, HB.out⟩
  have f1 : 1 ≤ kind := by omega
  have f2 : kind ≤ 8 := by omega
  have hk : decide (1 ≤ kind ∧ kind ≤ 8) = true := decide_eq_true (by omega)
  rw [hk]
  clear hk h1 h2
  cases hn : Bo.nm key with
  | false =>
    rw [hn] at HN
    rw [show (true && false && decide (1 ≤ n ∧ n ≤ 1125899906842624)) = false from rfl]
    clear hn
    go_enter Try.func14, Try.ntmps14
    go_wp2_with (go_at_call 24; refine (HN.out _).mono ?_; rintro e w1 ⟨rfl, rfl⟩)
    go_ret
    exact ⟨rfl, HB.out⟩
  | true =>
    rw [hn] at HN
    clear hn
    rw [show (true && true && decide (1 ≤ n ∧ n ≤ 1125899906842624)) = decide (1 ≤ n ∧ n ≤ 1125899906842624) from rfl]
    by_cases h3 : n < 1
    · have f3 : ¬ 1 ≤ n := by omega
      rw [decide_eq_false (by omega)]
      clear h3
      go_enter Try.func14, Try.ntmps14
      go_wp2_with (go_at_call 24; refine (HN.out _).mono ?_; rintro e w1 ⟨rfl, rfl⟩)
      go_ret
      exact ⟨rfl, HB.out⟩
    by_cases h4 : 1125899906842624 < n
    · have f3 : 1 ≤ n := by omega
      have f4 : ¬ n ≤ 1125899906842624 := by omega
      have f5 : decide (n ≤ 1125899906842624) = false := decide_eq_false f4
      rw [decide_eq_false (by omega)]
      clear h3 h4
      go_enter Try.func14, Try.ntmps14
      go_wp2_with (go_at_call 24; refine (HN.out _).mono ?_; rintro e w1 ⟨rfl, rfl⟩)
      go_ret
      exact ⟨rfl, HB.out⟩
    have f3 : 1 ≤ n := by omega
    have f4 : n ≤ 1125899906842624 := by omega
    rw [decide_eq_true (by omega)]
    clear h3 h4
    go_enter Try.func14, Try.ntmps14
    go_wp2_with (go_at_call 24; refine (HN.out _).mono ?_; rintro e w1 ⟨rfl, rfl⟩)
    go_ret
    exact ⟨rfl, HB.out⟩
end Go.Proofs.Ytcoekdfmfjglpaa
