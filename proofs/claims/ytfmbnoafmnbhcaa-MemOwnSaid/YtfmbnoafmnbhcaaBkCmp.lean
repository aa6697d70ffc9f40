/- Which of two entries is ahead: package mem's Compare. -/
import Derived.Test.YtfmbnoafmnbhcaaBkEnt
namespace Go.Proofs.Ytfmbnoafmnbhcaa
open Go.RowKit
set_option maxRecDepth 100000 in
theorem isnan_any (x : Int) (w : World) : Calls Try.prog 45 #[.int .i64 x] w fun e w' => e = .returned (.bool false) ∧ w' = w := by
  go_enter Try.func45, Try.ntmps45
  go_wp2
  go_ret
  exact ⟨rfl, rfl⟩
set_option maxRecDepth 100000 in
theorem cmpint_any (x y : Int) (w : World) : Calls Try.prog 39 #[.int .i64 x, .int .i64 y] w fun e w' => e = .returned (.int .i64 (if x < y then -1 else if y < x then 1 else 0)) ∧ w' = w := by
  by_cases h1 : x < y
  · rw [if_pos h1]
    go_enter Try.func39, Try.ntmps39
    go_wp2_with (go_at_call 45; refine (isnan_any _ _).mono ?_; rintro e w1 ⟨rfl, rfl⟩)
    go_ret
    exact ⟨rfl, rfl⟩
  · rw [if_neg h1]
    by_cases h2 : y < x
    · rw [if_pos h2]
      go_enter Try.func39, Try.ntmps39
      go_wp2_with (go_at_call 45; refine (isnan_any _ _).mono ?_; rintro e w1 ⟨rfl, rfl⟩)
      go_ret
      exact ⟨rfl, rfl⟩
    · rw [if_neg h2]
      go_enter Try.func39, Try.ntmps39
      go_wp2_with (go_at_call 45; refine (isnan_any _ _).mono ?_; rintro e w1 ⟨rfl, rfl⟩)
      go_ret
      exact ⟨rfl, rfl⟩
set_option maxRecDepth 100000 in
theorem cmpstr_any (a b : ByteArray) (w : World) : Calls Try.prog 38 #[.string a, .string b] w fun e w' => e = .returned (.int .i64 (Bk.cmpS a b)) ∧ w' = w := by
  have hc := cmpstring_run a b
  go_enter Try.func38, Try.ntmps38
  go_wp2
  go_ret
  exact ⟨rfl, rfl⟩
set_option maxRecDepth 100000 in
set_option maxHeartbeats 2000000 in
theorem ecompare_any (p q : Bk.En × Bk.Sl) (w : World) : Calls Try.prog 31 #[.agg (Bk.cells p).toArray, .agg (Bk.cells q).toArray] w fun e w' => e = .returned (.int .i64 (Bk.cmp p.1 q.1)) ∧ Below w.heap.size w w' := by
  obtain ⟨⟨key, seq, del, val⟩, V, n, c⟩ := p
  obtain ⟨⟨key2, seq2, del2, val2⟩, V2, n2, c2⟩ := q
  have hb2 : Below w.heap.size w ((w.alloc (.cells #[Value.string key, .int .i64 seq, .bool del, .slice V n c] 59)).alloc (.cells #[Value.string key2, .int .i64 seq2, .bool del2, .slice V2 n2 c2] 59)) := ((Below.refl _ _).alloc (Nat.le_refl _) _).alloc (by simp) _
  have HB := Lib.hid hb2
  clear hb2
  show Calls _ _ #[.agg #[.string key, .int .i64 seq, .bool del, .slice V n c], .agg #[.string key2, .int .i64 seq2, .bool del2, .slice V2 n2 c2]] _ fun e w' => e = .returned (.int .i64 (if Bk.cmpS key key2 ≠ 0 then Bk.cmpS key key2 else if seq2 < seq then -1 else if seq < seq2 then 1 else 0)) ∧ _
  generalize hx : Bk.cmpS key key2 = x
  have hcs := Lib.hid (fun w => hx ▸ cmpstr_any key key2 w)
  clear hx
  by_cases h0 : x = 0
  · rw [if_neg (by simp [h0])]
    go_enter Try.func31, Try.ntmps31
    go_wp2_with (first | (go_at_call 38; refine (hcs.out _).mono ?_; rintro e w1 ⟨rfl, rfl⟩) | (go_at_call 39; refine (cmpint_any _ _ _).mono ?_; rintro e w1 ⟨rfl, rfl⟩))
    all_goals
      go_ret
      exact ⟨rfl, HB.out⟩
  · rw [if_pos h0]
    go_enter Try.func31, Try.ntmps31
    go_wp2_with (first | (go_at_call 38; refine (hcs.out _).mono ?_; rintro e w1 ⟨rfl, rfl⟩))
    all_goals
      go_ret
      exact ⟨rfl, HB.out⟩
set_option maxRecDepth 100000 in
set_option maxHeartbeats 2000000 in
theorem compare_any (p q : Bk.En × Bk.Sl) (w : World) : Calls Try.prog 13 #[.agg (Bk.cells p).toArray, .agg (Bk.cells q).toArray] w fun e w' => e = .returned (.int .i64 (Bk.cmp p.1 q.1)) ∧ Below w.heap.size w w' := by
  have hc := Lib.hid (fun wx => ecompare_any p q wx)
  obtain ⟨⟨key, seq, del, val⟩, V, n, c⟩ := p
  obtain ⟨⟨key2, seq2, del2, val2⟩, V2, n2, c2⟩ := q
  have hb2 : Below w.heap.size w ((w.alloc (.cells #[Value.string key, .int .i64 seq, .bool del, .slice V n c] 24)).alloc (.cells #[Value.string key2, .int .i64 seq2, .bool del2, .slice V2 n2 c2] 24)) := ((Below.refl _ _).alloc (Nat.le_refl _) _).alloc (by simp) _
  have HB := Lib.hid hb2
  clear hb2
  show Calls _ _ #[.agg #[.string key, .int .i64 seq, .bool del, .slice V n c], .agg #[.string key2, .int .i64 seq2, .bool del2, .slice V2 n2 c2]] _ _
  go_enter Try.func13, Try.ntmps13
  go_wp2_with fail
  refine (hc.out _).mono ?_
  rintro e w1 ⟨rfl, hb1⟩
  have HQ := Lib.hid (below_next HB.out hb1)
  clear hb1
  go_wp2_with fail
  go_ret
  exact ⟨rfl, HQ.out⟩
end Go.Proofs.Ytfmbnoafmnbhcaa
