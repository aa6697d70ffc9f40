/- What outbox's Send, Name, isPeer, number, peerText and the document's twins return; keys of one to three parts. -/
import Derived.Test.YtaoiokilnmpniaaBoxRTake
import Derived.Test.YtaoiokilnmpniaaCodeUniK
namespace Go.Proofs.Ytaoiokilnmpniaa
open Go.RowKit
set_option linter.unusedVariables false
def nameB (s : ByteArray) : Bool := decide (1 ≤ s.size ∧ s.size ≤ 16)
set_option maxRecDepth 100000 in
theorem name_any (s : ByteArray) (w : World) (hs : s.size ≤ 9223372036854775807) : Calls Try.prog 22 #[.string s] w fun e w' => e = .returned (.bool (nameB s)) ∧ w = w' := by
  unfold nameB
  by_cases h1 : (1 : Int) ≤ (s.size : Int)
  · by_cases h2 : (s.size : Int) ≤ 16
    · rw [decide_eq_true (by omega)]
      go_enter Try.func22, Try.ntmps22
      go_wp2
      go_ret
      exact ⟨rfl, rfl⟩
    · rw [decide_eq_false (by omega)]
      have hd : decide ((s.size : Int) ≤ 16) = false := decide_eq_false h2
      go_enter Try.func22, Try.ntmps22
      go_wp2
      go_ret
      exact ⟨rfl, rfl⟩
  · rw [decide_eq_false (by omega)]
    go_enter Try.func22, Try.ntmps22
    go_wp2
    go_ret
    exact ⟨rfl, rfl⟩
set_option maxRecDepth 100000 in
theorem rname_any (s : ByteArray) (w : World) (hs : s.size ≤ 9223372036854775807) : Calls Try.prog 23 #[.string s] w fun e w' => e = .returned (.bool (nameB s)) ∧ w = w' := by
  unfold nameB
  by_cases h1 : (1 : Int) ≤ (s.size : Int)
  · by_cases h2 : (s.size : Int) ≤ 16
    · rw [decide_eq_true (by omega)]
      go_enter Try.func23, Try.ntmps23
      go_wp2
      go_ret
      exact ⟨rfl, rfl⟩
    · rw [decide_eq_false (by omega)]
      have hd : decide ((s.size : Int) ≤ 16) = false := decide_eq_false h2
      go_enter Try.func23, Try.ntmps23
      go_wp2
      go_ret
      exact ⟨rfl, rfl⟩
  · rw [decide_eq_false (by omega)]
    go_enter Try.func23, Try.ntmps23
    go_wp2
    go_ret
    exact ⟨rfl, rfl⟩
theorem rpeer_any (n : Int) (w : World) : Calls Try.prog 61 #[.int .i64 n] w fun e w' => e = .returned (.bool (withinB n 1 15)) ∧ w = w' := by
  by_cases h1 : 1 ≤ n
  all_goals
    go_enter Try.func61, Try.ntmps61
    go_wp2
    go_ret
    refine ⟨?_, rfl⟩
    unfold withinB
    simp
    omega
theorem rseq_any (n : Int) (w : World) : Calls Try.prog 57 #[.int .i64 n] w fun e w' => e = .returned (.bool (withinB n 0 1099511627776)) ∧ w = w' := by
  by_cases h1 : 0 ≤ n
  all_goals
    go_enter Try.func57, Try.ntmps57
    go_wp2
    go_ret
    refine ⟨?_, rfl⟩
    unfold withinB
    simp
    omega
theorem ispeer_any (n : Int) (w : World) : Calls Try.prog 59 #[.int .i64 n] w fun e w' => e = .returned (.bool (withinB n 1 15)) ∧ w = w' := by
  have hw := fun W => within_any n 1 15 W
  generalize withinB n 1 15 = b at *
  have Hw := Lib.hid hw
  clear hw
  go_enter Try.func59, Try.ntmps59
  go_wp2_with (first | (go_at_call 52; refine (Hw.out _).mono ?_; rintro e w' ⟨rfl, rfl⟩))
  go_ret
  exact ⟨rfl, rfl⟩
/-- A number as so many bytes. -/
def numS (n : Int) (k : Nat) : ByteArray := str (Cd.fixed (IntKind.u64.wrap n).toNat (k : Int))
theorem u64_form (n : Int) : IntKind.u64.wrap n = ((IntKind.u64.wrap n).toNat : Int) ∧ (IntKind.u64.wrap n).toNat < 18446744073709551616 := by
  rw [IntKind.wrap_u64]; omega
theorem numS_size (n : Int) (k : Nat) : (numS n k).size ≤ 8 := by
  unfold numS str
  have := Cd.fixed_length (IntKind.u64.wrap n).toNat (k : Int)
  show (List.toArray _).size ≤ 8
  simpa using this
set_option maxRecDepth 100000 in
theorem number_one (n : Int) (w : World) : Calls Try.prog 56 #[.int .i64 n] w fun e w' => e = .returned (.string (numS n 8)) ∧ Below w.heap.size w w' := by
  obtain ⟨hu, hlt⟩ := u64_form n
  have hf := fun W => fixed_any (IntKind.u64.wrap n).toNat (8 : Int) hlt W
  unfold numS
  generalize (IntKind.u64.wrap n).toNat = c at *
  have Hf := Lib.hid hf
  clear hf
  go_enter Try.func56, Try.ntmps56
  go_wp2_with (first | (go_at_call 78; refine (Hf.out _).mono ?_; rintro e w1 ⟨A1, c1, rfl, ho1, hb1⟩; have hcv := run_str (cap := c1) ho1.rd))
  go_ret
  exact ⟨rfl, hb1⟩
set_option maxRecDepth 100000 in
theorem peertext_one (n : Int) (w : World) : Calls Try.prog 60 #[.int .i64 n] w fun e w' => e = .returned (.string (numS n 1)) ∧ Below w.heap.size w w' := by
  obtain ⟨hu, hlt⟩ := u64_form n
  have hf := fun W => fixed_any (IntKind.u64.wrap n).toNat (1 : Int) hlt W
  unfold numS
  generalize (IntKind.u64.wrap n).toNat = c at *
  have Hf := Lib.hid hf
  clear hf
  go_enter Try.func60, Try.ntmps60
  go_wp2_with (first | (go_at_call 78; refine (Hf.out _).mono ?_; rintro e w1 ⟨A1, c1, rfl, ho1, hb1⟩; have hcv := run_str (cap := c1) ho1.rd))
  go_ret
  exact ⟨rfl, hb1⟩
set_option maxRecDepth 100000 in
theorem rlong_one (n : Int) (w : World) : Calls Try.prog 58 #[.int .i64 n] w fun e w' => e = .returned (.string (numS n 8)) ∧ Below w.heap.size w w' := by
  obtain ⟨hu, hlt⟩ := u64_form n
  have hf := fun W => rfixed_any (IntKind.u64.wrap n).toNat (8 : Int) hlt W
  unfold numS
  generalize (IntKind.u64.wrap n).toNat = c at *
  have Hf := Lib.hid hf
  clear hf
  go_enter Try.func58, Try.ntmps58
  go_wp2_with (first | (go_at_call 79; refine (Hf.out _).mono ?_; rintro e w1 ⟨A1, c1, rfl, ho1, hb1⟩; have hcv := run_str (cap := c1) ho1.rd))
  go_ret
  exact ⟨rfl, hb1⟩
set_option maxRecDepth 100000 in
theorem rbyte_one (n : Int) (w : World) : Calls Try.prog 62 #[.int .i64 n] w fun e w' => e = .returned (.string (numS n 1)) ∧ Below w.heap.size w w' := by
  obtain ⟨hu, hlt⟩ := u64_form n
  have hf := fun W => rfixed_any (IntKind.u64.wrap n).toNat (1 : Int) hlt W
  unfold numS
  generalize (IntKind.u64.wrap n).toNat = c at *
  have Hf := Lib.hid hf
  clear hf
  go_enter Try.func62, Try.ntmps62
  go_wp2_with (first | (go_at_call 79; refine (Hf.out _).mono ?_; rintro e w1 ⟨A1, c1, rfl, ho1, hb1⟩; have hcv := run_str (cap := c1) ho1.rd))
  go_ret
  exact ⟨rfl, hb1⟩
theorem rds_lits (w : World) (l : List ByteArray) : RdS (w.alloc (.cells (sv l).toArray 9)) (some ⟨w.heap.size, 0, none⟩) l.length l := by
  refine ⟨rfl, fun _ => ⟨w.heap.size, 0, rfl, by simp, fun j x hx => ?_⟩⟩
  rw [Nat.zero_add, World.cell?_alloc_mark]
  have := sv_at hx
  simpa using this
/-- A key, or that it may not be. -/
def mkS (ok : Bool) (l : List ByteArray) : ByteArray := if ok then str (Cd.keyOf l) else ⟨#[]⟩
def mkE (ok : Bool) : Int := if ok then 0 else 1
def GivesKey (w : World) (ok : Bool) (l : List ByteArray) (e : Ending) (w' : World) : Prop := e = .returned (.tuple #[.string (mkS ok l), .int .i64 (mkE ok)]) ∧ Below w.heap.size w w'
theorem below_after {w w' : World} (o : Obj) (h : Below (w.alloc o).heap.size (w.alloc o) w') : Below w.heap.size w w' := ((Below.refl _ _).alloc (Nat.le_refl _) o).trans (h.mono (size_alloc_le _ _))
theorem key1 (a : ByteArray) (ha : a.size ≤ 100000) (w : World) : Calls Try.prog 53 #[.slice (some ⟨w.heap.size, 0, none⟩) 1 1] (w.alloc (.cells #[.string a] 9)) fun e w' => e = .returned (.tuple #[.string (str (Cd.keyOf [a])), .int .i64 0]) ∧ Below w.heap.size w w' :=
  (key_few _ 1 1 [a] _ (rds_lits w [a]) (by omega) (by simp only [List.mem_cons, List.not_mem_nil, or_false]; rintro p (rfl) <;> assumption)).mono fun e w' ⟨h1, h2⟩ => ⟨h1, below_after _ h2⟩
theorem key2 (a b : ByteArray) (ha : a.size ≤ 100000) (hb : b.size ≤ 100000) (w : World) : Calls Try.prog 53 #[.slice (some ⟨w.heap.size, 0, none⟩) 2 2] (w.alloc (.cells #[.string a, .string b] 9)) fun e w' => e = .returned (.tuple #[.string (str (Cd.keyOf [a, b])), .int .i64 0]) ∧ Below w.heap.size w w' :=
  (key_few _ 2 2 [a, b] _ (rds_lits w [a, b]) (by omega) (by simp only [List.mem_cons, List.not_mem_nil, or_false]; rintro p (rfl | rfl) <;> assumption)).mono fun e w' ⟨h1, h2⟩ => ⟨h1, below_after _ h2⟩
theorem key3 (a b c : ByteArray) (ha : a.size ≤ 100000) (hb : b.size ≤ 100000) (hc : c.size ≤ 100000) (w : World) : Calls Try.prog 53 #[.slice (some ⟨w.heap.size, 0, none⟩) 3 3] (w.alloc (.cells #[.string a, .string b, .string c] 9)) fun e w' => e = .returned (.tuple #[.string (str (Cd.keyOf [a, b, c])), .int .i64 0]) ∧ Below w.heap.size w w' :=
  (key_few _ 3 3 [a, b, c] _ (rds_lits w [a, b, c]) (by omega) (by simp only [List.mem_cons, List.not_mem_nil, or_false]; rintro p (rfl | rfl | rfl) <;> assumption)).mono fun e w' ⟨h1, h2⟩ => ⟨h1, below_after _ h2⟩
theorem rkey1 (a : ByteArray) (ha : a.size ≤ 100000) (w : World) : Calls Try.prog 55 #[.slice (some ⟨w.heap.size, 0, none⟩) 1 1] (w.alloc (.cells #[.string a] 9)) fun e w' => e = .returned (.tuple #[.string (str (Cd.keyOf [a])), .int .i64 0]) ∧ Below w.heap.size w w' :=
  (rkey_few _ 1 1 [a] _ (rds_lits w [a]) (by omega) (by simp only [List.mem_cons, List.not_mem_nil, or_false]; rintro p (rfl) <;> assumption)).mono fun e w' ⟨h1, h2⟩ => ⟨h1, below_after _ h2⟩
theorem rkey2 (a b : ByteArray) (ha : a.size ≤ 100000) (hb : b.size ≤ 100000) (w : World) : Calls Try.prog 55 #[.slice (some ⟨w.heap.size, 0, none⟩) 2 2] (w.alloc (.cells #[.string a, .string b] 9)) fun e w' => e = .returned (.tuple #[.string (str (Cd.keyOf [a, b])), .int .i64 0]) ∧ Below w.heap.size w w' :=
  (rkey_few _ 2 2 [a, b] _ (rds_lits w [a, b]) (by omega) (by simp only [List.mem_cons, List.not_mem_nil, or_false]; rintro p (rfl | rfl) <;> assumption)).mono fun e w' ⟨h1, h2⟩ => ⟨h1, below_after _ h2⟩
theorem rkey3 (a b c : ByteArray) (ha : a.size ≤ 100000) (hb : b.size ≤ 100000) (hc : c.size ≤ 100000) (w : World) : Calls Try.prog 55 #[.slice (some ⟨w.heap.size, 0, none⟩) 3 3] (w.alloc (.cells #[.string a, .string b, .string c] 9)) fun e w' => e = .returned (.tuple #[.string (str (Cd.keyOf [a, b, c])), .int .i64 0]) ∧ Below w.heap.size w w' :=
  (rkey_few _ 3 3 [a, b, c] _ (rds_lits w [a, b, c]) (by omega) (by simp only [List.mem_cons, List.not_mem_nil, or_false]; rintro p (rfl | rfl | rfl) <;> assumption)).mono fun e w' ⟨h1, h2⟩ => ⟨h1, below_after _ h2⟩
set_option maxRecDepth 100000 in
theorem rmk2 (ok : Bool) (a b : ByteArray) (ha : ok = true → a.size ≤ 100000) (hb : ok = true → b.size ≤ 100000) (w : World) : Calls Try.prog 54 #[.bool ok, .slice (some ⟨w.heap.size, 0, none⟩) 2 2] (w.alloc (.cells #[.string a, .string b] 9)) (GivesKey w ok [a, b]) := by
  cases ok
  · go_enter Try.func54, Try.ntmps54
    go_wp2
    go_ret2
    exact ⟨rfl, (Below.refl _ _).alloc (Nat.le_refl _) _⟩
  · have hk := rkey2 a b (ha rfl) (hb rfl) w
    have Hk := Lib.hid hk
    clear hk
    go_enter Try.func54, Try.ntmps54
    go_wp2_with (first | (go_at_call 55; refine Hk.out.mono ?_; rintro e w1 ⟨rfl, hb1⟩))
    go_ret2
    exact ⟨rfl, hb1⟩
set_option maxRecDepth 100000 in
theorem rmk3 (ok : Bool) (a b c : ByteArray) (ha : ok = true → a.size ≤ 100000) (hb : ok = true → b.size ≤ 100000) (hc : ok = true → c.size ≤ 100000) (w : World) : Calls Try.prog 54 #[.bool ok, .slice (some ⟨w.heap.size, 0, none⟩) 3 3] (w.alloc (.cells #[.string a, .string b, .string c] 9)) (GivesKey w ok [a, b, c]) := by
  cases ok
  · go_enter Try.func54, Try.ntmps54
    go_wp2
    go_ret2
    exact ⟨rfl, (Below.refl _ _).alloc (Nat.le_refl _) _⟩
  · have hk := rkey3 a b c (ha rfl) (hb rfl) (hc rfl) w
    have Hk := Lib.hid hk
    clear hk
    go_enter Try.func54, Try.ntmps54
    go_wp2_with (first | (go_at_call 55; refine Hk.out.mono ?_; rintro e w1 ⟨rfl, hb1⟩))
    go_ret2
    exact ⟨rfl, hb1⟩
set_option maxRecDepth 100000 in
theorem send_any (n k : Int) (w : World) : Calls Try.prog 12 #[.int .i64 n, .int .i64 k] w fun e w' => e = .returned (.tuple #[.int .i64 (Ob.sendB n k).1, .int .i64 (Ob.sendB n k).2]) ∧ w = w' := by
  have hw := fun W => within_any n 0 1099511627776 W
  unfold Ob.sendB
  by_cases h1 : n < 0 ∨ 1099511627776 < n
  · rw [if_pos (by omega)]
    rw [show withinB n 0 1099511627776 = false from decide_eq_false (by omega)] at hw
    have Hw := Lib.hid hw
    clear hw
    rcases h1 with h1 | h1
    · skip
      go_enter Try.func12, Try.ntmps12
      go_wp2_with (first | (go_at_call 52; refine (Hw.out _).mono ?_; rintro e w' ⟨rfl, rfl⟩))
      go_ret2
      exact ⟨rfl, rfl⟩
    · have h0 : ¬ n < 0 := by omega
      go_enter Try.func12, Try.ntmps12
      go_wp2_with (first | (go_at_call 52; refine (Hw.out _).mono ?_; rintro e w' ⟨rfl, rfl⟩))
      go_ret2
      exact ⟨rfl, rfl⟩
  · rw [show withinB n 0 1099511627776 = true from decide_eq_true (by omega)] at hw
    have Hw := Lib.hid hw
    have h0 : ¬ n < 0 := by omega
    have h00 : ¬ 1099511627776 < n := by omega
    clear hw h1
    by_cases h2 : k < 0
    · rw [if_pos (by omega)]
      go_enter Try.func12, Try.ntmps12
      go_wp2_with (first | (go_at_call 52; refine (Hw.out _).mono ?_; rintro e w' ⟨rfl, rfl⟩))
      go_ret2
      exact ⟨rfl, rfl⟩
    · rw [if_neg (by omega)]
      by_cases h3 : 64 ≤ k
      · rw [if_pos h3]
        go_enter Try.func12, Try.ntmps12
        go_wp2_with (first | (go_at_call 52; refine (Hw.out _).mono ?_; rintro e w' ⟨rfl, rfl⟩))
        go_ret2
        exact ⟨rfl, rfl⟩
      · rw [if_neg h3]
        by_cases h4 : n = 1099511627776
        · rw [if_pos h4]
          subst h4
          go_enter Try.func12, Try.ntmps12
          go_wp2_with (first | (go_at_call 52; refine (Hw.out _).mono ?_; rintro e w' ⟨rfl, rfl⟩))
          go_ret2
          exact ⟨rfl, rfl⟩
        · rw [if_neg h4]
          have h5 : (n == 1099511627776) = false := by rw [beq_eq_false_iff_ne]; exact h4
          go_enter Try.func12, Try.ntmps12
          go_wp2_with (first | (go_at_call 52; refine (Hw.out _).mono ?_; rintro e w' ⟨rfl, rfl⟩))
          go_ret2
          exact ⟨rfl, rfl⟩
set_option maxRecDepth 100000 in
theorem rsend_any (n k : Int) (w : World) : Calls Try.prog 13 #[.int .i64 n, .int .i64 k] w fun e w' => e = .returned (.tuple #[.int .i64 (Ob.sendB n k).1, .int .i64 (Ob.sendB n k).2]) ∧ w = w' := by
  have hw := fun W => within_any n 0 1099511627776 W
  unfold Ob.sendB
  by_cases h1 : n < 0 ∨ 1099511627776 < n
  · rw [if_pos (by omega)]
    rw [show withinB n 0 1099511627776 = false from decide_eq_false (by omega)] at hw
    have Hw := Lib.hid hw
    clear hw
    rcases h1 with h1 | h1
    · skip
      go_enter Try.func13, Try.ntmps13
      go_wp2_with (first | fail)
      go_ret2
      exact ⟨rfl, rfl⟩
    · have h0 : ¬ n < 0 := by omega
      go_enter Try.func13, Try.ntmps13
      go_wp2_with (first | fail)
      go_ret2
      exact ⟨rfl, rfl⟩
  · rw [show withinB n 0 1099511627776 = true from decide_eq_true (by omega)] at hw
    have Hw := Lib.hid hw
    have h0 : ¬ n < 0 := by omega
    have h00 : ¬ 1099511627776 < n := by omega
    clear hw h1
    by_cases h2 : k < 0
    · rw [if_pos (by omega)]
      go_enter Try.func13, Try.ntmps13
      go_wp2_with (first | fail)
      go_ret2
      exact ⟨rfl, rfl⟩
    · rw [if_neg (by omega)]
      by_cases h3 : 64 ≤ k
      · rw [if_pos h3]
        go_enter Try.func13, Try.ntmps13
        go_wp2_with (first | fail)
        go_ret2
        exact ⟨rfl, rfl⟩
      · rw [if_neg h3]
        by_cases h4 : n = 1099511627776
        · rw [if_pos h4]
          subst h4
          go_enter Try.func13, Try.ntmps13
          go_wp2_with (first | fail)
          go_ret2
          exact ⟨rfl, rfl⟩
        · rw [if_neg h4]
          have h5 : (n == 1099511627776) = false := by rw [beq_eq_false_iff_ne]; exact h4
          go_enter Try.func13, Try.ntmps13
          go_wp2_with (first | fail)
          go_ret2
          exact ⟨rfl, rfl⟩
end Go.Proofs.Ytaoiokilnmpniaa
