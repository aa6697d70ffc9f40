/- The document's number. low and number of the document's layer 5: the same as those of its layer 4. -/
import Derived.Test.YtbdomhookjmmgaaFrLowB
namespace Go.Proofs.Ytbdomhookjmmgaa
open Go.RowKit Fr
set_option linter.unusedVariables false
theorem num_drop {l : List Nat} {j x : Nat} (h : l[j]? = some x) : num (l.drop j) = num (l.drop (j + 1)) * 256 + x := by
  have hj := (List.getElem?_eq_some_iff.1 h)
  obtain ⟨hj, hx⟩ := hj
  rw [List.drop_eq_getElem_cons hj, hx]
  show x + 256 * num (l.drop (j + 1)) = _
  omega
theorem num_small {l : List Nat} (h : ∀ x ∈ l, x < 256) (hl : l.length ≤ 4) : num l < 4294967296 := by
  have := num_lt l h
  have h2 : 256 ^ l.length ≤ 256 ^ 4 := Nat.pow_le_pow_right (by omega) hl
  rw [show 256 ^ 4 = 4294967296 by decide] at h2
  omega
def AtNum (l : List Nat) (n : Nat) (v i : Value) : Prop := ∃ j : Nat, j ≤ n ∧ i = .int .i64 ((j : Int) - 1) ∧ v = .int .i64 (num (l.drop j) : Int)
set_option maxRecDepth 100000 in
theorem number_any (A : Option Addr) (n c : Nat) (l : List Nat) (w : World) (h : Rd w A n l) (hn : n ≤ 4) : Calls Try.prog 80 #[.slice A n c] w fun e w' => e = .returned (.int .i64 (num l : Int)) ∧ w = w' := by
  have H := Lib.hid h
  have hlen := h.1
  have HL := Lib.hid hlen
  clear h hlen
  go_enter Try.func80, Try.ntmps80
  go_wp2
  go_loop [3, 4] (fun v i => ∃ j : Nat, j ≤ n ∧ i = .int .i64 ((j : Int) - 1) ∧ v = .int .i64 (num (l.drop j) : Int)) (fun _ i => (intOf i + 1).toNat)
  case atStart => exact ⟨n, Nat.le_refl _, rfl, by rw [List.drop_of_length_le (Nat.le_of_eq HL.out)]; rfl⟩
  case round =>
    obtain ⟨j, hj, rfl, rfl⟩ := hrel
    by_cases h0 : j = 0
    · subst h0
      go_wp2
      go_ret
      exact ⟨rfl, rfl⟩
    · obtain ⟨m, hm⟩ : ∃ m, m + 1 = j := ⟨j - 1, by omega⟩
      subst hm
      have hmi : ((m + 1 : Nat) : Int) - 1 = (m : Int) := by omega
      rw [hmi]
      obtain ⟨g, q, x, rfl, hg, hx, hx2, hc⟩ := H.out.at_ (show m < n by omega)
      have hnd := num_drop hx
      have hsm := num_small (l := l.drop (m + 1)) (fun x hx => H.out.lt (List.mem_of_mem_drop hx)) (by rw [List.length_drop]; have := HL.out; omega)
      have HN := Lib.hid hnd
      clear hnd hx hmi
      have hge : (0 : Int) ≤ (m : Int) := by omega
      have hmn : (m : Int) < (n : Int) := by omega
      go_wp2
      go_round
      case rel => exact ⟨m, by omega, rfl, by rw [HN.out]; rfl⟩
      case measure => simp [intOf]
end Go.Proofs.Ytbdomhookjmmgaa
namespace Go.Proofs.Ytbdomhookjmmgaa
open Go.RowKit Fr
set_option linter.unusedVariables false
set_option maxRecDepth 100000 in
set_option maxHeartbeats 1000000 in
theorem slow_any (n k : Nat) (w : World) (hn : n < 9223372036854775808) (hk : k ≤ 8) : Calls Try.prog 49 #[.int .i64 (n : Int), .int .i64 (k : Int)] w (GivesOwnB w (le k n)) := by
  go_enter Try.func49, Try.ntmps49
  go_wp2
  go_loopw [0, 5, 6] (fun m l i wr => ∃ (j q c : Nat) (B : Option Addr), j ≤ k ∧ i = .int .i64 (j : Int) ∧ m = .int .i64 (q : Int) ∧ q ≤ n ∧ Hid (q = n / 256 ^ j) ∧ l = .slice B j c ∧ Own wr w.heap.size B j c (le j n) ∧ Below w.heap.size w wr) (fun _ _ i _ => k - (intOf i).toNat)
  case atStart => exact ⟨0, n, 0, none, by omega, rfl, rfl, Nat.le_refl _, Lib.hid (by simp), rfl, Own.none_ _ _, Below.refl _ _⟩
  case round =>
    obtain ⟨j, q, c, B, hj, rfl, rfl, hqn, hQ, rfl, hO, hb⟩ := hrel
    by_cases hjk : j < k
    · have hji : (j : Int) < (k : Int) := by omega
      have hqi : (q : Int) ≤ 9223372036854775807 := by omega
      have hnext : q / 256 = n / 256 ^ (j + 1) := by rw [hQ.out, Nat.div_div_eq_div_mul, Nat.pow_succ]
      have hbyte : le (j + 1) n = le j n ++ [q % 256] := by rw [le_snoc, hQ.out]
      have HNext := Lib.hid hnext
      have HByte := Lib.hid hbyte
      have hOa : Own (wr.alloc (.cells #[.int .u8 ((q : Int) % 256)] 5)) w.heap.size B j c (le j n) := hO.alloc _
      have hra : Rd (wr.alloc (.cells #[.int .u8 ((q : Int) % 256)] 5)) (some ⟨wr.heap.size, 0, none⟩) 1 [q % 256] := by
        have := rd_new wr [q % 256] (by intro x hx; rw [List.mem_singleton] at hx; omega) (0, 0)
        simpa [bv] using this
      have hba : w.heap.size ≤ (wr.alloc (.cells #[.int .u8 ((q : Int) % 256)] 5)).heap.size := by have := hb.size; simp; omega
      have hbb : Below w.heap.size w (wr.alloc (.cells #[.int .u8 ((q : Int) % 256)] 5)) := hb.alloc hb.size _
      have HO := Lib.hid hO
      have hle : j + 1 ≤ 100000000 := by omega
      clear hnext hbyte hO
      go_wp2_with (first | (at_builtin; refine wpList_appB rfl (.tmp 12) (.tmp 16) rfl rfl hOa (some ⟨wr.heap.size, 0, none⟩) 1 1 [q % 256] rfl hra hle hba ?_; intro A3 c3 v3 hg3))
      have hb3 := hg3.below hbb hba (fun g h => (HO.out.blk g h).1)
      have hO3 := hg3.own
      rw [← HByte.out] at hO3
      clear hOa hra hba hbb hg3
      obtain ⟨q2, hq2⟩ : ∃ q2, q2 = q / 256 := ⟨_, rfl⟩
      have hq2i : (q : Int) / 256 = (q2 : Int) := by omega
      go_roundw
      case rel => exact ⟨j + 1, q2, c3, A3, by omega, by go_num, by rw [hq2i], by omega, Lib.hid (by rw [hq2]; exact HNext.out), rfl, hO3, hb3⟩
      case measure => simp [intOf]; omega
    · have hjk2 : j = k := by omega
      subst hjk2
      go_wp2
      go_ret
      have hl := le_len j n
      refine ⟨B, c, ?_, ?_, hb⟩
      · rw [hl]; rfl
      · rw [hl]; exact hO
set_option maxRecDepth 100000 in
theorem snumber_any (A : Option Addr) (n c : Nat) (l : List Nat) (w : World) (h : Rd w A n l) (hn : n ≤ 4) : Calls Try.prog 56 #[.slice A n c] w fun e w' => e = .returned (.int .i64 (num l : Int)) ∧ w = w' := by
  have H := Lib.hid h
  have hlen := h.1
  have HL := Lib.hid hlen
  clear h hlen
  go_enter Try.func56, Try.ntmps56
  go_wp2
  go_loop [3, 4] (fun v i => ∃ j : Nat, j ≤ n ∧ i = .int .i64 ((j : Int) - 1) ∧ v = .int .i64 (num (l.drop j) : Int)) (fun _ i => (intOf i + 1).toNat)
  case atStart => exact ⟨n, Nat.le_refl _, rfl, by rw [List.drop_of_length_le (Nat.le_of_eq HL.out)]; rfl⟩
  case round =>
    obtain ⟨j, hj, rfl, rfl⟩ := hrel
    by_cases h0 : j = 0
    · subst h0
      go_wp2
      go_ret
      exact ⟨rfl, rfl⟩
    · obtain ⟨m, hm⟩ : ∃ m, m + 1 = j := ⟨j - 1, by omega⟩
      subst hm
      have hmi : ((m + 1 : Nat) : Int) - 1 = (m : Int) := by omega
      rw [hmi]
      obtain ⟨g, q, x, rfl, hg, hx, hx2, hc⟩ := H.out.at_ (show m < n by omega)
      have hnd := (num_drop hx).trans (by rw [Nat.mul_comm] : _ = 256 * num (l.drop (m + 1)) + x)
      have hsm := num_small (l := l.drop (m + 1)) (fun x hx => H.out.lt (List.mem_of_mem_drop hx)) (by rw [List.length_drop]; have := HL.out; omega)
      have HN := Lib.hid hnd
      clear hnd hx hmi
      have hge : (0 : Int) ≤ (m : Int) := by omega
      have hmn : (m : Int) < (n : Int) := by omega
      go_wp2
      go_round
      case rel => exact ⟨m, by omega, rfl, by rw [HN.out]; rfl⟩
      case measure => simp [intOf]
end Go.Proofs.Ytbdomhookjmmgaa
