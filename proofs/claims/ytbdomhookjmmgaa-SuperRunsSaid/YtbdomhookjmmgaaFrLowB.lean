/- Which stamps and kinds may be: frame's Check and isKind, and the document's Check. The document's Check and low. What take within frame's open returns: so many bytes as a number. A part of bytes: how a slice expression reads. A part of bytes from 16 on. -/
import Derived.Test.YtbdomhookjmmgaaBytes
import Derived.LoopN
import Derived.BigQuiet
import Derived.Test.YtbdomhookjmmgaaSuA
namespace Go.Proofs.Ytbdomhookjmmgaa
open Go.RowKit
set_option linter.unusedVariables false
namespace Fr
/-- May a number stand in a stamp? -/
def okN (n : Int) : Bool := decide (0 ≤ n ∧ n ≤ 2147483647)
def okS (f e i : Int) : Bool := okN f && okN e && okN i
def okK (k : Int) : Bool := decide (1 ≤ k ∧ k ≤ 4)
theorem okN_iff {n : Int} : okN n = true ↔ 0 ≤ n ∧ n ≤ 2147483647 := by unfold okN; exact decide_eq_true_iff
theorem okK_iff {n : Int} : okK n = true ↔ 1 ≤ n ∧ n ≤ 4 := by unfold okK; exact decide_eq_true_iff
theorem okS_iff {f e i : Int} : okS f e i = true ↔ (0 ≤ f ∧ f ≤ 2147483647) ∧ (0 ≤ e ∧ e ≤ 2147483647) ∧ (0 ≤ i ∧ i ≤ 2147483647) := by
  unfold okS; rw [Bool.and_eq_true, Bool.and_eq_true, okN_iff, okN_iff, okN_iff, and_assoc]
theorem okN_no {n : Int} (h : ¬ okN n = true) : n < 0 ∨ (¬ n < 0 ∧ 2147483647 < n) := by rw [okN_iff] at h; omega
end Fr
open Fr
set_option maxRecDepth 100000 in
set_option maxHeartbeats 1000000 in
theorem check_yes (f e i : Int) (w : World) (h : okS f e i = true) : Calls Try.prog 72 #[.agg #[.int .i64 f, .int .i64 e, .int .i64 i]] w fun x w' => x = .returned (.int .i64 0) ∧ Below w.heap.size w w' := by
  obtain ⟨⟨f1, f2⟩, ⟨e1, e2⟩, i1, i2⟩ := okS_iff.1 h
  have f3 : ¬ f < 0 := by omega
  have f4 : ¬ 2147483647 < f := by omega
  have e3 : ¬ e < 0 := by omega
  have e4 : ¬ 2147483647 < e := by omega
  have i3 : ¬ i < 0 := by omega
  have i4 : ¬ 2147483647 < i := by omega
  have x0 : ∀ w, (Instr.index 137 (.agg #[.int .i64 f, .int .i64 e, .int .i64 i]) (.int .i64 0)).run Try.prog w = .ok (.int .i64 f) w := fun _ => by kernel_rfl
  have x1 : ∀ w, (Instr.index 137 (.agg #[.int .i64 f, .int .i64 e, .int .i64 i]) (.int .i64 1)).run Try.prog w = .ok (.int .i64 e) w := fun _ => by kernel_rfl
  have x2 : ∀ w, (Instr.index 137 (.agg #[.int .i64 f, .int .i64 e, .int .i64 i]) (.int .i64 2)).run Try.prog w = .ok (.int .i64 i) w := fun _ => by kernel_rfl
  clear h
  go_enter Try.func72, Try.ntmps72
  go_wp2
  refine wp_loop_rounds 4 ?_
  rw [rounds_succ]
  go_wp2
  rw [rounds_succ]
  go_wp2
  rw [rounds_succ]
  go_wp2
  rw [rounds_succ]
  go_wp2
  go_ret
  exact ⟨rfl, (Below.refl _ _).alloc (Nat.le_refl _) _⟩
set_option maxRecDepth 100000 in
set_option maxHeartbeats 2000000 in
theorem check_no (f e i : Int) (w : World) (h : okS f e i = false) : Calls Try.prog 72 #[.agg #[.int .i64 f, .int .i64 e, .int .i64 i]] w fun x w' => x = .returned (.int .i64 1) ∧ Below w.heap.size w w' := by
  have x0 : ∀ w, (Instr.index 137 (.agg #[.int .i64 f, .int .i64 e, .int .i64 i]) (.int .i64 0)).run Try.prog w = .ok (.int .i64 f) w := fun _ => by kernel_rfl
  have x1 : ∀ w, (Instr.index 137 (.agg #[.int .i64 f, .int .i64 e, .int .i64 i]) (.int .i64 1)).run Try.prog w = .ok (.int .i64 e) w := fun _ => by kernel_rfl
  have x2 : ∀ w, (Instr.index 137 (.agg #[.int .i64 f, .int .i64 e, .int .i64 i]) (.int .i64 2)).run Try.prog w = .ok (.int .i64 i) w := fun _ => by kernel_rfl
  by_cases hf : okN f = true
  · obtain ⟨f1, f2⟩ := okN_iff.1 hf
    have f3 : ¬ f < 0 := by omega
    have f4 : ¬ 2147483647 < f := by omega
    by_cases he : okN e = true
    · obtain ⟨e1, e2⟩ := okN_iff.1 he
      have e3 : ¬ e < 0 := by omega
      have e4 : ¬ 2147483647 < e := by omega
      have hi : ¬ okN i = true := fun hi => by rw [show okS f e i = true by unfold okS; rw [hf, he, hi]; rfl] at h; cases h
      clear h hf he
      rcases okN_no hi with hi | ⟨hi, hi2⟩
      all_goals
        go_enter Try.func72, Try.ntmps72
        go_wp2
        refine wp_loop_rounds 3 ?_
        rw [rounds_succ]
        go_wp2
        rw [rounds_succ]
        go_wp2
        rw [rounds_succ]
        go_wp2
        go_ret
        exact ⟨rfl, (Below.refl _ _).alloc (Nat.le_refl _) _⟩
    · clear h hf
      rcases okN_no he with hi | ⟨hi, hi2⟩
      all_goals
        go_enter Try.func72, Try.ntmps72
        go_wp2
        refine wp_loop_rounds 2 ?_
        rw [rounds_succ]
        go_wp2
        rw [rounds_succ]
        go_wp2
        go_ret
        exact ⟨rfl, (Below.refl _ _).alloc (Nat.le_refl _) _⟩
  · clear h
    rcases okN_no hf with hi | ⟨hi, hi2⟩
    all_goals
      go_enter Try.func72, Try.ntmps72
      go_wp2
      refine wp_loop_rounds 1 ?_
      rw [rounds_succ]
      go_wp2
      go_ret
      exact ⟨rfl, (Below.refl _ _).alloc (Nat.le_refl _) _⟩
set_option maxRecDepth 100000 in
theorem kind_any (k : Int) (w : World) : Calls Try.prog 73 #[.int .i64 k] w fun x w' => x = .returned (.bool (okK k)) ∧ w = w' := by
  by_cases h : okK k = true
  · obtain ⟨h1, h2⟩ := okK_iff.1 h
    rw [h]
    clear h
    go_enter Try.func73, Try.ntmps73
    go_wp2
    go_ret
    exact ⟨rfl, rfl⟩
  · have h0 : okK k = false := by simpa using h
    rw [h0]
    rw [okK_iff] at h
    clear h0
    by_cases h1 : 1 ≤ k
    · have h2 : ¬ k ≤ 4 := by omega
      clear h
      go_enter Try.func73, Try.ntmps73
      go_wp2
      go_ret
      exact ⟨rfl, rfl⟩
    · clear h
      go_enter Try.func73, Try.ntmps73
      go_wp2
      go_ret
      exact ⟨rfl, rfl⟩
end Go.Proofs.Ytbdomhookjmmgaa
namespace Go.Proofs.Ytbdomhookjmmgaa
open Go.RowKit Fr
set_option linter.unusedVariables false
namespace Fr
/-- A number in k bytes, the lowest first. -/
def le (k n : Nat) : List Nat := (List.range k).map fun i => n / 256 ^ i % 256
theorem le_len (k n : Nat) : (le k n).length = k := by simp [le]
theorem le_lt (k n : Nat) : ∀ x ∈ le k n, x < 256 := by
  intro x hx
  obtain ⟨i, _, rfl⟩ := List.mem_map.1 hx
  exact Nat.mod_lt _ (by omega)
theorem le_snoc (k n : Nat) : le (k + 1) n = le k n ++ [n / 256 ^ k % 256] := by
  unfold le; rw [List.range_succ, List.map_append]; rfl
end Fr
set_option maxRecDepth 100000 in
set_option maxHeartbeats 1000000 in
theorem rcheck_any (f e i : Int) (w : World) : Calls Try.prog 76 #[.agg #[.int .i64 f, .int .i64 e, .int .i64 i]] w fun x w' => x = .returned (.int .i64 (if okS f e i then 0 else 1)) ∧ Below w.heap.size w w' := by
  by_cases h : okS f e i = true
  · obtain ⟨⟨f1, f2⟩, ⟨e1, e2⟩, i1, i2⟩ := okS_iff.1 h
    have f3 : ¬ f < 0 := by omega
    have f4 : ¬ 2147483647 < f := by omega
    have e3 : ¬ e < 0 := by omega
    have e4 : ¬ 2147483647 < e := by omega
    have i3 : ¬ i < 0 := by omega
    have i4 : ¬ 2147483647 < i := by omega
    rw [if_pos h]
    clear h
    go_enter Try.func76, Try.ntmps76
    go_wp2
    go_ret
    exact ⟨rfl, (Below.refl _ _).alloc (Nat.le_refl _) _⟩
  · rw [if_neg h]
    by_cases hf : okN f = true
    · obtain ⟨f1, f2⟩ := okN_iff.1 hf
      have f3 : ¬ f < 0 := by omega
      have f4 : ¬ 2147483647 < f := by omega
      by_cases he : okN e = true
      · obtain ⟨e1, e2⟩ := okN_iff.1 he
        have e3 : ¬ e < 0 := by omega
        have e4 : ¬ 2147483647 < e := by omega
        have hi : ¬ okN i = true := fun hi => h (by unfold okS; rw [hf, he, hi]; rfl)
        clear h hf he
        rcases okN_no hi with hi | ⟨hi, hi2⟩
        all_goals
          go_enter Try.func76, Try.ntmps76
          go_wp2
          go_ret
          exact ⟨rfl, (Below.refl _ _).alloc (Nat.le_refl _) _⟩
      · clear h hf
        rcases okN_no he with hi | ⟨hi, hi2⟩
        all_goals
          go_enter Try.func76, Try.ntmps76
          go_wp2
          go_ret
          exact ⟨rfl, (Below.refl _ _).alloc (Nat.le_refl _) _⟩
    · clear h
      rcases okN_no hf with hi | ⟨hi, hi2⟩
      all_goals
        go_enter Try.func76, Try.ntmps76
        go_wp2
        go_ret
        exact ⟨rfl, (Below.refl _ _).alloc (Nat.le_refl _) _⟩
/-- Bytes of the call's own. -/
def GivesOwnB (w : World) (l : List Nat) (e : Ending) (w' : World) : Prop :=
  ∃ (A : Option Addr) (c : Nat), e = .returned (.slice A l.length c) ∧ Own w' w.heap.size A l.length c l ∧ Below w.heap.size w w'
set_option maxRecDepth 100000 in
set_option maxHeartbeats 1000000 in
theorem low_any (n k : Nat) (w : World) (hn : n < 9223372036854775808) (hk : k ≤ 8) : Calls Try.prog 77 #[.int .i64 (n : Int), .int .i64 (k : Int)] w (GivesOwnB w (le k n)) := by
  go_enter Try.func77, Try.ntmps77
  go_wp2
  go_loopw [0, 5, 6] (fun m l i wr => ∃ (j q c : Nat) (B : Option Addr), j ≤ k ∧ i = .int .i64 (j : Int) ∧ m = .int .i64 (q : Int) ∧ q ≤ n ∧ Hid (q = n / 256 ^ j) ∧ l = .slice B j c ∧ Own wr w.heap.size B j c (le j n) ∧ Below w.heap.size w wr) (fun _ _ i _ => k - (intOf i).toNat)
  case atStart => exact ⟨0, n, 0, none, by omega, rfl, rfl, Nat.le_refl _, Lib.hid (by simp), rfl, Own.none_ _ _, Below.refl _ _⟩
  case round =>
    obtain ⟨j, q, c, B, hj, rfl, rfl, hqn, hQ, rfl, hO, hb⟩ := hrel
    by_cases hjk : j < k
    · have hji : (j : Int) < (k : Int) := by omega
      have hqi : (q : Int) ≤ 9223372036854775807 := by omega
      have hnext : q / 256 = n / 256 ^ (j + 1) := by rw [hQ.out, Nat.div_div_eq_div_mul, Nat.pow_succ]
      have hbyte : le (j + 1) n = le j n ++ [q % 256] := by rw [le_snoc, hQ.out]
      have HNext := Lib.hid hnext
      have HByte := Lib.hid hbyte
      have hOa : Own (wr.alloc (.cells #[.int .u8 ((q : Int) % 256)] 5)) w.heap.size B j c (le j n) := hO.alloc _
      have hra : Rd (wr.alloc (.cells #[.int .u8 ((q : Int) % 256)] 5)) (some ⟨wr.heap.size, 0, none⟩) 1 [q % 256] := by
        have := rd_new wr [q % 256] (by intro x hx; rw [List.mem_singleton] at hx; omega) (0, 0)
        simpa [bv] using this
      have hba : w.heap.size ≤ (wr.alloc (.cells #[.int .u8 ((q : Int) % 256)] 5)).heap.size := by have := hb.size; simp; omega
      have hbb : Below w.heap.size w (wr.alloc (.cells #[.int .u8 ((q : Int) % 256)] 5)) := hb.alloc hb.size _
      have HO := Lib.hid hO
      have hle : j + 1 ≤ 100000000 := by omega
      clear hnext hbyte hO
      go_wp2_with (first | (at_builtin; refine wpList_appB rfl (.tmp 12) (.tmp 16) rfl rfl hOa (some ⟨wr.heap.size, 0, none⟩) 1 1 [q % 256] rfl hra hle hba ?_; intro A3 c3 v3 hg3))
      have hb3 := hg3.below hbb hba (fun g h => (HO.out.blk g h).1)
      have hO3 := hg3.own
      rw [← HByte.out] at hO3
      clear hOa hra hba hbb hg3
      obtain ⟨q2, hq2⟩ : ∃ q2, q2 = q / 256 := ⟨_, rfl⟩
      have hq2i : (q : Int) / 256 = (q2 : Int) := by omega
      go_roundw
      case rel => exact ⟨j + 1, q2, c3, A3, by omega, by go_num, by rw [hq2i], by omega, Lib.hid (by rw [hq2]; exact HNext.out), rfl, hO3, hb3⟩
      case measure => simp [intOf]; omega
    · have hjk2 : j = k := by omega
      subst hjk2
      go_wp2
      go_ret
      have hl := le_len j n
      refine ⟨B, c, ?_, ?_, hb⟩
      · rw [hl]; rfl
      · rw [hl]; exact hO
end Go.Proofs.Ytbdomhookjmmgaa
namespace Go.Proofs.Ytbdomhookjmmgaa
open Go.RowKit Fr
set_option linter.unusedVariables false
namespace Fr
/-- Bytes as a number, the lowest first. -/
def num : List Nat → Nat
  | [] => 0
  | x :: l => x + 256 * num l
theorem num_snoc (l : List Nat) (x : Nat) : num (l ++ [x]) = num l + 256 ^ l.length * x := by
  induction l with
  | nil => simp [num]
  | cons y l ih =>
    simp only [List.cons_append, num, ih, List.length_cons, Nat.pow_succ, Nat.mul_add]
    have : 256 * (256 ^ l.length * x) = 256 ^ l.length * 256 * x := by rw [← Nat.mul_assoc, Nat.mul_comm 256]
    omega
theorem num_lt (l : List Nat) (h : ∀ x ∈ l, x < 256) : num l < 256 ^ l.length := by
  induction l with
  | nil => simp [num]
  | cons x l ih =>
    have h1 := h x (by simp)
    have h2 := ih (fun y hy => h y (List.mem_cons_of_mem _ hy))
    simp only [num, List.length_cons, Nat.pow_succ]
    have : 256 * num l + 256 ≤ 256 * 256 ^ l.length := by omega
    omega
/-- The number in s bytes from place o on. -/
def F (l : List Nat) (o s : Nat) : Nat := num ((l.drop o).take s)
theorem F_zero (l : List Nat) (o : Nat) : F l o 0 = 0 := by simp [F, num]
theorem F_succ {l : List Nat} {o s x : Nat} (h : l[o + s]? = some x) : F l o (s + 1) = F l o s + 256 ^ s * x := by
  have hx : (l.drop o)[s]? = some x := by rw [List.getElem?_drop]; exact h
  have hl : ((l.drop o).take s).length = s := by
    have := (List.getElem?_eq_some_iff.1 hx).1
    rw [List.length_take]; omega
  unfold F
  rw [take_snoc hx, num_snoc, hl]
theorem F_lt {l : List Nat} (h : ∀ x ∈ l, x < 256) (o s : Nat) : F l o s < 256 ^ s := by
  have h1 := num_lt ((l.drop o).take s) (fun x hx => h x (List.mem_of_mem_drop (List.mem_of_mem_take hx)))
  have h2 : ((l.drop o).take s).length ≤ s := List.length_take_le _ _
  exact Nat.lt_of_lt_of_le h1 (Nat.pow_le_pow_right (by omega) h2)
end Fr
theorem i64_or_nat (a b : Nat) (ha : a < 9223372036854775808) (hb : b < 9223372036854775808) : bits .or .i64 (a : Int) (b : Int) = ((a ||| b : Nat) : Int) := by
  have hx : a ||| b < 2 ^ 63 := Nat.or_lt_two_pow (by omega) (by omega)
  show IntKind.i64.wrap ((BitVec.ofInt 64 (a : Int) ||| BitVec.ofInt 64 (b : Int)).toNat : Int) = _
  rw [BitVec.toNat_or, ofInt_i64 a ha, ofInt_i64 b hb, IntKind.wrap_i64]
  omega
theorem or_num (v x k : Nat) (hk : k < 4) (hv : v < 256 ^ k) (hx : x < 256) : bits .or .i64 (v : Int) (RowKit.wrap64 ((x : Int) * 2 ^ (8 * k))) = ((v + 256 ^ k * x : Nat) : Int) := by
  have hp : 256 ^ k * x < 4294967296 ∧ 256 ^ k ≤ 16777216 ∧ 2 ^ (8 * k) = 256 ^ k := by
    rcases (show k = 0 ∨ k = 1 ∨ k = 2 ∨ k = 3 by omega) with rfl | rfl | rfl | rfl
    · rw [show 256 ^ 0 = 1 by decide]; exact ⟨by omega, by omega, by decide⟩
    · rw [show 256 ^ 1 = 256 by decide]; exact ⟨by omega, by omega, by decide⟩
    · rw [show 256 ^ 2 = 65536 by decide]; exact ⟨by omega, by omega, by decide⟩
    · rw [show 256 ^ 3 = 16777216 by decide]; exact ⟨by omega, by omega, by decide⟩
  obtain ⟨h1, h2, h3⟩ := hp
  have e : RowKit.wrap64 ((x : Int) * 2 ^ (8 * k)) = ((256 ^ k * x : Nat) : Int) := by
    have e1 : (x : Int) * 2 ^ (8 * k) = ((256 ^ k * x : Nat) : Int) := by
      rw [← h3, Int.natCast_mul, Int.mul_comm, Int.natCast_pow]; rfl
    rw [e1]
    generalize 256 ^ k * x = y at h1 ⊢
    unfold RowKit.wrap64
    omega
  rw [e, i64_or_nat _ _ (by omega) (by omega), Nat.or_comm, ← h3, ← Nat.two_pow_add_eq_or_of_lt (by rw [h3]; exact hv), Nat.add_comm]
def GivesNum (a : Nat) (w : World) (v at_ : Nat) (e : Ending) (w' : World) : Prop :=
  e = .returned (.int .i64 (v : Int)) ∧ Holds w' a [.int .i64 (at_ : Int)] ∧ Ch2 a a w w'
set_option maxRecDepth 100000 in
set_option maxHeartbeats 1000000 in
theorem take_num (s o x a : Nat) (A : Option Addr) (c : Nat) (l : List Nat) (w : World) (hx : w.cell? ⟨x, 0, none⟩ = some (.slice A 128 c)) (hxw : x < w.heap.size) (hl : Rd w A 128 l) (ha : Holds w a [.int .i64 (o : Int)]) (hs : s ≤ 4) (hos : o + s ≤ 128) (hxa : x ≠ a) (hne : ∀ g q, A = some ⟨g, q, none⟩ → g ≠ a) :
    Calls Try.prog 87 #[.int .i64 (s : Int), .pointer (some ⟨x, 0, none⟩), .pointer (some ⟨a, 0, none⟩)] w (GivesNum a w (F l o s) (o + s)) := by
  have HX := Lib.hid hx
  have HL := Lib.hid hl
  have HA := Lib.hid ha
  have HNE := Lib.hid hne
  clear hx hl ha hne
  go_enter Try.func87, Try.ntmps87
  go_wp2
  go_loopw [5, 8] (fun n i wr => ∃ j : Nat, j ≤ s ∧ i = .int .i64 (j : Int) ∧ n = .int .i64 (F l o j : Int) ∧ Holds wr a [.int .i64 ((o + j : Nat) : Int)] ∧ Ch2 a a w wr) (fun _ i _ => s - (intOf i).toNat)
  case atStart => exact ⟨0, by omega, rfl, by rw [F_zero]; rfl, HA.out, Ch2.refl _ _ _⟩
  case round =>
    obtain ⟨j, hj, rfl, rfl, hA, hC⟩ := hrel
    have cx := (hC.cell (p := ⟨x, 0, none⟩) hxw hxa hxa).trans HX.out
    by_cases hjs : j < s
    · have hji : (j : Int) < (s : Int) := by omega
      obtain ⟨t, ht⟩ : ∃ t, t = o + j := ⟨_, rfl⟩
      have ht128 : t < 128 := by omega
      have hti : (t : Int) < 128 := by omega
      rw [← ht] at hA
      obtain ⟨g, q, y, hAg, hg, hy, hy2, hcell⟩ := HL.out.at_ ht128
      have hgn := HNE.out g q hAg
      have cy := (hC.cell (p := ⟨g, q + t, none⟩) hg hgn hgn).trans hcell
      have ca := hA.at_ 0 rfl
      have fa := hA.2.2 0
      have hF := F_succ (l := l) (o := o) (s := j) (x := y) (by rw [← ht]; exact hy)
      have hFl := F_lt (l := l) (fun z hz => HL.out.lt hz) o j
      have hA2 := hA.set 0 (.int .i64 ((t + 1 : Nat) : Int)) (by simp)
      have hC2 := hC.trans (Ch2.set1 a a 0 wr (.int .i64 ((t + 1 : Nat) : Int)))
      have hw8 : IntKind.i64.wrap (8 * (j : Int)) = 8 * (j : Int) := by rw [IntKind.wrap_i64]; omega
      subst hAg
      have HF := Lib.hid hF
      have HT := Lib.hid ht
      have HA2 := Lib.hid hA2
      have HC2 := Lib.hid hC2
      clear hcell hy hF hA2 hC2 hA hC ht
      go_wp2_with fail
      have hor := or_num (F l o j) y j (by omega) hFl hy2
      rw [← HF.out] at hor
      have hA3 := HA2.out
      have hC3 := HC2.out
      rw [show ((t + 1 : Nat) : Int) = (t : Int) + 1 by omega] at hA3 hC3
      have hA4 : Holds (wr.setCell ⟨a, 0, none⟩ (.int .i64 ((t : Int) + 1))) a [.int .i64 ((o + (j + 1) : Nat) : Int)] := by
        rw [show ((o + (j + 1) : Nat) : Int) = (t : Int) + 1 by rw [HT.out]; omega]
        exact hA3
      clear hA3
      go_roundw
      case rel => exact ⟨j + 1, by omega, by go_num, by rw [hor], hA4, hC3⟩
      case measure => simp [intOf]; omega
    · have hjs2 : j = s := by omega
      subst hjs2
      go_wp2
      go_ret
      exact ⟨rfl, hA, hC⟩
end Go.Proofs.Ytbdomhookjmmgaa
namespace Go.Proofs.Ytbdomhookjmmgaa
open Go.RowKit
theorem run_part (g q c n : Nat) (hn : n ≤ 108) (hc : 128 ≤ c) (w : World) : (Instr.slice 28 (.slice (some ⟨g, q, none⟩) 128 c) (some (.int .i64 (16 + (n : Int)))) (some (.int .i64 124)) none).run Try.prog w = .ok (.slice (some ⟨g, q + (16 + n), none⟩) (108 - n) (c - (16 + n))) w := by
  have h1 : ¬ (c : Int) < 124 := by omega
  have h2 : (124 : Int) ≤ (c : Int) := by omega
  have h3 : (0 : Int) ≤ 16 + (n : Int) := by omega
  have h4 : 16 + (n : Int) ≤ 124 := by omega
  have h5 : (16 + (n : Int)).toNat = 16 + n := by omega
  have h6 : 124 - (16 + n) = 108 - n := by omega
  have h7 : ¬ c = 16 + n := by omega
  simp [Instr.slice, run_underlying Try.underlying28, Instr.sliceBounds, Instr.sliceBound, asIntOf, go_sem, h2, h3, h4, h5, h6, h7]
end Go.Proofs.Ytbdomhookjmmgaa
namespace Go.Proofs.Ytbdomhookjmmgaa
open Go.RowKit
theorem run_head (g q c n : Nat) (hn : n ≤ 108) (hc : 128 ≤ c) (w : World) : (Instr.slice 28 (.slice (some ⟨g, q, none⟩) 128 c) (some (.int .i64 16)) (some (.int .i64 (16 + (n : Int)))) none).run Try.prog w = .ok (.slice (some ⟨g, q + 16, none⟩) n (c - 16)) w := by
  have h2 : 16 + (n : Int) ≤ (c : Int) := by omega
  have h3 : (0 : Int) ≤ 16 + (n : Int) := by omega
  have h4 : (16 : Int) ≤ 16 + (n : Int) := by omega
  have h5 : (16 + (n : Int)).toNat = 16 + n := by omega
  have h6 : 16 + n - 16 = n := by omega
  have h7 : ¬ c = 16 := by omega
  simp [Instr.slice, run_underlying Try.underlying28, Instr.sliceBounds, Instr.sliceBound, asIntOf, go_sem, h2, h3, h4, h5, h6, h7]
end Go.Proofs.Ytbdomhookjmmgaa
