/- What package code's own Fixed and TakeFixed return. -/
import Derived.Test.YtaoiokilnmpniaaCodeNum
import Derived.Test.YtaoiokilnmpniaaCodeText
namespace Go.Proofs.Ytaoiokilnmpniaa
open Go.RowKit
theorem fixed_byte (n j : Nat) : (n : Int) / 2 ^ (8 * j) % 256 = ((n / 256 ^ j % 256 : Nat) : Int) := by
  have e : (256 : Nat) ^ j = 2 ^ (8 * j) := by rw [Nat.pow_mul]
  rw [e]; simp
theorem lowTo_at (n : Nat) {k i : Nat} (h : i < k) : (Cd.lowTo n k)[i]? = some (n / 256 ^ i % 256) := by
  induction k with
  | zero => omega
  | succ k ih =>
    show (Cd.lowTo n k ++ [n / 256 ^ k % 256])[i]? = _
    by_cases e : i = k
    · subst e
      rw [List.getElem?_append_right (by rw [Cd.lowTo_length]; exact Nat.le_refl _), Cd.lowTo_length, Nat.sub_self]; rfl
    · rw [List.getElem?_append_left (by rw [Cd.lowTo_length]; omega)]
      exact ih (by omega)
theorem high_at (n : Nat) {k j : Nat} (h : j < k) : (Cd.lowTo n k).reverse[j]? = some (n / 256 ^ (k - 1 - j) % 256) := by
  rw [List.getElem?_reverse (by rw [Cd.lowTo_length]; exact h), Cd.lowTo_length]
  exact lowTo_at n (by omega)
/-- A row of zeros, filled from its head on. -/
theorem fill_set {R : List Nat} {k j y : Nat} (hj : j < k) (h : R[j]? = some y) : (R.take j ++ List.replicate (k - j) 0).set j y = R.take (j + 1) ++ List.replicate (k - (j + 1)) 0 := by
  have hl : (R.take j).length = j := by
    have := (List.getElem?_eq_some_iff.1 h).1
    rw [List.length_take]; omega
  rw [List.set_append_right _ _ (by omega), hl, Nat.sub_self, show k - j = (k - (j + 1)) + 1 by omega, List.replicate_succ, List.set_cons_zero, take_snoc h, List.append_assoc]
  rfl
set_option maxRecDepth 100000 in
theorem fixed_in (n k : Nat) (hn : n < 18446744073709551616) (h1 : 1 ≤ k) (h8 : k ≤ 8) (w : World) :
    Calls Try.prog 78 #[.int .u64 (n : Int), .int .i64 (k : Int)] w (GivesBytes w (Cd.lowTo n k).reverse) := by
  have hk1 : ¬ (k : Int) < 1 := by omega
  have hk8 : ¬ 8 < (k : Int) := by omega
  have Hn := Lib.hid hn
  have hmk := make_all k (by omega)
  have hllen : (Cd.lowTo n k).reverse.length = k := by rw [List.length_reverse, Cd.lowTo_length]
  have Hll := Lib.hid hllen
  clear hn hllen
  go_enter Try.func78, Try.ntmps78
  go_wp2
  clear hmk
  have hz := Own.zeros w w.heap.size k (Nat.le_refl _) (by omega)
  go_loopw [17] (fun i wr => ∃ j : Nat, j ≤ k ∧ i = .int .i64 (j : Int) ∧ Own wr w.heap.size (some ⟨w.heap.size, 0, none⟩) k k ((Cd.lowTo n k).reverse.take j ++ List.replicate (k - j) 0) ∧ Below w.heap.size w wr) (fun i _ => k - (intOf i).toNat)
  case atStart => exact ⟨0, by omega, rfl, by simpa using hz, (Below.refl _ _).alloc (Nat.le_refl _) _⟩
  case round =>
    clear hz
    obtain ⟨j, hj, rfl, ho, hb⟩ := hrel
    by_cases hlt : j < k
    · have hjk : (j : Int) < (k : Int) := by omega
      have hcell : ∃ x, (((Cd.lowTo n k).reverse.take j ++ List.replicate (k - j) 0))[j]? = some x := ⟨_, List.getElem?_eq_getElem (by rw [ho.1]; exact hlt)⟩
      obtain ⟨x, hx⟩ := hcell
      have hc := ho.cell hx
      have hf := ho.free j
      clear hx
      go_wp2
      go_roundw
      case rel =>
        refine ⟨j + 1, by omega, by go_num, ?_, hb.setCell (Nat.le_refl _) _⟩
        rw [fixed_byte]
        have h3 := ho.set j (n / 256 ^ (k - 1 - j) % 256) (Nat.mod_lt _ (by omega))
        rw [fill_set hlt (high_at n hlt)] at h3
        exact h3
      case measure => simp [intOf]; omega
    · have hjk : j = k := by omega
      subst hjk
      have ho2 : Own wr w.heap.size (some ⟨w.heap.size, 0, none⟩) j j (Cd.lowTo n j).reverse := by
        rw [Nat.sub_self, List.replicate_zero, List.append_nil, List.take_of_length_le (Nat.le_of_eq Hll.out)] at ho
        exact ho
      clear ho
      go_wp2
      go_ret
      refine ⟨some ⟨w.heap.size, 0, none⟩, j, ?_⟩
      rw [Hll.out]
      exact ⟨rfl, ho2, hb⟩
set_option maxRecDepth 100000 in
theorem fixed_out (n : Nat) (size : Int) (h : size < 1 ∨ 8 < size) (w : World) :
    Calls Try.prog 78 #[.int .u64 (n : Int), .int .i64 size] w fun e w' => e = .returned (.slice none 0 0) ∧ w = w' := by
  rcases h with h | h
  · go_enter Try.func78, Try.ntmps78
    go_wp2
    go_ret
    exact ⟨rfl, rfl⟩
  · have h1 : ¬ size < 1 := by omega
    go_enter Try.func78, Try.ntmps78
    go_wp2
    go_ret
    exact ⟨rfl, rfl⟩
theorem fixed_any (n : Nat) (size : Int) (hn : n < 18446744073709551616) (w : World) :
    Calls Try.prog 78 #[.int .u64 (n : Int), .int .i64 size] w (GivesBytes w (Cd.fixed n size)) := by
  unfold Cd.fixed
  by_cases h : size < 1 ∨ 8 < size
  · rw [if_pos h]
    exact (fixed_out n size h w).mono fun e w' ⟨h1, h2⟩ => by subst h2; exact ⟨none, 0, h1, Own.none_ w w.heap.size, Below.refl _ _⟩
  · rw [if_neg h]
    obtain ⟨k, rfl⟩ := Int.eq_ofNat_of_zero_le (show 0 ≤ size by omega)
    rw [Int.toNat_natCast]
    exact fixed_in n k hn (by omega) (by omega) w
theorem or_byte (v x : Nat) (hv : v ≤ 72057594037927935) (hx : x < 256) : bits .or .u64 (IntKind.u64.wrap ((v : Int) * 256)) (x : Int) = ((v * 256 + x : Nat) : Int) := by
  rw [IntKind.wrap_u64]
  have e : (v : Int) * 256 % 18446744073709551616 = ((v * 256 : Nat) : Int) := by omega
  rw [e, u64_or_nat _ _ (by omega) (by omega)]
  have := or_low v x 8 (by omega)
  rw [show 2 ^ 8 = 256 by decide] at this
  rw [this]
set_option maxRecDepth 100000 in
theorem takefixed_in (b o n k cap : Nat) (l : List Nat) (w : World) (hl : Rd w (some ⟨b, o, none⟩) n l) (hc : n ≤ cap) (hn : n ≤ 1000000) (h1 : 1 ≤ k) (h8 : k ≤ 8) (hk : k ≤ n) :
    Calls Try.prog 80 #[.slice (some ⟨b, o, none⟩) n cap, .int .i64 (k : Int)] w (GivesTake w (some (Cd.be (l.take k), l.drop k))) := by
  have hk1 : ¬ (k : Int) < 1 := by omega
  have hk8 : ¬ 8 < (k : Int) := by omega
  have hkn : ¬ (n : Int) < (k : Int) := by omega
  have hdr := cut_rd hl hk hc
  go_enter Try.func80, Try.ntmps80
  go_wp2
  go_loop [7, 26] (fun v i => ∃ j : Nat, j ≤ k ∧ i = .int .i64 (j : Int) ∧ v = .int .u64 (Cd.be (l.take j) : Int)) (fun _ i => k - (intOf i).toNat)
  case atStart => exact ⟨0, by omega, rfl, rfl⟩
  case round =>
    obtain ⟨j, hj, rfl, rfl⟩ := hrel
    by_cases hlt : j < k
    · obtain ⟨b', o', x, he, hb, hx, hx256, hcell⟩ := hl.at_ (k := j) (by omega)
      injection he with he
      injection he with he1 he2
      subst he1 he2
      have hx2 : (x : Int) < 256 := by omega
      have hjk : (j : Int) < (k : Int) := by omega
      have hlt1 := Cd.be_lt l hl.2.1 j (by rw [hl.1]; omega)
      have hp : 256 ^ j ≤ 72057594037927936 := by
        have : 256 ^ j ≤ 256 ^ 7 := Nat.pow_le_pow_right (by omega) (by omega)
        rw [show 256 ^ 7 = 72057594037927936 by decide] at this
        exact this
      have hw := or_byte (Cd.be (l.take j)) x (by omega) hx256
      have Hx := Lib.hid hx
      clear hx hp hlt1
      generalize hbe : Cd.be (l.take j) = v at hw ⊢
      have Hbe := Lib.hid hbe
      clear hbe
      go_wp2
      go_round
      case rel =>
        refine ⟨j + 1, by omega, by go_num, ?_⟩
        rw [take_snoc Hx.out, Cd.be_snoc, Hbe.out]
        go_num
      case measure => simp [intOf]; omega
    · have hjk : j = k := by omega
      subst hjk
      have hld : (l.drop j).length = n - j := by rw [List.length_drop, hl.1]
      have Hld := Lib.hid hld
      clear hld
      generalize hbe : Cd.be (l.take j) = v
      have Hbe := Lib.hid hbe
      clear hbe
      by_cases hck : cap = j
      · rw [if_pos hck] at hdr
        obtain rfl : n = j := by omega
        obtain rfl : cap = n := hck
        rw [Nat.sub_self] at hdr
        go_wp2_with (first | (go_at_call 83; refine (own_any _ _ _ (l.drop cap) _ hdr (by omega)).mono ?_; rintro e w1 ⟨A1, c1, rfl, ho1, hb1⟩))
        go_ret3
        rw [Hbe.out]
        refine ⟨A1, c1, ?_, ho1.rd, ho1.cap, hb1⟩
        rw [List.length_drop]
        rfl
      · have hdr2 := drop_rd hl hk
        have hjc : (j : Int) < (cap : Int) := by omega
        go_wp2_with (first | (go_at_call 83; refine (own_any _ _ _ (l.drop j) _ hdr2 (by omega)).mono ?_; rintro e w1 ⟨A1, c1, rfl, ho1, hb1⟩))
        go_ret3
        rw [Hbe.out]
        refine ⟨A1, c1, ?_, ho1.rd, ho1.cap, hb1⟩
        rw [List.length_drop]
        rfl
theorem takefixed_out (A : Option Addr) (n cap : Nat) (size : Int) (h : size < 1 ∨ 8 < size ∨ (n : Int) < size) (w : World) :
    Calls Try.prog 80 #[.slice A n cap, .int .i64 size] w fun e w' => e = .returned (.tuple #[.int .u64 0, .slice none 0 0, .bool false]) ∧ w = w' := by
  by_cases h1 : size < 1
  · go_enter Try.func80, Try.ntmps80
    go_wp2
    go_ret3
    exact ⟨rfl, rfl⟩
  · by_cases h2 : 8 < size
    · go_enter Try.func80, Try.ntmps80
      go_wp2
      go_ret3
      exact ⟨rfl, rfl⟩
    · have h3 : (n : Int) < size := by omega
      go_enter Try.func80, Try.ntmps80
      go_wp2
      go_ret3
      exact ⟨rfl, rfl⟩
theorem takefixed_any (A : Option Addr) (n cap : Nat) (size : Int) (l : List Nat) (w : World) (hl : Rd w A n l) (hc : n ≤ cap) (hn : n ≤ 1000000) :
    Calls Try.prog 80 #[.slice A n cap, .int .i64 size] w (GivesTake w (Cd.takeFixed l size)) := by
  unfold Cd.takeFixed
  rw [hl.1]
  by_cases h : size < 1 ∨ 8 < size ∨ (n : Int) < size
  · rw [if_pos h]
    exact (takefixed_out A n cap size h w).mono fun e w' ⟨h1, h2⟩ => by subst h2; exact ⟨h1, Below.refl _ _⟩
  · rw [if_neg h]
    obtain ⟨k, rfl⟩ := Int.eq_ofNat_of_zero_le (show 0 ≤ size by omega)
    obtain ⟨b, o, rfl, _⟩ := hl.2.2 (by omega)
    rw [Int.toNat_natCast]
    exact takefixed_in b o n k cap l w hl hc hn (by omega) (by omega) (by omega)
end Go.Proofs.Ytaoiokilnmpniaa
