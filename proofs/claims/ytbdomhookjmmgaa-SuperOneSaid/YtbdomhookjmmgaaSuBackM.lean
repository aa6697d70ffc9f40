/- There and back: a superblock's sector, and a sector's superblock. -/
import Derived.Test.YtbdomhookjmmgaaSuD
namespace Go.Proofs.Ytbdomhookjmmgaa
open Go.RowKit Fr Su
set_option linter.unusedVariables false
namespace Su
theorem pow_id {n k : Nat} (h : n < 256 ^ k) : n % 256 ^ k = n := Nat.mod_eq_of_lt h
theorem pairsB_cut {ps : List (Int × Int)} {j : Nat} {p : Int × Int} (h : ps[j]? = some p) : pairsB ps = pairsB (ps.take j) ++ (le 2 p.1.toNat ++ (le 2 p.2.toNat ++ pairsB (ps.drop (j + 1)))) := by
  have e : ps = ps.take j ++ (p :: ps.drop (j + 1)) := by
    have hj := (List.getElem?_eq_some_iff.1 h)
    obtain ⟨hj, hp⟩ := hj
    rw [← hp, ← List.drop_eq_getElem_cons hj, List.take_append_drop]
  conv => lhs; rw [e]
  unfold pairsB
  rw [List.flatMap_append, List.flatMap_cons]
  simp [pairB, List.append_assoc]
theorem pay_0 (s : S) (h : s.i.toNat < 256 ^ 4) : F (pay s) 0 4 = s.i.toNat := by
  have := F_mid (A := []) (B := le 4 s.i.toNat) (C := le 4 s.m.toNat ++ ([s.ps.length % 256] ++ pairsB s.ps)) rfl (le_len _ _)
  rw [num_le, pow_id h] at this
  simpa [pay, List.append_assoc] using this
theorem pay_4 (s : S) (h : s.m.toNat < 256 ^ 4) : F (pay s) 4 4 = s.m.toNat := by
  have := F_mid (A := le 4 s.i.toNat) (B := le 4 s.m.toNat) (C := [s.ps.length % 256] ++ pairsB s.ps) (o := 4) (le_len _ _) (le_len _ _)
  rw [num_le, pow_id h] at this
  simpa [pay, List.append_assoc] using this
theorem pay_8 (s : S) (h : s.ps.length < 256) : F (pay s) 8 1 = s.ps.length := by
  have := F_mid (A := le 4 s.i.toNat ++ le 4 s.m.toNat) (B := [s.ps.length % 256]) (C := pairsB s.ps) (o := 8) (by simp [le_len]) rfl
  rw [show num [s.ps.length % 256] = s.ps.length by simp [num]; omega] at this
  simpa [pay, List.append_assoc] using this
theorem pay_a (s : S) {j : Nat} {p : Int × Int} (hp : s.ps[j]? = some p) (h : p.1.toNat < 256 ^ 2) : F (pay s) (9 + 4 * j) 2 = p.1.toNat := by
  have hj := (List.getElem?_eq_some_iff.1 hp).1
  have := F_mid (A := le 4 s.i.toNat ++ le 4 s.m.toNat ++ [s.ps.length % 256] ++ pairsB (s.ps.take j)) (B := le 2 p.1.toNat) (C := le 2 p.2.toNat ++ pairsB (s.ps.drop (j + 1))) (o := 9 + 4 * j) (by simp [le_len, pairsB_len]; omega) (le_len _ _)
  rw [num_le, pow_id h] at this
  rw [show pay s = le 4 s.i.toNat ++ le 4 s.m.toNat ++ [s.ps.length % 256] ++ pairsB (s.ps.take j) ++ (le 2 p.1.toNat ++ (le 2 p.2.toNat ++ pairsB (s.ps.drop (j + 1)))) by
    unfold pay; conv => lhs; rw [pairsB_cut hp]
    simp [List.append_assoc]]
  exact this
theorem pay_b (s : S) {j : Nat} {p : Int × Int} (hp : s.ps[j]? = some p) (h : p.2.toNat < 256 ^ 2) : F (pay s) (11 + 4 * j) 2 = p.2.toNat := by
  have hj := (List.getElem?_eq_some_iff.1 hp).1
  have := F_mid (A := le 4 s.i.toNat ++ le 4 s.m.toNat ++ [s.ps.length % 256] ++ pairsB (s.ps.take j) ++ le 2 p.1.toNat) (B := le 2 p.2.toNat) (C := pairsB (s.ps.drop (j + 1))) (o := 11 + 4 * j) (by simp [le_len, pairsB_len]; omega) (le_len _ _)
  rw [num_le, pow_id h] at this
  rw [show pay s = le 4 s.i.toNat ++ le 4 s.m.toNat ++ [s.ps.length % 256] ++ pairsB (s.ps.take j) ++ le 2 p.1.toNat ++ (le 2 p.2.toNat ++ pairsB (s.ps.drop (j + 1))) by
    unfold pay; conv => lhs; rw [pairsB_cut hp]
    simp [List.append_assoc]]
  exact this
theorem pay_pairs {s : S} (h : Su.ok s = true) : pairs (pay s) s.ps.length = s.ps := by
  apply List.ext_getElem?
  intro j
  by_cases hj : j < s.ps.length
  · obtain ⟨p, hp⟩ : ∃ p, s.ps[j]? = some p := ⟨_, List.getElem?_eq_getElem hj⟩
    have h2 := (okP_iff.1 (ok_iff.1 h).2).1
    obtain ⟨a, b⟩ := flat_at hp
    have ha := h2 _ (List.mem_of_getElem? a)
    have hb := h2 _ (List.mem_of_getElem? b)
    have e256 : (256 : Nat) ^ 2 = 65536 := by decide
    unfold pairs
    rw [List.getElem?_map, List.getElem?_range hj, hp]
    show some (((F (pay s) (9 + 4 * j) 2 : Nat) : Int), ((F (pay s) (11 + 4 * j) 2 : Nat) : Int)) = some p
    rw [pay_a s hp (by omega), pay_b s hp (by omega)]
    obtain ⟨x, y⟩ := p
    simp only at ha hb ⊢
    rw [Int.toNat_of_nonneg ha.1, Int.toNat_of_nonneg hb.1]
  · rw [List.getElem?_eq_none (by rw [pairs_len]; omega), List.getElem?_eq_none (by omega)]
/-- What Encode makes is read as what it was. -/
theorem su_there {s : S} (h : Su.ok s = true) : isSu (sec s) = true ∧ sOf (sec s) = s := by
  have hh := okH_iff.1 (ok_iff.1 h).1
  have hpl := pay_len s
  have e256 : (256 : Nat) ^ 4 = 4294967296 := by decide
  have hs : okS ((0 : Nat) : Int) (s.e.toNat : Int) (s.g.toNat : Int) = true := okS_iff.2 ⟨by omega, by omega, by omega⟩
  have hk : okK ((1 : Nat) : Int) = true := by decide
  obtain ⟨f1, f2, f3, f4, f5, f6⟩ := frame_is 0 s.e.toNat s.g.toNat 1 hs hk (pay_lt s) (by omega)
  have hb : Su.body (sec s) = pay s := by
    unfold Su.body sec
    rw [f3]
    exact form_payload 1 0 s.e.toNat s.g.toNat
  have hS : sOf (sec s) = s := by
    unfold sOf
    rw [hb, pay_0 s (by omega), pay_4 s (by omega), pay_8 s (by omega), pay_pairs h]
    unfold sec
    rw [f5, f6]
    obtain ⟨g, e, i, m, ps⟩ := s
    simp only at hh ⊢
    congr 1 <;> omega
  refine ⟨?_, hS⟩
  have hd : headS (sec s) := ⟨f2, f4, by rw [hb]; omega, by rw [hb, pay_8 s (by omega), hpl]⟩
  have e := isSu_ok (l := sec s) f1 hd
  rw [e, hS]
  exact h
theorem pairsB_of {b : List Nat} (hb : ∀ x ∈ b, x < 256) (k : Nat) (hk : 9 + 4 * k ≤ b.length) : pairsB (pairs b k) = (b.drop 9).take (4 * k) := by
  induction k with
  | zero => simp [pairs, pairsB]
  | succ k ih =>
    rw [pairs_snoc, pairsB_snoc, ih (by omega)]
    unfold pairB
    simp only [Int.toNat_natCast]
    rw [le_F hb (by omega), le_F hb (by omega), show 4 * (k + 1) = 4 * k + 4 by omega, List.take_add, List.drop_drop]
    rw [show (b.drop (9 + 4 * k)).take 4 = (b.drop (9 + 4 * k)).take 2 ++ (b.drop (11 + 4 * k)).take 2 by
      rw [show (4 : Nat) = 2 + 2 from rfl, List.take_add, List.drop_drop, show 9 + 4 * k + 2 = 11 + 4 * k by omega]]
/-- What is read is made again. -/
theorem su_back {l : List Nat} (hl : ∀ x ∈ l, x < 256) (h : isSu l = true) : Su.ok (sOf l) = true ∧ sec (sOf l) = l := by
  have hf : isF l = true := by
    unfold isSu at h
    simp only [Bool.and_eq_true, decide_eq_true_eq] at h
    exact h.1.1.1.1.1
  have hd : headS l := by
    unfold isSu at h
    simp only [Bool.and_eq_true, decide_eq_true_eq] at h
    exact ⟨h.1.1.1.1.2, h.1.1.1.2, h.1.1.2, h.1.2⟩
  have hok : Su.ok (sOf l) = true := by rw [← isSu_ok hf hd]; exact h
  refine ⟨hok, ?_⟩
  obtain ⟨d1, d2, d3, d4⟩ := hd
  have hb := body_lt hl
  have h8 := (body_8 hl d3).2
  have hpay : pay (sOf l) = Su.body l := by
    unfold pay sOf
    simp only [Int.toNat_natCast, pairs_len]
    rw [le_F hb (by omega), le_F hb (by omega), pairsB_of hb _ (by omega), Nat.mod_eq_of_lt h8, ← le_one _ h8, le_F hb (by omega)]
    rw [List.take_of_length_le (i := 4 * F (Su.body l) 8 1) (by rw [List.length_drop]; omega)]
    have e1 := cut_at (l := Su.body l) (o := 0) (s := 4)
    have e2 := cut_at (l := Su.body l) (o := 4) (s := 4)
    have e3 := cut_at (l := Su.body l) (o := 8) (s := 1)
    rw [List.drop_zero] at e1
    conv => rhs; rw [e1, e2, e3]
    simp [List.append_assoc]
  have hfr := frame_of hl hf
  unfold sec
  rw [hpay]
  rw [d1, d2] at hfr
  unfold sOf
  simp only [Int.toNat_natCast]
  exact hfr
end Su
end Go.Proofs.Ytbdomhookjmmgaa
