/- What package code's own TakeNum returns. Numbers as bytes: there and back. -/
import Derived.Test.YthfcjlndaajkfaaGreatN05
namespace Go.Proofs.YthfcjlndaajkfaaGreat
open Go.RowKit
/-- What stands behind a cut of a slice, whatever its capacity. -/
theorem cut_rd {w : World} {A : Option Addr} {n v c : Nat} {l : List Nat} (h : Rd w A n l) (hv : v ≤ n) (hc : n ≤ c) : Rd w (if c = v then A else A.map (fun x => x.add v)) (n - v) (l.drop v) := by
  refine ⟨by rw [List.length_drop, h.1], fun x hx => h.2.1 x (List.mem_of_mem_drop hx), fun hn => ?_⟩
  obtain ⟨b, o, rfl, hb, hcell⟩ := h.2.2 (by omega)
  rw [if_neg (by omega)]
  have e : (⟨b, o, none⟩ : Addr).add v = ⟨b, o + v, none⟩ := by unfold Addr.add; split <;> simp_all
  refine ⟨b, o + v, by rw [Option.map_some, e], hb, fun j x hx => ?_⟩
  rw [List.getElem?_drop] at hx
  rw [Nat.add_assoc]
  exact hcell _ x hx
theorem takeNum_bound {l : List Nat} {v : Nat} {r : List Nat} (h : Cd.takeNum l = some (v, r)) : v < 18446744073709551616 ∧ r.length ≤ l.length ∧ ∀ x ∈ r, x ∈ l := by
  unfold Cd.takeNum at h
  split at h
  · cases h
  · split at h
    · cases h
    · split at h
      · injection h with h
        injection h with h1 h2
        subst h1 h2
        exact ⟨by omega, by rw [List.length_drop]; omega, fun x hx => List.mem_of_mem_drop hx⟩
      · cases h
theorem own_drop (A : Option Addr) (n cap k : Nat) (l : List Nat) (w : World) (hl : Rd w A n l) (hk : k ≤ n) (hc : n ≤ cap) (hn : n ≤ 1000000) :
    Calls Tryz.prog 103 #[.slice (if cap = k then A else A.map (fun x => x.add k)) (n - k) (cap - k)] w (GivesBytes w (l.drop k)) :=
  cown_any _ _ _ _ _ (cut_rd hl hk hc) (by omega)
end Go.Proofs.YthfcjlndaajkfaaGreat
namespace Go.Proofs.YthfcjlndaajkfaaGreat
open Go.RowKit
/-- Bytes as a number's are: all but the last of 128 or more. -/
def Formed (k : Nat) (a : List Nat) : Prop := a.length = k + 1 ∧ Led a k ∧ ∃ x, a[k]? = some x ∧ x < 128
theorem numF_formed (f n : Nat) (h : n < 128 ^ f * 128) : ∃ k, k ≤ f ∧ Formed k (Cd.numF f n) ∧ Cd.val7 (Cd.numF f n) = n ∧ (k = 0 ∨ ∃ x, (Cd.numF f n)[k]? = some x ∧ 0 < x) := by
  induction f generalizing n with
  | zero =>
    refine ⟨0, Nat.le_refl _, ⟨rfl, fun i x hi => by omega, n, rfl, by simpa using h⟩, ?_, .inl rfl⟩
    show 0 * 128 + n % 128 = n
    simp at h; omega
  | succ f ih =>
    by_cases hn : n < 128
    · rw [Cd.numF_small hn]
      refine ⟨0, Nat.zero_le _, ⟨rfl, fun i x hi => by omega, n, rfl, hn⟩, ?_, .inl rfl⟩
      show 0 * 128 + n % 128 = n
      omega
    · rw [Cd.numF_big hn]
      rw [Nat.pow_succ] at h
      obtain ⟨k, hk, ⟨h1, h2, x, h3, h4⟩, h5, h6⟩ := ih (n / 128) (by omega)
      refine ⟨k + 1, by omega, ⟨by rw [List.length_cons, h1], ?_, x, by simpa using h3, h4⟩, ?_, .inr ⟨x, by simpa using h3, ?_⟩⟩
      · intro i y hi hy
        cases i with
        | zero => simp at hy; omega
        | succ i => exact h2 i y (by omega) (by simpa using hy)
      · show Cd.val7 (Cd.numF f (n / 128)) * 128 + (n % 128 + 128) % 128 = n
        rw [h5]; omega
      · rcases h6 with h6 | ⟨y, h7, h8⟩
        · subst h6
          cases f with
          | zero =>
            simp [Cd.numF] at h3
            omega
          | succ f =>
            by_cases hn2 : n / 128 < 128
            · rw [Cd.numF_small hn2] at h3
              simp at h3
              omega
            · rw [Cd.numF_big hn2, List.length_cons] at h1
              have : (Cd.numF f (n / 128 / 128)).length = 0 := by omega
              have h9 := List.eq_nil_of_length_eq_zero this
              cases f with
              | zero => simp [Cd.numF] at h9
              | succ f =>
                by_cases hn3 : n / 128 / 128 < 128
                · rw [Cd.numF_small hn3] at h9; cases h9
                · rw [Cd.numF_big hn3] at h9; cases h9
        · rw [h3] at h7; injection h7 with h7; omega
theorem takeNum_num (n : Nat) (hn : n < 18446744073709551616) (b : List Nat) : Cd.takeNum (Cd.num n ++ b) = some (n, b) := by
  obtain ⟨k, _, ⟨h1, h2, x, h3, h4⟩, h5, h6⟩ := numF_formed 10 n (num_start n hn)
  have hk : ∀ i, i ≤ k → (Cd.num n ++ b)[i]? = (Cd.numF 10 n)[i]? := fun i hi => List.getElem?_append_left (by show i < (Cd.numF 10 n).length; omega)
  have hled : Led (Cd.num n ++ b) k := fun i y hi hy => h2 i y hi (by rw [← hk i (by omega)]; exact hy)
  have hx := hk k (Nat.le_refl _)
  rw [h3] at hx
  have htake : (Cd.num n ++ b).take (k + 1) = Cd.num n := by
    rw [← h1]; exact List.take_left' rfl
  have hdrop : (Cd.num n ++ b).drop (k + 1) = b := by
    rw [← h1]; exact List.drop_left' rfl
  have hval : Cd.val7 ((Cd.num n ++ b).take k) + x % 128 * 128 ^ k = n := by
    rw [← Cd.val7_take _ k x hx, htake]; exact h5
  have hk9 : k ≤ 9 := by
    apply Nat.le_of_not_lt
    intro hlt
    have hx0 : 0 < x := by
      rcases h6 with h6 | ⟨y, h7, h8⟩
      · omega
      · rw [h3] at h7; injection h7 with h7; omega
    have hp : 128 ^ 10 ≤ 128 ^ k := Nat.pow_le_pow_right (by omega) (by omega)
    rw [show 128 ^ 10 = 1180591620717411303424 by decide] at hp
    have h8 : 1 * 128 ^ k ≤ x % 128 * 128 ^ k := Nat.mul_le_mul_right _ (by omega)
    omega
  have hx9 : k = 9 → x ≤ 1 := by
    intro e
    subst e
    rw [show 128 ^ 9 = 9223372036854775808 by decide] at hval
    omega
  have hpos : 0 < x ∨ k = 0 := by
    rcases h6 with h6 | ⟨y, h7, h8⟩
    · exact .inr h6
    · rw [h3] at h7; injection h7 with h7; left; omega
  rw [Cd.take_some hled hk9 hx h4 hpos hx9, hval, hdrop]
end Go.Proofs.YthfcjlndaajkfaaGreat
