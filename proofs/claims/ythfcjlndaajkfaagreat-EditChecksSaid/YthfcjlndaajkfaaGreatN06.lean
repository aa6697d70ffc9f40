/- What package code's own TakeNum returns. Numbers as bytes: there and back. -/
import Derived.Test.YthfcjlndaajkfaaGreatN05
namespace Go.Proofs.YthfcjlndaajkfaaGreat
open Go.RowKit
/-- What stands behind a cut of a slice, whatever its capacity. -/
theorem cut_rd {w : World} {A : Option Addr} {n v c : Nat} {l : List Nat} (h : Rd w A n l) (hv : v ≤ n) (hc : n ≤ c) : Rd w (if c = v then A else A.map (fun x => x.add v)) (n - v) (l.drop v) := by
  refine ⟨by rw [List.length_drop, h.1], fun x hx => h.2.1 x (List.mem_of_mem_drop hx), fun hn => ?_⟩
  obtain ⟨b, o, rfl, hb, hcell⟩ := h.2.2 (by omega)
  rw [if_neg (by omega)]
  have e : (⟨b, o, none⟩ : Addr).add v = ⟨b, o + v, none⟩ := by unfold Addr.add; split <;> simp_all
  refine ⟨b, o + v, by rw [Option.map_some, e], hb, fun j x hx => ?_⟩
  rw [List.getElem?_drop] at hx
  rw [Nat.add_assoc]
  exact hcell _ x hx
theorem takeNum_bound {l : List Nat} {v : Nat} {r : List Nat} (h : Cd.takeNum l = some (v, r)) : v < 18446744073709551616 ∧ r.length ≤ l.length ∧ ∀ x ∈ r, x ∈ l := by
  unfold Cd.takeNum at h
  split at h
  · cases h
  · split at h
    · cases h
    · split at h
      · injection h with h
        injection h with h1 h2
        subst h1 h2
        exact ⟨by omega, by rw [List.length_drop]; omega, fun x hx => List.mem_of_mem_drop hx⟩
      · cases h
theorem own_drop (A : Option Addr) (n cap k : Nat) (l : List Nat) (w : World) (hl : Rd w A n l) (hk : k ≤ n) (hc : n ≤ cap) (hn : n ≤ 1000000) :
    Calls Tryz.prog 103 #[.slice (if cap = k then A else A.map (fun x => x.add k)) (n - k) (cap - k)] w (GivesBytes w (l.drop k)) :=
  cown_any _ _ _ _ _ (cut_rd hl hk hc) (by omega)
set_option maxRecDepth 100000 in
theorem takenum_any (A : Option Addr) (n cap : Nat) (l : List Nat) (w : World) (hl : Rd w A n l) (hc : n ≤ cap) (hn : n ≤ 1000000) :
    Calls Tryz.prog 85 #[.slice A n cap] w (GivesTake w (Cd.takeNum l)) := by
  have hnum := number_any A n cap l w hl hc hn
  rcases htk : Cd.takeNum l with _ | ⟨v, r⟩
  · rw [htk] at hnum
    have Hnum := Lib.hid hnum
    clear hnum
    go_enter Tryz.func85, Tryz.ntmps85
    go_wp2_with (first | (go_at_call 102; refine Hnum.out.mono ?_; rintro e w1 ⟨rfl, rfl⟩))
    go_ret3
    exact ⟨rfl, Below.refl _ _⟩
  · rw [htk] at hnum
    have Hnum := Lib.hid hnum
    have hlen := hl.1
    have Hlen := Lib.hid hlen
    clear hnum htk hlen
    go_enter Tryz.func85, Tryz.ntmps85
    go_wp2_with (first | (go_at_call 102; refine Hnum.out.mono ?_; rintro e w1 ⟨rfl, k, rfl, hk1, hk2, hr, hv⟩; rw [Hlen.out] at hk2; have hk0 : ((k : Int) == 0) = false := (by rw [beq_eq_false_iff_ne]; omega); have Hr := Lib.hid hr; clear hr) | (go_at_call 103; refine (own_drop A n cap k l _ hl hk2 hc hn).mono ?_; rintro e w2 ⟨A2, c2, rfl, ho2, hb2⟩))
    all_goals
      go_ret3
      rw [Hr.out]
      refine ⟨A2, c2, ?_, ho2.rd, ho2.cap, hb2⟩
      rw [List.length_drop]
      rfl
end Go.Proofs.YthfcjlndaajkfaaGreat
namespace Go.Proofs.YthfcjlndaajkfaaGreat
open Go.RowKit
/-- Bytes as a number's are: all but the last of 128 or more. -/
def Formed (k : Nat) (a : List Nat) : Prop := a.length = k + 1 ∧ Led a k ∧ ∃ x, a[k]? = some x ∧ x < 128
theorem numF_formed (f n : Nat) (h : n < 128 ^ f * 128) : ∃ k, k ≤ f ∧ Formed k (Cd.numF f n) ∧ Cd.val7 (Cd.numF f n) = n ∧ (k = 0 ∨ ∃ x, (Cd.numF f n)[k]? = some x ∧ 0 < x) := by
  induction f generalizing n with
  | zero =>
    refine ⟨0, Nat.le_refl _, ⟨rfl, fun i x hi => by omega, n, rfl, by simpa using h⟩, ?_, .inl rfl⟩
    show 0 * 128 + n % 128 = n
    simp at h; omega
  | succ f ih =>
    by_cases hn : n < 128
    · rw [Cd.numF_small hn]
      refine ⟨0, Nat.zero_le _, ⟨rfl, fun i x hi => by omega, n, rfl, hn⟩, ?_, .inl rfl⟩
      show 0 * 128 + n % 128 = n
      omega
    · rw [Cd.numF_big hn]
      rw [Nat.pow_succ] at h
      obtain ⟨k, hk, ⟨h1, h2, x, h3, h4⟩, h5, h6⟩ := ih (n / 128) (by omega)
      refine ⟨k + 1, by omega, ⟨by rw [List.length_cons, h1], ?_, x, by simpa using h3, h4⟩, ?_, .inr ⟨x, by simpa using h3, ?_⟩⟩
      · intro i y hi hy
        cases i with
        | zero => simp at hy; omega
        | succ i => exact h2 i y (by omega) (by simpa using hy)
      · show Cd.val7 (Cd.numF f (n / 128)) * 128 + (n % 128 + 128) % 128 = n
        rw [h5]; omega
      · rcases h6 with h6 | ⟨y, h7, h8⟩
        · subst h6
          cases f with
          | zero =>
            simp [Cd.numF] at h3
            omega
          | succ f =>
            by_cases hn2 : n / 128 < 128
            · rw [Cd.numF_small hn2] at h3
              simp at h3
              omega
            · rw [Cd.numF_big hn2, List.length_cons] at h1
              have : (Cd.numF f (n / 128 / 128)).length = 0 := by omega
              have h9 := List.eq_nil_of_length_eq_zero this
              cases f with
              | zero => simp [Cd.numF] at h9
              | succ f =>
                by_cases hn3 : n / 128 / 128 < 128
                · rw [Cd.numF_small hn3] at h9; cases h9
                · rw [Cd.numF_big hn3] at h9; cases h9
        · rw [h3] at h7; injection h7 with h7; omega
theorem takeNum_num (n : Nat) (hn : n < 18446744073709551616) (b : List Nat) : Cd.takeNum (Cd.num n ++ b) = some (n, b) := by
  obtain ⟨k, _, ⟨h1, h2, x, h3, h4⟩, h5, h6⟩ := numF_formed 10 n (num_start n hn)
  have hk : ∀ i, i ≤ k → (Cd.num n ++ b)[i]? = (Cd.numF 10 n)[i]? := fun i hi => List.getElem?_append_left (by show i < (Cd.numF 10 n).length; omega)
  have hled : Led (Cd.num n ++ b) k := fun i y hi hy => h2 i y hi (by rw [← hk i (by omega)]; exact hy)
  have hx := hk k (Nat.le_refl _)
  rw [h3] at hx
  have htake : (Cd.num n ++ b).take (k + 1) = Cd.num n := by
    rw [← h1]; exact List.take_left' rfl
  have hdrop : (Cd.num n ++ b).drop (k + 1) = b := by
    rw [← h1]; exact List.drop_left' rfl
  have hval : Cd.val7 ((Cd.num n ++ b).take k) + x % 128 * 128 ^ k = n := by
    rw [← Cd.val7_take _ k x hx, htake]; exact h5
  have hk9 : k ≤ 9 := by
    apply Nat.le_of_not_lt
    intro hlt
    have hx0 : 0 < x := by
      rcases h6 with h6 | ⟨y, h7, h8⟩
      · omega
      · rw [h3] at h7; injection h7 with h7; omega
    have hp : 128 ^ 10 ≤ 128 ^ k := Nat.pow_le_pow_right (by omega) (by omega)
    rw [show 128 ^ 10 = 1180591620717411303424 by decide] at hp
    have h8 : 1 * 128 ^ k ≤ x % 128 * 128 ^ k := Nat.mul_le_mul_right _ (by omega)
    omega
  have hx9 : k = 9 → x ≤ 1 := by
    intro e
    subst e
    rw [show 128 ^ 9 = 9223372036854775808 by decide] at hval
    omega
  have hpos : 0 < x ∨ k = 0 := by
    rcases h6 with h6 | ⟨y, h7, h8⟩
    · exact .inr h6
    · rw [h3] at h7; injection h7 with h7; left; omega
  rw [Cd.take_some hled hk9 hx h4 hpos hx9, hval, hdrop]
theorem formed_inj (k : Nat) (a b : List Nat) (ha : Formed k a) (hb : Formed k b) (ha2 : ∀ x ∈ a, x < 256) (hb2 : ∀ x ∈ b, x < 256) (h : Cd.val7 a = Cd.val7 b) : a = b := by
  induction k generalizing a b with
  | zero =>
    obtain ⟨h1, _, x, h2, h3⟩ := ha
    obtain ⟨h4, _, y, h5, h6⟩ := hb
    match a, b, h1, h4 with
    | [u], [v], _, _ =>
      simp at h2 h5
      have h' : 0 * 128 + u % 128 = 0 * 128 + v % 128 := h
      congr 1
      omega
  | succ k ih =>
    obtain ⟨h1, h1l, x, h2, h3⟩ := ha
    obtain ⟨h4, h4l, y, h5, h6⟩ := hb
    match a, b, h1, h4 with
    | u :: s, v :: t, h1, h4 =>
      have h' : Cd.val7 s * 128 + u % 128 = Cd.val7 t * 128 + v % 128 := h
      have hu := h1l 0 u (by omega) rfl
      have hv := h4l 0 v (by omega) rfl
      have hu2 := ha2 u (List.mem_cons_self ..)
      have hv2 := hb2 v (List.mem_cons_self ..)
      have e : s = t := by
        refine ih s t ⟨by simpa using h1, fun i c hi hc => h1l (i + 1) c (by omega) (by simpa using hc), x, by simpa using h2, h3⟩ ⟨by simpa using h4, fun i c hi hc => h4l (i + 1) c (by omega) (by simpa using hc), y, by simpa using h5, h6⟩ (fun c hc => ha2 c (List.mem_cons_of_mem _ hc)) (fun c hc => hb2 c (List.mem_cons_of_mem _ hc)) (by omega)
      rw [e]
      congr 1
      omega
theorem num_takeNum {l : List Nat} (hl : ∀ x ∈ l, x < 256) {v : Nat} {r : List Nat} (h : Cd.takeNum l = some (v, r)) : v < 18446744073709551616 ∧ Cd.num v ++ r = l := by
  have hv := (takeNum_bound h).1
  refine ⟨hv, ?_⟩
  unfold Cd.takeNum at h
  split at h
  · cases h
  · rename_i h1
    split at h
    · cases h
    · split at h
      · rename_i h3
        injection h with h
        injection h with h4 h5
        subst h4 h5
        have hle : Cd.lead 10 l ≤ l.length := by
          have : ∀ (f : Nat) (l : List Nat), Cd.lead f l ≤ l.length := by
            intro f
            induction f with
            | zero => intro l; exact Nat.zero_le _
            | succ f ih =>
              intro l
              cases l with
              | nil => exact Nat.le_refl _
              | cons y t =>
                show (if 128 ≤ y then Cd.lead f t + 1 else 0) ≤ t.length + 1
                have := ih t
                split <;> omega
          exact this 10 l
        have hle10 : ∀ (f : Nat) (l : List Nat), Cd.lead f l ≤ f ∧ (Led l (Cd.lead f l)) ∧ (Cd.lead f l < f → ∀ x, l[Cd.lead f l]? = some x → x < 128) := by
          intro f
          induction f with
          | zero => intro l; exact ⟨Nat.le_refl _, fun i x hi => by (have : i < 0 := hi); omega, fun h => by (have : 0 < 0 := h); omega⟩
          | succ f ih =>
            intro l
            cases l with
            | nil => exact ⟨Nat.zero_le _, fun i x hi => by (have : i < 0 := hi); omega, fun _ x hx => by cases hx⟩
            | cons y t =>
              obtain ⟨i1, i2, i3⟩ := ih t
              have e : Cd.lead (f + 1) (y :: t) = if 128 ≤ y then Cd.lead f t + 1 else 0 := rfl
              by_cases hy : 128 ≤ y
              · rw [if_pos hy] at e
                rw [e]
                refine ⟨by omega, ?_, ?_⟩
                · intro i x hi hx
                  cases i with
                  | zero => simp at hx; omega
                  | succ i => exact i2 i x (by omega) (by simpa using hx)
                · intro hlt x hx
                  exact i3 (by omega) x (by simpa using hx)
              · rw [if_neg hy] at e
                rw [e]
                exact ⟨by omega, fun i x hi => by omega, fun _ x hx => by simp at hx; omega⟩
        obtain ⟨j1, j2, j3⟩ := hle10 10 l
        generalize Cd.lead 10 l = j at *
        have hjl : j < l.length := by omega
        have hx : l[j]? = some (l[j]'hjl) := List.getElem?_eq_getElem _
        have hx128 := j3 (by omega) _ hx
        have hform : Formed j (l.take (j + 1)) := by
          refine ⟨by rw [List.length_take]; omega, fun i x hi hy => j2 i x hi ?_, _, ?_, hx128⟩
          · rw [List.getElem?_take] at hy
            split at hy
            · exact hy
            · cases hy
          · rw [List.getElem?_take, if_pos (by omega)]; exact hx
        obtain ⟨k, hk, hf, hvv, _⟩ := numF_formed 10 (Cd.val7 (l.take (j + 1))) (num_start _ hv)
        have hkj : k = j := by
          have := hf.1
          have h3' : (Cd.numF 10 (Cd.val7 (l.take (j + 1)))).length = j + 1 := h3
          omega
        subst hkj
        have := formed_inj k (Cd.num (Cd.val7 (l.take (k + 1)))) (l.take (k + 1)) hf hform (Cd.num_lt hv) (fun x hx => hl x (List.mem_of_mem_take hx)) hvv
        rw [this, List.take_append_drop]
      · cases h
end Go.Proofs.YthfcjlndaajkfaaGreat
