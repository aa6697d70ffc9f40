/- What was written is read, and in one way alone: fields. -/
import Derived.Test.YtonjjihbpeblkaaWrRead
namespace Go.Proofs.Ytonjjihbpeblkaa
open Go.RowKit
namespace Wr
theorem one_enc {t : Bool} {v : Value} {e : List Nat} (hf : fits t v) (he : enc v = some e) (rest : List Nat) : one t (e ++ rest) = some (v, rest) := by
  cases t with
  | false =>
    obtain ⟨x, rfl, hx⟩ := hf
    have he : encI x = some e := he
    unfold encI at he
    by_cases h0 : x < 0
    · rw [if_pos h0] at he; cases he
    · rw [if_neg h0] at he
      injection he with he
      subst he
      have h1 : x.toNat < 9223372036854775808 := by omega
      unfold one
      simp only [Bool.false_eq_true, if_false]
      unfold num
      rw [takeNum_num _ (by omega)]
      show Option.map _ (if x.toNat < 9223372036854775808 then _ else _) = _
      rw [if_pos h1]
      show some (Value.int .i64 ((x.toNat : Nat) : Int), rest) = _
      rw [Int.toNat_of_nonneg (by omega)]
  | true =>
    obtain ⟨s, rfl⟩ := hf
    have he : encS s = some e := he
    unfold encS at he
    by_cases h0 : 4096 < s.size
    · rw [if_pos h0] at he; cases he
    · rw [if_neg h0] at he
      injection he with he
      subst he
      unfold one
      simp only [if_true]
      unfold Cd.takeText Cd.text
      rw [List.append_assoc, takeNum_num _ (by omega)]
      simp only
      rw [if_neg (by simp only [List.length_append, bs_length]; omega)]
      show some (Value.string (str ((bs s ++ rest).take s.size)), (bs s ++ rest).drop s.size) = _
      rw [← bs_length s, List.take_left, List.drop_left, str_bs]
theorem taken_encs {ts : List Bool} {vs : List Value} {e : List Nat} (hl : vs.length = ts.length) (hf : ∀ (i : Nat) (t : Bool) (v : Value), ts[i]? = some t → vs[i]? = some v → fits t v) (he : encs vs = some e) (rest : List Nat) : taken ts (e ++ rest) = some (vs, rest) := by
  induction ts generalizing vs e with
  | nil =>
    cases vs with
    | nil => injection he with he; subst he; rfl
    | cons v vs => simp at hl
  | cons t ts ih =>
    cases vs with
    | nil => simp at hl
    | cons v vs =>
      simp only [encs] at he
      rcases h1 : enc v with _ | e1
      · rw [h1] at he; cases he
      · rw [h1] at he
        rcases h2 : encs vs with _ | e2
        · rw [h2] at he; cases he
        · rw [h2] at he
          injection he with he
          subst he
          simp only [taken]
          rw [List.append_assoc, one_enc (hf 0 t v rfl rfl) h1]
          simp only
          rw [ih (by simpa using hl) (fun i t v ht hv => hf (i + 1) t v ht hv) h2]
          rfl
theorem one_only {t : Bool} {v : Value} {l r : List Nat} (hl : ∀ x ∈ l, x < 256) (h : one t l = some (v, r)) : ∃ e, enc v = some e ∧ l = e ++ r := by
  unfold one at h
  cases t with
  | false =>
    simp only [Bool.false_eq_true, if_false] at h
    unfold num at h
    rcases hn : Cd.takeNum l with _ | ⟨x, y⟩
    · rw [hn] at h; cases h
    · rw [hn] at h
      simp only at h
      by_cases hx : x < 9223372036854775808
      · rw [if_pos hx] at h
        injection h with h
        injection h with h1 h2
        subst h1 h2
        refine ⟨Cd.num x, ?_, (num_takeNum hl hn).2.symm⟩
        show encI _ = _
        unfold encI
        rw [if_neg (by omega), Int.toNat_natCast]
      · rw [if_neg hx] at h; cases h
  | true =>
    simp only [if_true] at h
    unfold Cd.takeText at h
    rcases hn : Cd.takeNum l with _ | ⟨x, y⟩
    · rw [hn] at h; cases h
    · rw [hn] at h
      simp only at h
      by_cases hx : (4096 : Int) < 0 ∨ (4096 : Int) < (x : Int) ∨ y.length < x
      · rw [if_pos hx] at h; cases h
      · rw [if_neg hx] at h
        injection h with h
        injection h with h1 h2
        subst h1 h2
        have hly : ∀ z ∈ y, z < 256 := fun z hz => hl z ((takeNum_bound hn).2.2 z hz)
        have hlt : ∀ z ∈ y.take x, z < 256 := fun z hz => hly z (List.mem_of_mem_take hz)
        have hlen : (y.take x).length = x := by rw [List.length_take]; omega
        have hsz : (str (y.take x)).size = x := by rw [← bs_length, bs_str hlt, hlen]
        refine ⟨Cd.num x ++ y.take x, ?_, ?_⟩
        · show encS _ = _
          unfold encS Cd.text
          rw [hsz, if_neg (by omega), bs_str hlt]
        · rw [List.append_assoc, List.take_append_drop]
          exact (num_takeNum hl hn).2.symm
theorem one_mem {t : Bool} {v : Value} {l r : List Nat} (h : one t l = some (v, r)) (hl : ∀ x ∈ l, x < 256) : ∀ x ∈ r, x < 256 := by
  obtain ⟨e, _, rfl⟩ := one_only hl h
  exact fun x hx => hl x (List.mem_append_right _ hx)
theorem taken_only {ts : List Bool} {vs : List Value} {l r : List Nat} (hl : ∀ x ∈ l, x < 256) (h : taken ts l = some (vs, r)) : vs.length = ts.length ∧ ∃ e, encs vs = some e ∧ l = e ++ r := by
  induction ts generalizing l vs with
  | nil =>
    injection h with h
    injection h with h1 h2
    subst h1 h2
    exact ⟨rfl, [], rfl, rfl⟩
  | cons t ts ih =>
    simp only [taken] at h
    rcases h1 : one t l with _ | ⟨v, l2⟩
    · rw [h1] at h; cases h
    · simp only [h1] at h
      rcases h2 : taken ts l2 with _ | ⟨us, l3⟩
      · rw [h2] at h; cases h
      · rw [h2] at h
        injection h with h
        injection h with h3 h4
        subst h3 h4
        obtain ⟨e1, he1, rfl⟩ := one_only hl h1
        obtain ⟨hlen, e2, he2, hl2⟩ := ih (one_mem h1 hl) h2
        refine ⟨by simp [hlen], e1 ++ e2, ?_, by rw [hl2, List.append_assoc]⟩
        simp only [encs, he1, he2]
        rfl
theorem all_encs {ts : List Bool} {vs : List Value} {e : List Nat} (hn : ts ≠ []) (hl : vs.length = ts.length) (hf : ∀ (i : Nat) (t : Bool) (v : Value), ts[i]? = some t → vs[i]? = some v → fits t v) (he : encs vs = some e) : all ts e = some vs := by
  have h := taken_encs hl hf he []
  rw [List.append_nil] at h
  cases ts with
  | nil => exact absurd rfl hn
  | cons t ts => exact all_some h
theorem all_only {ts : List Bool} {vs : List Value} {l : List Nat} (hl : ∀ x ∈ l, x < 256) (h : all ts l = some vs) : ts ≠ [] ∧ vs.length = ts.length ∧ encs vs = some l := by
  obtain ⟨h1, h2⟩ := all_taken h
  obtain ⟨h3, e, he, hl2⟩ := taken_only hl h2
  rw [List.append_nil] at hl2
  subst hl2
  exact ⟨h1, h3, he⟩
theorem num_num {k : Nat} (hk : k < 9223372036854775808) (rest : List Nat) : num (Cd.num k ++ rest) = some (k, rest) := by
  unfold num
  rw [takeNum_num _ (by omega)]
  exact if_pos hk
theorem num_only {l r : List Nat} {k : Nat} (hl : ∀ x ∈ l, x < 256) (h : num l = some (k, r)) : l = Cd.num k ++ r := by
  unfold num at h
  rcases hn : Cd.takeNum l with _ | ⟨x, y⟩
  · rw [hn] at h; cases h
  · rw [hn] at h
    simp only at h
    split at h
    · injection h with h
      injection h with h1 h2
      subst h1 h2
      exact (num_takeNum hl hn).2.symm
    · cases h
end Wr
end Go.Proofs.Ytonjjihbpeblkaa
