/- Plain mathematics: what is laid as a block is read again as the entries that were laid. -/
import Derived.Test.YtbfjcpblbmlfcaaBkDec
namespace Go.Proofs.Ytbfjcpblbmlfcaa
open Go.RowKit
theorem Cd.numF_few : ∀ (f n k : Nat), 1 ≤ k → n < 128 ^ k → (Cd.numF f n).length ≤ k
  | 0, n, k, hk, _ => by show 1 ≤ k; exact hk
  | f + 1, n, k, hk, h => by
    by_cases hn : n < 128
    · rw [Cd.numF_small hn]; exact hk
    · rw [Cd.numF_big hn, List.length_cons]
      obtain ⟨j, rfl⟩ : ∃ j, k = j + 1 := ⟨k - 1, by omega⟩
      rcases j with _ | j
      · simp at h; omega
      · have := Cd.numF_few f (n / 128) (j + 1) (by omega) (by rw [Nat.div_lt_iff_lt_mul (by omega)]; rw [Nat.pow_succ] at h; exact h)
        omega
namespace Bk
theorem rd_here {l r : List Nat} {p v : Nat} (h : l.drop p = Cd.num v ++ r) (hv : v < 18446744073709551616) : rd l p = some (v, p + (Cd.num v).length) := by
  have hlen : (Cd.num v).length ≤ 10 := Cd.numF_few 10 v 10 (by omega) (by have : (128 : Nat) ^ 10 = 1180591620717411303424 := by decide
                                                                           omega)
  unfold rd
  rw [h, List.take_append, List.take_of_length_le hlen, takeNum_num v hv]
  show some (v, p + ((Cd.num v ++ r.take (10 - (Cd.num v).length)).length - (r.take (10 - (Cd.num v).length)).length)) = _
  rw [List.length_append]
  congr 3
  omega
theorem rt_here {l r : List Nat} {p most : Nat} {s : ByteArray} (h : l.drop p = Cd.text s ++ r) (hs : s.size ≤ most) (hm : most ≤ 1000000) : rt l p most = some (bs s, p + (Cd.text s).length) := by
  have hlen : (Cd.num s.size).length ≤ 10 := Cd.numF_few 10 _ 10 (by omega) (by have : (128 : Nat) ^ 10 = 1180591620717411303424 := by decide
                                                                                omega)
  have htl : (Cd.text s).length ≤ 10 + most := by unfold Cd.text; rw [List.length_append, bs_length]; omega
  unfold rt
  rw [h, List.take_append, List.take_of_length_le htl]
  generalize r.take (10 + most - (Cd.text s).length) = r2
  have e : Cd.takeText (Cd.text s ++ r2) (most : Int) = some (bs s, r2) := by
    unfold Cd.takeText Cd.text
    rw [List.append_assoc, takeNum_num _ (by omega)]
    show (if (most : Int) < 0 ∨ (most : Int) < (s.size : Int) ∨ (bs s ++ r2).length < s.size then none else some ((bs s ++ r2).take s.size, (bs s ++ r2).drop s.size)) = _
    rw [if_neg (by rw [List.length_append, bs_length]; omega), List.take_left' (bs_length s), List.drop_left' (bs_length s)]
  rw [e]
  show some (bs s, p + ((Cd.text s ++ r2).length - r2.length)) = _
  rw [List.length_append]
  congr 3
  omega
theorem drop_more {α : Type} {l a b : List α} {p : Nat} (h : l.drop p = a ++ b) : l.drop (p + a.length) = b := by
  rw [← List.drop_drop, h, List.drop_left' rfl]
/-- One entry, read where it was laid. -/
theorem one_here {l r : List Nat} {key : ByteArray} {p s : Nat} {e : En} (h : l.drop p = ent s e ++ r) (hok : ok e = true) (hs : s ≤ e.key.size) (hsk : s ≤ key.size) (hsame : key.extract 0 s = e.key.extract 0 s) (hval : ∀ x ∈ e.val, x < 256) : one l key p = some (e, p + (ent s e).length) := by
  obtain ⟨ek, es, ed, ev⟩ := e
  unfold ok at hok
  simp only [decide_eq_true_eq] at hok
  obtain ⟨k1, k2, k3, k4, k5, k6⟩ := hok
  have hs : s ≤ ek.size := hs
  have hext : (ek.extract s ek.size).size ≤ 64 := by rw [ByteArray.size_extract]; omega
  have hkey : key.extract 0 s ++ str (bs (ek.extract s ek.size)) = ek := by
    rw [str_bs, hsame]
    show ek.extract 0 s ++ ek.extract s ek.size = ek
    have := ByteArray.extract_append_extract (a := ek) (i := 0) (j := s) (k := ek.size)
    rw [this, Nat.min_eq_left (by omega), Nat.max_eq_right (by omega), ByteArray.extract_zero_size]
  have hgone : gone ⟨ek, es, ed, ev⟩ ≤ 1 := by unfold gone; split <;> omega
  have hseq : es.toNat * 2 + gone ⟨ek, es, ed, ev⟩ < 18446744073709551616 := by omega
  unfold ent at h ⊢
  simp only [List.append_assoc] at h
  have h1 := rd_here h (by omega)
  have d1 := drop_more h
  have h2 := rt_here (most := 64) d1 hext (by omega)
  have d2 := drop_more d1
  have h3 := rd_here d2 hseq
  have d3 := drop_more d2
  unfold one
  rw [h1]
  simp only [if_neg (show ¬ key.size < s by omega), h2, h3]
  cases ed with
  | true =>
    have hv : ev = [] := by
      cases ev with
      | nil => rfl
      | cons x xs => exact absurd ⟨rfl, by simp⟩ k6
    subst hv
    have hg : gone ⟨ek, es, true, []⟩ = 1 := rfl
    rw [if_pos (by rw [hg]; omega)]
    rw [hkey, show (es.toNat * 2 + gone ⟨ek, es, true, []⟩) / 2 = es.toNat by rw [hg]; omega, show ((es.toNat : Nat) : Int) = es by omega]
    simp only [if_true, List.length_append, List.append_nil, Nat.add_assoc]
  | false =>
    have hg : gone ⟨ek, es, false, ev⟩ = 0 := rfl
    rw [if_neg (by rw [hg]; omega)]
    have hvs : (str ev).size = ev.length := by simp [str, ByteArray.size]
    have d3' : l.drop (p + (Cd.num s).length + (Cd.text (ek.extract s ek.size)).length + (Cd.num (es.toNat * 2 + gone ⟨ek, es, false, ev⟩)).length) = Cd.text (str ev) ++ r := d3
    have h4 := rt_here (most := 256) d3' (by rw [hvs]; exact k5) (by omega)
    rw [h4]
    simp only
    rw [hkey, bs_str hval, show (es.toNat * 2 + gone ⟨ek, es, false, ev⟩) / 2 = es.toNat by rw [hg]; omega, show ((es.toNat : Nat) : Int) = es by omega]
    simp only [Bool.false_eq_true, if_false, List.length_append, Nat.add_assoc]
/-- The key ahead of an entry. -/
def keyOf : Option (En × Sl) → ByteArray
  | some q => q.1.key
  | none => ⟨#[]⟩
def lastKey (es : List (En × Sl)) : Nat → ByteArray
  | 0 => ⟨#[]⟩
  | k + 1 => keyOf es[k]?
theorem shr_last (es : List (En × Sl)) (k : Nat) (e : En) : shr es k e ≤ (lastKey es k).size ∧ (lastKey es k).extract 0 (shr es k e) = e.key.extract 0 (shr es k e) := by
  unfold shr
  split
  · refine ⟨Nat.zero_le _, ?_⟩
    rw [ByteArray.extract_eq_empty_iff.2 (by omega), ByteArray.extract_eq_empty_iff.2 (by omega)]
  · rename_i h8
    obtain ⟨j, rfl⟩ : ∃ j, k = j + 1 := ⟨k - 1, by omega⟩
    rw [show j + 1 - 1 = j by omega]
    show _ ≤ (keyOf es[j]?).size ∧ (keyOf es[j]?).extract 0 _ = _
    rcases es[j]? with _ | q
    · refine ⟨Nat.zero_le _, ?_⟩
      show ByteArray.extract _ 0 0 = ByteArray.extract _ 0 0
      rw [ByteArray.extract_eq_empty_iff.2 (by omega), ByteArray.extract_eq_empty_iff.2 (by omega)]
    · refine ⟨by have := (pre_le (bs q.1.key) (bs e.key)).1; rw [bs_length] at this; exact this, ?_⟩
      apply bs_inj
      show bs (q.1.key.extract 0 (preS q.1.key e.key)) = bs (e.key.extract 0 (preS q.1.key e.key))
      rw [bs_extract, bs_extract, List.drop_zero, List.drop_zero, Nat.sub_zero]
      exact pre_take _ _
theorem enc_upto (es : List (En × Sl)) (k : Nat) : ∀ j, ∃ t, enc es (k + j) = enc es k ++ t
  | 0 => ⟨[], by simp⟩
  | j + 1 => by
    obtain ⟨t, ht⟩ := enc_upto es k j
    exact ⟨t ++ _, by show enc es (k + j) ++ _ = _; rw [ht, List.append_assoc]⟩
theorem out_at {es : List (En × Sl)} {k : Nat} {p : En × Sl} (hp : es[k]? = some p) : ∃ r, (out es).drop (enc es k).length = ent (shr es k p.1) p.1 ++ r := by
  have hk : k < es.length := (List.getElem?_eq_some_iff.1 hp).1
  obtain ⟨t, ht⟩ := enc_upto es (k + 1) (es.length - (k + 1))
  rw [show k + 1 + (es.length - (k + 1)) = es.length by omega, enc_next hp] at ht
  unfold out
  rw [ht]
  simp only [List.append_assoc]
  rw [List.drop_left' rfl]
  exact ⟨_, rfl⟩
theorem run_here {es : List (En × Sl)} (hf : fine es) (hv : ∀ p ∈ es, ∀ x ∈ p.1.val, x < 256) : ∀ k, k ≤ es.length → run (out es) k = some ((es.take k).map (fun z => z.1), lastKey es k, (enc es k).length)
  | 0, _ => rfl
  | k + 1, hk => by
    obtain ⟨p, hp⟩ : ∃ p, es[k]? = some p := ⟨_, List.getElem?_eq_getElem (by omega)⟩
    obtain ⟨r, hr⟩ := out_at hp
    have ho := one_here hr (hf.1.1 k p (by omega) hp) (shr_le es k p.1) (shr_last es k p.1).1 (shr_last es k p.1).2 (hv p (List.mem_of_getElem? hp))
    rw [run_next (run_here hf hv k (by omega)) ho, List.take_add_one, hp, List.map_append, enc_next hp, List.length_append]
    have hlk : lastKey es (k + 1) = p.1.key := by show keyOf es[k]? = _; rw [hp]; rfl
    rw [hlk]
    rfl
theorem out_last {es : List (En × Sl)} (h : es.length ≤ 64) : (out es)[(out es).length - 1]? = some es.length := by
  unfold out
  have h1 : (Cd.lowTo es.length 1).reverse = [es.length] := by
    show [es.length / 256 ^ 0 % 256] = _
    rw [Nat.pow_zero, Nat.div_one, Nat.mod_eq_of_lt (by omega)]
  rw [h1, List.length_append, List.getElem?_append_right (by simp)]
  simp
/-- There and back. -/
theorem dec_out {es : List (En × Sl)} (hf : fine es) (hv : ∀ p ∈ es, ∀ x ∈ p.1.val, x < 256) : dec (out es) = some (es.map fun z => z.1) := by
  unfold dec
  rw [out_last hf.2.2]
  simp only [run_here hf hv _ (Nat.le_refl _), List.take_length, Option.map_some]
theorem good_out {es : List (En × Sl)} (hf : fine es) (hv : ∀ p ∈ es, ∀ x ∈ p.1.val, x < 256) : good (out es) es := ⟨dec_out hf hv, hf, rfl⟩
end Bk
theorem RdE.small {w : World} {A : Option Addr} {n : Nat} {es : List (Bk.En × Bk.Sl)} (h : RdE w A n es) : ∀ p ∈ es, ∀ x ∈ p.1.val, x < 256 := fun p hp => (h.2.2 p hp).1.2.1
end Go.Proofs.Ytbfjcpblbmlfcaa
