/- Plain mathematics: the order of entries. -/
import Derived.Test.YtfmbnoafmnbhcaaMmSame
namespace Go.Proofs.Ytfmbnoafmnbhcaa
open Go.RowKit
namespace Bk
theorem cb_self : ∀ a : List UInt8, Lib.compareBytes a a = 0
  | [] => rfl
  | x :: xs => by
    unfold Lib.compareBytes
    rw [if_neg (UInt8.lt_irrefl x), if_neg (UInt8.lt_irrefl x)]
    exact cb_self xs
theorem cb_zero : ∀ {a b : List UInt8}, Lib.compareBytes a b = 0 → a = b
  | [], [], _ => rfl
  | [], _ :: _, h => by simp [Lib.compareBytes] at h
  | _ :: _, [], h => by simp [Lib.compareBytes] at h
  | x :: xs, y :: ys, h => by
    unfold Lib.compareBytes at h
    split at h
    · omega
    · split at h
      · omega
      · rename_i h1 h2
        have : x = y := UInt8.le_antisymm (UInt8.not_lt.1 h2) (UInt8.not_lt.1 h1)
        rw [this, cb_zero h]
theorem cb_neg : ∀ (a b : List UInt8), Lib.compareBytes b a = - Lib.compareBytes a b
  | [], [] => rfl
  | [], _ :: _ => by simp [Lib.compareBytes]
  | _ :: _, [] => by simp [Lib.compareBytes]
  | x :: xs, y :: ys => by
    unfold Lib.compareBytes
    by_cases h1 : x < y
    · rw [if_pos h1, if_neg (UInt8.not_lt.2 (UInt8.le_of_lt h1)), if_pos h1]; rfl
    · by_cases h2 : y < x
      · rw [if_pos h2, if_neg h1, if_pos h2]
      · rw [if_neg h1, if_neg h2, if_neg h2, if_neg h1]
        exact cb_neg xs ys
theorem cb_trans : ∀ {a b c : List UInt8}, Lib.compareBytes a b < 0 → Lib.compareBytes b c < 0 → Lib.compareBytes a c < 0
  | [], [], _, h, _ => by simp [Lib.compareBytes] at h
  | _ :: _, [], _, h, _ => by simp [Lib.compareBytes] at h
  | _, _ :: _, [], _, h => by simp [Lib.compareBytes] at h
  | [], _ :: _, _ :: _, _, _ => by simp [Lib.compareBytes]
  | x :: xs, y :: ys, z :: zs, h1, h2 => by
    unfold Lib.compareBytes at h1 h2 ⊢
    by_cases a1 : x < y
    · by_cases a2 : y < z
      · rw [if_pos (UInt8.lt_trans a1 a2)]; omega
      · rw [if_neg a2] at h2
        by_cases a3 : z < y
        · rw [if_pos a3] at h2; omega
        · have : y = z := UInt8.le_antisymm (UInt8.not_lt.1 a3) (UInt8.not_lt.1 a2)
          subst this
          rw [if_pos a1]; omega
    · rw [if_neg a1] at h1
      by_cases a3 : y < x
      · rw [if_pos a3] at h1; omega
      · rw [if_neg a3] at h1
        have : x = y := UInt8.le_antisymm (UInt8.not_lt.1 a3) (UInt8.not_lt.1 a1)
        subst this
        by_cases a2 : x < z
        · rw [if_pos a2]; omega
        · rw [if_neg a2] at h2 ⊢
          by_cases a4 : z < x
          · rw [if_pos a4] at h2; omega
          · rw [if_neg a4] at h2 ⊢
            exact cb_trans h1 h2
theorem cmpS_self (a : ByteArray) : cmpS a a = 0 := cb_self _
theorem cmpS_zero {a b : ByteArray} (h : cmpS a b = 0) : a = b := by
  have := cb_zero h
  cases a
  cases b
  congr
  exact Array.toList_inj.1 this
theorem cmp_self (a : En) : cmp a a = 0 := by
  unfold cmp
  rw [cmpS_self, if_neg (by omega), if_neg (by omega), if_neg (by omega)]
theorem cmp_neg (a b : En) : cmp b a = - cmp a b := by
  unfold cmp
  have h : cmpS b.key a.key = - cmpS a.key b.key := cb_neg _ _
  rw [h]
  repeat' split
  all_goals omega
theorem cmp_trans {a b c : En} (h1 : cmp a b < 0) (h2 : cmp b c < 0) : cmp a c < 0 := by
  unfold cmp at h1 h2 ⊢
  by_cases z1 : cmpS a.key b.key = 0
  · rw [if_neg (by omega)] at h1
    rw [cmpS_zero z1]
    by_cases z2 : cmpS b.key c.key = 0
    · rw [if_neg (by omega)] at h2 ⊢
      split at h1
      · split at h2
        · rw [if_pos (by omega)]; omega
        · split at h2 <;> omega
      · split at h1 <;> omega
    · rw [if_pos z2] at h2 ⊢
      exact h2
  · rw [if_pos z1] at h1
    by_cases z2 : cmpS b.key c.key = 0
    · rw [← cmpS_zero z2, if_pos z1]
      exact h1
    · rw [if_pos z2] at h2
      have h3 : cmpS a.key c.key < 0 := cb_trans h1 h2
      rw [if_pos (by omega)]
      exact h3
/-- The newest entry of a key that is not above a number: the first in order. -/
def hit (key : ByteArray) (seq : Int) (e : En) : Bool := decide (e.key = key) && decide (e.seq ≤ seq)
def find (L : List En) (key : ByteArray) (seq : Int) : Option En := L.find? (hit key seq)
/-- What is asked for. -/
def want (key : ByteArray) (seq : Int) : En := ⟨key, seq, false, []⟩
theorem not_hit {key : ByteArray} {seq : Int} {e : En} (h : cmp e (want key seq) < 0) : hit key seq e = false := by
  unfold cmp want at h
  unfold hit
  by_cases hk : e.key = key
  · rw [hk, cmpS_self, if_neg (by omega)] at h
    by_cases hs : e.seq ≤ seq
    · rw [if_neg (by show ¬ seq < e.seq; omega)] at h
      split at h <;> omega
    · rw [decide_eq_false hs, Bool.and_false]
  · rw [decide_eq_false hk, Bool.false_and]
theorem is_hit {key : ByteArray} {seq : Int} {e : En} (h : ¬ cmp e (want key seq) < 0) (hk : e.key = key) : hit key seq e = true := by
  unfold cmp want at h
  unfold hit
  rw [hk, cmpS_self, if_neg (by omega)] at h
  rw [decide_eq_true hk, Bool.true_and, decide_eq_true_eq]
  by_cases hs : e.seq ≤ seq
  · exact hs
  · rw [if_pos (by show seq < e.seq; omega)] at h
    omega
/-- Behind one that is not ahead and has another key, there is none of this key. -/
theorem no_more {key : ByteArray} {seq : Int} {e f : En} (h : ¬ cmp e (want key seq) < 0) (hk : e.key ≠ key) (hf : cmp e f < 0) : hit key seq f = false := by
  unfold hit
  by_cases hfk : f.key = key
  · exfalso
    have hne : cmpS e.key key ≠ 0 := fun z => hk (cmpS_zero z)
    unfold cmp want at h
    rw [if_pos hne] at h
    unfold cmp at hf
    rw [hfk, if_pos hne] at hf
    exact h hf
  · rw [decide_eq_false hfk, Bool.false_and]
theorem find_none_of {L : List En} {key : ByteArray} {seq : Int} (h : ∀ (i : Nat) (e : En), L[i]? = some e → hit key seq e = false) : find L key seq = none := by
  unfold find
  rw [List.find?_eq_none]
  intro e he
  obtain ⟨i, hi⟩ := List.getElem?_of_mem he
  rw [h i e hi]
  simp
theorem find_some_of {L : List En} {key : ByteArray} {seq : Int} {k : Nat} {x : En} (hx : L[k]? = some x) (hh : hit key seq x = true) (h : ∀ (i : Nat) (e : En), i < k → L[i]? = some e → hit key seq e = false) : find L key seq = some x := by
  unfold find
  rw [List.find?_eq_some_iff_getElem]
  obtain ⟨hk, hxe⟩ := List.getElem?_eq_some_iff.1 hx
  refine ⟨hh, k, hk, hxe, fun j hj => ?_⟩
  rw [h j _ hj (List.getElem?_eq_getElem (by omega))]
  rfl
end Bk
end Go.Proofs.Ytfmbnoafmnbhcaa
