/- How many payloads there are hangs on the records' lengths alone. -/
import Derived.Test.YtpfdacnjikdifaaFgNeed
import Derived.Test.YtpfdacnjikdifaaFgCut
namespace Go.Proofs.Ytpfdacnjikdifaa
open Go.RowKit
set_option linter.unusedVariables false
namespace Fg
/-- Two states of one size. -/
def Alike (st st' : St) : Prop := st.1.length = st'.1.length ∧ st.2.length = st'.2.length
theorem Alike.lay {st st' : St} {k k' : Nat} {c c' : List Nat} (h : Alike st st') (hc : c.length = c'.length) : Alike (Fg.lay st k c) (Fg.lay st' k' c') := by
  obtain ⟨h1, h2⟩ := h
  unfold Fg.lay Alike
  rw [h2]
  split
  · simp [piece, h1, hc]
  · simp [piece, h1, h2, hc]
theorem Alike.cut1 {r r' : List Nat} {b b' : Bool} {st st' : St} (h : Alike st st') (hr : r.length = r'.length) : Alike (Fg.cut1 r b st) (Fg.cut1 r' b' st') := by
  induction hn : r.length using Nat.strongRecOn generalizing r r' b b' st st' with
  | _ n ih =>
    have hp := room_pos st.2.length
    by_cases e : r.length ≤ room st.2.length - 2
    · rw [cut1_over e, cut1_over (by rw [← hr, ← h.2]; exact e)]
      exact h.lay hr
    · rw [cut1_more (by omega), cut1_more (rest := r') (by rw [← hr, ← h.2]; omega)]
      refine ih _ ?_ (h.lay ?_) ?_ rfl
      · rw [List.length_drop]; omega
      · rw [List.length_take, List.length_take, hr, h.2]
      · rw [List.length_drop, List.length_drop, hr, h.2]
theorem Alike.cutAll {L L' : List (List Nat)} {st st' : St} (h : Alike st st') (hL : L.map List.length = L'.map List.length) : Alike (Fg.cutAll L st) (Fg.cutAll L' st') := by
  induction L generalizing L' st st' with
  | nil =>
    cases L' with
    | nil => exact h
    | cons _ _ => simp at hL
  | cons r L ih =>
    cases L' with
    | nil => simp at hL
    | cons r' L' =>
      simp only [List.map_cons, List.cons.injEq] at hL
      show Alike (Fg.cutAll L (Fg.cut1 r false st)) (Fg.cutAll L' (Fg.cut1 r' false st'))
      exact ih (h.cut1 hL.1) hL.2
theorem cut_length {L L' : List (List Nat)} (hL : L.map List.length = L'.map List.length) : (cut L).length = (cut L').length := by
  rw [← cnt_cut, ← cnt_cut]
  have h := Alike.cutAll (st := ([], [])) (st' := ([], [])) ⟨rfl, rfl⟩ hL
  have he : L.isEmpty = L'.isEmpty := by
    cases L <;> cases L' <;> simp at hL ⊢
  rw [he]
  unfold cnt
  rw [h.1]
theorem bad_lens (L : List (List Nat)) : bad (lens L) = if long L then 2 else 0 := by
  induction L with
  | nil => rfl
  | cons r L ih =>
    show bad ((r.length : Int) :: lens L) = _
    rw [bad, if_neg (by omega)]
    by_cases h : 8192 < r.length
    · rw [if_pos (by omega)]
      simp [long, h]
    · rw [if_neg (by omega), ih]
      simp [long, h]
theorem need_lens (L : List (List Nat)) : need (lens L) = (((cutOut L).1.length : Int), (cutOut L).2) := by
  have hl : (lens L).length = L.length := by simp [lens]
  unfold need cutOut
  rw [hl]
  by_cases h : 256 < L.length
  · rw [if_pos h, if_pos h]; rfl
  · rw [if_neg h, if_neg h, bad_lens]
    by_cases h8 : long L = true
    · rw [if_pos h8, if_pos h8]; rfl
    · rw [if_neg h8, if_neg h8, if_pos rfl]
      have : (cut (zerosOf (lens L))).length = (cut L).length := cut_length (by simp [zerosOf, lens])
      rw [this]
theorem cutOut_many (L : List (List Nat)) : (cutOut L).1.length ≤ 100001 := by
  unfold cutOut
  by_cases h : 256 < L.length
  · rw [if_pos h]; simp
  · rw [if_neg h]
    by_cases h8 : long L = true
    · rw [if_pos h8]; simp
    · rw [if_neg h8]
      exact cut_many L (long_no (by simpa using h8)) (by omega)
theorem lens_le {L : List (List Nat)} (h : ∀ r ∈ L, r.length ≤ 9000) : ∀ z ∈ lens L, -9223372036854775808 ≤ z ∧ z ≤ 9223372036854775807 := by
  intro z hz
  obtain ⟨r, hr, rfl⟩ := List.mem_map.1 hz
  have := h r hr
  omega
end Fg
end Go.Proofs.Ytpfdacnjikdifaa
