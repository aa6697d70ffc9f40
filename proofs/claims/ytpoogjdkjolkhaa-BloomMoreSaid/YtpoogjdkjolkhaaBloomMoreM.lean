/- A filter with more bits set has what it had. -/
import Derived.Test.YtpoogjdkjolkhaaBloomFil
namespace Go.Proofs.Ytpoogjdkjolkhaa
open Go.RowKit
/-- Bytes with more bits set, the first one as it was. -/
def More (l g : List Nat) : Prop := g.length = l.length ∧ g.getD 0 0 = l.getD 0 0 ∧ ∀ i q, (l.getD i 0).testBit q = true → (g.getD i 0).testBit q = true
theorem More.refl (l : List Nat) : More l l := ⟨rfl, rfl, fun _ _ h => h⟩
theorem More.set {l g : List Nat} (h : More l g) (k x y : Nat) (hk : 1 ≤ k) (hx : g[k]? = some x) : More l (g.set k (x ||| y)) := by
  refine ⟨by rw [List.length_set]; exact h.1, ?_, fun i q hi => ?_⟩
  · rw [← h.2.1, List.getD_eq_getElem?_getD, List.getD_eq_getElem?_getD, List.getElem?_set_ne (by omega)]
  · have h2 := h.2.2 i q hi
    by_cases e : k = i
    · subst e
      have hkl : k < g.length := (List.getElem?_eq_some_iff.1 hx).1
      rw [List.getD_eq_getElem?_getD, hx, Option.getD_some] at h2
      rw [List.getD_eq_getElem?_getD, List.getElem?_set_self hkl, Option.getD_some, Nat.testBit_or, h2, Bool.true_or]
    · rw [List.getD_eq_getElem?_getD, List.getElem?_set_ne e, ← List.getD_eq_getElem?_getD]
      exact h2
theorem More.hasF {l g : List Nat} (h : More l g) (s : ByteArray) (hs : hasF l s = true) : hasF g s = true := by
  unfold Go.Proofs.Ytpoogjdkjolkhaa.hasF at hs ⊢
  have hi : isF g = isF l := by unfold isF; rw [h.1, h.2.1]
  rw [hi, h.1, h.2.1]
  rw [Bool.and_eq_true] at hs ⊢
  refine ⟨hs.1, ?_⟩
  unfold Bl.hasAll at *
  rw [List.all_eq_true] at *
  intro p hp
  exact h.2.2 _ _ (hs.2 p hp)
theorem u8_or2 (x y : Nat) (hx : x < 256) (hy : y < 256) : bits .or .u8 (x : Int) (y : Int) = ((x ||| y : Nat) : Int) := u8_or_nat x y hx hy
theorem or_lt2 (x y : Nat) (hx : x < 256) (hy : y < 256) : x ||| y < 256 := Nat.or_lt_two_pow (n := 8) hx hy
end Go.Proofs.Ytpoogjdkjolkhaa
