/- A row turned round and about: the same keys. -/
import Derived.Test.YtpoogjdkjolkhaaBloomFil
namespace Go.Proofs.Ytpoogjdkjolkhaa
open Go.RowKit
def turnAt (n r i : Nat) : Nat := (n - 1 - i + r) % n
def turned (ks : List ByteArray) (r k : Nat) : List ByteArray := (List.range k).map fun i => ks.getD (turnAt ks.length r i) ⟨#[]⟩
theorem turned_length (ks : List ByteArray) (r k : Nat) : (turned ks r k).length = k := by simp [turned]
theorem turned_snoc (ks : List ByteArray) (r k : Nat) : turned ks r (k + 1) = turned ks r k ++ [ks.getD (turnAt ks.length r k) ⟨#[]⟩] := by simp [turned, List.range_succ]
theorem turnAt_lt (n r i : Nat) (hn : 0 < n) : turnAt n r i < n := Nat.mod_lt _ hn
theorem turn_back (n r a : Nat) (ha : a < n) (hr : r < n) : ∃ i, i < n ∧ turnAt n r i = a := by
  by_cases h : r ≤ a
  · refine ⟨n - 1 + r - a, by omega, ?_⟩
    unfold turnAt
    rw [show n - 1 - (n - 1 + r - a) + r = a by omega, Nat.mod_eq_of_lt ha]
  · refine ⟨r - a - 1, by omega, ?_⟩
    unfold turnAt
    rw [show n - 1 - (r - a - 1) + r = a + n by omega, Nat.add_mod_right, Nat.mod_eq_of_lt ha]
theorem turned_mem (ks : List ByteArray) (r : Nat) (hr : r < ks.length) (s : ByteArray) : s ∈ turned ks r ks.length ↔ s ∈ ks := by
  unfold turned
  rw [List.mem_map]
  constructor
  · rintro ⟨i, hi, rfl⟩
    have h := turnAt_lt ks.length r i (by omega)
    rw [List.getD_eq_getElem?_getD, List.getElem?_eq_getElem h, Option.getD_some]
    exact List.getElem_mem h
  · intro hs
    obtain ⟨a, ha, rfl⟩ := List.getElem_of_mem hs
    obtain ⟨i, hi, e⟩ := turn_back ks.length r a ha hr
    refine ⟨i, List.mem_range.2 hi, ?_⟩
    rw [e, List.getD_eq_getElem?_getD, List.getElem?_eq_getElem ha, Option.getD_some]
theorem turned_nil (r : Nat) : turned [] r 0 = [] := rfl
theorem turned_makeF (ks : List ByteArray) (r : Nat) (b : Int) (hr : r < ks.length ∨ ks = []) : makeF (turned ks r ks.length) b = makeF ks b := by
  rcases hr with hr | rfl
  · unfold makeF
    rw [turned_length, Bl.filter_same ((turned ks r ks.length).map hashN) (ks.map hashN)]
    intro c
    rw [List.mem_map, List.mem_map]
    exact ⟨fun ⟨s, hs, e⟩ => ⟨s, (turned_mem ks r hr s).1 hs, e⟩, fun ⟨s, hs, e⟩ => ⟨s, (turned_mem ks r hr s).2 hs, e⟩⟩
  · rfl
end Go.Proofs.Ytpoogjdkjolkhaa
