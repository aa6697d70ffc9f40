/- What package code's own TakeNum returns. Numbers as bytes: there and back. -/
import Derived.Test.YthfcjlndaajkfaaGreatN05
namespace Go.Proofs.YthfcjlndaajkfaaGreat
open Go.RowKit
/-- What stands behind a cut of a slice, whatever its capacity. -/
theorem cut_rd {w : World} {A : Option Addr} {n v c : Nat} {l : List Nat} (h : Rd w A n l) (hv : v ≤ n) (hc : n ≤ c) : Rd w (if c = v then A else A.map (fun x => x.add v)) (n - v) (l.drop v) := by
  refine ⟨by rw [List.length_drop, h.1], fun x hx => h.2.1 x (List.mem_of_mem_drop hx), fun hn => ?_⟩
  obtain ⟨b, o, rfl, hb, hcell⟩ := h.2.2 (by omega)
  rw [if_neg (by omega)]
  have e : (⟨b, o, none⟩ : Addr).add v = ⟨b, o + v, none⟩ := by unfold Addr.add; split <;> simp_all
  refine ⟨b, o + v, by rw [Option.map_some, e], hb, fun j x hx => ?_⟩
  rw [List.getElem?_drop] at hx
  rw [Nat.add_assoc]
  exact hcell _ x hx
theorem takeNum_bound {l : List Nat} {v : Nat} {r : List Nat} (h : Cd.takeNum l = some (v, r)) : v < 18446744073709551616 ∧ r.length ≤ l.length ∧ ∀ x ∈ r, x ∈ l := by
  unfold Cd.takeNum at h
  split at h
  · cases h
  · split at h
    · cases h
    · split at h
      · injection h with h
        injection h with h1 h2
        subst h1 h2
        exact ⟨by omega, by rw [List.length_drop]; omega, fun x hx => List.mem_of_mem_drop hx⟩
      · cases h
theorem own_drop (A : Option Addr) (n cap k : Nat) (l : List Nat) (w : World) (hl : Rd w A n l) (hk : k ≤ n) (hc : n ≤ cap) (hn : n ≤ 1000000) :
    Calls Tryz.prog 103 #[.slice (if cap = k then A else A.map (fun x => x.add k)) (n - k) (cap - k)] w (GivesBytes w (l.drop k)) :=
  cown_any _ _ _ _ _ (cut_rd hl hk hc) (by omega)
end Go.Proofs.YthfcjlndaajkfaaGreat
namespace Go.Proofs.YthfcjlndaajkfaaGreat
open Go.RowKit
/-- Bytes as a number's are: all but the last of 128 or more. -/
def Formed (k : Nat) (a : List Nat) : Prop := a.length = k + 1 ∧ Led a k ∧ ∃ x, a[k]? = some x ∧ x < 128
end Go.Proofs.YthfcjlndaajkfaaGreat
