/- How Key and Parts end, in one form. -/
import Derived.Test.YtaoiokilnmpniaaCodeOrd
namespace Go.Proofs.Ytaoiokilnmpniaa
open Go.RowKit
def keyS (l : List ByteArray) : ByteArray := if 8 < l.length then ⟨#[]⟩ else str (Cd.keyOf l)
def keyE (l : List ByteArray) : Nat := if 8 < l.length then 3 else 0
theorem key_any (A : Option Addr) (n cap : Nat) (l : List ByteArray) (w : World) (hl : RdS w A n l) (hs : ∀ p ∈ l, p.size ≤ 100000) :
    Calls Try.prog 53 #[.slice A n cap] w fun e w' => e = .returned (.tuple #[.string (keyS l), .int .i64 (keyE l : Int)]) ∧ Below w.heap.size w w' := by
  unfold keyS keyE
  rw [hl.1]
  by_cases h : 8 < n
  · rw [if_pos h, if_pos h]
    exact (key_many A n cap h w).mono fun e w' ⟨h1, h2⟩ => by subst h2; exact ⟨h1, Below.refl _ _⟩
  · rw [if_neg h, if_neg h]
    exact key_few A n cap l w hl (by omega) hs
theorem rkey_any (A : Option Addr) (n cap : Nat) (l : List ByteArray) (w : World) (hl : RdS w A n l) (hs : ∀ p ∈ l, p.size ≤ 100000) :
    Calls Try.prog 55 #[.slice A n cap] w fun e w' => e = .returned (.tuple #[.string (keyS l), .int .i64 (keyE l : Int)]) ∧ Below w.heap.size w w' := by
  unfold keyS keyE
  rw [hl.1]
  by_cases h : 8 < n
  · rw [if_pos h, if_pos h]
    exact (rkey_many A n cap h w).mono fun e w' ⟨h1, h2⟩ => by subst h2; exact ⟨h1, Below.refl _ _⟩
  · rw [if_neg h, if_neg h]
    exact rkey_few A n cap l w hl (by omega) hs
def partsL : Option (List ByteArray) → List ByteArray
  | none => []
  | some l => l
def partsE : Option (List ByteArray) → Nat
  | none => 20
  | some _ => 0
theorem GivesParts.uni {w w' : World} {o : Option (List ByteArray)} {e : Ending} (h : GivesParts w o e w') :
    ∃ A cap, e = .returned (.tuple #[.slice A (partsL o).length cap, .int .i64 (partsE o : Int)]) ∧ RdS w' A (partsL o).length (partsL o) ∧ Below w.heap.size w w' := by
  rcases o with _ | l
  · obtain ⟨he, hb⟩ := h
    exact ⟨none, 0, he, RdS.nil _ _, hb⟩
  · obtain ⟨A, cap, he, hr, hc, hb⟩ := h
    exact ⟨A, cap, he, hr, hb⟩
theorem partsL_length (l : List Nat) : (partsL (Cd.parts l)).length ≤ 8 := by
  unfold Cd.parts
  rcases Cd.parse l [] [] false with _ | ps
  · simp [partsL]
  · show (partsL (if 8 < ps.length then none else some ps)).length ≤ 8
    split
    · simp [partsL]
    · show ps.length ≤ 8; omega
end Go.Proofs.Ytaoiokilnmpniaa
