/- How Key and Parts end, in one form. -/
import Derived.Test.YtejijhajgklmgaaCodeOrd
namespace Go.Proofs.Ytejijhajgklmgaa
open Go.RowKit
def keyS (l : List ByteArray) : ByteArray := if 8 < l.length then ⟨#[]⟩ else str (Cd.keyOf l)
def keyE (l : List ByteArray) : Nat := if 8 < l.length then 3 else 0
theorem key_any (A : Option Addr) (n cap : Nat) (l : List ByteArray) (w : World) (hl : RdS w A n l) (hs : ∀ p ∈ l, p.size ≤ 100000) :
    Calls Try.prog 27 #[.slice A n cap] w fun e w' => e = .returned (.tuple #[.string (keyS l), .int .i64 (keyE l : Int)]) ∧ Below w.heap.size w w' := by
  unfold keyS keyE
  rw [hl.1]
  by_cases h : 8 < n
  · rw [if_pos h, if_pos h]
    exact (key_many A n cap h w).mono fun e w' ⟨h1, h2⟩ => by subst h2; exact ⟨h1, Below.refl _ _⟩
  · rw [if_neg h, if_neg h]
    exact key_few A n cap l w hl (by omega) hs
theorem rkey_any (A : Option Addr) (n cap : Nat) (l : List ByteArray) (w : World) (hl : RdS w A n l) (hs : ∀ p ∈ l, p.size ≤ 100000) :
    Calls Try.prog 28 #[.slice A n cap] w fun e w' => e = .returned (.tuple #[.string (keyS l), .int .i64 (keyE l : Int)]) ∧ Below w.heap.size w w' := by
  unfold keyS keyE
  rw [hl.1]
  by_cases h : 8 < n
  · rw [if_pos h, if_pos h]
    exact (rkey_many A n cap h w).mono fun e w' ⟨h1, h2⟩ => by subst h2; exact ⟨h1, Below.refl _ _⟩
  · rw [if_neg h, if_neg h]
    exact rkey_few A n cap l w hl (by omega) hs
def partsL : Option (List ByteArray) → List ByteArray
  | none => []
  | some l => l
def partsE : Option (List ByteArray) → Nat
  | none => 20
  | some _ => 0
theorem GivesParts.uni {w w' : World} {o : Option (List ByteArray)} {e : Ending} (h : GivesParts w o e w') :
    ∃ A cap, e = .returned (.tuple #[.slice A (partsL o).length cap, .int .i64 (partsE o : Int)]) ∧ RdS w' A (partsL o).length (partsL o) ∧ Below w.heap.size w w' := by
  rcases o with _ | l
  · obtain ⟨he, hb⟩ := h
    exact ⟨none, 0, he, RdS.nil _ _, hb⟩
  · obtain ⟨A, cap, he, hr, hc, hb⟩ := h
    exact ⟨A, cap, he, hr, hb⟩
theorem partsL_length (l : List Nat) : (partsL (Cd.parts l)).length ≤ 8 := by
  unfold Cd.parts
  rcases Cd.parse l [] [] false with _ | ps
  · simp [partsL]
  · show (partsL (if 8 < ps.length then none else some ps)).length ≤ 8
    split
    · simp [partsL]
    · show ps.length ≤ 8; omega
theorem rowsOf_length (l : List ByteArray) : (rowsOf l).length ≤ 9 := by
  unfold rowsOf
  rw [List.length_map, List.length_take]; omega
theorem rowsOf_size (l : List ByteArray) : ∀ p ∈ rowsOf l, p.size ≤ 100000 := by
  intro p hp
  obtain ⟨q, _, rfl⟩ := List.mem_map.1 hp
  have := cutS_size q
  omega
theorem same_yes (A B : Option Addr) (n cn m cm : Nat) (x : List ByteArray) (w : World) (hx : RdS w A n x) (hy : RdS w B m x) (hn : n ≤ 1000000) (hm : m ≤ 1000000) :
    Calls Try.prog 31 #[.slice A n cn, .slice B m cm] w fun e w' => e = .returned (.bool true) ∧ Below w.heap.size w w' := by
  have := same_any A B n cn m cm x x w hx hy hn hm
  rwa [decide_eq_true rfl] at this
end Go.Proofs.Ytejijhajgklmgaa
