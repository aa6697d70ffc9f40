/- How a take ends, in one form. -/
import Derived.Test.YtionaciiaahacaaNumG
namespace Go.Proofs.Ytionaciiaahacaa
open Go.RowKit
def takeV : Option (Nat × List Nat) → Nat
  | none => 0
  | some (v, _) => v
def takeR {α : Type} : Option (α × List Nat) → List Nat
  | none => []
  | some (_, r) => r
def takeOk {α : Type} : Option α → Bool
  | none => false
  | some _ => true
theorem GivesTake.uni {w w' : World} {o : Option (Nat × List Nat)} {e : Ending} (h : GivesTake w o e w') :
    ∃ A cap, e = .returned (.tuple #[.int .u64 (takeV o : Int), .slice A (takeR o).length cap, .bool (takeOk o)]) ∧ Rd w' A (takeR o).length (takeR o) ∧ (takeR o).length ≤ cap ∧ Below w.heap.size w w' := by
  rcases o with _ | ⟨v, r⟩
  · obtain ⟨he, hb⟩ := h
    exact ⟨none, 0, he, Rd.nil _ _, Nat.le_refl _, hb⟩
  · obtain ⟨A, cap, he, hr, hc, hb⟩ := h
    exact ⟨A, cap, he, hr, hc, hb⟩
end Go.Proofs.Ytionaciiaahacaa
