/- The document's turned, Claim and Give. -/
import Derived.Test.YtaaodhnenaoheaaSpPlots
namespace Go.Proofs.Ytaaodhnenaoheaa
open Go.RowKit Sp
set_option linter.unusedVariables false
/-- A map of the document that came of another: the same slice, or a new one. -/
def GivesDoc (w : World) (A : Option Addr) (T : List Bool) (r : List Bool × Int) (e : Ending) (w' : World) : Prop :=
  ∃ (B : Option Addr) (m c : Nat), e = .returned (.tuple #[.agg #[.slice B m c], .int .i64 r.2]) ∧ RdT w' B m (fin T r).1 ∧ (B = A ∨ ∀ a, B = some a → w.heap.size ≤ a.block) ∧ Below w.heap.size w w'
/-- A copy of bools is at the head of a block of its own. -/
theorem own_some {w : World} {base n cap : Nat} {E : TypeId} {A : Option Addr} {vs : List Value} {g0 : Nat} (h : OwnV w base E A n cap vs) (hb : (Value.slice A n cap).ownBlock = some g0) : A = some ⟨g0, 0, none⟩ := by
  rcases h.2.2 with ⟨hv, _⟩ | ⟨g, c, cur, hv, _⟩
  · injection hv with hA _ _
    subst hA
    cases hb
  · injection hv with hA _ _
    subst hA
    injection hb with hb
    rw [← hb]

end Go.Proofs.Ytaaodhnenaoheaa
