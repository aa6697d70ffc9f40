/- Accounts and holds as numbers: which may be, and what becomes of them. Nothing of the program is imported here. -/
namespace Go.Proofs.Ytionaciiaahacaa
namespace Ac
abbrev M : Int := 1125899906842624
def okA (f h q : Int) : Bool := decide (0 ≤ f ∧ f ≤ 1125899906842624 ∧ 0 ≤ h ∧ h ≤ 1125899906842624 ∧ 0 ≤ q ∧ q ≤ 1125899906842624 ∧ f + h ≤ 1125899906842624)
theorem okA_iff {f h q : Int} : okA f h q = true ↔ 0 ≤ f ∧ f ≤ 1125899906842624 ∧ 0 ≤ h ∧ h ≤ 1125899906842624 ∧ 0 ≤ q ∧ q ≤ 1125899906842624 ∧ f + h ≤ 1125899906842624 := by unfold okA; exact decide_eq_true_iff
theorem okA_not {f h q : Int} : okA f h q = false ↔ ¬ (0 ≤ f ∧ f ≤ 1125899906842624 ∧ 0 ≤ h ∧ h ≤ 1125899906842624 ∧ 0 ≤ q ∧ q ≤ 1125899906842624 ∧ f + h ≤ 1125899906842624) := by unfold okA; exact decide_eq_false_iff_not
def okH (n u : Int) : Bool := decide (1 ≤ n ∧ n ≤ 1125899906842624 ∧ 0 ≤ u ∧ u ≤ 1099511627776)
theorem okH_iff {n u : Int} : okH n u = true ↔ 1 ≤ n ∧ n ≤ 1125899906842624 ∧ 0 ≤ u ∧ u ≤ 1099511627776 := by unfold okH; exact decide_eq_true_iff
theorem okH_not {n u : Int} : okH n u = false ↔ ¬ (1 ≤ n ∧ n ≤ 1125899906842624 ∧ 0 ≤ u ∧ u ≤ 1099511627776) := by unfold okH; exact decide_eq_false_iff_not
end Ac
end Go.Proofs.Ytionaciiaahacaa
