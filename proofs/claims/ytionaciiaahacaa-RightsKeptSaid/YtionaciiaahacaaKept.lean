/- A step keeps an account one that may be, and changes free and held together by what it says. -/
import Derived.Test.YtionaciiaahacaaLChange
namespace Go.Proofs.Ytionaciiaahacaa
open Go.RowKit
namespace Ac
theorem step_kept (f h q : Int) (s : St) (hk : okA f h q = true) : ∃ r1 r2 r3 b e : Int, step f h q s = (r1, r2, r3, b, e) ∧ okA r1 r2 r3 = true ∧ (e = 0 ∧ r1 + r2 = f + h + b ∨ e ≠ 0 ∧ r1 + r2 = f + h) := by
  unfold step
  by_cases he : (did f h q s).2.2.2 = 0
  · rw [if_pos he]
    obtain ⟨h1, h2, _⟩ := did_kept f h q s hk he
    exact ⟨_, _, _, _, _, rfl, h1, .inl ⟨rfl, h2⟩⟩
  · rw [if_neg he]
    exact ⟨_, _, _, _, _, rfl, hk, .inr ⟨he, rfl⟩⟩
end Ac
end Go.Proofs.Ytionaciiaahacaa
