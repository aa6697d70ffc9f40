/- A hold that is reserved, and cancelled: as numbers. -/
import Derived.Test.YtionaciiaahacaaAccRef
namespace Go.Proofs.Ytionaciiaahacaa
namespace Ac
theorem reserve_cases (f h q n u : Int) : (reserve f h q n u = (f - n, h + n, q, 0) ∧ cancel (f - n) (h + n) q n u = (f, h, q, 0)) ∨ ∃ e : Int, e ≠ 0 ∧ reserve f h q n u = (0, 0, 0, e) := by
  unfold reserve
  by_cases hk : (okA f h q && okH n u) = true
  · rw [if_pos hk]
    by_cases hm : f < n
    · rw [if_pos hm]; exact .inr ⟨201, by decide, rfl⟩
    · rw [if_neg hm]
      by_cases hm2 : q < h + n
      · rw [if_pos hm2]; exact .inr ⟨205, by decide, rfl⟩
      · rw [if_neg hm2]
        refine .inl ⟨rfl, ?_⟩
        obtain ⟨ka, kh⟩ := (Bool.and_eq_true _ _).mp hk
        obtain ⟨k1, k2, k3, k4, k5, k6, k7⟩ := okA_iff.1 ka
        obtain ⟨j1, j2, j3, j4⟩ := okH_iff.1 kh
        have h2 : okA (f - n) (h + n) q = true := okA_iff.2 (by omega)
        unfold cancel
        rw [h2, kh, if_pos (show (true && true) = true from rfl), if_neg (by omega)]
        refine Prod.ext ?_ (Prod.ext ?_ rfl)
        · show f - n + n = f; omega
        · show h + n - n = h; omega
  · rw [if_neg hk]; exact .inr ⟨206, by decide, rfl⟩
end Ac
end Go.Proofs.Ytionaciiaahacaa
