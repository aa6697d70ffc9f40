/- The lowest free plots, one by one, and the map behind them. -/
import Derived.Test.YtaaodhnenaoheaaSpTaken
namespace Go.Proofs.Ytaaodhnenaoheaa
open Go.RowKit
namespace Sp
/-- Of the plots below k the first m that are free; the map with these taken. -/
def low (T : List Bool) (m : Nat) : Nat → List Int × List Bool
  | 0 => ([], T)
  | k + 1 => if (low T m k).1.length < m ∧ T.getD k false = false then ((low T m k).1 ++ [(k : Int)], (low T m k).2.set k true) else low T m k
variable {T : List Bool} {m k : Nat}
theorem low_yes (h1 : (low T m k).1.length < m) (h2 : T.getD k false = false) : low T m (k + 1) = ((low T m k).1 ++ [(k : Int)], (low T m k).2.set k true) := by
  rw [low, if_pos ⟨h1, h2⟩]
theorem low_no (h : ¬ (low T m k).1.length < m ∨ T.getD k false = true) : low T m (k + 1) = low T m k := by
  rw [low, if_neg]
  rintro ⟨h1, h2⟩
  rcases h with h | h
  · exact h h1
  · rw [h] at h2; cases h2
theorem low_map_len (T : List Bool) (m k : Nat) : (low T m k).2.length = T.length := by
  induction k with
  | zero => rfl
  | succ k ih => rw [low]; split <;> simp [ih]
theorem low_later (T : List Bool) (m k j : Nat) (h : k ≤ j) : (low T m k).2.getD j false = T.getD j false := by
  induction k with
  | zero => rfl
  | succ k ih =>
    rw [low]
    split
    · rw [List.getD_eq_getElem?_getD, List.getElem?_set_ne (by omega), ← List.getD_eq_getElem?_getD]
      exact ih (by omega)
    · exact ih (by omega)
theorem low_len (T : List Bool) (m k : Nat) : (low T m k).1.length = min m (k - (list T k).length) := by
  induction k with
  | zero => simp [low, list]
  | succ k ih =>
    have hl := list_len T k
    cases ht : T.getD k false with
    | true => rw [low_no (.inr ht), ih, list_yes ht, List.length_append]; simp
    | false =>
      by_cases h : (low T m k).1.length < m
      · rw [low_yes h ht, List.length_append, list_no ht, ih]
        rw [ih] at h
        simp only [List.length_singleton]
        omega
      · rw [low_no (.inl h), list_no ht, ih]
        rw [ih] at h
        omega
theorem low_le (T : List Bool) (m k : Nat) : (low T m k).1.length ≤ m ∧ (low T m k).1.length ≤ k := by
  rw [low_len]; omega
/-- Where there are so many, there are so many. -/
theorem low_all {T : List Bool} {m : Nat} (h : m ≤ free T) : (low T m T.length).1.length = m := by
  rw [low_len]; unfold free at h; omega
/-- Nothing more is taken once there are enough. -/
theorem low_stop {T : List Bool} {m k : Nat} (h : (low T m k).1.length = m) (j : Nat) : low T m (k + j) = low T m k := by
  induction j with
  | zero => rfl
  | succ j ih => rw [← Nat.add_assoc, low_no (.inl (by rw [ih]; omega)), ih]
theorem low_end {T : List Bool} {m k n : Nat} (h : (low T m k).1.length = m) (hk : k ≤ n) : low T m n = low T m k := by
  have := low_stop h (n - k)
  rw [show k + (n - k) = n by omega] at this
  exact this
/-- Each that was taken is a plot, and was free; they rise. -/
theorem low_each (T : List Bool) (m k : Nat) : ∀ x ∈ (low T m k).1, ∃ p : Nat, x = (p : Int) ∧ p < k ∧ T.getD p false = false := by
  induction k with
  | zero => intro x hx; cases hx
  | succ k ih =>
    intro x hx
    rw [low] at hx
    split at hx
    · rename_i h
      rcases List.mem_append.1 hx with h1 | h1
      · obtain ⟨p, rfl, hp, ht⟩ := ih x h1; exact ⟨p, rfl, by omega, ht⟩
      · rw [List.mem_singleton] at h1; exact ⟨k, h1, by omega, h.2⟩
    · obtain ⟨p, rfl, hp, ht⟩ := ih x hx; exact ⟨p, rfl, by omega, ht⟩
end Sp
end Go.Proofs.Ytaaodhnenaoheaa
