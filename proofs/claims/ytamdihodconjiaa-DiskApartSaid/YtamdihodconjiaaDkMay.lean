/- The program's disk: mayBe. -/
import Derived.Test.YtamdihodconjiaaDkNew
namespace Go.Proofs.Ytamdihodconjiaa
open Go.RowKit
set_option linter.unusedVariables false
def flatFa (l : List Dk.Fa) : List Value := l.flatMap fun x => [.int .i64 x.k, .int .i64 x.c]
theorem flatFa_length (l : List Dk.Fa) : (flatFa l).length = l.length * 2 := by
  induction l with
  | nil => rfl
  | cons v vs ih => show (_ ++ flatFa vs).length = _; rw [List.length_append, ih, List.length_cons]; simp; omega
theorem flatFa_at {l : List Dk.Fa} {i : Nat} {f : Dk.Fa} (h : l[i]? = some f) : (flatFa l)[i * 2]? = some (.int .i64 f.k) ∧ (flatFa l)[i * 2 + 1]? = some (.int .i64 f.c) := by
  induction l generalizing i with
  | nil => simp at h
  | cons x r ih =>
    cases i with
    | zero => simp at h; subst h; exact ⟨rfl, rfl⟩
    | succ i =>
      simp only [List.getElem?_cons_succ] at h
      obtain ⟨h1, h2⟩ := ih h
      exact ⟨by rw [show (i + 1) * 2 = i * 2 + 2 by omega]; exact h1, by rw [show (i + 1) * 2 + 1 = i * 2 + 1 + 2 by omega]; exact h2⟩
theorem flat2_at {l : List (Nat × Nat)} {i : Nat} {x : Nat × Nat} (h : l[i]? = some x) : (flat2 l)[i * 2]? = some (.int .i64 (x.1 : Int)) ∧ (flat2 l)[i * 2 + 1]? = some (.int .i64 (x.2 : Int)) := by
  induction l generalizing i with
  | nil => simp at h
  | cons y r ih =>
    cases i with
    | zero => simp at h; subst h; exact ⟨rfl, rfl⟩
    | succ i =>
      simp only [List.getElem?_cons_succ] at h
      obtain ⟨h1, h2⟩ := ih h
      exact ⟨by rw [show (i + 1) * 2 = i * 2 + 2 by omega]; exact h1, by rw [show (i + 1) * 2 + 1 = i * 2 + 1 + 2 by omega]; exact h2⟩
set_option maxRecDepth 100000 in
theorem may_any (k c : Int) (m : Nat) (w : World) : Calls Try.prog 44 #[.agg #[.int .i64 k, .int .i64 c], .int .i64 (m : Int)] w fun e w' => e = .returned (.bool (decide (Dk.Fa.ok ⟨k, c⟩ m))) ∧ Below w.heap.size w w' := by
  have key : (k < 0) ∨ (0 ≤ k ∧ (m : Int) < k) ∨ (0 ≤ k ∧ k ≤ (m : Int) ∧ c < 0) ∨ (0 ≤ k ∧ k ≤ (m : Int) ∧ 0 ≤ c ∧ 128 ≤ c) ∨ (0 ≤ k ∧ k ≤ (m : Int) ∧ 0 ≤ c ∧ c < 128 ∧ c = 0) ∨ (0 ≤ k ∧ k ≤ (m : Int) ∧ 0 ≤ c ∧ c < 128 ∧ c ≠ 0 ∧ k < (m : Int)) ∨ (0 ≤ k ∧ k ≤ (m : Int) ∧ 0 ≤ c ∧ c < 128 ∧ c ≠ 0 ∧ (m : Int) ≤ k) := by omega
  have hb : ∀ w : World, Below w.heap.size w (w.alloc (.cells #[.int .i64 k, .int .i64 c] 55)) := fun w => (Below.refl _ _).alloc (Nat.le_refl _) _
  rcases key with h | ⟨h1, h⟩ | ⟨h1, h2, h⟩ | ⟨h1, h2, h3, h⟩ | ⟨h1, h2, h3, h4, h⟩ | ⟨h1, h2, h3, h4, h5, h⟩ | ⟨h1, h2, h3, h4, h5, h⟩
  · rw [decide_eq_false (show ¬ Dk.Fa.ok ⟨k, c⟩ m by unfold Dk.Fa.ok; simp only; omega)]
    go_enter Try.func44, Try.ntmps44
    go_wp2
    go_ret
    exact ⟨rfl, hb w⟩
  · rw [decide_eq_false (show ¬ Dk.Fa.ok ⟨k, c⟩ m by unfold Dk.Fa.ok; simp only; omega)]
    go_enter Try.func44, Try.ntmps44
    go_wp2
    go_ret
    exact ⟨rfl, hb w⟩
  · rw [decide_eq_false (show ¬ Dk.Fa.ok ⟨k, c⟩ m by unfold Dk.Fa.ok; simp only; omega)]
    go_enter Try.func44, Try.ntmps44
    go_wp2
    go_ret
    exact ⟨rfl, hb w⟩
  · rw [decide_eq_false (show ¬ Dk.Fa.ok ⟨k, c⟩ m by unfold Dk.Fa.ok; simp only; omega)]
    go_enter Try.func44, Try.ntmps44
    go_wp2
    go_ret
    exact ⟨rfl, hb w⟩
  · rw [decide_eq_true (show Dk.Fa.ok ⟨k, c⟩ m by unfold Dk.Fa.ok; simp only; omega)]
    subst h
    go_enter Try.func44, Try.ntmps44
    go_wp2
    go_ret
    exact ⟨rfl, hb w⟩
  · rw [decide_eq_true (show Dk.Fa.ok ⟨k, c⟩ m by unfold Dk.Fa.ok; simp only; omega)]
    have hz : (c == 0) = false := by simpa using h5
    go_enter Try.func44, Try.ntmps44
    go_wp2
    go_ret
    exact ⟨rfl, hb w⟩
  · rw [decide_eq_false (show ¬ Dk.Fa.ok ⟨k, c⟩ m by unfold Dk.Fa.ok; simp only; omega)]
    have hz2 : ¬ k < (m : Int) := by omega
    have hz : (c == 0) = false := by simpa using h5
    go_enter Try.func44, Try.ntmps44
    go_wp2
    go_ret
    exact ⟨rfl, hb w⟩
end Go.Proofs.Ytamdihodconjiaa
