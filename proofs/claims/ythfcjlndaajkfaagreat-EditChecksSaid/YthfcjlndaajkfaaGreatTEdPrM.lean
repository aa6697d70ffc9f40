/- Edits done in two rows, plain. -/
import Derived.Test.YthfcjlndaajkfaaGreatTEdApply
namespace Go.Proofs.YthfcjlndaajkfaaGreat
namespace Ed
/-- What may be done alone: what stands behind it goes on from what it made. -/
theorem go_app : ∀ (l l2 : List Et) (v : Ve) (i : Nat), (go v l i).2.2 = 0 → (go v l i).1.ok = true ∧ go v (l ++ l2) i = go (go v l i).1 l2 (i + l.length)
  | [], l2, v, i, h => by
    have e : go v [] i = if v.ok then (v, 0, 0) else (noV, i, 150) := rfl
    rw [e] at h ⊢
    cases hv : v.ok with
    | true => rw [if_pos rfl]; exact ⟨hv, rfl⟩
    | false => rw [hv] at h; exact absurd h (by simp)
  | x :: r, l2, v, i, h => by
    rw [List.cons_append, go_cons, go_cons, List.length_cons]
    rw [go_cons] at h
    cases hx : x.ok with
    | false => rw [hx] at h; exact absurd h (by simp)
    | true =>
      rw [hx] at h
      rw [if_pos rfl] at h ⊢
      cases hd : do1 v x with
      | none => rw [hd] at h; exact absurd h (by simp)
      | some v' =>
        rw [hd] at h
        have ih := go_app r l2 v' (i + 1) h
        dsimp only at ih ⊢
        rw [show i + (r.length + 1) = i + 1 + r.length by omega]
        rw [if_pos rfl]
        exact ih
/-- From which number on edits are counted tells in the number alone. -/
theorem go_shift : ∀ (l : List Et) (v : Ve) (i k : Nat), (go v l (i + k)).1 = (go v l i).1 ∧ (go v l (i + k)).2.2 = (go v l i).2.2 ∧ ((go v l i).2.2 ≠ 0 → (go v l (i + k)).2.1 = (go v l i).2.1 + k)
  | [], v, i, k => by
    have e : ∀ j, go v [] j = if v.ok then (v, 0, 0) else (noV, j, 150) := fun _ => rfl
    rw [e, e]
    cases v.ok with
    | true => rw [if_pos rfl, if_pos rfl]; exact ⟨rfl, rfl, fun h => absurd rfl h⟩
    | false => exact ⟨rfl, rfl, fun _ => rfl⟩
  | x :: r, v, i, k => by
    rw [go_cons, go_cons]
    cases hx : x.ok with
    | false => exact ⟨rfl, rfl, fun _ => rfl⟩
    | true =>
      rw [if_pos rfl, if_pos rfl]
      cases hd : do1 v x with
      | none => exact ⟨rfl, rfl, fun _ => rfl⟩
      | some v' =>
        dsimp only
        rw [show i + k + 1 = i + 1 + k by omega]
        exact go_shift r v' (i + 1) k
/-- Edits in two rows, where the first may be done alone. -/
theorem apply_parts (v : Ve) (l : List Et) (k : Nat) (hk : k ≤ l.length) (h : (apply v (l.take k)).2.2 = 0) :
    (apply v l).1 = (apply (apply v (l.take k)).1 (l.drop k)).1 ∧ (apply v l).2.2 = (apply (apply v (l.take k)).1 (l.drop k)).2.2 ∧ ((apply (apply v (l.take k)).1 (l.drop k)).2.2 ≠ 0 → (apply v l).2.1 = (apply (apply v (l.take k)).1 (l.drop k)).2.1 + k) := by
  unfold apply at h ⊢
  cases hv : v.ok with
  | false => rw [hv] at h; exact absurd h (by simp)
  | true =>
    rw [hv] at h
    rw [if_pos rfl] at h
    rw [if_pos rfl, if_pos rfl]
    obtain ⟨h1, h2⟩ := go_app (l.take k) (l.drop k) v 0 h
    rw [List.take_append_drop, List.length_take, Nat.min_eq_left hk] at h2
    rw [if_pos h1, h2]
    exact go_shift (l.drop k) _ 0 k
end Ed
end Go.Proofs.YthfcjlndaajkfaaGreat
