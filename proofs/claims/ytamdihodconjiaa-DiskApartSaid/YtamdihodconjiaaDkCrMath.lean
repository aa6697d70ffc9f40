/- The program's disk: what Crash makes, fate by fate. -/
import Derived.Test.YtamdihodconjiaaDkMay
namespace Go.Proofs.Ytamdihodconjiaa
open Go.RowKit
set_option linter.unusedVariables false
theorem crashL_nil (L : List Dk.Sec) : Dk.crashL L [] = L.map fun s => ⟨s.f, []⟩ := by
  induction L with
  | nil => rfl
  | cons s r ih =>
    unfold Dk.crashL
    split
    · rw [ih]; rfl
    · rw [ih]; rfl
theorem flatF_crash (L : List Dk.Sec) : flatF (Dk.crashL L []) = flatF L := by
  rw [crashL_nil, flatF_eq, flatF_eq, List.map_map]
  rfl
theorem crashL_length (L : List Dk.Sec) : ∀ fs, (Dk.crashL L fs).length = L.length := by
  induction L with
  | nil => intro fs; cases fs <;> rfl
  | cons s r ih =>
    intro fs
    unfold Dk.crashL
    split
    · rw [List.length_cons, ih, List.length_cons]
    · cases fs with
      | nil => simp only [List.length_cons, ih]
      | cons x xs => simp only [List.length_cons, ih]
theorem crashL_l (L : List Dk.Sec) : ∀ fs (i : Nat) (s : Dk.Sec), (Dk.crashL L fs)[i]? = some s → s.l = [] := by
  induction L with
  | nil => intro fs i s h; cases fs <;> simp [Dk.crashL] at h
  | cons y r ih =>
    intro fs i s h
    unfold Dk.crashL at h
    split at h
    · cases i with
      | zero => simp at h; subst h; rfl
      | succ i => simp only [List.getElem?_cons_succ] at h; exact ih _ _ _ h
    · cases fs with
      | nil =>
        cases i with
        | zero => simp at h; subst h; rfl
        | succ i => simp only [List.getElem?_cons_succ] at h; exact ih _ _ _ h
      | cons x xs =>
        cases i with
        | zero => simp at h; subst h; rfl
        | succ i => simp only [List.getElem?_cons_succ] at h; exact ih _ _ _ h
theorem upd_cons_succ (s : Dk.Sec) (r : List Dk.Sec) (a : Nat) (g : Dk.Sec → Dk.Sec) : Dk.upd (s :: r) (a + 1) g = s :: Dk.upd r a g := by unfold Dk.upd; simp
theorem upd_cons_zero (s : Dk.Sec) (r : List Dk.Sec) (g : Dk.Sec → Dk.Sec) : Dk.upd (s :: r) 0 g = g s :: r := by unfold Dk.upd; simp
/-- One fate more. -/
theorem crashL_step {L : List Dk.Sec} : ∀ {k i : Nat} {fs : List Dk.Fa} {x : Nat × Nat} {f : Dk.Fa}, (Dk.looseF k L)[i]? = some x → fs[i]? = some f →
    ∃ a s, x.1 = k + a ∧ x.2 = s.l.length ∧ L[a]? = some s ∧ s.l ≠ [] ∧ (Dk.crashL L (fs.take i))[a]? = some ⟨s.f, []⟩ ∧ Dk.crashL L (fs.take (i + 1)) = Dk.upd (Dk.crashL L (fs.take i)) a (fun _ => ⟨s.after f, []⟩) := by
  induction L with
  | nil => intro k i fs x f h; simp [Dk.looseF] at h
  | cons y r ih =>
    intro k i fs x f h hf
    unfold Dk.looseF at h
    split at h
    · rename_i hy
      obtain ⟨a, s, h1, h2, h3, h4, h5, h6⟩ := ih h hf
      refine ⟨a + 1, s, by omega, h2, h3, h4, ?_, ?_⟩
      · unfold Dk.crashL; rw [if_pos hy]; exact h5
      · unfold Dk.crashL; rw [if_pos hy, if_pos hy, upd_cons_succ, h6]
    · rename_i hy
      cases i with
      | zero =>
        simp at h
        subst h
        cases fs with
        | nil => simp at hf
        | cons z zs =>
          simp at hf
          subst hf
          refine ⟨0, y, rfl, rfl, rfl, hy, ?_, ?_⟩
          · unfold Dk.crashL; rw [if_neg hy]; rfl
          · unfold Dk.crashL
            rw [if_neg hy, if_neg hy]
            show _ :: _ = Dk.upd (_ :: _) 0 _
            rw [upd_cons_zero]
            rfl
      | succ i =>
        simp only [List.getElem?_cons_succ] at h
        cases fs with
        | nil => simp at hf
        | cons z zs =>
          simp only [List.getElem?_cons_succ] at hf
          obtain ⟨a, s, h1, h2, h3, h4, h5, h6⟩ := ih h hf
          refine ⟨a + 1, s, by omega, h2, h3, h4, ?_, ?_⟩
          · unfold Dk.crashL; rw [if_neg hy]; exact h5
          · unfold Dk.crashL
            rw [if_neg hy, if_neg hy]
            show _ :: Dk.crashL r (zs.take (i + 1)) = Dk.upd (_ :: Dk.crashL r (zs.take i)) (a + 1) _
            rw [upd_cons_succ, h6]
theorem fit_step {fs : List Dk.Fa} : ∀ {ls : List (Nat × Nat)} {i : Nat} {f : Dk.Fa} {x : Nat × Nat}, fs[i]? = some f → ls[i]? = some x → Dk.fit (fs.take (i + 1)) ls = (Dk.fit (fs.take i) ls && decide (f.ok x.2)) := by
  induction fs with
  | nil => intro ls i f x h; simp at h
  | cons y r ih =>
    intro ls i f x hf hx
    cases ls with
    | nil => simp at hx
    | cons z zs =>
      cases i with
      | zero =>
        simp at hf hx
        subst hf hx
        simp [Dk.fit]
      | succ i =>
        simp only [List.getElem?_cons_succ] at hf hx
        show (decide (y.ok z.2) && Dk.fit (r.take (i + 1)) zs) = ((decide (y.ok z.2) && Dk.fit (r.take i) zs) && decide (f.ok x.2))
        rw [ih hf hx, Bool.and_assoc]
theorem fit_no {fs : List Dk.Fa} : ∀ {ls : List (Nat × Nat)} {i : Nat}, Dk.fit (fs.take i) ls = false → Dk.fit fs ls = false := by
  induction fs with
  | nil => intro ls i h; simp [Dk.fit] at h
  | cons y r ih =>
    intro ls i h
    cases i with
    | zero => simp [Dk.fit] at h
    | succ i =>
      cases ls with
      | nil => rfl
      | cons z zs =>
        have h : (decide (y.ok z.2) && Dk.fit (r.take i) zs) = false := h
        show (decide (y.ok z.2) && Dk.fit r zs) = false
        rw [Bool.and_eq_false_iff] at h ⊢
        rcases h with h | h
        · exact .inl h
        · exact .inr (ih h)
theorem fit_at {fs : List Dk.Fa} : ∀ {ls : List (Nat × Nat)} {i : Nat} {f : Dk.Fa} {x : Nat × Nat}, Dk.fit fs ls = true → fs[i]? = some f → ls[i]? = some x → f.ok x.2 := by
  induction fs with
  | nil => intro ls i f x _ h; simp at h
  | cons y r ih =>
    intro ls i f x h hf hx
    cases ls with
    | nil => simp at hx
    | cons z zs =>
      have h : (decide (y.ok z.2) && Dk.fit r zs) = true := h
      rw [Bool.and_eq_true, decide_eq_true_eq] at h
      cases i with
      | zero => simp at hf hx; subst hf hx; exact h.1
      | succ i => simp only [List.getElem?_cons_succ] at hf hx; exact ih h.2 hf hx
end Go.Proofs.Ytamdihodconjiaa
