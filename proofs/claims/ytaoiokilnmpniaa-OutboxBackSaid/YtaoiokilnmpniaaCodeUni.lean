/- How the takes end, in one form: whether something stood there or not. -/
import Derived.Test.YtaoiokilnmpniaaCodeTexts
import Derived.Test.YtaoiokilnmpniaaCodeFixed
import Derived.Test.YtaoiokilnmpniaaCodeKeyOwn
import Derived.Test.YtaoiokilnmpniaaCodePartsOwn
namespace Go.Proofs.Ytaoiokilnmpniaa
open Go.RowKit
def takeV : Option (Nat × List Nat) → Nat
  | none => 0
  | some (v, _) => v
def takeR {α : Type} : Option (α × List Nat) → List Nat
  | none => []
  | some (_, r) => r
def takeT : Option (List Nat × List Nat) → List Nat
  | none => []
  | some (t, _) => t
def takeOk {α : Type} : Option α → Bool
  | none => false
  | some _ => true
theorem GivesTake.uni {w w' : World} {o : Option (Nat × List Nat)} {e : Ending} (h : GivesTake w o e w') :
    ∃ A cap, e = .returned (.tuple #[.int .u64 (takeV o : Int), .slice A (takeR o).length cap, .bool (takeOk o)]) ∧ Rd w' A (takeR o).length (takeR o) ∧ (takeR o).length ≤ cap ∧ Below w.heap.size w w' := by
  rcases o with _ | ⟨v, r⟩
  · obtain ⟨he, hb⟩ := h
    exact ⟨none, 0, he, Rd.nil _ _, Nat.le_refl _, hb⟩
  · obtain ⟨A, cap, he, hr, hc, hb⟩ := h
    exact ⟨A, cap, he, hr, hc, hb⟩
theorem GivesTakeText.uni {w w' : World} {o : Option (List Nat × List Nat)} {e : Ending} (h : GivesTakeText w o e w') :
    ∃ A cap, e = .returned (.tuple #[.string (str (takeT o)), .slice A (takeR o).length cap, .bool (takeOk o)]) ∧ Rd w' A (takeR o).length (takeR o) ∧ (takeR o).length ≤ cap ∧ Below w.heap.size w w' := by
  rcases o with _ | ⟨v, r⟩
  · obtain ⟨he, hb⟩ := h
    exact ⟨none, 0, he, Rd.nil _ _, Nat.le_refl _, hb⟩
  · obtain ⟨A, cap, he, hr, hc, hb⟩ := h
    exact ⟨A, cap, he, hr, hc, hb⟩
theorem take_succ_eq {α : Type} {x y : List α} {k : Nat} {p : α} (h : x.take k = y.take k) (hx : x[k]? = some p) (hy : y[k]? = some p) : x.take (k + 1) = y.take (k + 1) := by
  rw [List.take_add_one, List.take_add_one, hx, hy, h]
theorem bs_ne {a b : ByteArray} (h : a ≠ b) : ¬ bs a = bs b := fun e => h (bs_inj e)
/-- Is a row of parts ahead of another one, part by part? -/
def aheadB : List ByteArray → List ByteArray → Bool
  | [], [] => false
  | [], _ :: _ => true
  | _ :: _, [] => false
  | a :: x, b :: y => if a = b then aheadB x y else lessL (bs a) (bs b)
theorem ahead_ne (x y : List ByteArray) (k : Nat) (p q : ByteArray) (h : x.take k = y.take k) (hx : x[k]? = some p) (hy : y[k]? = some q) (hpq : p ≠ q) : aheadB x y = lessL (bs p) (bs q) := by
  induction k generalizing x y with
  | zero =>
    cases x with
    | nil => cases hx
    | cons a x =>
      cases y with
      | nil => cases hy
      | cons b y =>
        simp at hx hy
        subst hx hy
        show (if a = b then _ else _) = _
        rw [if_neg hpq]
  | succ k ih =>
    cases x with
    | nil => cases hx
    | cons a x =>
      cases y with
      | nil => cases hy
      | cons b y =>
        simp only [List.take_succ_cons, List.cons.injEq] at h
        show (if a = b then aheadB x y else _) = _
        rw [if_pos h.1]
        exact ih x y h.2 (by simpa using hx) (by simpa using hy)
theorem ahead_end (x y : List ByteArray) (k : Nat) (h : x.take k = y.take k) (hk : k = x.length ∧ k ≤ y.length ∨ k = y.length ∧ k ≤ x.length) : aheadB x y = decide (x.length < y.length) := by
  induction x generalizing y k with
  | nil =>
    cases y with
    | nil => rfl
    | cons b y => show true = _; rw [eq_comm, decide_eq_true_iff]; simp
  | cons a x ih =>
    cases y with
    | nil => show false = _; rw [eq_comm, decide_eq_false_iff_not]; simp
    | cons b y =>
      cases k with
      | zero => simp at hk
      | succ k =>
        simp only [List.take_succ_cons, List.cons.injEq] at h
        show (if a = b then aheadB x y else _) = _
        rw [if_pos h.1, ih y k h.2 (by simpa using hk)]
        simp
end Go.Proofs.Ytaoiokilnmpniaa
