/- What take of frag's joined does: a scope with five labels. -/
import Derived.Test.YtpfdacnjikdifaaFgJn
import Derived.ScopeJumps
import Derived.WalkMore
import Derived.Deep.RegionHeld3
namespace Go.Proofs.Ytpfdacnjikdifaa
open Go.RowKit
set_option linter.unusedVariables false
/-- By a goto to label l: J l; else Q. -/
def Exit.jumps (J : Nat → Act → World → Prop) (Q : Exit → Act → World → Prop) : Exit → Act → World → Prop
  | .goto l, a, w => J l a w
  | e, a, w => Q e a w
theorem skip_seq {P : Program} {a : Act} {w : World} {Q : Exit → Act → World → Prop} {c : Code} (h : c.wp P Q a w) : (Code.skip.seq c).wp P Q a w := by
  refine wp_seq ?_
  exact wp_skip h
theorem wp_scope5 {P : Program} {a : Act} {w : World} {Q : Exit → Act → World → Prop} {c r0 r1 r2 r3 r4 : Code} (J : Nat → Act → World → Prop) (μ : Nat → Act → World → Nat)
    (h0 : findLabel c 0 = some (Code.skip.seq r0)) (h1 : findLabel c 1 = some r1) (h2 : findLabel c 2 = some r2) (h3 : findLabel c 3 = some r3) (h4 : findLabel c 4 = some r4) (hJ : ∀ l a w, J l a w → l ≤ 4)
    (first : (∀ a w, J 0 a w → r0.wp P (Exit.jumps J Q) a w) → c.wp P (Exit.jumps J Q) a w)
    (p0 : ∀ a w, J 0 a w → r0.wp P (Exit.jumps (fun l' a' w' => J l' a' w' ∧ μ l' a' w' < μ 0 a w) Q) a w)
    (p1 : ∀ a w, J 1 a w → r1.wp P (Exit.jumps (fun l' a' w' => J l' a' w' ∧ μ l' a' w' < μ 1 a w) Q) a w)
    (p2 : ∀ a w, J 2 a w → r2.wp P (Exit.jumps (fun l' a' w' => J l' a' w' ∧ μ l' a' w' < μ 2 a w) Q) a w)
    (p3 : ∀ a w, J 3 a w → r3.wp P (Exit.jumps (fun l' a' w' => J l' a' w' ∧ μ l' a' w' < μ 3 a w) Q) a w)
    (p4 : ∀ a w, J 4 a w → r4.wp P (Exit.jumps (fun l' a' w' => J l' a' w' ∧ μ l' a' w' < μ 4 a w) Q) a w) : (Code.scope c).wp P Q a w := by
  have first := first (fun a w hj => Code.wp_mono (fun e a w h => by cases e <;> first | exact h | exact h.1) (p0 a w hj))
  have p0 := fun a w hj => skip_seq (p0 a w hj)
  intro b k cs
  have hall : ∀ l a w, J l a w → ∃ r, findLabel c l = some r ∧ r.wp P (Exit.jumps (fun l' a' w' => J l' a' w' ∧ μ l' a' w' < μ l a w) Q) a w := by
    intro l a w hj
    have := hJ l a w hj
    rcases (show l = 0 ∨ l = 1 ∨ l = 2 ∨ l = 3 ∨ l = 4 by omega) with rfl | rfl | rfl | rfl | rfl
    · exact ⟨_, h0, p0 a w hj⟩
    · exact ⟨r1, h1, p1 a w hj⟩
    · exact ⟨r2, h2, p2 a w hj⟩
    · exact ⟨r3, h3, p3 a w hj⟩
    · exact ⟨r4, h4, p4 a w hj⟩
  have key : ∀ n l a w, μ l a w = n → J l a w → ∀ r, findLabel c l = some r → ∃ e a' w', Q e a' w' ∧ Arrives P (lone (b.at a (.code r :: .inScope c :: k)) cs w) b k cs e a' w' := by
    intro n
    induction n using Nat.strongRecOn with
    | _ n ih =>
      intro l a w hn hj r hr
      obtain ⟨r', hr', hw⟩ := hall l a w hj
      rw [hr] at hr'
      injection hr' with hr'
      subst hr'
      obtain ⟨e, a₁, w₁, hq, harr⟩ := hw b (.inScope c :: k) cs
      cases e with
      | normal => exact ⟨.normal, a₁, w₁, hq, Steps.trans harr (.one step_inScope)⟩
      | exit id => exact ⟨.exit id, a₁, w₁, hq, fun k' hk => harr k' (by simp [exitTo, hk])⟩
      | goto l' =>
        obtain ⟨hj', hlt⟩ := hq
        obtain ⟨r2', hr2', _⟩ := hall l' a₁ w₁ hj'
        obtain ⟨e₂, a₂, w₂, hq₂, harr₂⟩ := ih _ (by omega) l' a₁ w₁ rfl hj' r2' hr2'
        exact ⟨e₂, a₂, w₂, hq₂, .of_steps (harr _ (by simp [gotoIn, hr2'])) harr₂⟩
      | ret => exact ⟨_, a₁, w₁, hq, harr⟩
      | panic ch => exact ⟨_, a₁, w₁, hq, harr⟩
      | outgrown => exact ⟨_, a₁, w₁, hq, harr⟩
  obtain ⟨e, a₁, w₁, hq, harr⟩ := first b (.inScope c :: k) cs
  cases e with
  | normal => exact ⟨.normal, a₁, w₁, hq, .head step_scope (Steps.trans harr (.one step_inScope))⟩
  | exit id => exact ⟨.exit id, a₁, w₁, hq, fun k' hk => .head step_scope (harr k' (by simp [exitTo, hk]))⟩
  | goto l' =>
    obtain ⟨r', hr', _⟩ := hall l' a₁ w₁ hq
    obtain ⟨e₂, a₂, w₂, hq₂, harr₂⟩ := key _ l' a₁ w₁ rfl hq r' hr'
    exact ⟨e₂, a₂, w₂, hq₂, .of_steps (.head step_scope (harr _ (by simp [gotoIn, hr']))) harr₂⟩
  | ret => exact ⟨_, a₁, w₁, hq, .of_steps (.one step_scope) harr⟩
  | panic ch => exact ⟨_, a₁, w₁, hq, .of_steps (.one step_scope) harr⟩
  | outgrown => exact ⟨_, a₁, w₁, hq, .of_steps (.one step_scope) harr⟩
theorem arr_range (t : Array Value) (n : Nat) (h : t.size = n) : t = ((List.range n).map fun i => t.getD i undef).toArray := by
  apply Array.ext
  · simp [h]
  · intro i h1 h2
    simp [Array.getD, h1]
set_option maxRecDepth 100000 in
theorem act84 (a : Act) (h : a.tmps.size = 84) (hd : a.defers = []) : ∃ u : Nat → Value, a = { tmps := #[u 0, u 1, u 2, u 3, u 4, u 5, u 6, u 7, u 8, u 9, u 10, u 11, u 12, u 13, u 14, u 15, u 16, u 17, u 18, u 19, u 20, u 21, u 22, u 23, u 24, u 25, u 26, u 27, u 28, u 29, u 30, u 31, u 32, u 33, u 34, u 35, u 36, u 37, u 38, u 39, u 40, u 41, u 42, u 43, u 44, u 45, u 46, u 47, u 48, u 49, u 50, u 51, u 52, u 53, u 54, u 55, u 56, u 57, u 58, u 59, u 60, u 61, u 62, u 63, u 64, u 65, u 66, u 67, u 68, u 69, u 70, u 71, u 72, u 73, u 74, u 75, u 76, u 77, u 78, u 79, u 80, u 81, u 82, u 83], defers := [] } ∧ ∀ i, u i = a.tmps.getD i undef := by
  refine ⟨fun i => a.tmps.getD i undef, ?_, fun i => rfl⟩
  have e := arr_range a.tmps 84 h
  obtain ⟨t, d⟩ := a
  dsimp at e hd
  subst hd
  conv => lhs; rw [e]
  rfl
namespace Fg
def runF : Nat → List Nat → Js → Option Js
  | 0, _, _ => none
  | f + 1, p, s =>
    if p = [] then some s else match frag1 p with
      | none => none
      | some (k, b) => match jstep s k b with
        | none => none
        | some s' => runF f (p.drop (2 + b.length)) s'
/-- All fragments of a payload, one behind the other. -/
def run (p : List Nat) (s : Js) : Option Js := runF (p.length + 1) p s
theorem runF_fuel {f : Nat} {p : List Nat} {s : Js} (h : p.length < f) : runF f p s = run p s := by
  unfold run
  induction f using Nat.strongRecOn generalizing p s with
  | _ f ih =>
    match f, h with
    | f + 1, h =>
      unfold runF
      by_cases e : p = []
      · rw [if_pos e, if_pos e]
      · rw [if_neg e, if_neg e]
        cases hf : frag1 p with
        | none => rfl
        | some kb =>
          obtain ⟨k, b⟩ := kb
          dsimp only
          cases hs : jstep s k b with
          | none => rfl
          | some s' =>
            dsimp only
            have hb := frag1_some hf
            have hl : (p.drop (2 + b.length)).length < p.length := by rw [List.length_drop]; omega
            rw [ih f (by omega) (by omega)]
            by_cases e2 : p.length = f
            · rw [e2, ih f (by omega) (by omega)]
            · rw [ih p.length (by omega) hl]
theorem run_nil (s : Js) : run [] s = some s := rfl
theorem run_none {p : List Nat} {s : Js} (h : p ≠ []) (hf : frag1 p = none) : run p s = none := by
  unfold run runF; rw [if_neg h, hf]
theorem run_step {p : List Nat} {s : Js} {k : Nat} {b : List Nat} (hf : frag1 p = some (k, b)) : run p s = match jstep s k b with | none => none | some s' => run (p.drop (2 + b.length)) s' := by
  have hb := frag1_some hf
  have hp : p ≠ [] := by intro e; rw [e] at hb; simp at hb
  conv => lhs; unfold run runF
  rw [if_neg hp, hf]
  dsimp only
  cases jstep s k b with
  | none => rfl
  | some s' =>
    dsimp only
    rw [runF_fuel (by rw [List.length_drop]; omega)]
/-- What may be begun is not too long. -/
def JFit (s : Js) : Prop := ∀ x, s.2 = some x → x.length ≤ 8192
theorem JFit.step {s s' : Js} {k : Nat} {b : List Nat} (hb : b.length ≤ 106) (h : jstep s k b = some s') : JFit s' := by
  unfold jstep at h
  by_cases h1 : k = 1
  · rw [if_pos h1] at h; injection h with h; subst h; intro x e; cases e
  · rw [if_neg h1] at h
    by_cases h2 : k = 2
    · rw [if_pos h2] at h; injection h with h; subst h; intro x e; injection e with e; subst e; omega
    · rw [if_neg h2] at h
      cases hs : s.2 with
      | none => rw [hs] at h; cases h
      | some y =>
        rw [hs] at h
        dsimp only at h
        by_cases h8 : 8192 < y.length + b.length
        · rw [if_pos h8] at h; cases h
        · rw [if_neg h8] at h
          by_cases h3 : k = 3
          · rw [if_pos h3] at h; injection h with h; subst h; intro x e; injection e with e; subst e; rw [List.length_append]; omega
          · rw [if_neg h3] at h; injection h with h; subst h; intro x e; cases e
theorem jstep_many {s s' : Js} {k : Nat} {b : List Nat} (h : jstep s k b = some s') : ∃ t, s'.1 = s.1 ++ t ∧ t.length ≤ 1 := by
  unfold jstep at h
  by_cases h1 : k = 1
  · rw [if_pos h1] at h; injection h with h; subst h; exact ⟨[b], rfl, Nat.le_refl _⟩
  · rw [if_neg h1] at h
    by_cases h2 : k = 2
    · rw [if_pos h2] at h; injection h with h; subst h; exact ⟨[], by simp, by simp⟩
    · rw [if_neg h2] at h
      cases hs : s.2 with
      | none => rw [hs] at h; cases h
      | some y =>
        rw [hs] at h
        dsimp only at h
        by_cases h8 : 8192 < y.length + b.length
        · rw [if_pos h8] at h; cases h
        · rw [if_neg h8] at h
          by_cases h3 : k = 3
          · rw [if_pos h3] at h; injection h with h; subst h; exact ⟨[], by simp, by simp⟩
          · rw [if_neg h3] at h; injection h with h; subst h; exact ⟨[y ++ b], rfl, Nat.le_refl _⟩
/-- A payload put behind others. -/
def jpay (s : Js) (p : List Nat) : Option Js := if 108 < p.length then none else run p s
end Fg
end Go.Proofs.Ytpfdacnjikdifaa
