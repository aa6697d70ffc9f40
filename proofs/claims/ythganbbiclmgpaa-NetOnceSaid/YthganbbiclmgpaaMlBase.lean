/- Mails: slices of them, in memory of the call's own too; a slice cut at its head, a row with one mail less. -/
import Derived.Test.YthganbbiclmgpaaRowC
import Derived.Test.YthganbbiclmgpaaHolds
import Derived.Test.YthganbbiclmgpaaStepV
import Derived.Laws.OwnMore
import Derived.Laws.IdiomCopy
import Derived.Lib.SmallJoins
namespace Go.Proofs.Ythganbbiclmgpaa
open Go.RowKit
theorem grown_any {w w' : World} (h : Below w.heap.size w w') (row : Option Nat) : w.grownBy w' row := ⟨h.os, h.tape, h.output, h.size, fun k hk _ => h.block k hk⟩
theorem Holds.grown {w w' : World} {b : Nat} {cs : List Value} (k : Holds w b cs) {row : Option Nat} (hg : w.grownBy w' row) (hne : row ≠ some b) : Holds w' b cs :=
  ⟨Nat.lt_of_lt_of_le k.1 hg.size, fun i v h => (World.grownBy.cell_far hg ⟨b, i, none⟩ k.1 (fun e => hne e.symm)).trans (k.2.1 i v h), fun i => (World.frozen?_of_block (a := ⟨b, i, none⟩) (hg.block b k.1 (fun e => hne e.symm))).trans (k.2.2 i)⟩
theorem RdC.grown {s : Nat} {w w' : World} {A : Option Addr} {n : Nat} {vs : List Value} {row : Option Nat} (h : RdC s w A n vs) (hg : w.grownBy w' row) (hne : 0 < n → ∀ g o, A = some ⟨g, o, none⟩ → row ≠ some g) : RdC s w' A n vs := by
  refine ⟨h.1, fun hn => ?_⟩
  obtain ⟨b, o, rfl, hb, hc⟩ := h.2 hn
  exact ⟨b, o, rfl, Nat.lt_of_lt_of_le hb hg.size, fun j x hx => (World.grownBy.cell_far hg ⟨b, o + j, none⟩ hb (fun e => hne hn b o rfl e.symm)).trans (hc j x hx)⟩
theorem RdC.drop {s : Nat} {w : World} {b o n : Nat} {vs : List Value} (h : RdC s w (some ⟨b, o, none⟩) n vs) {k : Nat} (hk : k ≤ n) : RdC s w (some ⟨b, o + k * s, none⟩) (n - k) (vs.drop (k * s)) := by
  refine ⟨by rw [List.length_drop, h.1, Nat.sub_mul], fun hn => ?_⟩
  obtain ⟨b', o', e, hb, hc⟩ := h.2 (by omega)
  injection e with e
  injection e with e1 e2
  subst e1 e2
  refine ⟨b, o + k * s, rfl, hb, fun j x hx => ?_⟩
  rw [List.getElem?_drop] at hx
  have := hc _ x hx
  rwa [← Nat.add_assoc] at this
theorem OwnC.take {s : Nat} {w : World} {base n cap : Nat} {E : TypeId} {A : Option Addr} {vs : List Value} (h : OwnC s w base E A n cap vs) (hA : A ≠ none) {k : Nat} (hk : k ≤ n) : OwnC s w base E A k cap (vs.take (k * s)) := by
  have h1 := h.1
  have hks : k * s ≤ n * s := Nat.mul_le_mul_right s hk
  rcases h.2 with ⟨hv, _⟩ | ⟨g, c, cur, hv, hb, hg, hnc, hc, hs, ht⟩
  · injection hv with e
    exact absurd e hA
  · injection hv with e1 e2 e3
    subst e1 e3
    refine ⟨by rw [List.length_take, h1, Nat.min_eq_left hks], .inr ⟨g, cap, cur, rfl, hb, hg, by omega, hc, hs, ?_⟩⟩
    rw [← ht, List.take_take, Nat.min_eq_left hks]
/-- A store behind what a row holds. -/
theorem OwnC.behind {s : Nat} {w : World} {base n cap g i : Nat} {E : TypeId} {vs : List Value} (h : OwnC s w base E (some ⟨g, 0, none⟩) n cap vs) (u : Value) (hi : n * s ≤ i) : OwnC s (w.setCell ⟨g, i, none⟩ u) base E (some ⟨g, 0, none⟩) n cap vs := by
  rcases h.2 with ⟨hv, _⟩ | ⟨g', c, cur, hv, hb, hg, hnc, hc, hs, ht⟩
  · cases hv
  · injection hv with e1 e2 e3
    injection e1 with e1
    injection e1 with e1
    subst e1 e3
    refine ⟨h.1, .inr ⟨g, cap, cur.setIfInBounds i u, rfl, hb, Joins.block_setCell hg u, hnc, hc, by simpa using hs, ?_⟩⟩
    rw [Array.toList_setIfInBounds, List.take_set_of_le hi]
    exact ht
theorem OwnC.behinds {s base n cap g : Nat} {E : TypeId} {vs : List Value} : ∀ (us : List Value) (i : Nat) (w : World), OwnC s w base E (some ⟨g, 0, none⟩) n cap vs → n * s ≤ i → OwnC s (w.setCells g i us) base E (some ⟨g, 0, none⟩) n cap vs
  | [], _, _, h, _ => h
  | u :: us, i, w, h, hi => OwnC.behinds us (i + 1) _ (h.behind u hi) (by omega)
theorem grown_setCell (w : World) (a : Addr) (v : Value) : w.grownBy (w.setCell a v) (some a.block) := ⟨rfl, rfl, rfl, by simp [World.setCell], fun k _ hk => Below.heap_setCell _ _ _ _ (fun e => hk (by rw [e]))⟩
theorem grown_setCells (g : Nat) : ∀ (us : List Value) (i : Nat) (w : World), w.grownBy (w.setCells g i us) (some g)
  | [], _, w => ⟨rfl, rfl, rfl, Nat.le_refl _, fun _ _ _ => rfl⟩
  | u :: us, i, w => by
    have h1 := grown_setCell w ⟨g, i, none⟩ u
    have h2 := grown_setCells g us (i + 1) (w.setCell ⟨g, i, none⟩ u)
    exact h1.trans h2
end Go.Proofs.Ythganbbiclmgpaa
