/- Words for slices of byte slices: what one reads as, one that the call builds, with its last element open. The law's few, fit and same. -/
import Derived.Test.YtpggomekbahddaaSuA
import Derived.BigQuiet
import Derived.LoopTactic
import Derived.Deep.DeepCutAuto
namespace Go.Proofs.Ytpggomekbahddaa
open Go.RowKit
set_option linter.unusedVariables false
/-- A value that is a slice of the bytes l, in a block of which X holds. -/
def Item (w : World) (X : Nat → Prop) (v : Value) (l : List Nat) : Prop :=
  ∃ (B : Option Addr) (c : Nat), v = .slice B l.length c ∧ Rd w B l.length l ∧ l.length ≤ c ∧ l.length ≤ 9223372036854775807 ∧ ∀ b o, B = some ⟨b, o, none⟩ → 0 < l.length → X b
theorem Rd.lt_blk {w : World} {n b o : Nat} {l : List Nat} (h : Rd w (some ⟨b, o, none⟩) n l) (hn : 0 < n) : b < w.heap.size := by
  obtain ⟨b', o', he, hb, _⟩ := h.2.2 hn
  injection he with he; injection he with e1 _; omega
theorem Rd.grown {w w' : World} {A : Option Addr} {n : Nat} {l : List Nat} {row : Option Nat} (h : Rd w A n l) (hg : w.grownBy w' row) (hne : ∀ b o, A = some ⟨b, o, none⟩ → 0 < n → some b ≠ row) : Rd w' A n l := by
  refine ⟨h.1, h.2.1, fun hn => ?_⟩
  obtain ⟨b, o, rfl, hb, hc⟩ := h.2.2 hn
  exact ⟨b, o, rfl, Nat.lt_of_lt_of_le hb hg.size, fun j x hx => hg.cell (hc j x hx) (hne b o rfl hn)⟩
theorem RdV.grown {w w' : World} {A : Option Addr} {n : Nat} {vs : List Value} {row : Option Nat} (h : RdV w A n vs) (hg : w.grownBy w' row) (hne : ∀ b o, A = some ⟨b, o, none⟩ → 0 < n → some b ≠ row) : RdV w' A n vs := by
  refine ⟨h.1, fun hn => ?_⟩
  obtain ⟨b, o, rfl, hb, hc⟩ := h.2 hn
  exact ⟨b, o, rfl, Nat.lt_of_lt_of_le hb hg.size, fun j x hx => hg.cell (hc j x hx) (hne b o rfl hn)⟩
section
variable {w w' : World} {X Y : Nat → Prop} {v : Value} {l : List Nat} {vs : List Value} {L : List (List Nat)} {row : Option Nat}
theorem Item.imp (h : Item w X v l) (hXY : ∀ b, b < w.heap.size → X b → Y b) : Item w Y v l := by
  obtain ⟨B, c, h1, h2, h3, h4, h5⟩ := h
  refine ⟨B, c, h1, h2, h3, h4, fun b o e hl => hXY b ?_ (h5 b o e hl)⟩
  subst e; exact h2.lt_blk hl
theorem Item.grown (h : Item w X v l) (hg : w.grownBy w' row) (hne : ∀ b, b < w.heap.size → X b → some b ≠ row) : Item w' X v l := by
  obtain ⟨B, c, h1, h2, h3, h4, h5⟩ := h
  refine ⟨B, c, h1, h2.grown hg (fun b o e hl => hne b ?_ (h5 b o e hl)), h3, h4, h5⟩
  subst e; exact h2.lt_blk hl
theorem Item.below (h : Item w X v l) (hb : Below w.heap.size w w') : Item w' X v l := h.grown (grown_of_below hb) (fun _ _ _ => by simp)
theorem Item.len (h : Item w X v l) : l.length ≤ 9223372036854775807 := by obtain ⟨_, _, _, _, _, h4, _⟩ := h; exact h4
/-- Values that are slices of bytes. -/
def Items (w : World) (X : Nat → Prop) (vs : List Value) (L : List (List Nat)) : Prop := vs.length = L.length ∧ ∀ (j : Nat) (v : Value) (l : List Nat), vs[j]? = some v → L[j]? = some l → Item w X v l
theorem Items.nil (w : World) (X : Nat → Prop) : Items w X [] [] := ⟨rfl, by simp⟩
theorem Items.at_ (h : Items w X vs L) {j : Nat} (hj : j < L.length) : ∃ v l, vs[j]? = some v ∧ L[j]? = some l ∧ Item w X v l := by
  have hv : vs[j]? = some (vs[j]'(by rw [h.1]; exact hj)) := List.getElem?_eq_getElem _
  have hl : L[j]? = some L[j] := List.getElem?_eq_getElem _
  exact ⟨_, _, hv, hl, h.2 j _ _ hv hl⟩
theorem Items.imp (h : Items w X vs L) (hXY : ∀ b, b < w.heap.size → X b → Y b) : Items w Y vs L := ⟨h.1, fun j v l hv hl => (h.2 j v l hv hl).imp hXY⟩
theorem Items.grown (h : Items w X vs L) (hg : w.grownBy w' row) (hne : ∀ b, b < w.heap.size → X b → some b ≠ row) : Items w' X vs L := ⟨h.1, fun j v l hv hl => (h.2 j v l hv hl).grown hg hne⟩
theorem Items.below (h : Items w X vs L) (hb : Below w.heap.size w w') : Items w' X vs L := ⟨h.1, fun j v l hv hl => (h.2 j v l hv hl).below hb⟩
theorem Items.snoc (h : Items w X vs L) (hv : Item w X v l) : Items w X (vs ++ [v]) (L ++ [l]) := by
  refine ⟨by simp [h.1], fun j v' l' e1 e2 => ?_⟩
  by_cases hj : j < vs.length
  · rw [List.getElem?_append_left hj] at e1
    rw [List.getElem?_append_left (by rw [← h.1]; exact hj)] at e2
    exact h.2 j _ _ e1 e2
  · have hj2 : j = vs.length := by
      have := (List.getElem?_eq_some_iff.1 e1).1
      simp at this; omega
    subst hj2
    rw [List.getElem?_append_right (Nat.le_refl _), Nat.sub_self] at e1
    rw [h.1, List.getElem?_append_right (Nat.le_refl _), Nat.sub_self] at e2
    simp at e1 e2
    subst e1 e2
    exact hv
theorem Items.take (h : Items w X vs L) (k : Nat) : Items w X (vs.take k) (L.take k) := by
  refine ⟨by rw [List.length_take, List.length_take, h.1], fun j v l hv hl => ?_⟩
  rw [List.getElem?_take] at hv hl
  split at hv
  · rename_i hj; rw [if_pos hj] at hl; exact h.2 j v l hv hl
  · cases hv
end
/-- A slice of n byte slices at this address reads as L. -/
def RdB (w : World) (A : Option Addr) (n : Nat) (L : List (List Nat)) : Prop := ∃ vs, RdV w A n vs ∧ Items w (fun _ => True) vs L
theorem RdB.len {w : World} {A : Option Addr} {n : Nat} {L : List (List Nat)} (h : RdB w A n L) : L.length = n := by
  obtain ⟨vs, h1, h2⟩ := h; rw [← h2.1]; exact h1.1
theorem RdB.below {w w' : World} {A : Option Addr} {n : Nat} {L : List (List Nat)} (h : RdB w A n L) (hb : Below w.heap.size w w') : RdB w' A n L := by
  obtain ⟨vs, h1, h2⟩ := h; exact ⟨vs, h1.below hb, h2.below hb⟩
theorem RdB.alloc {w : World} {A : Option Addr} {n : Nat} {L : List (List Nat)} (h : RdB w A n L) (o : Obj) : RdB (w.alloc o) A n L := h.below ((Below.refl _ _).alloc (Nat.le_refl _) o)
theorem RdB.take {w : World} {A : Option Addr} {n : Nat} {L : List (List Nat)} (h : RdB w A n L) {k : Nat} (hk : k ≤ n) : RdB w A k (L.take k) := by
  obtain ⟨vs, h1, h2⟩ := h
  exact ⟨vs.take k, h1.take hk, h2.take k⟩
/-- One element. -/
theorem RdB.at_ {w : World} {A : Option Addr} {n : Nat} {L : List (List Nat)} (h : RdB w A n L) {j : Nat} (hj : j < n) : ∃ (b o : Nat) (B : Option Addr) (c : Nat) (l : List Nat), A = some ⟨b, o, none⟩ ∧ b < w.heap.size ∧ L[j]? = some l ∧ w.cell? ⟨b, o + j, none⟩ = some (.slice B l.length c) ∧ Rd w B l.length l ∧ l.length ≤ c ∧ l.length ≤ 9223372036854775807 := by
  have hl := h.len
  obtain ⟨vs, h1, h2⟩ := h
  obtain ⟨b, o, v, rfl, hb, hv, hc⟩ := h1.at_ hj
  obtain ⟨v', l, hv', hl', B, c, he, hr, hc2, hm, _⟩ := h2.at_ (j := j) (by omega)
  rw [hv] at hv'
  injection hv' with hv'
  subst hv' he
  exact ⟨b, o, B, c, l, rfl, hb, hl', hc, hr, hc2, hm⟩
/-- A slice of byte slices that the call builds, of which all elements are laid for good: its blocks are not the row's. -/
structure OwnB (w : World) (base : Nat) (A : Option Addr) (n cap : Nat) (L : List (List Nat)) (X : Nat → Prop) : Prop where
  row : ∃ vs, OwnV w base 23 A n cap vs ∧ Items w (fun b => X b ∧ some b ≠ (Value.slice A n cap).ownBlock) vs L
theorem oneB : One 22 23 (.slice none 0 0) 24 := ⟨by kernel_rfl, Try.underlying22, rfl, by decide⟩
section
variable {w w' : World} {base n cap : Nat} {A : Option Addr} {L : List (List Nat)} {X Y : Nat → Prop}
theorem OwnB.len (h : OwnB w base A n cap L X) : L.length = n := by obtain ⟨vs, h1, h2⟩ := h.row; rw [← h2.1]; exact h1.1
theorem OwnB.rd (h : OwnB w base A n cap L X) : RdB w A n L := by obtain ⟨vs, h1, h2⟩ := h.row; exact ⟨vs, h1.rd, h2.imp fun _ _ _ => trivial⟩
theorem OwnB.none_ (w : World) (base : Nat) (X : Nat → Prop) : OwnB w base none 0 0 [] X := ⟨[], OwnV.none_ _ _ _, Items.nil _ _⟩
theorem OwnB.fits (h : OwnB w base A n cap L X) : n ≤ cap := by obtain ⟨vs, h1, _⟩ := h.row; exact h1.fits
theorem OwnB.blk (h : OwnB w base A n cap L X) : ∀ g, (Value.slice A n cap).ownBlock = some g → base ≤ g ∧ g < w.heap.size := by obtain ⟨vs, h1, _⟩ := h.row; exact h1.blk
theorem OwnB.grown (h : OwnB w base A n cap L X) {row : Option Nat} (hg : w.grownBy w' row) (hr : row = none ∨ (Value.slice A n cap).ownBlock ≠ row) (hne : ∀ b, b < w.heap.size → X b → some b ≠ row) : OwnB w' base A n cap L X := by
  obtain ⟨vs, h1, h2⟩ := h.row
  refine ⟨vs, h1.grown hg ?_, h2.grown hg fun b hb hx => hne b hb hx.1⟩
  rcases hr with e | e
  · exact .inl e
  · exact .inr fun g hg2 e2 => e (by rw [e2, hg2])
theorem OwnB.below (h : OwnB w base A n cap L X) (hb : Below w.heap.size w w') : OwnB w' base A n cap L X := h.grown (grown_of_below hb) (.inl rfl) (fun _ _ _ => by simp)
theorem OwnB.alloc (h : OwnB w base A n cap L X) (o : Obj) : OwnB (w.alloc o) base A n cap L X := h.below ((Below.refl _ _).alloc (Nat.le_refl _) o)
theorem OwnB.imp (h : OwnB w base A n cap L X) (hXY : ∀ b, b < w.heap.size → X b → Y b) : OwnB w base A n cap L Y := by
  obtain ⟨vs, h1, h2⟩ := h.row
  exact ⟨vs, h1, h2.imp fun b hb hx => ⟨hXY b hb hx.1, hx.2⟩⟩
/-- An element put behind the others. -/
theorem OwnB.snoc {v : Value} {l : List Nat} {A' : Option Addr} {cap' : Nat} {vs : List Value} (h1 : OwnV w base 23 A n cap vs) (h2 : Items w (fun b => X b ∧ some b ≠ (Value.slice A n cap).ownBlock) vs L) (hv : Item w (fun b => X b ∧ some b ≠ (Value.slice A n cap).ownBlock) v l)
    (hg : GrewV w w' base 23 A A' n cap (n + 1) cap' (vs ++ [v])) : OwnB w' base A' (n + 1) cap' (L ++ [l]) X := by
  refine ⟨_, hg.own, ?_⟩
  have h3 := (h2.snoc hv).grown hg.grew (fun b hb hx => hx.2)
  refine ⟨h3.1, fun j v' l' e1 e2 => ?_⟩
  have h4 : Item w (fun b => X b ∧ some b ≠ (Value.slice A n cap).ownBlock) v' l' := (h2.snoc hv).2 j v' l' e1 e2
  have h6 : Item w (fun b => X b ∧ some b ≠ (Value.slice A' (n + 1) cap').ownBlock ∧ some b ≠ (Value.slice A n cap).ownBlock) v' l' := h4.imp fun b hb hx => ⟨hx.1, by
    rcases hg.blk with e | e
    · rw [e]; exact hx.2
    · rw [e]; intro e2; injection e2 with e2; omega, hx.2⟩
  have h7 := h6.grown hg.grew (fun b hb hx => hx.2.2)
  exact h7.imp fun b hb hx => ⟨hx.1, hx.2.1⟩
end
end Go.Proofs.Ytpggomekbahddaa
namespace Go.Proofs.Ytpggomekbahddaa
open Go.RowKit
set_option linter.unusedVariables false
namespace Fg
/-- Records that are not more, nor longer, than are looked at. -/
def few (L : List (List Nat)) : List (List Nat) := (L.take 40).map (·.take 9000)
theorem few_snoc {L : List (List Nat)} {k : Nat} {r : List Nat} (h : L[k]? = some r) (hk : k < 40) : few (L.take (k + 1)) = few (L.take k) ++ [r.take 9000] := by
  unfold few
  rw [List.take_take, List.take_take, Nat.min_eq_right (by omega), Nat.min_eq_right (by omega), List.take_add_one, h]; simp
theorem few_all {L : List (List Nat)} {k : Nat} (h : k = L.length ∨ k = 40) : few (L.take k) = few L := by
  unfold few
  rcases h with h | h
  · rw [List.take_of_length_le (Nat.le_of_eq h.symm)]
  · subst h; rw [List.take_take]; simp
end Fg
/-- Byte slices. -/
def GivesRow (w : World) (L : List (List Nat)) (x : Ending) (w' : World) : Prop :=
  ∃ (A : Option Addr) (c : Nat), x = .returned (.slice A L.length c) ∧ RdB w' A L.length L ∧ L.length ≤ c ∧ L.length ≤ 1000000 ∧ Below w.heap.size w w'
end Go.Proofs.Ytpggomekbahddaa
