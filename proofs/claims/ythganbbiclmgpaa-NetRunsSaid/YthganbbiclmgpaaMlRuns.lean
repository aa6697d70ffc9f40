/- A net's mails and a list, side by side: what each call leaves of them. -/
import Derived.Test.YthganbbiclmgpaaMlRefs
import Derived.Test.YthganbbiclmgpaaMlLike
import Derived.Test.YthganbbiclmgpaaMlSteps
namespace Go.Proofs.Ythganbbiclmgpaa
open Go.RowKit
/-- A net, and a list elsewhere; none of them lies at S0 to S. -/
structure RunG (S0 S g : Nat) (w1 v : World) (A : Option Addr) (cap : Nat) (L : List Ml.M) (B : Option Addr) (c : Nat) (K : List Ml.M) : Prop where
  mv : Moved g none 0 [] w1 A cap L v
  rd : RdM v B K.length K
  fit : K.length ≤ c
  sepg : 0 < K.length → ∀ b o, B = some ⟨b, o, none⟩ → b ≠ g
  sepA : 0 < K.length → ∀ b o, B = some ⟨b, o, none⟩ → (Value.slice A L.length cap).ownBlock ≠ some b
  gapA : ∀ k, (Value.slice A L.length cap).ownBlock = some k → k < S0 ∨ S ≤ k
  gapB : 0 < K.length → ∀ b o, B = some ⟨b, o, none⟩ → b < S0 ∨ S ≤ b
  hg : g < S0
  hw : w1.heap.size ≤ S0
  hS : S0 ≤ S
  size : S ≤ v.heap.size
theorem RdM.blk {w : World} {B : Option Addr} {n b o : Nat} {K : List Ml.M} (h : RdM w B n K) (hn : 0 < n) (hB : B = some ⟨b, o, none⟩) : b < w.heap.size := by
  obtain ⟨b', o', e, hb, _⟩ := h.2.2 hn
  rw [hB] at e
  injection e with e
  injection e with e
  omega
section
variable {S0 S g cap cap' c c' : Nat} {w1 v v' : World} {A A' B B' : Option Addr} {L L' K K' : List Ml.M}
theorem RunG.net (h : RunG S0 S g w1 v A cap L B c K) (hm : Moved g A cap L v A' cap' L' v') : RunG S0 S g w1 v' A' cap' L' B c K where
  mv := h.mv.then hm
  rd := h.rd.moved hm (fun hn b o e => ⟨h.sepg hn b o e, h.sepA hn b o e⟩)
  fit := h.fit
  sepg := h.sepg
  sepA := fun hn b o e e2 => by
    rcases hm.blk _ e2 with e3 | e3
    · exact h.sepA hn b o e e3
    · have := h.rd.blk hn e
      omega
  gapA := fun k e => by
    rcases hm.blk _ e with e3 | e3
    · exact h.gapA k e3
    · have := h.size
      omega
  gapB := h.gapB
  hg := h.hg
  hw := h.hw
  hS := h.hS
  size := Nat.le_trans h.size hm.ch.size
theorem RunG.below (h : RunG S0 S g w1 v A cap L B c K) (hb : Below v.heap.size v v') : RunG S0 S g w1 v' A cap L B c K where
  mv := h.mv.below hb
  rd := h.rd.below hb
  fit := h.fit
  sepg := h.sepg
  sepA := h.sepA
  gapA := h.gapA
  gapB := h.gapB
  hg := h.hg
  hw := h.hw
  hS := h.hS
  size := Nat.le_trans h.size hb.size
theorem RunG.list (h : RunG S0 S g w1 v A cap L B c K) (hr : RdM v' B' K'.length K') (hf : K'.length ≤ c') (hb : Below v.heap.size v v') (ha : (B' = B ∧ c' = c ∧ K' = K) ∨ ∀ b o, B' = some ⟨b, o, none⟩ → v.heap.size ≤ b) : RunG S0 S g w1 v' A cap L B' c' K' := by
  have h2 := h.below hb
  rcases ha with ⟨rfl, rfl, rfl⟩ | ha
  · exact h2
  · have hgS := h.hg
    have hSS := h.hS
    have hsz := h.size
    exact ⟨h2.mv, hr, hf, fun _ b o e => by have := ha b o e; omega, fun _ b o e e2 => by have h3 := ha b o e; have h4 := (h.mv.net.own _ e2).2; omega, h.gapA, fun _ b o e => .inr (Nat.le_trans hsz (ha b o e)), h.hg, h.hw, h.hS, h2.size⟩
theorem RunG.store (h : RunG S0 S g w1 v A cap L B c K) (q i : Nat) (x : Value) (h1 : S0 ≤ q) (h2 : q < S) : RunG S0 S g w1 (v.setCell ⟨q, i, none⟩ x) A cap L B c K := by
  have hgS := h.hg
  have hwS := h.hw
  refine ⟨h.mv.store q i x (by omega) (by omega) (fun e => by have := h.gapA q e; omega), ⟨h.rd.1, h.rd.2.1, fun hn => ?_⟩, h.fit, h.sepg, h.sepA, h.gapA, h.gapB, h.hg, h.hw, h.hS, by simpa [World.setCell] using h.size⟩
  obtain ⟨b, o, e, hb, hc⟩ := h.rd.2.2 hn
  have hgap := h.gapB hn b o e
  refine ⟨b, o, e, by simpa [World.setCell] using hb, fun j y hy => ?_⟩
  have hne : b ≠ q := by omega
  have := hc j y hy
  rw [World.cell?_setCell_far _ _ _ _ (fun e2 => hne e2.symm)]
  exact this
theorem RunG.store3 (h : RunG S0 S g w1 v A cap L B c K) (q : Nat) (x y z : Value) (h1 : S0 ≤ q) (h2 : q < S) : RunG S0 S g w1 (((v.setCell ⟨q, 0, none⟩ x).setCell ⟨q, 1, none⟩ y).setCell ⟨q, 2, none⟩ z) A cap L B c K :=
  ((h.store q 0 x h1 h2).store q 1 y h1 h2).store q 2 z h1 h2
theorem RunG.gap (h : RunG S0 S g w1 v A cap L B c K) (hb : Below v.heap.size v v') : RunG v.heap.size v'.heap.size g w1 v' A cap L B c K := by
  have h2 := h.below hb
  have hsz := h.size
  have hgS := h.hg
  have hSS := h.hS
  have hwS := h.hw
  exact ⟨h2.mv, h2.rd, h2.fit, h2.sepg, h2.sepA, fun k e => .inl (h.mv.net.own k e).2, fun hn b o e => .inl (h.rd.blk hn e), by omega, by omega, hb.size, Nat.le_refl _⟩
theorem RunG.shut (h : RunG S0 S g w1 v A cap L B c K) : RunG v.heap.size v.heap.size g w1 v A cap L B c K := h.gap (Below.refl _ _)
end
namespace Ml
theorem send_few {l : List M} {m : M} (h : l.length ≤ 256) : (sendL l m).length ≤ 256 := by
  unfold sendL
  split
  · rename_i h2
    simp at h2
    simp
    omega
  · exact h
theorem take_few {l : List M} {i : Int} (h : l.length ≤ 256) : (takeL l i).length ≤ 256 := by
  unfold takeL
  split
  · rename_i h2
    rw [cut_length (by omega)]
    omega
  · exact h
theorem twin_few {l : List M} {i : Int} (h : l.length ≤ 256) : (twinL l i).length ≤ 256 := by
  unfold twinL
  split
  · split
    · exact h
    · simp
      omega
  · exact h
end Ml
end Go.Proofs.Ythganbbiclmgpaa
