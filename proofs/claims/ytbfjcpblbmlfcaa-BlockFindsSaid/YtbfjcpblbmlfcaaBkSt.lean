/- Entries that grow in memory of their own, while the reader steps on. -/
import Derived.Test.YtbfjcpblbmlfcaaBkRd
namespace Go.Proofs.Ytbfjcpblbmlfcaa
open Go.RowKit
set_option maxRecDepth 100000 in
theorem manyE : Many 4 22 37 (.agg #[.string ⟨#[]⟩, .int .i64 0, .bool false, .slice none 0 0]) 56 := ⟨by kernel_rfl, Try.underlying22, rfl, by omega, by omega⟩
theorem Rd.grown {w w' : World} {A : Option Addr} {n : Nat} {l : List Nat} {row : Option Nat} (h : Rd w A n l) (hg : w.grownBy w' row) (hne : 0 < n → ∀ g o, A = some ⟨g, o, none⟩ → row ≠ some g) : Rd w' A n l := by
  refine ⟨h.1, h.2.1, fun hn => ?_⟩
  obtain ⟨b, o, rfl, hb, hc⟩ := h.2.2 hn
  exact ⟨b, o, rfl, Nat.lt_of_lt_of_le hb hg.size, fun j x hx => (World.grownBy.cell_far hg ⟨b, o + j, none⟩ hb (fun e => hne hn b o rfl e.symm)).trans (hc j x hx)⟩
namespace Bk
theorem At.grown {w w' : World} {p : En × Sl} {row : Option Nat} (h : At w p) (hg : w.grownBy w' row) (hne : 0 < p.2.2.1 → ∀ g o, p.2.1 = some ⟨g, o, none⟩ → row ≠ some g) : At w' p := ⟨h.1.grown hg hne, h.2⟩
/-- A value lies in this memory, and not in that block. -/
def Apart (base : Nat) (row : Option Nat) (size : Nat) (p : En × Sl) : Prop := 0 < p.2.2.1 → ∀ g o, p.2.1 = some ⟨g, o, none⟩ → base ≤ g ∧ g < size ∧ row ≠ some g
end Bk
/-- The reader's box, the row of what is read, its values. -/
structure St (z v : World) (b : Nat) (A : Option Addr) (n c p : Nat) (B : Option Addr) (m cap : Nat) (es : List (Bk.En × Bk.Sl)) : Prop where
  low : b < z.heap.size
  grew : z.grownBy v (some b)
  rdr : Holds v b (rdr A n c p)
  row : OwnC 4 v z.heap.size 37 B m cap (Bk.flat es)
  len : es.length = m
  vals : ∀ q ∈ es, Bk.At v q ∧ Bk.Apart z.heap.size (Value.slice B m cap).ownBlock v.heap.size q
section
variable {z v v' : World} {b n c p p' m cap cap' : Nat} {A B B' : Option Addr} {es : List (Bk.En × Bk.Sl)} {x : Bk.En × Bk.Sl}
theorem St.size (h : St z v b A n c p B m cap es) : z.heap.size ≤ v.heap.size := h.grew.size
/-- The reader steps on. -/
theorem St.step (h : St z v b A n c p B m cap es) (hb : Behind v b A n c p' v') : St z v' b A n c p' B m cap es := by
  have hlow := h.low
  refine ⟨h.low, h.grew.trans hb.2, hb.1, h.row.grown hb.2 (.inr fun g hg e => ?_), h.len, fun q hq => ?_⟩
  · injection hg with hg
    have := (h.row.blk _ e).1
    omega
  · obtain ⟨h1, h2⟩ := h.vals q hq
    refine ⟨h1.grown hb.2 fun hn g o e e2 => ?_, fun hn g o e => ?_⟩
    · injection e2 with e2
      have := (h2 hn g o e).1
      omega
    · obtain ⟨a1, a2, a3⟩ := h2 hn g o e
      exact ⟨a1, Nat.lt_of_lt_of_le a2 hb.2.size, a3⟩
theorem St.keep (h : St z v b A n c p B m cap es) (hb : Below v.heap.size v v') : St z v' b A n c p B m cap es :=
  h.step ⟨h.rdr.below hb, grown_any hb _⟩
/-- A store to a cell beside all this. -/
theorem St.aside (h : St z v b A n c p B m cap es) {a : Addr} (u : Value) (ha : z.heap.size ≤ a.block) (hr : (Value.slice B m cap).ownBlock ≠ some a.block) (hv : ∀ q ∈ es, 0 < q.2.2.1 → ∀ g o, q.2.1 = some ⟨g, o, none⟩ → a.block ≠ g) : St z (v.setCell a u) b A n c p B m cap es := by
  have hlow := h.low
  have hg := grown_setCell v a u
  have hne : some a.block ≠ some b := fun e => by injection e with e; omega
  refine ⟨h.low, ⟨h.grew.os.symm ▸ rfl, h.grew.tape.symm ▸ rfl, h.grew.output.symm ▸ rfl, by simpa [World.setCell] using h.size, fun k hk hk2 => ?_⟩, h.rdr.grown hg hne, h.row.grown hg (.inr fun g hg2 e => hr (by rw [hg2]; exact e)), h.len, fun q hq => ?_⟩
  · have hs := h.size
    rw [hg.block k (by omega) (fun e => by injection e with e; omega)]
    exact h.grew.block k hk hk2
  · obtain ⟨h1, h2⟩ := h.vals q hq
    refine ⟨h1.grown hg fun hn g o e e2 => ?_, fun hn g o e => ?_⟩
    · injection e2 with e2
      exact hv q hq hn g o e e2
    · obtain ⟨a1, a2, a3⟩ := h2 hn g o e
      exact ⟨a1, by simpa [World.setCell] using a2, a3⟩
/-- One more entry. -/
theorem St.push (h : St z v b A n c p B m cap es) (hx : Bk.At v x) (hap : Bk.Apart z.heap.size (Value.slice B m cap).ownBlock v.heap.size x) (hg : GrewC 4 v v' z.heap.size 37 B B' m cap (m + 1) cap' (Bk.flat es ++ Bk.cells x)) : St z v' b A n c p B' (m + 1) cap' (es ++ [x]) := by
  have hlow := h.low
  have hs := h.size
  have hrow : (Value.slice B m cap).ownBlock ≠ some b := fun e => by have := (h.row.blk _ e).1; omega
  have hnew : ∀ q : Bk.En × Bk.Sl, Bk.At v q → Bk.Apart z.heap.size (Value.slice B m cap).ownBlock v.heap.size q → Bk.At v' q ∧ Bk.Apart z.heap.size (Value.slice B' (m + 1) cap').ownBlock v'.heap.size q := fun q h1 h2 => by
    refine ⟨h1.grown hg.grew fun hn g o e => (h2 hn g o e).2.2, fun hn g o e => ?_⟩
    obtain ⟨a1, a2, a3⟩ := h2 hn g o e
    refine ⟨a1, Nat.lt_of_lt_of_le a2 hg.grew.size, ?_⟩
    rcases hg.blk with e2 | e2
    · rw [e2]; exact a3
    · rw [e2]
      intro e3
      injection e3 with e3
      omega
  refine ⟨h.low, ⟨?_, ?_, ?_, Nat.le_trans hs hg.grew.size, fun k hk hk2 => ?_⟩, h.rdr.grown hg.grew hrow, ?_, by rw [List.length_append, h.len]; rfl, fun q hq => ?_⟩
  · rw [hg.grew.os]; exact h.grew.os
  · rw [hg.grew.tape]; exact h.grew.tape
  · rw [hg.grew.output]; exact h.grew.output
  · rw [hg.grew.block k (by omega) (fun e => by have := (h.row.blk _ e.symm).1; omega)]
    exact h.grew.block k hk hk2
  · rw [Bk.flat_append]
    have e : Bk.flat [x] = Bk.cells x := by simp [Bk.flat]
    rw [e]
    exact hg.own
  · rcases List.mem_append.1 hq with hq | hq
    · exact hnew q (h.vals q hq).1 (h.vals q hq).2
    · rcases List.mem_singleton.1 hq with rfl
      exact hnew q hx hap
end
/-- Entries in memory of their own. -/
structure EntO (v : World) (base : Nat) (B : Option Addr) (m cap : Nat) (es : List (Bk.En × Bk.Sl)) : Prop where
  row : OwnC 4 v base 37 B m cap (Bk.flat es)
  len : es.length = m
  vals : ∀ q ∈ es, Bk.At v q ∧ Bk.Apart base (Value.slice B m cap).ownBlock v.heap.size q
section
variable {v v' : World} {base m cap : Nat} {B : Option Addr} {es : List (Bk.En × Bk.Sl)}
theorem EntO.rde (h : EntO v base B m cap es) : RdE v B m es := ⟨h.len, h.row.rd, fun q hq => (h.vals q hq).1⟩
theorem EntO.fits (h : EntO v base B m cap es) : m ≤ cap := h.row.fits
/-- One block may change that is none of theirs. -/
theorem EntO.grown (h : EntO v base B m cap es) {row : Option Nat} (hg : v.grownBy v' row) (hne : ∀ g, row = some g → g < base) : EntO v' base B m cap es := by
  refine ⟨h.row.grown hg (.inr fun g hg2 e => ?_), h.len, fun q hq => ?_⟩
  · have := (h.row.blk _ e).1
    have := hne _ hg2
    omega
  · obtain ⟨h1, h2⟩ := h.vals q hq
    refine ⟨h1.grown hg fun hn g o e e2 => ?_, fun hn g o e => ?_⟩
    · have := (h2 hn g o e).1
      have := hne _ e2
      omega
    · obtain ⟨a1, a2, a3⟩ := h2 hn g o e
      exact ⟨a1, Nat.lt_of_lt_of_le a2 hg.size, a3⟩
theorem EntO.below (h : EntO v base B m cap es) (hb : Below v.heap.size v v') : EntO v' base B m cap es := h.grown (row := none) (grown_any hb _) (fun g e => by cases e)
theorem EntO.set (h : EntO v base B m cap es) (a : Addr) (u : Value) (ha : a.block < base) : EntO (v.setCell a u) base B m cap es := h.grown (grown_setCell v a u) (fun g e => by injection e with e; omega)
end
end Go.Proofs.Ytbfjcpblbmlfcaa
