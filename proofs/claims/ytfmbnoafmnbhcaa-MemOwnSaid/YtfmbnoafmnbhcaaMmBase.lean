/- Entries in memory of their own; four cells side by side. -/
import Derived.Test.YtfmbnoafmnbhcaaMmOrd
namespace Go.Proofs.Ytfmbnoafmnbhcaa
open Go.RowKit
set_option maxRecDepth 100000 in
theorem manyE : Many 4 30 24 (.agg #[.string ⟨#[]⟩, .int .i64 0, .bool false, .slice none 0 0]) 56 := ⟨by kernel_rfl, Try.underlying30, rfl, by omega, by omega⟩
theorem Rd.grown {w w' : World} {A : Option Addr} {n : Nat} {l : List Nat} {row : Option Nat} (h : Rd w A n l) (hg : w.grownBy w' row) (hne : 0 < n → ∀ g o, A = some ⟨g, o, none⟩ → row ≠ some g) : Rd w' A n l := by
  refine ⟨h.1, h.2.1, fun hn => ?_⟩
  obtain ⟨b, o, rfl, hb, hc⟩ := h.2.2 hn
  exact ⟨b, o, rfl, Nat.lt_of_lt_of_le hb hg.size, fun j x hx => (World.grownBy.cell_far hg ⟨b, o + j, none⟩ hb (fun e => hne hn b o rfl e.symm)).trans (hc j x hx)⟩
namespace Bk
theorem At.grown {w w' : World} {p : En × Sl} {row : Option Nat} (h : At w p) (hg : w.grownBy w' row) (hne : 0 < p.2.2.1 → ∀ g o, p.2.1 = some ⟨g, o, none⟩ → row ≠ some g) : At w' p := ⟨h.1.grown hg hne, h.2⟩
/-- A value lies in this memory, and not in that block. -/
def Apart (base : Nat) (row : Option Nat) (size : Nat) (p : En × Sl) : Prop := 0 < p.2.2.1 → ∀ g o, p.2.1 = some ⟨g, o, none⟩ → base ≤ g ∧ g < size ∧ row ≠ some g
end Bk
/-- Entries in memory of their own. -/
structure EntO (v : World) (base : Nat) (B : Option Addr) (m cap : Nat) (es : List (Bk.En × Bk.Sl)) : Prop where
  row : OwnC 4 v base 24 B m cap (Bk.flat es)
  len : es.length = m
  vals : ∀ q ∈ es, Bk.At v q ∧ Bk.Apart base (Value.slice B m cap).ownBlock v.heap.size q
section
variable {v v' : World} {base m cap : Nat} {B : Option Addr} {es : List (Bk.En × Bk.Sl)}
theorem EntO.rde (h : EntO v base B m cap es) : RdE v B m es := ⟨h.len, h.row.rd, fun q hq => (h.vals q hq).1⟩
theorem EntO.fits (h : EntO v base B m cap es) : m ≤ cap := h.row.fits
/-- One block may change that is none of theirs. -/
theorem EntO.grown (h : EntO v base B m cap es) {row : Option Nat} (hg : v.grownBy v' row) (hne : ∀ g, row = some g → g < base) : EntO v' base B m cap es := by
  refine ⟨h.row.grown hg (.inr fun g hg2 e => ?_), h.len, fun q hq => ?_⟩
  · have := (h.row.blk _ e).1
    have := hne _ hg2
    omega
  · obtain ⟨h1, h2⟩ := h.vals q hq
    refine ⟨h1.grown hg fun hn g o e e2 => ?_, fun hn g o e => ?_⟩
    · have := (h2 hn g o e).1
      have := hne _ e2
      omega
    · obtain ⟨a1, a2, a3⟩ := h2 hn g o e
      exact ⟨a1, Nat.lt_of_lt_of_le a2 hg.size, a3⟩
theorem EntO.below (h : EntO v base B m cap es) (hb : Below v.heap.size v v') : EntO v' base B m cap es := h.grown (row := none) (grown_any hb _) (fun g e => by cases e)
theorem EntO.set (h : EntO v base B m cap es) (a : Addr) (u : Value) (ha : a.block < base) : EntO (v.setCell a u) base B m cap es := h.grown (grown_setCell v a u) (fun g e => by injection e with e; omega)
end
theorem EntO.base_ {v : World} {base base' m cap : Nat} {B : Option Addr} {es : List (Bk.En × Bk.Sl)} (h : EntO v base B m cap es) (hb : base' ≤ base) : EntO v base' B m cap es :=
  ⟨h.row.base_ hb, h.len, fun q hq => ⟨(h.vals q hq).1, fun hn g o e => by obtain ⟨a1, a2⟩ := (h.vals q hq).2 hn g o e; exact ⟨Nat.le_trans hb a1, a2⟩⟩⟩
namespace Bk
theorem map_at {es fs : List (En × Sl)} (h : es.map (fun z => z.1) = fs.map (fun z => z.1)) {i : Nat} {q : En × Sl} (hq : fs[i]? = some q) : ∃ p, es[i]? = some p ∧ p.1 = q.1 := by
  have h2 : (es.map (fun z => z.1))[i]? = (fs.map (fun z => z.1))[i]? := by rw [h]
  rw [List.getElem?_map, List.getElem?_map, hq] at h2
  rcases he : es[i]? with _ | p
  · rw [he] at h2; cases h2
  · rw [he] at h2
    injection h2 with h2
    exact ⟨p, rfl, h2⟩
theorem map_len {es fs : List (En × Sl)} (h : es.map (fun z => z.1) = fs.map (fun z => z.1)) : es.length = fs.length := by
  have := congrArg List.length h
  simpa using this
end Bk
/-- One more entry. -/
theorem EntO.push {v v' : World} {base m cap cap' : Nat} {B B' : Option Addr} {es : List (Bk.En × Bk.Sl)} {x : Bk.En × Bk.Sl} (h : EntO v base B m cap es) (hx : Bk.At v x) (hap : Bk.Apart base (Value.slice B m cap).ownBlock v.heap.size x) (hg : GrewC 4 v v' base 24 B B' m cap (m + 1) cap' (Bk.flat es ++ Bk.cells x)) : EntO v' base B' (m + 1) cap' (es ++ [x]) := by
  have hnew : ∀ q : Bk.En × Bk.Sl, Bk.At v q → Bk.Apart base (Value.slice B m cap).ownBlock v.heap.size q → Bk.At v' q ∧ Bk.Apart base (Value.slice B' (m + 1) cap').ownBlock v'.heap.size q := fun q h1 h2 => by
    refine ⟨h1.grown hg.grew fun hn g o e => (h2 hn g o e).2.2, fun hn g o e => ?_⟩
    obtain ⟨a1, a2, a3⟩ := h2 hn g o e
    refine ⟨a1, Nat.lt_of_lt_of_le a2 hg.grew.size, ?_⟩
    rcases hg.blk with e2 | e2
    · rw [e2]; exact a3
    · rw [e2]
      intro e3
      injection e3 with e3
      omega
  refine ⟨?_, by rw [List.length_append, h.len]; rfl, fun q hq => ?_⟩
  · rw [Bk.flat_append]
    have e : Bk.flat [x] = Bk.cells x := by simp [Bk.flat]
    rw [e]
    exact hg.own
  · rcases List.mem_append.1 hq with hq | hq
    · exact hnew q (h.vals q hq).1 (h.vals q hq).2
    · rcases List.mem_singleton.1 hq with rfl
      exact hnew q hx hap
theorem Bk.cells_one (x : Bk.En × Bk.Sl) : ∀ u ∈ Bk.cells x, u.oneCell' = true := by
  intro u hu
  simp only [Bk.cells, List.mem_cons, List.not_mem_nil, or_false] at hu
  rcases hu with rfl | rfl | rfl | rfl <;> rfl
namespace Bk
def zeroE : En × Sl := (⟨⟨#[]⟩, 0, false, []⟩, none, 0, 0)
theorem zero_at (w : World) : At w zeroE := ⟨Rd.nil _ _, Nat.le_refl 0, by decide, by decide, by decide, by decide⟩
end Bk
theorem Holds.set4 {w : World} {b : Nat} {x y z u : Value} (k : Holds w b [x, y, z, u]) (x' y' z' u' : Value) : Holds ((((w.setCell ⟨b, 0, none⟩ x').setCell ⟨b, 1, none⟩ y').setCell ⟨b, 2, none⟩ z').setCell ⟨b, 3, none⟩ u') b [x', y', z', u'] :=
  (((k.set 0 x' (by simp)).set 1 y' (by simp)).set 2 z' (by simp)).set 3 u' (by simp)
theorem below_set4 {B : Nat} {z w : World} (h : Below B z w) (b : Nat) (x y v u : Value) (hb : B ≤ b) : Below B z ((((w.setCell ⟨b, 0, none⟩ x).setCell ⟨b, 1, none⟩ y).setCell ⟨b, 2, none⟩ v).setCell ⟨b, 3, none⟩ u) :=
  below_set (below_set (below_set (below_set h _ _ hb) _ _ hb) _ _ hb) _ _ hb
theorem Bk.At.set4 {w : World} {p : Bk.En × Bk.Sl} (h : Bk.At w p) (b : Nat) (x y v u : Value) (hne : 0 < p.2.2.1 → ∀ g o, p.2.1 = some ⟨g, o, none⟩ → b < g) : Bk.At ((((w.setCell ⟨b, 0, none⟩ x).setCell ⟨b, 1, none⟩ y).setCell ⟨b, 2, none⟩ v).setCell ⟨b, 3, none⟩ u) p := by
  have hne2 : 0 < p.2.2.1 → ∀ g o, p.2.1 = some ⟨g, o, none⟩ → some b ≠ some g := fun h1 g o e e2 => by have := hne h1 g o e; injection e2 with e2; omega
  exact (((h.grown (grown_setCell _ ⟨b, 0, none⟩ x) hne2).grown (grown_setCell _ ⟨b, 1, none⟩ y) hne2).grown (grown_setCell _ ⟨b, 2, none⟩ v) hne2).grown (grown_setCell _ ⟨b, 3, none⟩ u) hne2
namespace Bk
theorem other_key {key : ByteArray} {seq : Int} {e : En} (h : ¬ e.key = key) : hit key seq e = false := by
  unfold hit
  rw [decide_eq_false h, Bool.false_and]
end Bk
theorem holds_other4 {w : World} {c b : Nat} {cs : List Value} (k : Holds w c cs) (x y v u : Value) (h : c ≠ b) : Holds ((((w.setCell ⟨b, 0, none⟩ x).setCell ⟨b, 1, none⟩ y).setCell ⟨b, 2, none⟩ v).setCell ⟨b, 3, none⟩ u) c cs := (((k.other h).other h).other h).other h
theorem Bk.At.set4' {w : World} {p : Bk.En × Bk.Sl} (h : Bk.At w p) (b : Nat) (x y v u : Value) (hne : 0 < p.2.2.1 → ∀ g o, p.2.1 = some ⟨g, o, none⟩ → b ≠ g) : Bk.At ((((w.setCell ⟨b, 0, none⟩ x).setCell ⟨b, 1, none⟩ y).setCell ⟨b, 2, none⟩ v).setCell ⟨b, 3, none⟩ u) p := by
  have hne2 : 0 < p.2.2.1 → ∀ g o, p.2.1 = some ⟨g, o, none⟩ → some b ≠ some g := fun h1 g o e e2 => by injection e2 with e2; exact hne h1 g o e e2
  exact (((h.grown (grown_setCell _ ⟨b, 0, none⟩ x) hne2).grown (grown_setCell _ ⟨b, 1, none⟩ y) hne2).grown (grown_setCell _ ⟨b, 2, none⟩ v) hne2).grown (grown_setCell _ ⟨b, 3, none⟩ u) hne2
theorem rd_set4 {w : World} {A : Option Addr} {n : Nat} {l : List Nat} (h : Rd w A n l) (b : Nat) (x y v u : Value) (hne : 0 < n → ∀ g o, A = some ⟨g, o, none⟩ → b < g) : Rd ((((w.setCell ⟨b, 0, none⟩ x).setCell ⟨b, 1, none⟩ y).setCell ⟨b, 2, none⟩ v).setCell ⟨b, 3, none⟩ u) A n l := by
  have hne2 : 0 < n → ∀ g o, A = some ⟨g, o, none⟩ → some b ≠ some g := fun h1 g o e e2 => by have := hne h1 g o e; injection e2 with e2; omega
  exact (((h.grown (grown_setCell _ ⟨b, 0, none⟩ x) hne2).grown (grown_setCell _ ⟨b, 1, none⟩ y) hne2).grown (grown_setCell _ ⟨b, 2, none⟩ v) hne2).grown (grown_setCell _ ⟨b, 3, none⟩ u) hne2
end Go.Proofs.Ytfmbnoafmnbhcaa
