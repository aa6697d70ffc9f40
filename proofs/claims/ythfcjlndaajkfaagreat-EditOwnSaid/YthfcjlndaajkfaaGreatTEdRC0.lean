/- Rows of edits cut in two; what stays while Apply is called; two operations that may come up. A version's four cells, written into a box. The document's version while edits are done: rows of the call's own, pairs that may be another's. The document's do: three boxes of the call's own, and what stays of them. The document's Copy: in the midst of it. -/
import Derived.Test.YthfcjlndaajkfaaGreatTEdLEd
import Derived.Test.YthfcjlndaajkfaaGreatTEdApply
import Derived.Test.YthfcjlndaajkfaaGreatTHeldS
import Derived.Test.YthfcjlndaajkfaaGreatG05
import Derived.Test.YthfcjlndaajkfaaGreatTEdRIE
import Derived.Test.YthfcjlndaajkfaaGreatG12
import Derived.Deep.CutBlock
import Derived.Deep.DeepCutAuto
namespace Go.Proofs.YthfcjlndaajkfaaGreat
open Go.RowKit
set_option linter.unusedVariables false
section
variable {P : Program} {ops : Array Oper} {Q : Exit → Act → World → Prop} {md : Region.Mode} {S T : World → Prop} {t : Nat}
theorem wpAnyT_two {i j : Nat} {oi oj : Oper} {fuel : Nat} {listed : Array Bool} {a : Act} {w : World} (hr : Region.ready md ops listed = [i, j]) (ho : ops[i]? = some oi) (hj : ops[j]? = some oj)
    (h1 : ∀ K' : Act → World → Prop, Shut (∀ a w, S w → ((listed.setIfInBounds i true).getD t true = false → T w) → wpAnyT P md ops Q S T t fuel (listed.setIfInBounds i true) a w → K' a w) → if Region.wanted oi (yielded ops a.tmps) = true then Oper.wp P oi a w K' Q else K' (a.put oi.dst undef) w)
    (h2 : ∀ K' : Act → World → Prop, Shut (∀ a w, S w → ((listed.setIfInBounds j true).getD t true = false → T w) → wpAnyT P md ops Q S T t fuel (listed.setIfInBounds j true) a w → K' a w) → if Region.wanted oj (yielded ops a.tmps) = true then Oper.wp P oj a w K' Q else K' (a.put oj.dst undef) w) :
    wpAnyT P md ops Q S T t (fuel + 1) listed a w := by
  refine ⟨fun h0 => (by rw [hr] at h0; cases h0), fun q hq => ?_⟩
  rw [hr] at hq
  rcases List.mem_cons.1 hq with rfl | hq
  · exact wpOp_step ho (fun K' hK => h1 K' (fun a w hS hT hW => hK a w ⟨⟨hS, hT⟩, hW⟩))
  · obtain rfl := List.mem_singleton.1 hq
    exact wpOp_step hj (fun K' hK => h2 K' (fun a w hS hT hW => hK a w ⟨⟨hS, hT⟩, hW⟩))
end
/-- A row of edits from its f-th on. -/
def behindE (A : Option Addr) (c f : Nat) : Option Addr := if c = f then A else A.map (·.add (f * 15))
theorem Ed.eflat_take (l : List Ed.Er) (k : Nat) : Ed.eflat (l.take k) = (Ed.eflat l).take (k * 15) := by
  induction l generalizing k with
  | nil => simp [Ed.eflat]
  | cons x r ih =>
    cases k with
    | zero => simp [Ed.eflat]
    | succ k =>
      have h2 := ih k
      unfold Ed.eflat at h2 ⊢
      rw [List.take_succ_cons, List.flatMap_cons, List.flatMap_cons, h2, List.take_append, show (Ed.Er.cells x).length = 15 from rfl, show (Ed.Er.cells x).take ((k + 1) * 15) = Ed.Er.cells x from List.take_of_length_le (by show 15 ≤ (k + 1) * 15; omega), show (k + 1) * 15 - 15 = k * 15 by omega]
theorem Ed.eflat_drop (l : List Ed.Er) (k : Nat) : Ed.eflat (l.drop k) = (Ed.eflat l).drop (k * 15) := by
  induction l generalizing k with
  | nil => simp [Ed.eflat]
  | cons x r ih =>
    cases k with
    | zero => simp
    | succ k =>
      have h2 := ih k
      unfold Ed.eflat at h2 ⊢
      rw [List.drop_succ_cons, List.flatMap_cons, h2, List.drop_append, show (Ed.Er.cells x).length = 15 from rfl, show (Ed.Er.cells x).drop ((k + 1) * 15) = [] from List.drop_of_length_le (by show 15 ≤ (k + 1) * 15; omega), show (k + 1) * 15 - 15 = k * 15 by omega]
      rfl
theorem RdEs.take {w : World} {A : Option Addr} {n k : Nat} {E : List Ed.Ex} (h : RdEs w A n E) (hk : k ≤ n) : RdEs w A k (E.take k) := by
  refine ⟨by rw [List.length_take, h.1]; omega, ?_, fun x hx => h.2.2 x (List.mem_of_mem_take hx)⟩
  rw [List.map_take, Ed.eflat_take]
  exact h.2.1.take hk
theorem RdEs.from_ {w : World} {A : Option Addr} {n c k : Nat} {E : List Ed.Ex} (h : RdEs w A n E) (hk : k ≤ n) (hc : n ≤ c) : RdEs w (behindE A c k) (n - k) (E.drop k) := by
  refine ⟨by rw [List.length_drop, h.1], ?_, fun x hx => h.2.2 x (List.mem_of_mem_drop hx)⟩
  rw [List.map_drop, Ed.eflat_drop]
  refine ⟨by rw [List.length_drop, h.2.1.1, Nat.sub_mul], fun hm => ?_⟩
  obtain ⟨b, o, rfl, hb, hcl⟩ := h.2.1.2 (by omega)
  refine ⟨b, o + k * 15, ?_, hb, fun j x hx => ?_⟩
  · unfold behindE
    rw [if_neg (by omega)]
    simp only [Option.map_some, Addr.add]
    split
    · rename_i e; rw [e, Nat.add_zero]
    · rfl
  · rw [List.getElem?_drop] at hx
    have := hcl _ _ hx
    rwa [← Nat.add_assoc] at this
/-- What stays while Apply is called: the version's box, the rows that were handed in. -/
structure Prt (w : World) (nx sq : Int) (A' : Option Addr) (n' c' : Nat) (B' : Option Addr) (m' d' : Nat) (Q : Option Addr) (q' qc : Nat) (l1 l2 l3 : List Value) (W : World) : Prop where
  box : Holds W w.heap.size [.int .i64 nx, .int .i64 sq, .slice A' n' c', .slice B' m' d']
  ol : OwnC 4 W (w.heap.size + 1) 62 A' n' c' l1
  ot : OwnC 9 W (w.heap.size + 1) 35 B' m' d' l2
  oe : OwnC 15 W (w.heap.size + 1) 37 Q q' qc l3
  bel : Below w.heap.size w W
theorem Prt.below {w : World} {nx sq : Int} {A' : Option Addr} {n' c' : Nat} {B' : Option Addr} {m' d' : Nat} {Q : Option Addr} {q' qc : Nat} {l1 l2 l3 : List Value} {W W' : World} (h : Prt w nx sq A' n' c' B' m' d' Q q' qc l1 l2 l3 W) (hb : Below W.heap.size W W') : Prt w nx sq A' n' c' B' m' d' Q q' qc l1 l2 l3 W' :=
  ⟨h.box.below hb, h.ol.below hb, h.ot.below hb, h.oe.below hb, below_next h.bel hb⟩
end Go.Proofs.YthfcjlndaajkfaaGreat
namespace Go.Proofs.YthfcjlndaajkfaaGreat
open Go.RowKit
/-- A version's four cells, written into a box. -/
theorem grown4 (W : World) (b : Nat) (x0 x1 x2 x3 : Value) : W.grownBy ((((W.setCell ⟨b, 0, none⟩ x0).setCell ⟨b, 1, none⟩ x1).setCell ⟨b, 2, none⟩ x2).setCell ⟨b, 3, none⟩ x3) (some b) :=
  ((grown_cell W b 0 x0).trans ((grown_cell _ b 1 x1).trans ((grown_cell _ b 2 x2).trans (grown_cell _ b 3 x3))))
theorem Holds.put4 {W : World} {b : Nat} {y0 y1 y2 y3 : Value} (h : Holds W b [y0, y1, y2, y3]) (x0 x1 x2 x3 : Value) : Holds ((((W.setCell ⟨b, 0, none⟩ x0).setCell ⟨b, 1, none⟩ x1).setCell ⟨b, 2, none⟩ x2).setCell ⟨b, 3, none⟩ x3) b [x0, x1, x2, x3] :=
  (((h.set 0 x0 (by simp)).set 1 x1 (by simp)).set 2 x2 (by simp)).set 3 x3 (by simp)
theorem Holds.other4 {w : World} {b c : Nat} {cs : List Value} {x y z u : Value} (k : Holds w c cs) (h : c ≠ b) : Holds ((((w.setCell ⟨b, 0, none⟩ x).setCell ⟨b, 1, none⟩ y).setCell ⟨b, 2, none⟩ z).setCell ⟨b, 3, none⟩ u) c cs := (((k.other h).other h).other h).other h
theorem OwnC.past4 {s : Nat} {w : World} {base b n cap : Nat} {E : TypeId} {A : Option Addr} {vs : List Value} {x y z u : Value} (h : OwnC s w base E A n cap vs) (hb : b < base) : OwnC s ((((w.setCell ⟨b, 0, none⟩ x).setCell ⟨b, 1, none⟩ y).setCell ⟨b, 2, none⟩ z).setCell ⟨b, 3, none⟩ u) base E A n cap vs :=
  h.grown (grown4 w b x y z u) (.inr fun g hg e => by injection hg with hg; have := (h.blk g e).1; omega)
end Go.Proofs.YthfcjlndaajkfaaGreat
namespace Go.Proofs.YthfcjlndaajkfaaGreat
open Go.RowKit
set_option linter.unusedVariables false
set_option linter.unusedSimpArgs false
/-- A row whose elements take s cells, from its f-th on. -/
def behindS (s : Nat) (A : Option Addr) (c f : Nat) : Option Addr := if c = f then A else A.map (·.add (f * s))
section
variable {s : Nat} {S E : TypeId} {z : Value} {bytes : Nat}
set_option maxRecDepth 100000 in
theorem run_fromS (O : Many s S E z bytes) (A : Option Addr) (n c f : Nat) (hf : f ≤ n) (hc : n ≤ c) (w : World) : (Instr.slice S (.slice A n c) (some (.int .i64 (f : Int))) none none).run Tryz.prog w = .ok (.slice (behindS s A c f) (n - f) (c - f)) w := by
  obtain ⟨i0, hi, hz0, hz1, hz2⟩ := info_parts O.info
  unfold behindS
  by_cases e : c = f
  · subst e
    simp [Instr.slice, run_underlying O.under, Instr.sliceBounds, Instr.sliceBound, asIntOf, go_sem, hf, hc, sizeOf, typeInfo, hi, hz1]
  · simp [Instr.slice, run_underlying O.under, Instr.sliceBounds, Instr.sliceBound, asIntOf, go_sem, hf, e, sizeOf, typeInfo, hi, hz1]
set_option maxRecDepth 100000 in
theorem run_toS (O : Many s S E z bytes) (A : Option Addr) (n c t : Nat) (ht : t ≤ n) (hc : n ≤ c) (w : World) : (Instr.slice S (.slice A n c) none (some (.int .i64 (t : Int))) none).run Tryz.prog w = .ok (.slice A t c) w := by
  obtain ⟨i0, hi, hz0, hz1, hz2⟩ := info_parts O.info
  have h2 : t ≤ c := by omega
  simp [Instr.slice, run_underlying O.under, Instr.sliceBounds, Instr.sliceBound, asIntOf, go_sem, h2, sizeOf, typeInfo, hi, hz1]
end
theorem RdC.from_ {s : Nat} {w : World} {A : Option Addr} {n c k : Nat} {vs : List Value} (h : RdC s w A n vs) (hk : k ≤ n) (hc : n ≤ c) : RdC s w (behindS s A c k) (n - k) (vs.drop (k * s)) := by
  refine ⟨by rw [List.length_drop, h.1, Nat.sub_mul], fun hm => ?_⟩
  obtain ⟨b, o, rfl, hb, hcl⟩ := h.2 (by omega)
  refine ⟨b, o + k * s, ?_, hb, fun j x hx => ?_⟩
  · unfold behindS
    rw [if_neg (by omega)]
    simp only [Option.map_some, Addr.add]
    split
    · rename_i e; rw [e, Nat.add_zero]
    · rfl
  · rw [List.getElem?_drop] at hx
    have := hcl _ _ hx
    rwa [← Nat.add_assoc] at this
theorem RdC.setOff {s : Nat} {w : World} {A : Option Addr} {n b i : Nat} {vs : List Value} {v : Value} (h : RdC s w A n vs) (hne : 0 < n → blkOf A ≠ some b) : RdC s (w.setCell ⟨b, i, none⟩ v) A n vs := by
  refine ⟨h.1, fun hn => ?_⟩
  obtain ⟨g, o, rfl, hg, hc⟩ := h.2 hn
  have hgb : g ≠ b := fun e => hne hn (by rw [e]; rfl)
  refine ⟨g, o, rfl, by simpa [World.setCell] using hg, fun j x hx => ?_⟩
  rw [World.cell?_setCell_other w _ _ _ (fun e => hgb (by injection e with e1 _; exact e1.symm))]
  exact hc j x hx
theorem PairsOk.setOff {w : World} {P : Option Addr} {pn pc b i : Nat} {ps : List (Int × Int)} {v : Value} (h : PairsOk w P pn pc ps) (hne : 0 < pn → blkOf P ≠ some b) : PairsOk (w.setCell ⟨b, i, none⟩ v) P pn pc ps := ⟨⟨h.1.1, h.1.2.setOff hne⟩, h.2⟩
/-- Pairs that lie in some block lie below the heap's end. -/
theorem PairsOk.lt {w : World} {P : Option Addr} {pn pc : Nat} {ps : List (Int × Int)} (h : PairsOk w P pn pc ps) (hn : 0 < pn) : ∀ g, blkOf P = some g → g < w.heap.size := fun g hg => by
  obtain ⟨b, o, rfl, hb, _⟩ := h.1.2.2 hn
  injection hg with hg
  subst hg
  exact hb
/-- A version while edits are done to it. -/
structure StR (W : World) (base : Nat) (A : Option Addr) (n c : Nat) (L : List (Ed.Lg × List (Int × Int))) (B : Option Addr) (m d : Nat) (M : List (Pk.Tb × List (Int × Int))) : Prop where
  ll : L.length = n
  la : OwnC 4 W base 62 A n c (Ed.lflat (L.map (·.1)))
  lp : ∀ x ∈ L, x.1.fits ∧ PairsOk W x.1.P x.1.pn x.1.pc x.2
  lo : ∀ x ∈ L, 0 < x.1.pn → Off x.1.P A
  tl : M.length = m
  ta : OwnC 9 W base 35 B m d (Pk.flat (M.map (·.1)))
  tp : ∀ x ∈ M, x.1.fits ∧ PairsOk W x.1.P x.1.pn x.1.pc x.2
  to_ : ∀ x ∈ M, 0 < x.1.pn → Off x.1.P A
  ab : Off A B
section
variable {w W : World} {base n c m d : Nat} {A B : Option Addr} {L : List (Ed.Lg × List (Int × Int))} {M : List (Pk.Tb × List (Int × Int))}
theorem StR.ofV (h : OwV W base A n c L B m d M) : StR W base A n c L B m d M :=
  ⟨h.ls.len, h.ls.row, fun x hx => ⟨h.ls.fit x hx, (h.ls.prs x hx).ok⟩, fun x hx _ => h.ls.off x hx, h.ts.len, h.ts.row, fun x hx => ⟨h.ts.fit x hx, (h.ts.prs x hx).ok⟩, fun x hx _ => h.ta x hx, h.ab⟩
theorem StR.below (h : StR w base A n c L B m d M) (hb : Below w.heap.size w W) : StR W base A n c L B m d M :=
  ⟨h.ll, h.la.below hb, fun x hx => ⟨(h.lp x hx).1, (h.lp x hx).2.below hb⟩, h.lo, h.tl, h.ta.below hb, fun x hx => ⟨(h.tp x hx).1, (h.tp x hx).2.below hb⟩, h.to_, h.ab⟩
theorem StR.rls (h : StR W base A n c L B m d M) : RdLs W A n L := ⟨h.ll, h.la.rd, h.lp⟩
theorem StR.rts (h : StR W base A n c L B m d M) : RdTs W B m M := ⟨⟨by rw [List.length_map]; exact h.tl, h.ta.rd, fun x hx => by
  obtain ⟨y, hy, rfl⟩ := List.mem_map.1 hx
  exact (h.tp y hy).1⟩, fun x hx => (h.tp x hx).2⟩
/-- Other logs, in a row of new memory. -/
theorem StR.logs (h : StR w base A n c L B m d M) (hw : base ≤ w.heap.size) (hb : Below w.heap.size w W) {A' : Option Addr} {n' c' : Nat} {L' : List (Ed.Lg × List (Int × Int))} (hl : L'.length = n') (hr : OwnC 4 W w.heap.size 62 A' n' c' (Ed.lflat (L'.map (·.1)))) (hp : ∀ x ∈ L', x.1.fits ∧ PairsOk w x.1.P x.1.pn x.1.pc x.2) : StR W base A' n' c' L' B m d M :=
  ⟨hl, hr.base_ hw, fun x hx => ⟨(hp x hx).1, (hp x hx).2.below hb⟩, fun x hx hn g h1 h2 => by have := (hp x hx).2.lt hn g h1; have := (hr.lt g h2).1; omega, h.tl, h.ta.below hb, fun x hx => ⟨(h.tp x hx).1, (h.tp x hx).2.below hb⟩,
    fun x hx hn g h1 h2 => by have := (h.tp x hx).2.lt hn g h1; have := (hr.lt g h2).1; omega, fun g h1 h2 => by have := (hr.lt g h1).1; have := (h.ta.lt g h2).2; omega⟩
/-- Other tables, in a row of new memory. -/
theorem StR.tabs (h : StR w base A n c L B m d M) (hw : base ≤ w.heap.size) (hb : Below w.heap.size w W) {B' : Option Addr} {m' d' : Nat} {M' : List (Pk.Tb × List (Int × Int))} (hl : M'.length = m') (hr : OwnC 9 W w.heap.size 35 B' m' d' (Pk.flat (M'.map (·.1)))) (hp : ∀ x ∈ M', x.1.fits ∧ PairsOk w x.1.P x.1.pn x.1.pc x.2 ∧ (0 < x.1.pn → Off x.1.P A)) : StR W base A n c L B' m' d' M' :=
  ⟨h.ll, h.la.below hb, fun x hx => ⟨(h.lp x hx).1, (h.lp x hx).2.below hb⟩, h.lo, hl, hr.base_ hw, fun x hx => ⟨(hp x hx).1, (hp x hx).2.1.below hb⟩, fun x hx => (hp x hx).2.2, fun g h1 h2 => by have := (h.la.lt g h1).2; have := (hr.lt g h2).1; omega⟩
end
/-- A block that a version keeps clear of. -/
def Fre (b : Nat) (A : Option Addr) (L : List (Ed.Lg × List (Int × Int))) (B : Option Addr) (M : List (Pk.Tb × List (Int × Int))) : Prop :=
  blkOf A ≠ some b ∧ blkOf B ≠ some b ∧ (∀ x ∈ L, 0 < x.1.pn → blkOf x.1.P ≠ some b) ∧ (∀ x ∈ M, 0 < x.1.pn → blkOf x.1.P ≠ some b)
theorem StR.fre {w : World} {base n c m d : Nat} {A B : Option Addr} {L : List (Ed.Lg × List (Int × Int))} {M : List (Pk.Tb × List (Int × Int))} (h : StR w base A n c L B m d M) : Fre w.heap.size A L B M :=
  ⟨fun e => by have := (h.la.lt _ e).2; omega, fun e => by have := (h.ta.lt _ e).2; omega, fun x hx hn e => by have := (h.lp x hx).2.lt hn _ e; omega, fun x hx hn e => by have := (h.tp x hx).2.lt hn _ e; omega⟩
/-- What the document's do hands back. -/
def GivesRDo (w : World) (base : Nat) (A0 : Option Addr) (L0 : List (Ed.Lg × List (Int × Int))) (B0 : Option Addr) (M0 : List (Pk.Tb × List (Int × Int))) (P0 : Option Addr) (pn0 : Nat) (Q0 : Option Addr) (qn0 : Nat) (r : Option Ed.Ve) (e : Ending) (w' : World) : Prop :=
  ∃ (nx sq : Int) (A : Option Addr) (n c : Nat) (L : List (Ed.Lg × List (Int × Int))) (B : Option Addr) (m d : Nat) (M : List (Pk.Tb × List (Int × Int))), e = .returned (.tuple #[.agg #[.int .i64 nx, .int .i64 sq, .slice A n c, .slice B m d], .bool r.isSome]) ∧ w.grownBy w' (blkOf A0) ∧ (∀ v, r = some v → v = ⟨nx, sq, L.map Ed.loOf, M.map Ed.taOf⟩ ∧ StR w' base A n c L B m d M ∧ ∀ b, b < w.heap.size → Fre b A0 L0 B0 M0 → (0 < pn0 → blkOf P0 ≠ some b) → (0 < qn0 → blkOf Q0 ≠ some b) → Fre b A L B M)
end Go.Proofs.YthfcjlndaajkfaaGreat
namespace Go.Proofs.YthfcjlndaajkfaaGreat
open Go.RowKit
set_option linter.unusedVariables false
set_option linter.unusedSimpArgs false
/-- What leaves all blocks that were there leaves them but one. -/
theorem grown_any {w W : World} (row : Option Nat) (h : Below w.heap.size w W) : w.grownBy W row := ⟨h.os, h.tape, h.output, h.size, fun k hk _ => h.block k hk⟩
/-- The version's box, the edit's, the result's. -/
structure Bx3 (w : World) (cv ce : List Value) (W : World) : Prop where
  v : Holds W w.heap.size cv
  e : Holds W (w.heap.size + 1) ce
  z : Holds W (w.heap.size + 2) [.int .i64 0, .int .i64 0, .slice none 0 0, .slice none 0 0]
  b : Below w.heap.size w W
section
variable {w W W' : World} {cv ce : List Value}
theorem Bx3.below (h : Bx3 w cv ce W) (hb : Below W.heap.size W W') : Bx3 w cv ce W' := ⟨h.v.below hb, h.e.below hb, h.z.below hb, below_next h.b hb⟩
theorem Bx3.room (h : Bx3 w cv ce W) : w.heap.size + 3 ≤ W.heap.size := h.z.1
theorem Bx3.app {s : Nat} {E : TypeId} {A A' : Option Addr} {n cap n' cap' base : Nat} {vs : List Value} (h : Bx3 w cv ce W) (hg : GrewC s W W' base E A A' n cap n' cap' vs) (hb : ∀ g, (Value.slice A n cap).ownBlock = some g → w.heap.size + 3 ≤ g) : Bx3 w cv ce W' :=
  ⟨h.v.grown hg.grew (fun e => by have := hb _ e; omega), h.e.grown hg.grew (fun e => by have := hb _ e; omega), h.z.grown hg.grew (fun e => by have := hb _ e; omega), hg.below h.b h.b.size (fun g e => by have := hb _ e; omega)⟩
theorem Bx3.set (h : Bx3 w cv ce W) (i : Nat) (x : Value) (hi : i < cv.length) : Bx3 w (cv.set i x) ce (W.setCell ⟨w.heap.size, i, none⟩ x) :=
  ⟨h.v.set i x hi, h.e.other (by omega), h.z.other (by omega), h.b.grown (grown_cell W w.heap.size i x) h.b.size (fun g e => by injection e with e; omega)⟩
theorem OwnC.past1 {s : Nat} {base b i n cap : Nat} {E : TypeId} {A : Option Addr} {vs : List Value} {x : Value} (h : OwnC s W base E A n cap vs) (hb : b < base) : OwnC s (W.setCell ⟨b, i, none⟩ x) base E A n cap vs :=
  h.grown (grown_cell W b i x) (.inr fun g hg e => by injection hg with hg; have := (h.blk g e).1; omega)
end
namespace Ed
theorem pos_eq : ∀ {ids : List Int} {x : Int} {k : Nat}, k ≤ ids.length → (∀ (j : Nat) (y : Int), j < k → ids[j]? = some y → y < x) → (∀ y, ids[k]? = some y → ¬ y < x) → pos ids x = k
  | [], x, k, hk, _, _ => by
    have : k = 0 := by simpa using hk
    subst this; rfl
  | a :: r, x, 0, _, _, h2 => by
    unfold pos
    have := h2 a rfl
    rw [List.takeWhile_cons, if_neg (by simpa using this)]; rfl
  | a :: r, x, k + 1, hk, h1, h2 => by
    have ha := h1 0 a (by omega) rfl
    have ih := pos_eq (ids := r) (x := x) (k := k) (by simpa using hk) (fun j y hj hy => h1 (j + 1) y (by omega) (by simpa using hy)) (fun y hy => h2 y (by simpa using hy))
    unfold pos at ih ⊢
    rw [List.takeWhile_cons, if_pos (by simpa using ha), List.length_cons, ih]
theorem cut_mem {α : Type} {L : List α} {k : Nat} {y : α} (h : y ∈ cut L k) : y ∈ L := (cut_sub L k).subset h
theorem put_cells {α : Type} {f : α → List Value} {s : Nat} (hs : ∀ x, (f x).length = s) (L : List α) (k : Nat) (x : α) : (([] ++ (L.flatMap f).take (k * s)) ++ f x) ++ (L.flatMap f).drop (k * s) = (put L k x).flatMap f := by
  rw [flat_take hs, flat_drop hs, List.nil_append]
  unfold put
  rw [List.flatMap_append, List.flatMap_cons, List.append_assoc]
theorem cut_cells {α : Type} {f : α → List Value} {s : Nat} (hs : ∀ x, (f x).length = s) (L : List α) (k : Nat) : ([] ++ (L.flatMap f).take (k * s)) ++ (L.flatMap f).drop ((k + 1) * s) = (cut L k).flatMap f := by
  rw [flat_take hs, flat_drop hs, List.nil_append]
  unfold cut
  rw [List.flatMap_append]
end Ed
end Go.Proofs.YthfcjlndaajkfaaGreat
namespace Go.Proofs.YthfcjlndaajkfaaGreat
open Go.RowKit
set_option linter.unusedVariables false
set_option linter.unusedSimpArgs false
/-- In the midst of it: of so many logs the pairs lie in memory of the call's own. -/
structure MidL (w wx : World) (nx sq : Int) (BV : Value) (A : Option Addr) (n c : Nat) (L F : List (Ed.Lg × List (Int × Int))) (k : Nat) : Prop where
  box : Holds wx w.heap.size [.int .i64 nx, .int .i64 sq, .slice A n c, BV]
  res : Holds wx (w.heap.size + 1) [.int .i64 0, .int .i64 0, .slice none 0 0, .slice none 0 0]
  row : OwnC 4 wx (w.heap.size + 2) 62 A n c (Ed.lflat ((F ++ L.drop k).map (·.1)))
  fl : F.length = k
  lf : F.map Ed.loOf = (L.take k).map Ed.loOf
  fit : ∀ x ∈ F, x.1.fits
  prs : ∀ x ∈ F, OwP wx (w.heap.size + 2) x.1.P x.1.pn x.1.pc x.2 ∧ Off x.1.P A
  bel : Below w.heap.size w wx
theorem MidL.below {w wx wy : World} {nx sq : Int} {BV : Value} {A : Option Addr} {n c k : Nat} {L F : List (Ed.Lg × List (Int × Int))} (h : MidL w wx nx sq BV A n c L F k) (hb : Below wx.heap.size wx wy) : MidL w wy nx sq BV A n c L F k :=
  ⟨h.box.below hb, h.res.below hb, h.row.below hb, h.fl, h.lf, h.fit, fun x hx => ⟨(h.prs x hx).1.below hb, (h.prs x hx).2⟩, below_next h.bel hb⟩
theorem MidL.at_ {w wx : World} {nx sq : Int} {BV : Value} {A : Option Addr} {n c k : Nat} {L F : List (Ed.Lg × List (Int × Int))} (h : MidL w wx nx sq BV A n c L F k) {x : Ed.Lg × List (Int × Int)} (hx : L[k]? = some x) : ((F ++ L.drop k).map (·.1))[k]? = some x.1 := by
  rw [List.map_append, List.getElem?_append_right (by rw [List.length_map, h.fl]; exact Nat.le_refl _), List.length_map, h.fl, Nat.sub_self, List.getElem?_map, List.getElem?_drop, Nat.add_zero, hx]
  rfl
theorem MidL.step {w wx : World} {nx sq : Int} {BV : Value} {A : Option Addr} {n c k g : Nat} {L F : List (Ed.Lg × List (Int × Int))} (h : MidL w wx nx sq BV A n c L F k) {x : Ed.Lg × List (Int × Int)} {P : Option Addr} {pc : Nat} (hg : A = some ⟨g, 0, none⟩) (hx : L[k]? = some x) (hxf : x.1.fits)
    (hP : OwP wx (w.heap.size + 2) P x.1.pn pc x.2) (hPA : Off P A) :
    MidL w (wx.setCell ⟨g, k * 4 + 2, none⟩ (.slice P x.1.pn pc)) nx sq BV A n c L (F ++ [({ x.1 with P := P, pc := pc }, x.2)]) (k + 1) := by
  subst hg
  have hk : k < L.length := (List.getElem?_eq_some_iff.1 hx).1
  have hkx := h.at_ hx
  obtain ⟨r3, hG⟩ := h.row.set1 (k * 4 + 2) (.slice P x.1.pn pc)
  have hrow : (Ed.lflat ((F ++ L.drop k).map (·.1))).set (k * 4 + 2) (.slice P x.1.pn pc) = Ed.lflat ((F ++ [(({ x.1 with P := P, pc := pc } : Ed.Lg), x.2)] ++ L.drop (k + 1)).map (·.1)) := by
    unfold Ed.lflat
    rw [Ed.flat_set (f := Ed.Lg.cells) (s := 4) (fun _ => rfl) (by omega) hkx (x' := { x.1 with P := P, pc := pc }) rfl]
    congr 1
    rw [List.drop_eq_getElem_cons hk, List.map_append, List.map_cons, List.set_append_right _ _ (by rw [List.length_map, h.fl]; exact Nat.le_refl _), List.length_map, h.fl, Nat.sub_self, List.set_cons_zero, List.map_append, List.map_append]
    simp
  rw [hrow] at r3
  have hgl := h.row.lt g rfl
  have hoff : ∀ (Q : Option Addr), Off Q (some ⟨g, 0, none⟩) → ∀ g', some g = some g' → blkOf Q ≠ some g' := fun Q hQ g' e1 e2 => by
    injection e1 with e1
    subst e1
    exact hQ g e2 rfl
  exact ⟨h.box.other (by omega), h.res.other (by omega), r3, by rw [List.length_append, h.fl]; rfl, by rw [List.map_append, h.lf, List.take_add_one, hx, List.map_append]; rfl, fun y hy => by
    rcases List.mem_append.1 hy with hy | hy
    · exact h.fit y hy
    · rw [List.mem_singleton] at hy; subst hy; exact hxf, fun y hy => by
    rcases List.mem_append.1 hy with hy | hy
    · exact ⟨(h.prs y hy).1.grown hG (hoff _ (h.prs y hy).2), (h.prs y hy).2⟩
    · rw [List.mem_singleton] at hy; subst hy; exact ⟨hP.grown hG (hoff _ hPA), hPA⟩, h.bel.grown hG h.bel.size (fun g' e => by injection e with e; omega)⟩
/-- In the midst of it: of so many tables the pairs lie in memory of the call's own. -/
structure MidT (w wx : World) (nx sq : Int) (A : Option Addr) (n c : Nat) (F0 : List (Ed.Lg × List (Int × Int))) (B : Option Addr) (m d : Nat) (L F : List (Pk.Tb × List (Int × Int))) (k : Nat) : Prop where
  box : Holds wx w.heap.size [.int .i64 nx, .int .i64 sq, .slice A n c, .slice B m d]
  res : Holds wx (w.heap.size + 1) [.int .i64 0, .int .i64 0, .slice none 0 0, .slice none 0 0]
  row : OwnC 9 wx (w.heap.size + 2) 35 B m d (Pk.flat ((F ++ L.drop k).map (·.1)))
  fl : F.length = k
  lf : F.map Ed.taOf = (L.take k).map Ed.taOf
  fit : ∀ x ∈ F, x.1.fits
  prs : ∀ x ∈ F, OwP wx (w.heap.size + 2) x.1.P x.1.pn x.1.pc x.2 ∧ Off x.1.P B ∧ Off x.1.P A
  ls : OwLs wx (w.heap.size + 2) A n c F0
  ab : Off A B
  lb : ∀ x ∈ F0, Off x.1.P B
  bel : Below w.heap.size w wx
theorem MidT.below {w wx wy : World} {nx sq : Int} {A : Option Addr} {n c : Nat} {F0 : List (Ed.Lg × List (Int × Int))} {B : Option Addr} {m d k : Nat} {L F : List (Pk.Tb × List (Int × Int))} (h : MidT w wx nx sq A n c F0 B m d L F k) (hb : Below wx.heap.size wx wy) : MidT w wy nx sq A n c F0 B m d L F k :=
  ⟨h.box.below hb, h.res.below hb, h.row.below hb, h.fl, h.lf, h.fit, fun x hx => ⟨(h.prs x hx).1.below hb, (h.prs x hx).2⟩, h.ls.below hb, h.ab, h.lb, below_next h.bel hb⟩
theorem MidT.at_ {w wx : World} {nx sq : Int} {A : Option Addr} {n c : Nat} {F0 : List (Ed.Lg × List (Int × Int))} {B : Option Addr} {m d k : Nat} {L F : List (Pk.Tb × List (Int × Int))} (h : MidT w wx nx sq A n c F0 B m d L F k) {x : Pk.Tb × List (Int × Int)} (hx : L[k]? = some x) : ((F ++ L.drop k).map (·.1))[k]? = some x.1 := by
  rw [List.map_append, List.getElem?_append_right (by rw [List.length_map, h.fl]; exact Nat.le_refl _), List.length_map, h.fl, Nat.sub_self, List.getElem?_map, List.getElem?_drop, Nat.add_zero, hx]
  rfl
theorem MidT.step {w wx : World} {nx sq : Int} {A : Option Addr} {n c : Nat} {F0 : List (Ed.Lg × List (Int × Int))} {B : Option Addr} {m d k g : Nat} {L F : List (Pk.Tb × List (Int × Int))} (h : MidT w wx nx sq A n c F0 B m d L F k) {x : Pk.Tb × List (Int × Int)} {P : Option Addr} {pc : Nat} (hg : B = some ⟨g, 0, none⟩) (hx : L[k]? = some x) (hxf : x.1.fits)
    (hP : OwP wx (w.heap.size + 2) P x.1.pn pc x.2) (hPA : Off P B) (hPB : Off P A) :
    MidT w (wx.setCell ⟨g, k * 9 + 2, none⟩ (.slice P x.1.pn pc)) nx sq A n c F0 B m d L (F ++ [({ x.1 with P := P, pc := pc }, x.2)]) (k + 1) := by
  subst hg
  have hk : k < L.length := (List.getElem?_eq_some_iff.1 hx).1
  have hkx := h.at_ hx
  obtain ⟨r3, hG⟩ := h.row.set1 (k * 9 + 2) (.slice P x.1.pn pc)
  have hrow : (Pk.flat ((F ++ L.drop k).map (·.1))).set (k * 9 + 2) (.slice P x.1.pn pc) = Pk.flat ((F ++ [(({ x.1 with P := P, pc := pc } : Pk.Tb), x.2)] ++ L.drop (k + 1)).map (·.1)) := by
    unfold Pk.flat
    rw [Ed.flat_set (f := Pk.Tb.cells) (s := 9) (fun _ => rfl) (by omega) hkx (x' := { x.1 with P := P, pc := pc }) rfl]
    congr 1
    rw [List.drop_eq_getElem_cons hk, List.map_append, List.map_cons, List.set_append_right _ _ (by rw [List.length_map, h.fl]; exact Nat.le_refl _), List.length_map, h.fl, Nat.sub_self, List.set_cons_zero, List.map_append, List.map_append]
    simp
  rw [hrow] at r3
  have hgl := h.row.lt g rfl
  have hoff : ∀ (Q : Option Addr), Off Q (some ⟨g, 0, none⟩) → ∀ g', some g = some g' → blkOf Q ≠ some g' := fun Q hQ g' e1 e2 => by
    injection e1 with e1
    subst e1
    exact hQ g e2 rfl
  exact ⟨h.box.other (by omega), h.res.other (by omega), r3, by rw [List.length_append, h.fl]; rfl, by rw [List.map_append, h.lf, List.take_add_one, hx, List.map_append]; rfl, fun y hy => by
    rcases List.mem_append.1 hy with hy | hy
    · exact h.fit y hy
    · rw [List.mem_singleton] at hy; subst hy; exact hxf, fun y hy => by
    rcases List.mem_append.1 hy with hy | hy
    · exact ⟨(h.prs y hy).1.grown hG (hoff _ (h.prs y hy).2.1), (h.prs y hy).2⟩
    · rw [List.mem_singleton] at hy; subst hy; exact ⟨hP.grown hG (hoff _ hPA), hPA, hPB⟩, h.ls.grown hG (hoff _ h.ab) (fun z hz => hoff _ (h.lb z hz)), h.ab, h.lb, h.bel.grown hG h.bel.size (fun g' e => by injection e with e; omega)⟩
end Go.Proofs.YthfcjlndaajkfaaGreat
