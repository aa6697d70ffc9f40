/- Rows of edits cut in two; what stays while Apply is called; two operations that may come up. A version that the statement keeps in a box: what stays. Two versions that the statement keeps in two boxes: what stays. -/
import Derived.Test.YthfcjlndaajkfaaGreatTEdLEd
import Derived.Test.YthfcjlndaajkfaaGreatTEdApply
import Derived.Test.YthfcjlndaajkfaaGreatTHeldS
import Derived.Test.YthfcjlndaajkfaaGreatTEdLVe
import Derived.Test.YthfcjlndaajkfaaGreatTEdMk
import Derived.Test.YthfcjlndaajkfaaGreatTEdLSaV
import Derived.Test.YthfcjlndaajkfaaGreatTEdLTa
import Derived.Test.YthfcjlndaajkfaaGreatTEdRMk
import Derived.Test.YthfcjlndaajkfaaGreatTEdLSaE
import Derived.Deep.CutBlock
import Derived.Deep.DeepCutAuto
namespace Go.Proofs.YthfcjlndaajkfaaGreat
open Go.RowKit
set_option linter.unusedVariables false
section
variable {P : Program} {ops : Array Oper} {Q : Exit → Act → World → Prop} {md : Region.Mode} {S T : World → Prop} {t : Nat}
theorem wpAnyT_two {i j : Nat} {oi oj : Oper} {fuel : Nat} {listed : Array Bool} {a : Act} {w : World} (hr : Region.ready md ops listed = [i, j]) (ho : ops[i]? = some oi) (hj : ops[j]? = some oj)
    (h1 : ∀ K' : Act → World → Prop, Shut (∀ a w, S w → ((listed.setIfInBounds i true).getD t true = false → T w) → wpAnyT P md ops Q S T t fuel (listed.setIfInBounds i true) a w → K' a w) → if Region.wanted oi (yielded ops a.tmps) = true then Oper.wp P oi a w K' Q else K' (a.put oi.dst undef) w)
    (h2 : ∀ K' : Act → World → Prop, Shut (∀ a w, S w → ((listed.setIfInBounds j true).getD t true = false → T w) → wpAnyT P md ops Q S T t fuel (listed.setIfInBounds j true) a w → K' a w) → if Region.wanted oj (yielded ops a.tmps) = true then Oper.wp P oj a w K' Q else K' (a.put oj.dst undef) w) :
    wpAnyT P md ops Q S T t (fuel + 1) listed a w := by
  refine ⟨fun h0 => (by rw [hr] at h0; cases h0), fun q hq => ?_⟩
  rw [hr] at hq
  rcases List.mem_cons.1 hq with rfl | hq
  · exact wpOp_step ho (fun K' hK => h1 K' (fun a w hS hT hW => hK a w ⟨⟨hS, hT⟩, hW⟩))
  · obtain rfl := List.mem_singleton.1 hq
    exact wpOp_step hj (fun K' hK => h2 K' (fun a w hS hT hW => hK a w ⟨⟨hS, hT⟩, hW⟩))
end
/-- A row of edits from its f-th on. -/
def behindE (A : Option Addr) (c f : Nat) : Option Addr := if c = f then A else A.map (·.add (f * 15))
set_option maxRecDepth 100000 in
theorem run_fromE (A : Option Addr) (n c f : Nat) (hf : f ≤ n) (hc : n ≤ c) (w : World) : (Instr.slice 38 (.slice A n c) (some (.int .i64 (f : Int))) none none).run Tryz.prog w = .ok (.slice (behindE A c f) (n - f) (c - f)) w := by
  obtain ⟨i0, hi, hz0, hz1, hz2⟩ := info_parts manyE.info
  unfold behindE
  by_cases e : c = f
  · subst e
    simp [Instr.slice, run_underlying Tryz.underlying38, Instr.sliceBounds, Instr.sliceBound, asIntOf, go_sem, hf, hc]
  · simp [Instr.slice, run_underlying Tryz.underlying38, Instr.sliceBounds, Instr.sliceBound, asIntOf, go_sem, hf, e, sizeOf, typeInfo, hi, hz1]
set_option maxRecDepth 100000 in
theorem run_toE (A : Option Addr) (n c t : Nat) (ht : t ≤ n) (hc : n ≤ c) (w : World) : (Instr.slice 38 (.slice A n c) none (some (.int .i64 (t : Int))) none).run Tryz.prog w = .ok (.slice A t c) w := by
  have h2 : t ≤ c := by omega
  simp [Instr.slice, run_underlying Tryz.underlying38, Instr.sliceBounds, Instr.sliceBound, asIntOf, go_sem, h2]
theorem Ed.eflat_len (l : List Ed.Er) : (Ed.eflat l).length = l.length * 15 := Pk.flatMap_length (f := Ed.Er.cells) (fun _ => rfl) _
theorem Ed.eflat_take (l : List Ed.Er) (k : Nat) : Ed.eflat (l.take k) = (Ed.eflat l).take (k * 15) := by
  induction l generalizing k with
  | nil => simp [Ed.eflat]
  | cons x r ih =>
    cases k with
    | zero => simp [Ed.eflat]
    | succ k =>
      have h2 := ih k
      unfold Ed.eflat at h2 ⊢
      rw [List.take_succ_cons, List.flatMap_cons, List.flatMap_cons, h2, List.take_append, show (Ed.Er.cells x).length = 15 from rfl, show (Ed.Er.cells x).take ((k + 1) * 15) = Ed.Er.cells x from List.take_of_length_le (by show 15 ≤ (k + 1) * 15; omega), show (k + 1) * 15 - 15 = k * 15 by omega]
theorem Ed.eflat_drop (l : List Ed.Er) (k : Nat) : Ed.eflat (l.drop k) = (Ed.eflat l).drop (k * 15) := by
  induction l generalizing k with
  | nil => simp [Ed.eflat]
  | cons x r ih =>
    cases k with
    | zero => simp
    | succ k =>
      have h2 := ih k
      unfold Ed.eflat at h2 ⊢
      rw [List.drop_succ_cons, List.flatMap_cons, h2, List.drop_append, show (Ed.Er.cells x).length = 15 from rfl, show (Ed.Er.cells x).drop ((k + 1) * 15) = [] from List.drop_of_length_le (by show 15 ≤ (k + 1) * 15; omega), show (k + 1) * 15 - 15 = k * 15 by omega]
      rfl
theorem RdEs.take {w : World} {A : Option Addr} {n k : Nat} {E : List Ed.Ex} (h : RdEs w A n E) (hk : k ≤ n) : RdEs w A k (E.take k) := by
  refine ⟨by rw [List.length_take, h.1]; omega, ?_, fun x hx => h.2.2 x (List.mem_of_mem_take hx)⟩
  rw [List.map_take, Ed.eflat_take]
  exact h.2.1.take hk
theorem RdEs.from_ {w : World} {A : Option Addr} {n c k : Nat} {E : List Ed.Ex} (h : RdEs w A n E) (hk : k ≤ n) (hc : n ≤ c) : RdEs w (behindE A c k) (n - k) (E.drop k) := by
  refine ⟨by rw [List.length_drop, h.1], ?_, fun x hx => h.2.2 x (List.mem_of_mem_drop hx)⟩
  rw [List.map_drop, Ed.eflat_drop]
  refine ⟨by rw [List.length_drop, h.2.1.1, Nat.sub_mul], fun hm => ?_⟩
  obtain ⟨b, o, rfl, hb, hcl⟩ := h.2.1.2 (by omega)
  refine ⟨b, o + k * 15, ?_, hb, fun j x hx => ?_⟩
  · unfold behindE
    rw [if_neg (by omega)]
    simp only [Option.map_some, Addr.add]
    split
    · rename_i e; rw [e, Nat.add_zero]
    · rfl
  · rw [List.getElem?_drop] at hx
    have := hcl _ _ hx
    rwa [← Nat.add_assoc] at this
/-- What stays while Apply is called: the version's box, the rows that were handed in. -/
structure Prt (w : World) (nx sq : Int) (A' : Option Addr) (n' c' : Nat) (B' : Option Addr) (m' d' : Nat) (Q : Option Addr) (q' qc : Nat) (l1 l2 l3 : List Value) (W : World) : Prop where
  box : Holds W w.heap.size [.int .i64 nx, .int .i64 sq, .slice A' n' c', .slice B' m' d']
  ol : OwnC 4 W (w.heap.size + 1) 62 A' n' c' l1
  ot : OwnC 9 W (w.heap.size + 1) 35 B' m' d' l2
  oe : OwnC 15 W (w.heap.size + 1) 37 Q q' qc l3
  bel : Below w.heap.size w W
theorem Prt.below {w : World} {nx sq : Int} {A' : Option Addr} {n' c' : Nat} {B' : Option Addr} {m' d' : Nat} {Q : Option Addr} {q' qc : Nat} {l1 l2 l3 : List Value} {W W' : World} (h : Prt w nx sq A' n' c' B' m' d' Q q' qc l1 l2 l3 W) (hb : Below W.heap.size W W') : Prt w nx sq A' n' c' B' m' d' Q q' qc l1 l2 l3 W' :=
  ⟨h.box.below hb, h.ol.below hb, h.ot.below hb, h.oe.below hb, below_next h.bel hb⟩
end Go.Proofs.YthfcjlndaajkfaaGreat
namespace Go.Proofs.YthfcjlndaajkfaaGreat
open Go.RowKit
set_option linter.unusedVariables false
structure Prv (w : World) (vb : Nat) (nx sq : Int) (A' : Option Addr) (n' c' : Nat) (B' : Option Addr) (m' d' : Nat) (l1 l2 : List Value) (W : World) : Prop where
  box : Holds W vb [.int .i64 nx, .int .i64 sq, .slice A' n' c', .slice B' m' d']
  ol : OwnC 4 W (vb + 1) 62 A' n' c' l1
  ot : OwnC 9 W (vb + 1) 35 B' m' d' l2
  bel : Below w.heap.size w W
theorem Prv.below {w : World} {vb : Nat} {nx sq : Int} {A' : Option Addr} {n' c' : Nat} {B' : Option Addr} {m' d' : Nat} {l1 l2 : List Value} {W W' : World} (h : Prv w vb nx sq A' n' c' B' m' d' l1 l2 W) (hb : Below W.heap.size W W') : Prv w vb nx sq A' n' c' B' m' d' l1 l2 W' :=
  ⟨h.box.below hb, h.ol.below hb, h.ot.below hb, below_next h.bel hb⟩
theorem Prv.rls {w : World} {vb : Nat} {nx sq : Int} {A : Option Addr} {n c1 : Nat} {A1 : Option Addr} {B1 : Option Addr} {m' d' : Nat} {L : List (Ed.Lg × List (Int × Int))} {l2 : List Value} {W : World} (h : Prv w vb nx sq A1 (min n 34) c1 B1 m' d' (Ed.lflat ((L.take (min n 34)).map fun x => (Ed.cutL x).1)) l2 W) (hL : RdLs w A n L) : RdLs W A1 (min n 34) ((L.take 34).map Ed.cutL) := rdls_cut hL h.bel h.ol
theorem Prv.rts {w : World} {vb : Nat} {nx sq : Int} {A1 : Option Addr} {n' c1 : Nat} {B : Option Addr} {m d1 : Nat} {B1 : Option Addr} {M : List (Pk.Tb × List (Int × Int))} {l1 : List Value} {W : World} (h : Prv w vb nx sq A1 n' c1 B1 (min m 130) d1 l1 (Pk.flat ((M.take (min m 130)).map fun x => (Ed.cutT x).1)) W) (hM : RdTs w B m M) : RdTs W B1 (min m 130) ((M.take 130).map Ed.cutT) := rdts_cut hM h.bel h.ot
/-- A version's four cells, written into a box. -/
theorem grown4 (W : World) (b : Nat) (x0 x1 x2 x3 : Value) : W.grownBy ((((W.setCell ⟨b, 0, none⟩ x0).setCell ⟨b, 1, none⟩ x1).setCell ⟨b, 2, none⟩ x2).setCell ⟨b, 3, none⟩ x3) (some b) :=
  ((grown_cell W b 0 x0).trans ((grown_cell _ b 1 x1).trans ((grown_cell _ b 2 x2).trans (grown_cell _ b 3 x3))))
theorem Holds.put4 {W : World} {b : Nat} {y0 y1 y2 y3 : Value} (h : Holds W b [y0, y1, y2, y3]) (x0 x1 x2 x3 : Value) : Holds ((((W.setCell ⟨b, 0, none⟩ x0).setCell ⟨b, 1, none⟩ x1).setCell ⟨b, 2, none⟩ x2).setCell ⟨b, 3, none⟩ x3) b [x0, x1, x2, x3] :=
  (((h.set 0 x0 (by simp)).set 1 x1 (by simp)).set 2 x2 (by simp)).set 3 x3 (by simp)
theorem Prv.stored {w : World} {vb : Nat} {y0 y1 y2 y3 : Value} {nx sq : Int} {A' : Option Addr} {n' c' : Nat} {B' : Option Addr} {m' d' : Nat} {l1 l2 : List Value} {W : World} {base base2 : Nat} (hw : w.heap.size ≤ vb) (hx : Holds W vb [y0, y1, y2, y3]) (ho : OwnC 4 W base 62 A' n' c' l1) (ht : OwnC 9 W base2 35 B' m' d' l2) (h1 : vb + 1 ≤ base) (h2 : vb + 1 ≤ base2) (hb : Below w.heap.size w W) :
    Prv w vb nx sq A' n' c' B' m' d' l1 l2 ((((W.setCell ⟨vb, 0, none⟩ (.int .i64 nx)).setCell ⟨vb, 1, none⟩ (.int .i64 sq)).setCell ⟨vb, 2, none⟩ (.slice A' n' c')).setCell ⟨vb, 3, none⟩ (.slice B' m' d')) :=
  have hG := grown4 W vb (.int .i64 nx) (.int .i64 sq) (.slice A' n' c') (.slice B' m' d')
  ⟨hx.put4 _ _ _ _, (ho.base_ h1).grown hG (.inr fun g hg e => by injection hg with hg; have := (ho.blk g e).1; omega), (ht.base_ h2).grown hG (.inr fun g hg e => by injection hg with hg; have := (ht.blk g e).1; omega), hb.grown hG hb.size (fun g e => by injection e with e; omega)⟩
end Go.Proofs.YthfcjlndaajkfaaGreat
namespace Go.Proofs.YthfcjlndaajkfaaGreat
open Go.RowKit
set_option linter.unusedVariables false
set_option linter.unusedSimpArgs false
structure Pr2 (w : World) (nx sq : Int) (A : Option Addr) (n c : Nat) (B : Option Addr) (m d : Nat) (l1 l2 : List Value) (nx2 sq2 : Int) (P : Option Addr) (n2 c2 : Nat) (Q : Option Addr) (m2 d2 : Nat) (k1 k2 : List Value) (W : World) : Prop where
  box : Holds W w.heap.size [.int .i64 nx, .int .i64 sq, .slice A n c, .slice B m d]
  box2 : Holds W (w.heap.size + 1) [.int .i64 nx2, .int .i64 sq2, .slice P n2 c2, .slice Q m2 d2]
  ol : OwnC 4 W (w.heap.size + 2) 62 A n c l1
  ot : OwnC 9 W (w.heap.size + 2) 35 B m d l2
  ol2 : OwnC 4 W (w.heap.size + 2) 62 P n2 c2 k1
  ot2 : OwnC 9 W (w.heap.size + 2) 35 Q m2 d2 k2
  bel : Below w.heap.size w W
theorem Pr2.below {w : World} {nx sq : Int} {A : Option Addr} {n c : Nat} {B : Option Addr} {m d : Nat} {l1 l2 : List Value} {nx2 sq2 : Int} {P : Option Addr} {n2 c2 : Nat} {Q : Option Addr} {m2 d2 : Nat} {k1 k2 : List Value} {W W' : World} (h : Pr2 w nx sq A n c B m d l1 l2 nx2 sq2 P n2 c2 Q m2 d2 k1 k2 W) (hb : Below W.heap.size W W') : Pr2 w nx sq A n c B m d l1 l2 nx2 sq2 P n2 c2 Q m2 d2 k1 k2 W' :=
  ⟨h.box.below hb, h.box2.below hb, h.ol.below hb, h.ot.below hb, h.ol2.below hb, h.ot2.below hb, below_next h.bel hb⟩
theorem Holds.other4 {w : World} {b c : Nat} {cs : List Value} {x y z u : Value} (k : Holds w c cs) (h : c ≠ b) : Holds ((((w.setCell ⟨b, 0, none⟩ x).setCell ⟨b, 1, none⟩ y).setCell ⟨b, 2, none⟩ z).setCell ⟨b, 3, none⟩ u) c cs := (((k.other h).other h).other h).other h
theorem OwnC.past4 {s : Nat} {w : World} {base b n cap : Nat} {E : TypeId} {A : Option Addr} {vs : List Value} {x y z u : Value} (h : OwnC s w base E A n cap vs) (hb : b < base) : OwnC s ((((w.setCell ⟨b, 0, none⟩ x).setCell ⟨b, 1, none⟩ y).setCell ⟨b, 2, none⟩ z).setCell ⟨b, 3, none⟩ u) base E A n cap vs :=
  h.grown (grown4 w b x y z u) (.inr fun g hg e => by injection hg with hg; have := (h.blk g e).1; omega)
/-- Two rows of cells side by side, both stored. -/
theorem Pr2.stored {w : World} {nx sq : Int} {A : Option Addr} {n c : Nat} {B : Option Addr} {m d : Nat} {l1 l2 : List Value} {nx2 sq2 : Int} {P : Option Addr} {n2 c2 : Nat} {Q : Option Addr} {m2 d2 : Nat} {k1 k2 : List Value} {W : World} {y0 y1 y2 y3 z0 z1 z2 z3 : Value}
    (h1 : Holds W w.heap.size [y0, y1, y2, y3]) (h2 : Holds W (w.heap.size + 1) [z0, z1, z2, z3]) (hol : OwnC 4 W (w.heap.size + 2) 62 A n c l1) (hot : OwnC 9 W (w.heap.size + 2) 35 B m d l2) (hol2 : OwnC 4 W (w.heap.size + 2) 62 P n2 c2 k1) (hot2 : OwnC 9 W (w.heap.size + 2) 35 Q m2 d2 k2) (hb : Below w.heap.size w W) :
    Pr2 w nx sq A n c B m d l1 l2 nx2 sq2 P n2 c2 Q m2 d2 k1 k2 ((((((((W.setCell ⟨w.heap.size, 0, none⟩ (.int .i64 nx)).setCell ⟨w.heap.size, 1, none⟩ (.int .i64 sq)).setCell ⟨w.heap.size, 2, none⟩ (.slice A n c)).setCell ⟨w.heap.size, 3, none⟩ (.slice B m d)).setCell ⟨(w.heap.size + 1), 0, none⟩ (.int .i64 nx2)).setCell ⟨(w.heap.size + 1), 1, none⟩ (.int .i64 sq2)).setCell ⟨(w.heap.size + 1), 2, none⟩ (.slice P n2 c2)).setCell ⟨(w.heap.size + 1), 3, none⟩ (.slice Q m2 d2)) :=
  ⟨(h1.put4 _ _ _ _).other4 (by omega), (h2.other4 (by omega)).put4 _ _ _ _, (hol.past4 (by omega)).past4 (by omega), (hot.past4 (by omega)).past4 (by omega), (hol2.past4 (by omega)).past4 (by omega), (hot2.past4 (by omega)).past4 (by omega),
    (hb.grown (grown4 _ _ _ _ _ _) hb.size (fun g e => by injection e with e; omega)).grown (grown4 _ _ _ _ _ _) (Nat.le_trans hb.size (grown4 _ _ _ _ _ _).size) (fun g e => by injection e with e; omega)⟩
theorem rdpl_at {w : World} {R : Option Addr} {n k : Nat} {F : List (Ed.Pc × List (Int × Int))} {x : Ed.Pc × List (Int × Int)} (hl : F.length = n) (h : RdC 3 w R n (Ed.pflat (F.map (·.1)))) (hx : F[k]? = some x) : ∃ b o, R = some ⟨b, o, none⟩ ∧ ∀ w', Below w.heap.size w w' → w'.cell? ⟨b, o + k * 3, none⟩ = some (.int .i64 x.1.id) ∧ w'.cell? ⟨b, o + k * 3 + 1, none⟩ = some (.int .i64 x.1.ep) ∧ w'.cell? ⟨b, o + k * 3 + 2, none⟩ = some (.slice x.1.P x.1.pn x.1.pc) := by
  have hk : k < n := by rw [← hl]; exact (List.getElem?_eq_some_iff.1 hx).1
  obtain ⟨b, o, rfl, hb, hc⟩ := h.2 (by omega)
  have hm : (F.map (·.1))[k]? = some x.1 := by rw [List.getElem?_map, hx]; rfl
  have hq := fun (w' : World) (hb' : Below w.heap.size w w') (j : Nat) (q : Value) (hq : x.1.cells[j]? = some q) => (hb'.cell hb).trans (hc _ _ (Pk.flatMap_at (f := Ed.Pc.cells) (s := 3) (fun _ => rfl) hm hq))
  exact ⟨b, o, rfl, fun w' hb' => ⟨hq w' hb' 0 _ rfl, by have := hq w' hb' 1 _ rfl; rwa [← Nat.add_assoc] at this, by have := hq w' hb' 2 _ rfl; rwa [← Nat.add_assoc] at this⟩⟩
/-- An edit that names a place alone. -/
def Ed.xp (x : Ed.Pc × List (Int × Int)) : Ed.Ex := (⟨0, 0, 0, x.1.id, x.1.ep, x.1.P, x.1.pn, x.1.pc, Ed.tz⟩, (x.2, []))
theorem Ed.xp_et {x y : Ed.Pc × List (Int × Int)} (h : Ed.plOf x = Ed.plOf y) : [Ed.xp x].map Ed.etOf = [Ed.xp y].map Ed.etOf := by
  have e : ∀ z, Ed.etOf (Ed.xp z) = ⟨0, 0, 0, Ed.plOf z, Ed.taOf (Ed.tz, [])⟩ := fun _ => rfl
  rw [List.map_cons, List.map_cons, e, e, h]
theorem RdEs.one_ {w : World} {x : Ed.Pc × List (Int × Int)} (T : TypeId) (h : PairsOk w x.1.P x.1.pn x.1.pc x.2) : RdEs (w.alloc (.cells (Ed.xp x).1.cells.toArray T)) (some ⟨w.heap.size, 0, none⟩) 1 [Ed.xp x] :=
  ⟨rfl, by have := rd_er w (Ed.xp x).1 T; simpa [Ed.eflat] using this, fun y hy => by
    obtain rfl := List.mem_singleton.1 hy
    have hb : Below w.heap.size w (w.alloc (.cells (Ed.xp x).1.cells.toArray T)) := (Below.refl _ _).alloc (Nat.le_refl _) _
    exact ⟨h.below hb, Ed.nop_ok _, Ed.tz_fits⟩⟩
theorem RdEs.none_ (w : World) : RdEs w none 0 [] := ⟨rfl, RdC.nil 15 w none, fun x hx => nomatch hx⟩
end Go.Proofs.YthfcjlndaajkfaaGreat
