/- A version that the statement keeps in a box: what stays. -/
import Derived.Test.YthfcjlndaajkfaaTEdLVe
import Derived.Test.YthfcjlndaajkfaaTEdMk
import Derived.Test.YthfcjlndaajkfaaTEdLSaV
import Derived.Test.YthfcjlndaajkfaaTEdLTa
namespace Go.Proofs.Ythfcjlndaajkfaa
open Go.RowKit
set_option linter.unusedVariables false
structure Prv (w : World) (vb : Nat) (nx sq : Int) (A' : Option Addr) (n' c' : Nat) (B' : Option Addr) (m' d' : Nat) (l1 l2 : List Value) (W : World) : Prop where
  box : Holds W vb [.int .i64 nx, .int .i64 sq, .slice A' n' c', .slice B' m' d']
  ol : OwnC 4 W (vb + 1) 51 A' n' c' l1
  ot : OwnC 9 W (vb + 1) 53 B' m' d' l2
  bel : Below w.heap.size w W
theorem Prv.below {w : World} {vb : Nat} {nx sq : Int} {A' : Option Addr} {n' c' : Nat} {B' : Option Addr} {m' d' : Nat} {l1 l2 : List Value} {W W' : World} (h : Prv w vb nx sq A' n' c' B' m' d' l1 l2 W) (hb : Below W.heap.size W W') : Prv w vb nx sq A' n' c' B' m' d' l1 l2 W' :=
  ⟨h.box.below hb, h.ol.below hb, h.ot.below hb, below_next h.bel hb⟩
theorem Prv.rls {w : World} {vb : Nat} {nx sq : Int} {A : Option Addr} {n c1 : Nat} {A1 : Option Addr} {B1 : Option Addr} {m' d' : Nat} {L : List (Ed.Lg × List (Int × Int))} {l2 : List Value} {W : World} (h : Prv w vb nx sq A1 (min n 34) c1 B1 m' d' (Ed.lflat ((L.take (min n 34)).map fun x => (Ed.cutL x).1)) l2 W) (hL : RdLs w A n L) : RdLs W A1 (min n 34) ((L.take 34).map Ed.cutL) := rdls_cut hL h.bel h.ol
theorem Prv.rts {w : World} {vb : Nat} {nx sq : Int} {A1 : Option Addr} {n' c1 : Nat} {B : Option Addr} {m d1 : Nat} {B1 : Option Addr} {M : List (Pk.Tb × List (Int × Int))} {l1 : List Value} {W : World} (h : Prv w vb nx sq A1 n' c1 B1 (min m 130) d1 l1 (Pk.flat ((M.take (min m 130)).map fun x => (Ed.cutT x).1)) W) (hM : RdTs w B m M) : RdTs W B1 (min m 130) ((M.take 130).map Ed.cutT) := rdts_cut hM h.bel h.ot
/-- A version's four cells, written into a box. -/
theorem grown4 (W : World) (b : Nat) (x0 x1 x2 x3 : Value) : W.grownBy ((((W.setCell ⟨b, 0, none⟩ x0).setCell ⟨b, 1, none⟩ x1).setCell ⟨b, 2, none⟩ x2).setCell ⟨b, 3, none⟩ x3) (some b) :=
  ((grown_cell W b 0 x0).trans ((grown_cell _ b 1 x1).trans ((grown_cell _ b 2 x2).trans (grown_cell _ b 3 x3))))
theorem Holds.put4 {W : World} {b : Nat} {y0 y1 y2 y3 : Value} (h : Holds W b [y0, y1, y2, y3]) (x0 x1 x2 x3 : Value) : Holds ((((W.setCell ⟨b, 0, none⟩ x0).setCell ⟨b, 1, none⟩ x1).setCell ⟨b, 2, none⟩ x2).setCell ⟨b, 3, none⟩ x3) b [x0, x1, x2, x3] :=
  (((h.set 0 x0 (by simp)).set 1 x1 (by simp)).set 2 x2 (by simp)).set 3 x3 (by simp)
theorem Prv.stored {w : World} {vb : Nat} {y0 y1 y2 y3 : Value} {nx sq : Int} {A' : Option Addr} {n' c' : Nat} {B' : Option Addr} {m' d' : Nat} {l1 l2 : List Value} {W : World} {base base2 : Nat} (hw : w.heap.size ≤ vb) (hx : Holds W vb [y0, y1, y2, y3]) (ho : OwnC 4 W base 51 A' n' c' l1) (ht : OwnC 9 W base2 53 B' m' d' l2) (h1 : vb + 1 ≤ base) (h2 : vb + 1 ≤ base2) (hb : Below w.heap.size w W) :
    Prv w vb nx sq A' n' c' B' m' d' l1 l2 ((((W.setCell ⟨vb, 0, none⟩ (.int .i64 nx)).setCell ⟨vb, 1, none⟩ (.int .i64 sq)).setCell ⟨vb, 2, none⟩ (.slice A' n' c')).setCell ⟨vb, 3, none⟩ (.slice B' m' d')) :=
  have hG := grown4 W vb (.int .i64 nx) (.int .i64 sq) (.slice A' n' c') (.slice B' m' d')
  ⟨hx.put4 _ _ _ _, (ho.base_ h1).grown hG (.inr fun g hg e => by injection hg with hg; have := (ho.blk g e).1; omega), (ht.base_ h2).grown hG (.inr fun g hg e => by injection hg with hg; have := (ht.blk g e).1; omega), hb.grown hG hb.size (fun g e => by injection e with e; omega)⟩
end Go.Proofs.Ythfcjlndaajkfaa
