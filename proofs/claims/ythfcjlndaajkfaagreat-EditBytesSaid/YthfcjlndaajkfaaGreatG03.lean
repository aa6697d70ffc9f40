/- A version that came in: its logs and tables, with their pairs. Versions and edits, plain: which may be, and what edits make of a version. A map whose keys are two numbers: which keys stand in it, each with 1. Rows of structs of the call's own: cells written into them one behind the other, more room taken, copy. edit.within. -/
import Derived.Test.YthfcjlndaajkfaaGreatG02
import Derived.Maps.RangeWalk
import Derived.Maps.OwnSet
import Derived.WideKeyEntry
import Derived.WideKeyArgs
import Derived.DeepKeys4
import Derived.Lib.AppendZeros
import Derived.Lib.AppendZerosOnto
import Derived.Laws.IdiomCopy
import Derived.Lib.SliceRun
import Derived.Lib.Overlaps
import Derived.Laws.OwnMore
namespace Go.Proofs.YthfcjlndaajkfaaGreat
open Go.ChangeShapes Go.WideShapes Go.ChangeAt Go.RowKit Go.Joins Go.Deep
namespace Ed
/-- A log. -/
structure Lg where
  id : Int
  ep : Int
  P : Option Addr
  pn : Nat
  pc : Nat
  se : Int
def Lg.cells (t : Lg) : List Value := [.int .i64 t.id, .int .i64 t.ep, .slice t.P t.pn t.pc, .int .i64 t.se]
def Lg.fits (t : Lg) : Prop := (-9223372036854775808 ≤ t.id ∧ t.id ≤ 9223372036854775807) ∧ (-9223372036854775808 ≤ t.se ∧ t.se ≤ 9223372036854775807)
def lflat (l : List Lg) : List Value := l.flatMap Lg.cells
end Ed
/-- A slice that reads as tables with their pairs. -/
def RdTs (w : World) (A : Option Addr) (n : Nat) (L : List (Pk.Tb × List (Int × Int))) : Prop := RdTb w A n (L.map (·.1)) ∧ ∀ x ∈ L, RdPs w x.1.P x.1.pn x.2 ∧ x.1.pn ≤ x.1.pc ∧ x.1.pn ≤ 9223372036854775807
theorem RdTs.below {w w' : World} {A : Option Addr} {n : Nat} {L : List (Pk.Tb × List (Int × Int))} (h : RdTs w A n L) (hb : Below w.heap.size w w') : RdTs w' A n L := ⟨h.1.below hb, fun x hx => ⟨(h.2 x hx).1.below hb, (h.2 x hx).2⟩⟩
/-- A slice that reads as logs with their pairs. -/
def RdLs (w : World) (A : Option Addr) (n : Nat) (L : List (Ed.Lg × List (Int × Int))) : Prop := L.length = n ∧ RdC 4 w A n (Ed.lflat (L.map (·.1))) ∧ ∀ x ∈ L, x.1.fits ∧ RdPs w x.1.P x.1.pn x.2 ∧ x.1.pn ≤ x.1.pc ∧ x.1.pn ≤ 9223372036854775807
theorem RdLs.below {w w' : World} {A : Option Addr} {n : Nat} {L : List (Ed.Lg × List (Int × Int))} (h : RdLs w A n L) (hb : Below w.heap.size w w') : RdLs w' A n L := ⟨h.1, h.2.1.below hb, fun x hx => ⟨(h.2.2 x hx).1, (h.2.2 x hx).2.1.below hb, (h.2.2 x hx).2.2⟩⟩
theorem list2 {α : Type} {cs : List α} (h : cs.length = 2) : ∃ c0 c1, cs = [c0, c1] := by
  match cs, h with
  | [c0, c1], _ => exact ⟨c0, c1, rfl⟩
theorem Ed.fl_get {l : List (Int × Int)} : ∀ {j : Nat} {u : Value}, (Pk.iv (Ed.fl l))[j]? = some u → ∃ q, l[j / 2]? = some q ∧ u = if j % 2 = 0 then .int .i64 q.1 else .int .i64 q.2 := by
  induction l with
  | nil => intro j u h; simp [Ed.fl, Pk.iv] at h
  | cons x xs ih =>
    intro j u h
    match j, h with
    | 0, h => exact ⟨x, rfl, by injection h with h; rw [← h]; rfl⟩
    | 1, h => exact ⟨x, rfl, by injection h with h; rw [← h]; rfl⟩
    | j + 2, h =>
      obtain ⟨q, h1, h2⟩ := ih (j := j) (u := u) h
      refine ⟨q, ?_, ?_⟩
      · rw [show (j + 2) / 2 = j / 2 + 1 by omega]; exact h1
      · rw [show (j + 2) % 2 = j % 2 by omega]; exact h2
section
variable {H : Type} {enc : TypeId × Value → H} {W : World} {base : Nat} {v : Value} {d : DataW H} {p : List MemPlace}
theorem cells_pair : Tryz.prog.cellsOf 64 = 2 := by kernel_rfl
set_option maxRecDepth 100000 in
theorem one_pairs {c : Value} {f : Nat} {y : DataW H × List MemPlace} (h : DataW.trod enc Tryz.prog W 0 (fun _ => true) true f 30 [c] = some y) : ∃ (A : Option Addr) (n cap : Nat) (ps : List (Int × Int)), c = .slice A n cap ∧ RdPs W A n ps ∧ n ≤ cap ∧ n ≤ 9223372036854775807 := by
  obtain ⟨A, n, cap, rfl, hc, hn, hr⟩ := field_elems Tryz.underlying30 cells_pair (by decide) h
  by_cases hp0 : 0 < n
  · obtain ⟨g, o, rfl, hb, he⟩ := hr hp0
    obtain ⟨l, hl, hp⟩ := exists_list (α := Int × Int) (P := fun i s => W.cell? ⟨g, o + (i * 2 + 0), none⟩ = some (.int .i64 s.1) ∧ W.cell? ⟨g, o + (i * 2 + 1), none⟩ = some (.int .i64 s.2)) n (fun i hi => by
      obtain ⟨cs, q, y, h1, h2, h3⟩ := he i hi
      obtain ⟨c0, c1, rfl⟩ := list2 h1
      obtain ⟨xs, n2, _, _, _, hlen, hf⟩ := DataW.trod_struct Tryz.underlying64 h3
      match xs, hlen with
      | [y0, y1], _ =>
        have k0 := hf 0 _ rfl
        have k1 := hf 1 _ rfl
        simp only [List.getElem?_cons_zero, List.getElem?_cons_succ] at k0 k1
        obtain ⟨a, rfl, _⟩ := one_int Tryz.underlying3 k0
        obtain ⟨b, rfl, _⟩ := one_int Tryz.underlying3 k1
        exact ⟨(a, b), h2 0 _ rfl, h2 1 _ rfl⟩)
    refine ⟨some ⟨g, o, none⟩, n, cap, l, rfl, ⟨hl, by rw [Pk.iv_len, Ed.fl_len, hl], fun _ => ⟨g, o, rfl, hb, fun j u hu => ?_⟩⟩, hc, hn⟩
    obtain ⟨q, h1, rfl⟩ := Ed.fl_get hu
    obtain ⟨k0, k1⟩ := hp _ _ h1
    by_cases hj : j % 2 = 0
    · rw [if_pos hj]
      rwa [show o + (j / 2 * 2 + 0) = o + j by omega] at k0
    · rw [if_neg hj]
      rwa [show o + (j / 2 * 2 + 1) = o + j by omega] at k1
  · have : n = 0 := by omega
    subst this
    exact ⟨A, 0, cap, [], rfl, ⟨rfl, RdC.nil 2 W A⟩, hc, hn⟩
set_option maxRecDepth 100000 in
theorem open_place {q : Nat} {c0 c1 c2 : Value} {y : DataW H × List MemPlace} (h : DataW.trod enc Tryz.prog W 0 (fun _ => true) true q 32 [c0, c1, c2] = some y) : ∃ (id ep : Int) (P : Option Addr) (pn pc : Nat) (ps : List (Int × Int)), c0 = .int .i64 id ∧ c1 = .int .i64 ep ∧ c2 = .slice P pn pc ∧ (-9223372036854775808 ≤ id ∧ id ≤ 9223372036854775807) ∧ RdPs W P pn ps ∧ pn ≤ pc ∧ pn ≤ 9223372036854775807 := by
  obtain ⟨zs, n2, _, _, _, hlen2, hf2⟩ := DataW.trod_struct Tryz.underlying32 h
  match zs, hlen2 with
  | [z0, z1, z2], _ =>
    have k0 := hf2 0 _ rfl
    have k1 := hf2 1 _ rfl
    have k2 := hf2 2 _ rfl
    simp only [List.getElem?_cons_zero, List.getElem?_cons_succ] at k0 k1 k2
    obtain ⟨id, rfl, i1, i2⟩ := one_int Tryz.underlying3 k0
    obtain ⟨ep, rfl, _⟩ := one_int Tryz.underlying3 k1
    obtain ⟨P, pn, pc, ps, rfl, hp, hc, hn⟩ := one_pairs k2
    exact ⟨id, ep, P, pn, pc, ps, rfl, rfl, rfl, ⟨i1, i2⟩, hp, hc, hn⟩
set_option maxRecDepth 100000 in
theorem open_tableP {q : Nat} {cs : List Value} {y : DataW H × List MemPlace} (hl : cs.length = 9) (h : DataW.trod enc Tryz.prog W 0 (fun _ => true) true q 35 cs = some y) : ∃ s : Pk.Tb × List (Int × Int), cs = s.1.cells ∧ s.1.fits ∧ RdPs W s.1.P s.1.pn s.2 ∧ s.1.pn ≤ s.1.pc ∧ s.1.pn ≤ 9223372036854775807 := by
  obtain ⟨c0, c1, c2, c3, c4, c5, c6, c7, c8, rfl⟩ := list9 hl
  obtain ⟨xs, n, _, _, _, hlen, hf⟩ := DataW.trod_struct Tryz.underlying35 h
  match xs, hlen with
  | [y0, y1, y2, y3, y4, y5, y6], _ =>
    have h0 := hf 0 _ rfl
    have h1 := hf 1 _ rfl
    have h2 := hf 2 _ rfl
    have h3 := hf 3 _ rfl
    have h4 := hf 4 _ rfl
    have h5 := hf 5 _ rfl
    have h6 := hf 6 _ rfl
    simp only [List.getElem?_cons_zero, List.getElem?_cons_succ] at h0 h1 h2 h3 h4 h5 h6
    obtain ⟨sz, rfl, _⟩ := one_int Tryz.underlying3 h1
    obtain ⟨lv, rfl, l1, l2⟩ := one_int Tryz.underlying3 h2
    obtain ⟨ct, rfl, t1, t2⟩ := one_int Tryz.underlying3 h3
    obtain ⟨lo, rfl, g1⟩ := one_str h4
    obtain ⟨hi, rfl, g2⟩ := one_str h5
    obtain ⟨tp, rfl, _⟩ := one_int Tryz.underlying3 h6
    obtain ⟨id, ep, P, pn, pc, ps, rfl, rfl, rfl, hi2, hp, hc, hn⟩ := open_place h0
    exact ⟨(⟨id, ep, P, pn, pc, sz, lv, ct, lo, hi, tp⟩, ps), rfl, ⟨g1, g2, ⟨l1, l2⟩, ⟨t1, t2⟩, hi2⟩, hp, hc, hn⟩
end
end Go.Proofs.YthfcjlndaajkfaaGreat
namespace Go.Proofs.YthfcjlndaajkfaaGreat
open Go.RowKit
theorem ba_ext {a b : ByteArray} (h : a.data = b.data) : a = b := by cases a; cases b; simp_all
namespace Ed
/-- A place. -/
structure Pl where
  id : Int
  ep : Int
  ps : List (Int × Int)
/-- A table. -/
structure Ta where
  p : Pl
  sz : Int
  lv : Int
  ct : Int
  lo : ByteArray
  hi : ByteArray
  tp : Int
/-- A log. -/
structure Lo where
  p : Pl
  se : Int
/-- A version. -/
structure Ve where
  nx : Int
  sq : Int
  ls : List Lo
  ts : List Ta
/-- An edit. -/
structure Et where
  kd : Int
  id : Int
  n : Int
  p : Pl
  t : Ta
def Pl.eq (a b : Pl) : Bool := decide (a.id = b.id) && decide (a.ep = b.ep) && decide (a.ps = b.ps)
theorem Pl.eq_iff {a b : Pl} : a.eq b = true ↔ a = b := by
  obtain ⟨a1, a2, a3⟩ := a
  obtain ⟨b1, b2, b3⟩ := b
  simp [Pl.eq, and_assoc]
def seq (a b : ByteArray) : Bool := a.toList == b.toList
theorem seq_iff {a b : ByteArray} : seq a b = true ↔ a = b := by
  unfold seq
  rw [beq_iff_eq, ByteArray.toList_eq, ByteArray.toList_eq]
  refine ⟨fun h => ba_ext ?_, fun h => by rw [h]⟩
  have := congrArg List.toArray h
  simpa using this
def Ta.eq (a b : Ta) : Bool := a.p.eq b.p && decide (a.sz = b.sz) && decide (a.lv = b.lv) && decide (a.ct = b.ct) && seq a.lo b.lo && seq a.hi b.hi && decide (a.tp = b.tp)
theorem Ta.eq_iff {a b : Ta} : a.eq b = true ↔ a = b := by
  obtain ⟨a1, a2, a3, a4, a5, a6, a7⟩ := a
  obtain ⟨b1, b2, b3, b4, b5, b6, b7⟩ := b
  simp [Ta.eq, Pl.eq_iff, seq_iff, and_assoc]
def Lo.eq (a b : Lo) : Bool := decide (a.se = b.se) && a.p.eq b.p
theorem Lo.eq_iff {a b : Lo} : a.eq b = true ↔ a = b := by
  obtain ⟨a1, a2⟩ := a
  obtain ⟨b1, b2⟩ := b
  simp [Lo.eq, Pl.eq_iff, and_comm]
/-- Two rows, item by item. -/
def eqAll {α : Type} (eq : α → α → Bool) (a b : List α) : Bool := decide (a.length = b.length) && (List.range a.length).all fun i => match a[i]?, b[i]? with | some x, some y => eq x y | _, _ => false
theorem eqAll_iff {α : Type} {eq : α → α → Bool} (he : ∀ x y, eq x y = true ↔ x = y) {a b : List α} : eqAll eq a b = true ↔ a = b := by
  unfold eqAll
  rw [Bool.and_eq_true, decide_eq_true_iff, List.all_eq_true]
  constructor
  · rintro ⟨hl, h⟩
    refine List.ext_getElem hl fun i h1 h2 => ?_
    have := h i (List.mem_range.2 h1)
    rw [List.getElem?_eq_getElem h1, List.getElem?_eq_getElem h2] at this
    exact (he _ _).1 this
  · rintro rfl
    refine ⟨rfl, fun i hi => ?_⟩
    rw [List.mem_range] at hi
    rw [List.getElem?_eq_getElem hi]
    exact (he _ _).2 rfl
def Ve.eq (a b : Ve) : Bool := decide (a.nx = b.nx) && decide (a.sq = b.sq) && eqAll Lo.eq a.ls b.ls && eqAll Ta.eq a.ts b.ts
theorem Ve.eq_iff {a b : Ve} : a.eq b = true ↔ a = b := by
  obtain ⟨a1, a2, a3, a4⟩ := a
  obtain ⟨b1, b2, b3, b4⟩ := b
  simp [Ve.eq, eqAll_iff (fun x y => Lo.eq_iff), eqAll_iff (fun x y => Ta.eq_iff), and_assoc]
def Et.eq (a b : Et) : Bool := decide (a.kd = b.kd) && decide (a.id = b.id) && decide (a.n = b.n) && a.p.eq b.p && a.t.eq b.t
theorem Et.eq_iff {a b : Et} : a.eq b = true ↔ a = b := by
  obtain ⟨a1, a2, a3, a4, a5⟩ := a
  obtain ⟨b1, b2, b3, b4, b5⟩ := b
  simp [Et.eq, Pl.eq_iff, Ta.eq_iff, and_assoc]
def noP : Pl := ⟨0, 0, []⟩
def noT : Ta := ⟨noP, 0, 0, 0, ⟨#[]⟩, ⟨#[]⟩, 0⟩
def Pl.ok (p : Pl) : Bool := okP p.id p.ep p.ps
def Ta.ok (t : Ta) : Bool := okT ⟨t.p.id, t.p.ep, none, 0, 0, t.sz, t.lv, t.ct, t.lo, t.hi, t.tp⟩ t.p.ps
def taOf (x : Pk.Tb × List (Int × Int)) : Ta := ⟨⟨x.1.id, x.1.ep, x.2⟩, x.1.sz, x.1.lv, x.1.ct, x.1.lo, x.1.hi, x.1.tp⟩
def loOf (x : Lg × List (Int × Int)) : Lo := ⟨⟨x.1.id, x.1.ep, x.2⟩, x.1.se⟩
/-- The number of the log, or table, ahead of the i-th one: 0 ahead of the first. -/
def before (ids : List Int) : Nat → Int
  | 0 => 0
  | i + 1 => (ids[i]?).getD 0
/-- May the i-th log stand there? -/
def lokAt (L : List Lo) (i : Nat) : Bool :=
  match L[i]? with
  | none => true
  | some l => l.p.ok && (decide (i + 1 = L.length) && decide (l.se = -1) || from_ l.se 0 1099511627776) && decide (before (L.map (·.p.id)) i < l.p.id)
def tokAt (sq : Int) (L : List Ta) (i : Nat) : Bool :=
  match L[i]? with
  | none => true
  | some t => t.ok && decide (t.tp ≤ sq) && decide (before (L.map (·.p.id)) i < t.p.id)
/-- Have two tables of one level, from 1 on, keys between one another's ends? -/
def clash (a b : Ta) : Bool := decide (0 < a.lv) && decide (b.lv = a.lv) && (!Pk.lt b.hi a.lo && !Pk.lt a.hi b.lo)
def Ve.ids (v : Ve) : List Int := v.ls.map (·.p.id) ++ v.ts.map (·.p.id)
def Ve.plots (v : Ve) : List Int := (v.ls.map fun l => fl l.p.ps).flatten ++ (v.ts.map fun t => fl t.p.ps).flatten
def okLs (L : List Lo) : Bool := (List.range L.length).all (lokAt L)
def okTs (sq : Int) (L : List Ta) : Bool := (List.range L.length).all (tokAt sq L)
def apartB (L : List Ta) : Bool := (List.range L.length).all fun i => (List.range i).all fun k => match L[i]?, L[k]? with | some a, some b => !clash a b | _, _ => true
def head (v : Ve) : Bool := from_ v.nx 1 2147483647 && from_ v.sq 0 1099511627776 && decide (v.ls.length ≤ 32) && decide (v.ts.length ≤ 128)
/-- May a version be? -/
def Ve.ok (v : Ve) : Bool := head v && okLs v.ls && okTs v.sq v.ts && v.ids.all (fun x => decide (x < v.nx)) && decide v.ids.Nodup && decide v.plots.Nodup && apartB v.ts
/-- May an edit be? -/
def Et.ok (e : Et) : Bool :=
  if e.kd = 1 then from_ e.n 1 2147483647 && decide (e.id = 0) && e.p.eq noP && e.t.eq noT
  else if e.kd = 2 then from_ e.n 0 1099511627776 && decide (e.id = 0) && e.p.eq noP && e.t.eq noT
  else if e.kd = 3 then e.p.ok && decide (e.id = 0) && decide (e.n = 0) && e.t.eq noT
  else if e.kd = 4 then from_ e.id 1 2147483647 && from_ e.n 0 1099511627776 && e.p.eq noP && e.t.eq noT
  else if e.kd = 5 then from_ e.id 1 2147483647 && decide (e.n = 0) && e.p.eq noP && e.t.eq noT
  else if e.kd = 6 then e.t.ok && decide (e.id = 0) && decide (e.n = 0) && e.p.eq noP
  else if e.kd = 7 then from_ e.id 1 2147483647 && decide (e.n = 0) && e.p.eq noP && e.t.eq noT
  else false
/-- How many stand ahead of a number. -/
def pos (ids : List Int) (x : Int) : Nat := (ids.takeWhile fun y => decide (y < x)).length
def put {α : Type} (L : List α) (k : Nat) (x : α) : List α := L.take k ++ x :: L.drop k
def cut {α : Type} (L : List α) (k : Nat) : List α := L.take k ++ L.drop (k + 1)
def find (ids : List Int) (x : Int) : Option Nat := ids.findIdx? fun y => decide (y = x)
/-- An edit that may be is done. -/
def do1 (v : Ve) (e : Et) : Option Ve :=
  if e.kd = 1 then if v.nx ≤ e.n then some { v with nx := e.n } else none
  else if e.kd = 2 then if v.sq ≤ e.n then some { v with sq := e.n } else none
  else if e.kd = 3 then match find (v.ls.map (·.p.id)) e.p.id with
    | some _ => none
    | none => some { v with ls := put v.ls (pos (v.ls.map (·.p.id)) e.p.id) ⟨e.p, -1⟩ }
  else if e.kd = 4 then match find (v.ls.map (·.p.id)) e.id with
    | none => none
    | some k => match v.ls[k]? with
      | none => none
      | some l => if l.se = -1 then some { v with ls := v.ls.set k ⟨l.p, e.n⟩ } else none
  else if e.kd = 5 then match find (v.ls.map (·.p.id)) e.id with
    | none => none
    | some k => some { v with ls := cut v.ls k }
  else if e.kd = 6 then match find (v.ts.map (·.p.id)) e.t.p.id with
    | some _ => none
    | none => some { v with ts := put v.ts (pos (v.ts.map (·.p.id)) e.t.p.id) e.t }
  else match find (v.ts.map (·.p.id)) e.id with
    | none => none
    | some k => some { v with ts := cut v.ts k }
def noV : Ve := ⟨0, 0, [], []⟩
/-- Edits from the i-th one on. -/
def go (v : Ve) : List Et → Nat → Ve × Nat × Nat
  | [], i => if v.ok then (v, 0, 0) else (noV, i, 150)
  | e :: r, i => if e.ok then match do1 v e with
      | some v' => go v' r (i + 1)
      | none => (noV, i, 150)
    else (noV, i, 150)
def apply (v : Ve) (l : List Et) : Ve × Nat × Nat := if v.ok then go v l 0 else (noV, 0, 151)
def logEd (l : Lo) : List Et := ⟨3, 0, 0, l.p, noT⟩ :: if l.se = -1 then [] else [⟨4, l.p.id, l.se, noP, noT⟩]
def make (v : Ve) : List Et := if v.ok then ⟨1, 0, v.nx, noP, noT⟩ :: ⟨2, 0, v.sq, noP, noT⟩ :: ((v.ls.map logEd).flatten ++ v.ts.map fun t => ⟨6, 0, 0, noP, t⟩) else []
theorem okLs_at {L : List Lo} (h : okLs L = true) {i : Nat} (hi : i < L.length) : lokAt L i = true := by
  unfold okLs at h
  rw [List.all_eq_true] at h
  exact h i (List.mem_range.2 hi)
theorem okLs_no {L : List Lo} {i : Nat} (hi : i < L.length) (h : lokAt L i = false) : okLs L = false := by
  rw [Bool.eq_false_iff]
  intro h2
  rw [okLs_at h2 hi] at h
  cases h
theorem okLs_yes {L : List Lo} (h : ∀ i, i < L.length → lokAt L i = true) : okLs L = true := by
  unfold okLs
  rw [List.all_eq_true]
  exact fun i hi => h i (List.mem_range.1 hi)
theorem okTs_at {s : Int} {L : List Ta} (h : okTs s L = true) {i : Nat} (hi : i < L.length) : tokAt s L i = true := by
  unfold okTs at h
  rw [List.all_eq_true] at h
  exact h i (List.mem_range.2 hi)
theorem okTs_no {s : Int} {L : List Ta} {i : Nat} (hi : i < L.length) (h : tokAt s L i = false) : okTs s L = false := by
  rw [Bool.eq_false_iff]
  intro h2
  rw [okTs_at h2 hi] at h
  cases h
theorem okTs_yes {s : Int} {L : List Ta} (h : ∀ i, i < L.length → tokAt s L i = true) : okTs s L = true := by
  unfold okTs
  rw [List.all_eq_true]
  exact fun i hi => h i (List.mem_range.1 hi)
theorem lokAt_eq {L : List Lo} {i : Nat} {l : Lo} (h : L[i]? = some l) : lokAt L i = (l.p.ok && (decide (i + 1 = L.length) && decide (l.se = -1) || from_ l.se 0 1099511627776) && decide (before (L.map (·.p.id)) i < l.p.id)) := by
  unfold lokAt; rw [h]
theorem tokAt_eq {s : Int} {L : List Ta} {i : Nat} {t : Ta} (h : L[i]? = some t) : tokAt s L i = (t.ok && decide (t.tp ≤ s) && decide (before (L.map (·.p.id)) i < t.p.id)) := by
  unfold tokAt; rw [h]
theorem before_succ {ids : List Int} {i : Nat} {x : Int} (h : ids[i]? = some x) : before ids (i + 1) = x := by simp [before, h]
theorem apartB_iff {L : List Ta} : apartB L = true ↔ ∀ (i k : Nat) (a b : Ta), k < i → L[i]? = some a → L[k]? = some b → clash a b = false := by
  unfold apartB
  rw [List.all_eq_true]
  constructor
  · intro h i k a b hk ha hb
    have hi : i < L.length := (List.getElem?_eq_some_iff.1 ha).1
    have h1 := h i (List.mem_range.2 hi)
    rw [List.all_eq_true] at h1
    have h2 := h1 k (List.mem_range.2 hk)
    rw [ha, hb] at h2
    simpa using h2
  · intro h i hi
    rw [List.all_eq_true]
    intro k hk
    rw [List.mem_range] at hi hk
    rw [List.getElem?_eq_getElem hi, List.getElem?_eq_getElem (by omega)]
    simp [h i k _ _ hk (List.getElem?_eq_getElem hi) (List.getElem?_eq_getElem (by omega))]
end Ed
end Go.Proofs.YthfcjlndaajkfaaGreat
namespace Go.Proofs.YthfcjlndaajkfaaGreat
open Go.RowKit
open Go.MapKept Go.ChangeMaps
def Q64 (q : Int) : Prop := -9223372036854775808 ≤ q ∧ q ≤ 9223372036854775807
theorem wf_of {q : Int} (h : Q64 q) : (Lit.int .i64 q).wf = true := by
  obtain ⟨h1, h2⟩ := h
  have h3 : IntKind.i64.min = -9223372036854775808 := by kernel_rfl
  have h4 : IntKind.i64.max = 9223372036854775807 := by kernel_rfl
  simp only [Lit.wf, h3, h4, decide_eq_true h1, decide_eq_true h2, Bool.and_self]
theorem setBlock_other {w : World} {b k : Nat} {o : Obj} (h : k ≠ b) : (setBlock w b o).heap[k]? = w.heap[k]? := by
  simp [setBlock, Ne.symm h]
theorem turned_below {w w' a : World} {b B : Nat} (h : w.mapTurned w' b) (hb : Below B a w) (hB : B ≤ b) : Below B a w' := by
  obtain ⟨es, ck, es', ck', _, rfl⟩ := h
  exact hb.trans ⟨rfl, rfl, rfl, by simp [setBlock], fun k hk => setBlock_other (by omega)⟩
set_option maxRecDepth 100000 in
theorem laidOut : laidOutB Tryz.prog = true := by kernel_rfl
set_option maxRecDepth 100000 in
theorem named_row : (102 : TypeId) < Tryz.prog.types.size := of_decide_eq_true (by kernel_rfl)
set_option maxRecDepth 100000 in
theorem named_wide : (match Tryz.prog.underlying 102 with | some (.array _ _) | some (.struct _) => true | _ => false) = true := by rw [Tryz.underlying102]
set_option maxRecDepth 100000 in
theorem named_law : Go.WideMaps.KeyLaw Tryz.prog 102 := deep_law_laid laidOut (m := 2) (by omega) named_row (by kernel_rfl) named_wide
theorem named_keyed : Maps.Keyed Tryz.prog 102 := Maps.Keyed.of_law named_law
def kk (a b : Int) : Lit := .string (keyBytes [.int .i64 a, .int .i64 b])
set_option maxRecDepth 100000 in
theorem kk_of {a b : Int} (ha : Q64 a) (hb : Q64 b) : keyOf Tryz.prog 102 (.agg #[.int .i64 a, .int .i64 b]) = some (kk a b) := by
  have h1 : Tryz.prog.keyType 102 = true := by kernel_rfl
  have c2 : Tryz.prog.cellsOf 102 = 2 := by kernel_rfl
  have c1 : Tryz.prog.cellsOf 3 = 1 := by kernel_rfl
  obtain ⟨k, hk⟩ : ∃ k, Tryz.prog.types.size = k + 1 := ⟨Tryz.prog.types.size - 1, (Nat.succ_pred_eq_of_pos (Nat.lt_of_le_of_lt (Nat.zero_le _) named_row)).symm⟩
  have hf : (Value.agg #[.int .i64 a, .int .i64 b]).formed Tryz.prog 102 = true := by simp [Value.formed, Tryz.underlying102, c2]
  unfold keyOf kk
  rw [Tryz.underlying102]
  simp only [h1, hf, hk, Bool.and_self, if_true]
  simp [Program.keyLits, Tryz.underlying102, Tryz.underlying3, c1, c2, Value.cells, wf_of ha, wf_of hb]
theorem kk_inj {a b c d : Int} (ha : Q64 a) (hb : Q64 b) (hc : Q64 c) (hd : Q64 d) (h : kk a b = kk c d) : a = c ∧ b = d := by
  have h1 := kk_of ha hb
  have h2 := kk_of hc hd
  rw [h] at h1
  have := named_keyed.inj h1 h2
  injection this with this
  injection this with this
  injection this with e1 e2
  injection e2 with e2 _
  injection e1 with _ e1
  injection e2 with _ e2
  exact ⟨e1, e2⟩
/-- Block b is a map of how often each key stands in a list. -/
def Km (w : World) (b n : Nat) (L : List (Int × Int)) : Prop := L.length ≤ n ∧ ∃ D : DataW Unit, w.ownsMap Tryz.prog 102 (plainElem Tryz.prog 3) b n D ∧ Maps.IsMap D ∧ ∀ q r, Q64 q → Q64 r → D.atKey (kk q r) (.lit (.int .i64 0)) = .lit (.int .i64 (L.count (q, r) : Nat))
section
variable {P : Program} {H : Type} {w : World} {t k e : TypeId} {R : Value → Option (DataW H × List MemPlace)} {b : Nat} {es : Array MapEntry} {clock : Nat}
open Go.WideMaps Go.WideElems in
theorem entry3 (K : Go.WideMaps.KeyLaw P k) (ht : P.underlying t = some (.map k e)) {z : Value} (hz : ∀ u : World, (zeroValue e).run P u = .ok z u) (hb : w.heap[b]? = some (.map es clock)) (F : Go.WideElems.Fit P k R es clock)
    {key : Value} {kl : Lit} (hkey : keyOf P k key = some kl) :
    ∃ (v0 : Value) (st : Nat) (es1 : Array MapEntry) (clock1 : Nat), (Instr.mapEntry t (.map (some b)) key).run P w = .ok (.tuple #[v0, goInt st]) (setBlock w b (.map es1 clock1)) ∧
      (Instr.lookup t (.map (some b)) key false).run P w = .ok v0 w ∧
      (Instr.mapUpdate t (.map (some b)) key v0).run P w = .ok () (setBlock w b (.map es1 clock1)) ∧
      ∀ (w2 : World) (val : Value), w2.heap[b]? = some (.map es1 clock1) → ∃ es' clock', (Instr.entryStore t (.map (some b)) (goInt st) val).run P w2 = .ok () (setBlock w2 b (.map es' clock')) ∧
        (Instr.mapUpdate t (.map (some b)) key val).run P w = .ok () (setBlock w b (.map es' clock')) := by
  obtain ⟨s1, s2, _⟩ := F.stamped
  rcases K.find w hkey es.toList F.keys with ⟨h1, h2⟩ | ⟨j, e0, h1, h2, h3⟩
  · refine ⟨z, clock, es.push ⟨key, z, clock⟩, clock + 1, ?_, ?_, ?_, fun w2 val hw2 => ⟨es.push ⟨key, val, clock⟩, clock + 1, ?_, ?_⟩⟩
    · simp [Instr.mapEntry, run_underlying ht, MapKept.run_getObj_map hb, K.check w false hkey, h1, hz, MapKept.run_setObj_map _ hb, Result.andThen, setBlock]
    · have hc := K.check w true hkey
      have hc2 := K.check w false hkey
      cases hes : es.isEmpty <;> simp [Instr.lookup, run_underlying ht, MapKept.run_getObj_map hb, hc, hc2, hes, h1, hz, Result.andThen]
    · simp [Instr.mapUpdate, run_underlying ht, MapKept.run_getObj_map hb, K.check w false hkey, h1, MapKept.run_setObj_map _ hb, Result.andThen, setBlock]
    · have hidx : (es.push ⟨key, z, clock⟩).findIdx? (fun e => ((e.born : Nat) : Int) == ((clock : Nat) : Int)) = some es.size := by
        rw [findIdx_arr]
        have := findIdx_born (l := (es.push ⟨key, z, clock⟩).toList) (j := es.size) (e0 := ⟨key, z, clock⟩) (by
          simp only [Array.toList_push, List.map_append, List.map_cons, List.map_nil]
          refine List.nodup_append.2 ⟨s2, by simp, fun a ha c hc e1 => ?_⟩
          simp only [List.mem_singleton] at hc
          obtain ⟨x, hx, rfl⟩ := List.mem_map.1 ha
          have := s1 x hx
          omega) (by simp)
        exact this
      have hmod : (es.push ⟨key, z, clock⟩).modify es.size (fun e => { e with val := val }) = es.push ⟨key, val, clock⟩ := by
        apply Array.ext'
        rw [Array.toList_modify, Array.toList_push, Array.toList_push, ← Array.length_toList, modify_last]
      simp [Instr.entryStore, MapKept.run_getObj_map hw2, asInt, asIntOf, goInt, hidx, hmod, MapKept.run_setObj_map _ hw2, Result.andThen, setBlock]
    · simp [Instr.mapUpdate, run_underlying ht, MapKept.run_getObj_map hb, K.check w false hkey, h1, MapKept.run_setObj_map _ hb, Result.andThen, setBlock]
  · have hj : es[j]? = some e0 := by simpa using h2
    have hsame : es.modify j (fun e => { e with key := key }) = es := by
      apply Array.ext'
      rw [Array.toList_modify, modify_eq_set _ _ _ _ h2]
      have : ({ e0 with key := key } : MapEntry) = e0 := by rw [← h3]
      rw [this]
      exact set_self _ _ _ h2
    have hsame2 : es.modify j (fun e => { e with key := key, val := e0.val }) = es := by
      apply Array.ext'
      rw [Array.toList_modify, modify_eq_set _ _ _ _ h2]
      have : ({ e0 with key := key, val := e0.val } : MapEntry) = e0 := by rw [← h3]
      rw [this]
      exact set_self _ _ _ h2
    refine ⟨e0.val, e0.born, es, clock, ?_, ?_, ?_, fun w2 val hw2 => ⟨es.modify j (fun e' => { e' with key := key, val := val }), clock, ?_, ?_⟩⟩
    · simp [Instr.mapEntry, run_underlying ht, MapKept.run_getObj_map hb, K.check w false hkey, h1, hj, h3, K.stays w hkey, hsame, MapKept.run_setObj_map _ hb, Result.andThen, setBlock]
    · have hc := K.check w true hkey
      have hc2 := K.check w false hkey
      cases hes : es.isEmpty <;> simp [Instr.lookup, run_underlying ht, MapKept.run_getObj_map hb, hc, hc2, hes, h1, Result.andThen]
    · simp [Instr.mapUpdate, run_underlying ht, MapKept.run_getObj_map hb, K.check w false hkey, h1, hj, h3, K.stays w hkey, hsame2, MapKept.run_setObj_map _ hb, Result.andThen, setBlock]
    · have hidx : es.findIdx? (fun e => ((e.born : Nat) : Int) == ((e0.born : Nat) : Int)) = some j := by
        rw [findIdx_arr]
        exact findIdx_born s2 h2
      have hmod : es.modify j (fun e => { e with val := val }) = es.modify j (fun e' => { e' with key := key, val := val }) := by
        apply Array.ext'
        rw [Array.toList_modify, Array.toList_modify, modify_eq_set _ _ _ _ h2, modify_eq_set _ _ _ _ h2, ← h3]
      simp [Instr.entryStore, MapKept.run_getObj_map hw2, asInt, asIntOf, goInt, hidx, hmod, MapKept.run_setObj_map _ hw2, Result.andThen, setBlock]
    · simp [Instr.mapUpdate, run_underlying ht, MapKept.run_getObj_map hb, K.check w false hkey, h1, hj, h3, K.stays w hkey, MapKept.run_setObj_map _ hb, Result.andThen, setBlock]
end
section
variable {w w' : World} {b n : Nat} {L : List (Int × Int)}
theorem Km.new (w : World) : Km (w.alloc (.map #[] 0)) w.heap.size 0 [] := ⟨Nat.le_refl _, _, World.ownsMap_made _ _ _ _, Maps.isMap_empty, fun _ _ _ _ => rfl⟩
theorem Km.lt (h : Km w b n L) : b < w.heap.size := by obtain ⟨_, D, h, _⟩ := h; exact h.lt
theorem Km.block (h : Km w b n L) (hb : w'.heap[b]? = w.heap[b]?) : Km w' b n L := by
  obtain ⟨h0, D, ⟨es, clock, h1, h2⟩, h3⟩ := h
  exact ⟨h0, D, ⟨es, clock, hb.trans h1, h2⟩, h3⟩
theorem Km.below (h : Km w b n L) (hb : Below w.heap.size w w') : Km w' b n L := h.block (hb.block b h.lt)
theorem Km.drew (h : Km w b n L) : Km w.drew b n L := h
set_option maxRecDepth 100000 in
theorem fzero_int (w : World) : (zeroValue 3).run Tryz.prog w = .ok (.int .i64 0) w := by kernel_rfl
set_option maxRecDepth 100000 in
theorem Km.look (h : Km w b n L) {q r : Int} (hq : Q64 q) (hr : Q64 r) : (Instr.lookup 99 (.map (some b)) (.agg #[.int .i64 q, .int .i64 r]) false).run Tryz.prog w = .ok (.int .i64 (L.count (q, r) : Nat)) w := by
  obtain ⟨h0, D, hD, hM, hA⟩ := h
  obtain ⟨c, he, hc, _⟩ := hD.lookup_int named_keyed Tryz.underlying99 Tryz.underlying3 (fzero_int w) (kk_of hq hr)
  rw [hA q r hq hr] at hc
  injection hc with hc
  injection hc with _ hc
  rw [hc]
  exact he
theorem count_snoc (L : List (Int × Int)) (q r x y : Int) : (L ++ [(q, r)]).count (x, y) = L.count (x, y) + if x = q ∧ y = r then 1 else 0 := by
  rw [List.count_append, List.count_singleton]
  congr 1
  by_cases h : x = q ∧ y = r
  · obtain ⟨rfl, rfl⟩ := h; simp
  · rw [if_neg h, if_neg]
    simp only [beq_iff_eq, Prod.mk.injEq]
    exact fun e => h ⟨e.1.symm, e.2.symm⟩
set_option maxRecDepth 100000 in
theorem Km.more (h : Km w b n L) (hn : n < 1000000) {q r v : Int} (hq : Q64 q) (hr : Q64 r) (hv : v = (L.count (q, r) : Nat) + 1) : ∃ w', (Instr.mapUpdate 99 (.map (some b)) (.agg #[.int .i64 q, .int .i64 r]) (.int .i64 v)).run Tryz.prog w = .ok () w' ∧ Km w' b (n + 1) (L ++ [(q, r)]) ∧ w.mapTurned w' b := by
  obtain ⟨h0, D, hD, hM, hA⟩ := h
  have hc : L.count (q, r) ≤ L.length := List.count_le_length
  obtain ⟨w', h1, h2, h3⟩ := hD.store named_keyed Tryz.underlying99 (by unfold maxLen; omega) (kk_of hq hr) (plainElem_int Tryz.underlying3 (wf_of (q := v) (by unfold Q64; omega)))
  refine ⟨w', h1, ⟨by rw [List.length_append]; simp; exact h0, _, h2, hM.put _ _, fun x y hx hy => ?_⟩, h3⟩
  rw [count_snoc]
  by_cases e : x = q ∧ y = r
  · obtain ⟨rfl, rfl⟩ := e
    rw [Maps.atKey_put_same (k := kk x y) hM (named_keyed.key (kk_of hq hr)), if_pos ⟨rfl, rfl⟩, hv]
    rfl
  · rw [Maps.atKey_put_other (fun h => e (kk_inj hx hy hq hr h)), hA x y hx hy, if_neg e]
    rfl
/-- One more of a key: the entry, what stands there behind it, and the store. -/
theorem Km.entry (h : Km w b n L) (hn : n < 1000000) {q r : Int} (hq : Q64 q) (hr : Q64 r) : ∃ (st : Nat) (w1 w2 : World),
    (Instr.mapEntry 99 (.map (some b)) (.agg #[.int .i64 q, .int .i64 r])).run Tryz.prog w = .ok (.tuple #[.int .i64 (L.count (q, r) : Nat), goInt st]) w1 ∧
    (Instr.lookup 99 (.map (some b)) (.agg #[.int .i64 q, .int .i64 r]) false).run Tryz.prog w1 = .ok (.int .i64 (L.count (q, r) : Nat)) w1 ∧
    (Instr.entryStore 99 (.map (some b)) (goInt st) (.int .i64 ((L.count (q, r) : Nat) + 1))).run Tryz.prog w1 = .ok () w2 ∧
    Km w2 b (n + 1) (L ++ [(q, r)]) ∧ w.mapTurned w2 b := by
  have hlook := h.look hq hr
  obtain ⟨wu, hu, hK, hT⟩ := h.more hn hq hr rfl
  obtain ⟨h0, D, hD, hM, hA⟩ := h
  have hc : L.count (q, r) ≤ L.length := List.count_le_length
  obtain ⟨wq, hq1, hq2, _⟩ := hD.store named_keyed Tryz.underlying99 (by unfold maxLen; omega) (kk_of hq hr) (plainElem_int Tryz.underlying3 (wf_of (q := ((L.count (q, r) : Nat) : Int)) (by unfold Q64; omega)))
  obtain ⟨c, he, hc2, _⟩ := hq2.lookup_int named_keyed Tryz.underlying99 Tryz.underlying3 (fzero_int wq) (kk_of hq hr)
  rw [Maps.atKey_put_same hM (named_keyed.key (kk_of hq hr))] at hc2
  injection hc2 with hc2
  injection hc2 with _ hc2
  subst hc2
  obtain ⟨es, clock, hb, hF, _⟩ := hD
  obtain ⟨v0, st, es1, clock1, e1, e2, e3, e4⟩ := entry3 named_law Tryz.underlying99 fzero_int hb hF (kk_of hq hr)
  rw [e2] at hlook
  injection hlook with hlook _
  subst hlook
  rw [e3] at hq1
  injection hq1 with _ hq1
  have hlt := (Array.getElem?_eq_some_iff.1 hb).1
  have hb1 : (setBlock w b (.map es1 clock1)).heap[b]? = some (.map es1 clock1) := by simp [setBlock, hlt]
  obtain ⟨es', clock', f1, f2⟩ := e4 _ (.int .i64 ((L.count (q, r) : Nat) + 1)) hb1
  rw [f2] at hu
  injection hu with _ hu
  have hset : setBlock (setBlock w b (.map es1 clock1)) b (.map es' clock') = wu := by rw [← hu]; simp [setBlock]
  rw [hset] at f1
  rw [hq1] at e1 f1
  exact ⟨st, wq, wu, e1, he, f1, hK, hT⟩
theorem Km.entry0 (h : Km w b n L) (hn : n < 1000000) {q r : Int} (hq : Q64 q) (hr : Q64 r) (hc : L.count (q, r) = 0) : ∃ (st : Nat) (w1 w2 : World),
    (Instr.mapEntry 99 (.map (some b)) (.agg #[.int .i64 q, .int .i64 r])).run Tryz.prog w = .ok (.tuple #[.int .i64 0, (.int .i64 (st : Nat))]) w1 ∧
    (Instr.lookup 99 (.map (some b)) (.agg #[.int .i64 q, .int .i64 r]) false).run Tryz.prog w1 = .ok (.int .i64 0) w1 ∧
    (Instr.entryStore 99 (.map (some b)) ((.int .i64 (st : Nat))) (.int .i64 1)).run Tryz.prog w1 = .ok () w2 ∧
    Km w2 b (n + 1) (L ++ [(q, r)]) ∧ w.mapTurned w2 b := by
  obtain ⟨st, w1, w2, h1, h2, h3, h4, h5⟩ := h.entry hn hq hr
  rw [hc] at h1 h2 h3
  exact ⟨st, w1, w2, h1, h2, h3, h4, h5⟩
theorem Km.entry1 (h : Km w b n L) (hn : n < 1000000) {q r : Int} (hq : Q64 q) (hr : Q64 r) (hc : L.count (q, r) = 1) : ∃ (st : Nat) (w1 w2 : World),
    (Instr.mapEntry 99 (.map (some b)) (.agg #[.int .i64 q, .int .i64 r])).run Tryz.prog w = .ok (.tuple #[.int .i64 1, (.int .i64 (st : Nat))]) w1 ∧
    (Instr.lookup 99 (.map (some b)) (.agg #[.int .i64 q, .int .i64 r]) false).run Tryz.prog w1 = .ok (.int .i64 1) w1 ∧
    (Instr.entryStore 99 (.map (some b)) ((.int .i64 (st : Nat))) (.int .i64 2)).run Tryz.prog w1 = .ok () w2 ∧
    Km w2 b (n + 1) (L ++ [(q, r)]) ∧ w.mapTurned w2 b := by
  obtain ⟨st, w1, w2, h1, h2, h3, h4, h5⟩ := h.entry hn hq hr
  rw [hc] at h1 h2 h3
  exact ⟨st, w1, w2, h1, h2, h3, h4, h5⟩
end
end Go.Proofs.YthfcjlndaajkfaaGreat
namespace Go.Proofs.YthfcjlndaajkfaaGreat
open Go.RowKit
theorem manyL : Many 4 22 62 (.agg #[.int .i64 0, .int .i64 0, .slice none 0 0, .int .i64 0]) 48 := ⟨by kernel_rfl, Tryz.underlying22, by kernel_rfl, by decide, by decide⟩
theorem manyPr : Many 2 30 64 (.agg #[.int .i64 0, .int .i64 0]) 16 := ⟨by kernel_rfl, Tryz.underlying30, by kernel_rfl, by decide, by decide⟩
/-- Cells of a row, some of them written anew. -/
def laidAt (vs : List Value) (o : Nat) (us : List Value) : List Value := vs.take o ++ us ++ vs.drop (o + us.length)
theorem laidAt_cons {vs : List Value} {o : Nat} {u : Value} {us : List Value} (h : o < vs.length) : laidAt vs o (u :: us) = laidAt (vs.set o u) (o + 1) us := by
  unfold laidAt
  rw [List.take_set, List.drop_set_of_lt (by omega), List.length_cons, show o + (us.length + 1) = o + 1 + us.length by omega, List.take_add_one]
  rw [List.getElem?_eq_getElem h]
  simp only [Option.toList_some]
  rw [List.set_append_right _ _ (by rw [List.length_take]; omega)]
  rw [List.length_take, Nat.min_eq_left (by omega), Nat.sub_self]
  simp
section
variable {s : Nat} {w w' : World} {base n cap g : Nat} {vs : List Value} {E : TypeId}
theorem OwnC.cellAt (h : OwnC s w base E (some ⟨g, 0, none⟩) n cap vs) {j : Nat} {x : Value} (hx : vs[j]? = some x) : w.cell? ⟨g, j, none⟩ = some x := by
  have hj : j < n * s := by have := (List.getElem?_eq_some_iff.1 hx).1; have := h.1; omega
  rw [World.ownsRow.cellAt h j hj]; exact hx
theorem OwnC.freeAt (h : OwnC s w base E (some ⟨g, 0, none⟩) n cap vs) (j : Nat) : w.frozen? ⟨g, j, none⟩ = false := World.ownsRow.frozenAt h j
theorem OwnC.set1 (h : OwnC s w base E (some ⟨g, 0, none⟩) n cap vs) (j : Nat) (u : Value) : OwnC s (w.setCell ⟨g, j, none⟩ u) base E (some ⟨g, 0, none⟩) n cap (vs.set j u) ∧ w.grownBy (w.setCell ⟨g, j, none⟩ u) (some g) := World.ownsRow.stored h j u
theorem OwnC.laid : ∀ (us : List Value) (o : Nat) {w : World} {vs : List Value}, OwnC s w base E (some ⟨g, 0, none⟩) n cap vs → o + us.length ≤ n * s → OwnC s (w.setCells g o us) base E (some ⟨g, 0, none⟩) n cap (laidAt vs o us) ∧ w.grownBy (w.setCells g o us) (some g)
  | [], o, w, vs, h, _ => by
    refine ⟨?_, World.grownBy.refl w _⟩
    have e : laidAt vs o [] = vs := by unfold laidAt; simp
    rw [e]; exact h
  | u :: us, o, w, vs, h, ho => by
    rw [List.length_cons] at ho
    obtain ⟨h1, g1⟩ := h.set1 o u
    obtain ⟨h2, g2⟩ := OwnC.laid us (o + 1) h1 (by omega)
    rw [laidAt_cons (by have := h.1; omega)]
    exact ⟨h2, g1.trans g2⟩
section
variable {A : Option Addr}
/-- A cell of another block is written. -/
theorem OwnC.far_ {s : Nat} {w : World} {base n cap b i : Nat} {vs : List Value} {E : TypeId} {u : Value} (h : OwnC s w base E A n cap vs) (hne : ∀ g, (Value.slice A n cap).ownBlock = some g → g ≠ b) : OwnC s (w.setCell ⟨b, i, none⟩ u) base E A n cap vs :=
  h.grown (row := some b) ⟨rfl, rfl, rfl, by simp [World.setCell], fun k hk hk2 => Below.heap_setCell _ _ _ _ (fun e => hk2 (by rw [e]))⟩ (.inr fun g hg e => hne g e (by injection hg with hg; exact hg.symm))
end
/-- There is room for one more: the row with it, whatever it holds. -/
theorem OwnC.one_more (h : OwnC s w base E (some ⟨g, 0, none⟩) n cap vs) (hc : n + 1 ≤ cap) : ∃ xs, xs.length = s ∧ OwnC s w base E (some ⟨g, 0, none⟩) (n + 1) cap (vs ++ xs) := by
  rcases h.2 with ⟨h', _⟩ | ⟨g', cap', cur, h', hb, hg, hnc, hcm, hcs, htake⟩
  · simp at h'
  · simp only [Value.slice.injEq, Option.some.injEq, Addr.mk.injEq, and_true, true_and] at h'
    obtain ⟨rfl, rfl⟩ := h'
    have hle : (n + 1) * s ≤ cap * s := Nat.mul_le_mul_right s hc
    have hl : cur.toList.length = cap * s := by simpa using hcs
    refine ⟨(cur.toList.drop (n * s)).take s, ?_, ?_⟩
    · rw [List.length_take, List.length_drop, hl]
      rw [Nat.succ_mul] at hle
      omega
    · have e : vs ++ (cur.toList.drop (n * s)).take s = cur.toList.take ((n + 1) * s) := by
        rw [← htake, Nat.succ_mul, List.take_add]
      rw [e]
      refine ⟨by rw [List.length_take, hl]; exact Nat.min_eq_left hle, .inr ⟨g, cap, cur, rfl, hb, hg, hc, hcm, hcs, rfl⟩⟩
theorem OwnC.shape (h : OwnC s w base E (some ⟨g, 0, none⟩) n cap vs) : w.shape? g = some (E, cap * s) := by
  rcases h.2 with ⟨h', _⟩ | ⟨g', cap', cur, h', hb, hg, hnc, hcm, hcs, htake⟩
  · simp at h'
  · simp only [Value.slice.injEq, Option.some.injEq, Addr.mk.injEq, and_true, true_and] at h'
    obtain ⟨rfl, rfl⟩ := h'
    unfold World.shape?
    rw [hg]
    simp [hcs]
/-- copy of m elements into a row. -/
theorem run_copyS {S : TypeId} {z : Value} {bytes : Nat} (O : Many s S E z bytes) (o dLen dCap : Nat) (ad : Addr) (sLen sCap m : Nat) (cs : List Value) (hm : m = Nat.min sLen dLen) (hl : cs.length = m * s)
    (hsrc : ∀ j v, cs[j]? = some v → w.cell? (ad.add j) = some v) (h1 : ∀ v ∈ cs, v.oneCell' = true) (h : OwnC s w base E (some ⟨g, 0, none⟩) n cap vs) (ho : o + cs.length ≤ n * s) (ty : TypeId) :
    (Builtin.copy_ #[S, S] ty #[.slice (some ⟨g, o, none⟩) dLen dCap, .slice (some ad) sLen sCap]).run Tryz.prog w = .ok (goInt m) (w.setCells g o cs) := by
  have hl2 := run_loadCells_list (P := Tryz.prog) w ad cs hsrc
  have hst := run_storeCells_cells (P := Tryz.prog) g o cs 0 w (fun j hj => by
    obtain ⟨x, hx⟩ : ∃ x, vs[o + j]? = some x := ⟨_, List.getElem?_eq_getElem (by have : vs.length = n * s := h.1; omega)⟩
    rw [Nat.add_zero, h.cellAt hx]; rfl) (fun j _ => h.freeAt _) h1
  simp only [Nat.add_zero] at hst
  obtain ⟨i, hi, hz0, hz1, hz2⟩ := info_parts O.info
  simp [Builtin.copy_, run_underlying O.under, Builtin.lenOf, Builtin.firstCells, sizeOf, typeInfo, hi, hz1, ← hm, ← hl, hl2, hst]
theorem OwnC.first (h : OwnC s w base E (some ⟨g, 0, none⟩) n cap vs) {k : Nat} (hk : k ≤ n) : OwnC s w base E (some ⟨g, 0, none⟩) k cap (vs.take (k * s)) := by
  rcases h.2 with ⟨h', _⟩ | ⟨g', cap', cur, h', hb, hg, hnc, hcm, hcs, htake⟩
  · simp at h'
  · simp only [Value.slice.injEq, Option.some.injEq, Addr.mk.injEq, and_true, true_and] at h'
    obtain ⟨rfl, rfl⟩ := h'
    have hle : k * s ≤ n * s := Nat.mul_le_mul_right s hk
    refine ⟨by rw [List.length_take, h.1]; exact Nat.min_eq_left hle, .inr ⟨g, cap, cur, rfl, hb, hg, by omega, hcm, hcs, ?_⟩⟩
    rw [← htake, List.take_take, Nat.min_eq_left hle]
end
theorem wpList_appN {s : Nat} {w : World} {base n cap : Nat} {A : Option Addr} {vs : List Value} {S E : TypeId} {z : Value} {bytes : Nat} (O : Many s S E z bytes) {ops : Array Oper} {rest : List Oper} {o : Oper} {a : Act} {Q : Exit → Act → World → Prop} (hgd : o.guard = none) (s1 x : Operand)
    (ho : o.op = .call { callee := .builtin .append, args := #[s1, x], argTypes := #[S, S] })
    (hs : a.eval s1 = .slice A n cap) (hown : OwnC s w base E A n cap vs) (B : Option Addr) (m c : Nat) (news : List Value) (h1 : ∀ u ∈ news, u.oneCell' = true) (hx : a.eval x = .slice B m c) (hr : RdC s w B m news) (hlen : n + m ≤ 1000000) (hbase : base ≤ w.heap.size)
    (h : ∀ A' cap' w', GrewC s w w' base E A A' n cap (n + m) cap' (vs ++ news) → wpList Tryz.prog ops Q rest (a.put o.dst (.slice A' (n + m) cap')) w') : wpList Tryz.prog ops Q (o :: rest) a w := by
  obtain ⟨A', cap', w', hrun, hg⟩ := run_appN O hown B m c news h1 hr hlen hbase o.type
  refine wpList_plain hgd fun K hK => ?_
  unfold Oper.wp execOp
  simp only [ho, resolve, invoke, builtin, Sem.run_bind, Sem.run_pure, Result.andThen_ok, List.map_toArray, List.map_cons, List.map_nil, hs, hx, hrun]
  exact hK _ _ (h A' cap' w' hg)
end Go.Proofs.YthfcjlndaajkfaaGreat
namespace Go.Proofs.YthfcjlndaajkfaaGreat
open Go.RowKit
set_option maxRecDepth 100000 in
theorem within_any (n low high : Int) (w : World) : Calls Tryz.prog 31 #[.int .i64 n, .int .i64 low, .int .i64 high] w fun e w' => e = .returned (.bool (Ed.from_ n low high)) ∧ w' = w := by
  unfold Ed.from_
  by_cases h1 : low ≤ n
  · by_cases h2 : n ≤ high
    · rw [decide_eq_true h1, decide_eq_true h2]
      go_enter Tryz.func31, Tryz.ntmps31
      go_wp2
      go_ret
      exact ⟨rfl, rfl⟩
    · rw [decide_eq_true h1, decide_eq_false h2]
      go_enter Tryz.func31, Tryz.ntmps31
      go_wp2
      go_ret
      exact ⟨rfl, rfl⟩
  · rw [decide_eq_false h1, Bool.false_and]
    go_enter Tryz.func31, Tryz.ntmps31
    go_wp2
    go_ret
    exact ⟨rfl, rfl⟩
set_option maxRecDepth 100000 in
theorem run_mk (v : World) : (Instr.makeMap 99 none).run Tryz.prog v = .ok (.map (some v.heap.size)) (v.alloc (.map #[] 0)) := by
  simp [Instr.makeMap, go_sem]
end Go.Proofs.YthfcjlndaajkfaaGreat
