/- Range, with rows in memory of the call's own. -/
import Derived.Test.YtfmbnoafmnbhcaaMmGetS
namespace Go.Proofs.Ytfmbnoafmnbhcaa
open Go.RowKit Go.Shelf
attribute [local go_sem] Oper.semAt_some
theorem own_kept {v v' : World} {base n c : Nat} {V : Option Addr} {l : List Nat} (h : Own v base V n c l) (h0 : 0 < n) {row : Option Nat} (hg : v.grownBy v' row) (hne : ∀ g o, V = some ⟨g, o, none⟩ → row ≠ some g) : Own v' base V n c l := by
  obtain ⟨g2, e2, _⟩ := h.form h0
  subst e2
  refine h.grown hg (.inr fun g e e3 => ?_)
  have : g2 = g := by simpa [Value.ownBlock] using e3
  exact hne g2 0 rfl (by rw [this]; exact e)
/-- Entries, each value's row in memory of the call's own. -/
def EntS (v : World) (base : Nat) (B : Option Addr) (m cap : Nat) (es : List (Bk.En × Bk.Sl)) : Prop := EntO v base B m cap es ∧ ∀ q ∈ es, 0 < q.2.2.1 → Own v base q.2.1 q.2.2.1 q.2.2.2 q.1.val
section
variable {v v' : World} {base m cap : Nat} {B : Option Addr} {es : List (Bk.En × Bk.Sl)}
theorem EntS.below (h : EntS v base B m cap es) (hb : Below v.heap.size v v') : EntS v' base B m cap es := ⟨h.1.below hb, fun q hq h0 => (h.2 q hq h0).below hb⟩
theorem EntS.set (h : EntS v base B m cap es) (a : Addr) (u : Value) (ha : a.block < base) : EntS (v.setCell a u) base B m cap es := ⟨h.1.set a u ha, fun q hq h0 => own_kept (h.2 q hq h0) h0 (grown_setCell v a u) (fun g o e e2 => by
  have h3 := h.2 q hq h0
  obtain ⟨g2, e4, h4, _⟩ := h3.form h0
  rw [e] at e4
  injection e4 with e4
  injection e4 with e4
  injection e2 with e2
  omega)⟩
theorem EntS.base_ {base' : Nat} (h : EntS v base B m cap es) (hb : base' ≤ base) : EntS v base' B m cap es := ⟨h.1.base_ hb, fun q hq h0 => own_base (h.2 q hq h0) hb⟩
theorem EntS.keepO (h : EntS v base B m cap es) {row : Option Nat} (hg : v.grownBy v' row) (hr : ∀ r, row = some r → ∃ o : Obj, v.heap[r]? = some o ∧ o.isCells = false) : EntS v' base B m cap es := ⟨h.1.keepO hg hr, fun q hq h0 => (h.2 q hq h0).keepO hg hr⟩
end
theorem EntS.none_ (w : World) (base : Nat) : EntS w base none 0 0 [] := ⟨EntO.none_ _ _, fun q hq => by cases hq⟩
theorem EntS.push {v v' : World} {base m cap cap' : Nat} {B B' : Option Addr} {es : List (Bk.En × Bk.Sl)} {x : Bk.En × Bk.Sl} (h : EntS v base B m cap es) (hx : Bk.At v x) (hO : 0 < x.2.2.1 → Own v base x.2.1 x.2.2.1 x.2.2.2 x.1.val) (hap : Bk.Apart base (Value.slice B m cap).ownBlock v.heap.size x) (hg : GrewC 4 v v' base 24 B B' m cap (m + 1) cap' (Bk.flat es ++ Bk.cells x)) : EntS v' base B' (m + 1) cap' (es ++ [x]) := by
  refine ⟨h.1.push hx hap hg, fun q hq h0 => ?_⟩
  rcases List.mem_append.1 hq with hq | hq
  · exact own_kept (h.2 q hq h0) h0 hg.grew (fun g o e => ((h.1.vals q hq).2 h0 g o e).2.2)
  · rcases List.mem_singleton.1 hq with rfl
    exact own_kept (hO h0) h0 hg.grew (fun g o e => (hap h0 g o e).2.2)
/-- A row of entries in memory of its own. -/
def GivesRangeS (w : World) (xs : List Bk.P) (e : Ending) (w' : World) : Prop :=
  ∃ (B : Option Addr) (c : Nat) (es : List Bk.P), e = .returned (.slice B es.length c) ∧ es.map (fun z => z.1) = xs.map (fun z => z.1) ∧ EntS w' w.heap.size B es.length c es ∧ Below w.heap.size w w'
/-- Between two rounds: what has come stands in the row. -/
def RanIS {α : Type} (f : α → Bk.P) (w : World) (high : ByteArray) (pre : List α) (W : World) : Prop :=
  ∃ (B : Option Addr) (c : Nat) (es : List Bk.P), es.map (fun z => z.1) = pre.map (fun z => (f z).1) ∧ Holds W w.heap.size [.string high] ∧ Boxed W (w.heap.size + 1) 30 (.slice B es.length c) ∧ EntS W (w.heap.size + 2) B es.length c es ∧ (∀ z ∈ pre, Bk.okH high (f z) = true) ∧ Below w.heap.size w W
/-- A round has left: there is one that is too high. -/
def RanXS {α : Type} (f : α → Bk.P) (w : World) (high : ByteArray) : Code → List α → World → Prop
  | .exit id, pre, W => id = 0 ∧ ∃ p x, pre = p ++ [x] ∧ Bk.okH high (f x) = false ∧ RanIS f w high p W
  | _, _, _ => False
theorem ranIS_own {α : Type} (f : α → Bk.P) {w : World} {high : ByteArray} {B : Nat} (hB : w.heap.size ≤ B) : OwnFrom B (RanIS f w high) := by
  rintro s A A' row ⟨B', c, es, h1, h2, h3, h4, h5, h6⟩ hg hr
  exact ⟨B', c, es, h1, h2.keepO hg (fun r e => (hr r e).2), Boxed.keepO h3 hg (fun r e => (hr r e).2), h4.keepO hg (fun r e => (hr r e).2), h5, h6.grown hg h6.size (fun g e => Nat.le_trans hB (hr g e).1)⟩
theorem ranXS_own {α : Type} (f : α → Bk.P) {w : World} {high : ByteArray} {B : Nat} (hB : w.heap.size ≤ B) (c : Code) : OwnFrom B (RanXS f w high c) := by
  intro s A A' row hs hg hr
  cases c with
  | exit id =>
    obtain ⟨h0, p, x, h1, h2, h3⟩ := hs
    exact ⟨h0, p, x, h1, h2, ranIS_own f hB p A A' row h3 hg hr⟩
  | _ => exact hs.elim
/-- What own hands back. -/
def OwnRS (W : World) (x : Bk.P) (v : Value) (w' : World) : Prop := ∃ (V : Option Addr) (c : Nat), v = .agg #[.string x.1.key, .int .i64 x.1.seq, .bool x.1.del, .slice V x.2.2.1 c] ∧ Bk.At w' (x.1, V, x.2.2.1, c) ∧ Own w' W.heap.size V x.2.2.1 c x.1.val ∧ Below W.heap.size W w'
/-- What lies behind the append. -/
theorem ran_appendS {w W v w6 : World} {B B6 : Option Addr} {c c6 c5 : Nat} {es : List Bk.P} {x : Bk.P} {V5 : Option Addr} {high : ByteArray} (hE : EntS W (w.heap.size + 2) B es.length c es) (h1 : Holds W w.heap.size [.string high]) (h2 : Boxed W (w.heap.size + 1) 30 (.slice B es.length c)) (h3 : Below w.heap.size w W) (hb : Below W.heap.size W v) (hA : Bk.At v (x.1, V5, x.2.2.1, c5)) (hfO : Own v W.heap.size V5 x.2.2.1 c5 x.1.val)
    (hg : GrewC 4 (v.alloc (.cells (Bk.cells (x.1, V5, x.2.2.1, c5)).toArray 24)) w6 (w.heap.size + 2) 24 B B6 es.length c (es.length + 1) c6 (Bk.flat es ++ Bk.cells (x.1, V5, x.2.2.1, c5))) :
    EntS w6 (w.heap.size + 2) B6 (es.length + 1) c6 (es ++ [(x.1, V5, x.2.2.1, c5)]) ∧ Holds w6 w.heap.size [.string high] ∧ Boxed w6 (w.heap.size + 1) 30 (.slice B es.length c) ∧ Below w.heap.size w w6 ∧ W.grownBy w6 (Value.slice B es.length c).ownBlock := by
  have ha := (Below.refl v.heap.size v).alloc (Nat.le_refl _) (.cells (Bk.cells (x.1, V5, x.2.2.1, c5)).toArray 24)
  have hf : 0 < x.2.2.1 → ∀ g o, V5 = some ⟨g, o, none⟩ → W.heap.size ≤ g := fun h0 g o e => by
    obtain ⟨g2, e2, h2, _⟩ := hfO.form h0
    rw [e] at e2
    injection e2 with e2
    injection e2 with e2
    omega
  have hba := below_next hb ha
  have hE2 := (hE.below hb).below ha
  have hA2 := hA.below ha
  have hsz := hb.size
  have hs2 := h2.lt
  have hne : ∀ g, (Value.slice B es.length c).ownBlock = some g → w.heap.size + 2 ≤ g := fun g e => (hE.1.row.blk g e).1
  refine ⟨hE2.push hA2 (fun _ => own_base (hfO.below ha) (by have := h2.lt; omega)) (fun h0 g o e => ?_) hg, (h1.below hba).grown hg.grew (fun e => by have := hne _ e; omega), (Boxed.below h2 hba).kept hg.grew (fun e => by have := hne _ e.symm; omega), (h3.trans (hba.mono h3.size)).grown hg.grew (by have := h3.size; have := hba.size; omega) (fun g e => by have := hne g e; omega), ?_⟩
  · have hge := hf h0 g o e
    obtain ⟨b', o', e', hb', _⟩ := hA.1.2.2 h0
    have e : V5 = some ⟨g, o, none⟩ := e
    have e' : V5 = some ⟨b', o', none⟩ := e'
    rw [e] at e'
    injection e' with e'
    injection e' with e'
    refine ⟨by omega, by simp; omega, fun e2 => ?_⟩
    have := (hE.1.row.blk g e2).2
    omega
  · exact ⟨hg.grew.os.trans hba.os, hg.grew.tape.trans hba.tape, hg.grew.output.trans hba.output, Nat.le_trans hba.size hg.grew.size, fun k hk hne2 => (hg.grew.block k (Nat.lt_of_lt_of_le hk hba.size) hne2).trans (hba.block k hk)⟩
/-- One round more. -/
theorem ran_roundS {α : Type} {f : α → Bk.P} {w W w6 : World} {B B6 : Option Addr} {c c6 c5 : Nat} {es : List Bk.P} {V5 : Option Addr} {high : ByteArray} {pre : List α} {z : α} (hm : es.map (fun z => z.1) = pre.map (fun z => (f z).1)) (h2 : Boxed W (w.heap.size + 1) 30 (.slice B es.length c)) (hE : EntS W (w.heap.size + 2) B es.length c es) (hok : ∀ y ∈ pre, Bk.okH high (f y) = true) (hs : w.heap.size ≤ W.heap.size) (hz : Bk.okH high (f z) = true)
    (h : EntS w6 (w.heap.size + 2) B6 (es.length + 1) c6 (es ++ [((f z).1, V5, (f z).2.2.1, c5)]) ∧ Holds w6 w.heap.size [.string high] ∧ Boxed w6 (w.heap.size + 1) 30 (.slice B es.length c) ∧ Below w.heap.size w w6 ∧ W.grownBy w6 (Value.slice B es.length c).ownBlock) :
    KeepsOthers W (w6.setCell ⟨w.heap.size + 1, 0, none⟩ (.slice B6 (es.length + 1) c6)) ∧ KpE w.heap.size W (w6.setCell ⟨w.heap.size + 1, 0, none⟩ (.slice B6 (es.length + 1) c6)) ∧ RanIS f w high (pre ++ [z]) (w6.setCell ⟨w.heap.size + 1, 0, none⟩ (.slice B6 (es.length + 1) c6)) := by
  obtain ⟨k1, k2, k3, k4, k5⟩ := h
  have hne : ∀ g, (Value.slice B es.length c).ownBlock = some g → w.heap.size + 2 ≤ g := fun g e => (hE.1.row.blk g e).1
  refine ⟨(KeepsOthers.of_grownBy k5 fun j o ej hj => ?_).trans (KeepsOthers.setCell _ _ _), ⟨((Below.refl _ _).grown k5 hs (fun g e => by have := hne g e; omega)).setCell (p := ⟨w.heap.size + 1, 0, none⟩) (by show w.heap.size ≤ w.heap.size + 1; omega) _, fun k cs fr hk => ?_⟩, ?_⟩
  · obtain ⟨cur, hc⟩ := hE.1.cellsRow ej
    rw [hc] at hj
    injection hj with hj
    subst hj
    rfl
  · have hlt := (Array.getElem?_eq_some_iff.1 hk).1
    have e1 : k ≠ w.heap.size + 1 := fun e => by
      subst e
      rw [show W.heap[w.heap.size + 1]? = _ from h2] at hk
      injection hk with hk
      injection hk with _ hk _
      exact absurd hk (by decide)
    have e2 : some k ≠ (Value.slice B es.length c).ownBlock := fun e => by
      obtain ⟨cur, hc⟩ := hE.1.cellsRow e.symm
      rw [hc] at hk
      injection hk with hk
      injection hk with _ hk _
      exact absurd hk (by decide)
    exact (Below.heap_setCell _ _ _ _ (fun e => e1 e)).trans ((k5.block k hlt e2).trans hk)
  · refine ⟨B6, c6, es ++ [((f z).1, V5, (f z).2.2.1, c5)], by simp [hm], k2.other (by omega), ?_, ?_, ?_, below_set k4 _ _ (by show w.heap.size ≤ w.heap.size + 1; omega)⟩
    · have := k3.set (.slice B6 (es.length + 1) c6)
      simpa using this
    · have := k1.set ⟨w.heap.size + 1, 0, none⟩ (.slice B6 (es.length + 1) c6) (by show w.heap.size + 1 < w.heap.size + 2; omega)
      simpa using this
    · intro y hy
      rcases List.mem_append.1 hy with hy | hy
      · exact hok y hy
      · rcases List.mem_singleton.1 hy with rfl
        exact hz
set_option maxRecDepth 100000 in
set_option maxHeartbeats 8000000 in
theorem rangeS_any (S : Nat → Prop) (m : Nat) (T : Bk.Tr) (top : Int) (low high : ByteArray) (w : World) (hM : Bk.IsM S w m T top) (hlen : (T.from_ ⟨low, 1099511627776, false, []⟩).length ≤ 100000) :
    Calls Try.prog 26 #[.pointer (some ⟨m, 0, none⟩), .string low, .string high] w (GivesRangeS w ((T.from_ ⟨low, 1099511627776, false, []⟩).takeWhile (Bk.okH high))) := by
  obtain ⟨xs, hxs⟩ : ∃ xs, xs = T.from_ ⟨low, 1099511627776, false, []⟩ := ⟨_, rfl⟩
  rw [← hxs] at hlen ⊢
  have HXs := Lib.hid hxs
  clear hxs
  obtain ⟨p, hH, hT, hSm⟩ := hM
  have HT := Lib.hid (isT_low (Nat.le_refl _) hT)
  have HM := Lib.hid hH
  have hm := hH.1
  clear hT hH hSm
  have HB := Lib.hid (show Below w.heap.size w (w.alloc (.cells #[Value.string high] 9)) from (Below.refl _ _).alloc (Nat.le_refl _) _)
  have HBa := Lib.hid (show Below w.heap.size w ((w.alloc (.cells #[Value.string high] 9)).alloc (.cells #[Value.slice none 0 0] 30)) from ((Below.refl _ _).alloc (Nat.le_refl _) _).alloc (by simp) _)
  have HZ := Lib.hid (ran_boxes w high)
  have HM1 := Lib.hid (HM.out.below HB.out)
  have HM2 := Lib.hid (HM.out.below HBa.out)
  have c1 := HM2.out.2.1 1 _ rfl
  refine (callsIn_wide (n := 9)).1 ?_
  refine callsIn_of_wp_marks Try.func26 rfl trivial ?_ rfl
  simp only [Try.ntmps26, List.size_toArray, List.length_cons, List.length_nil, Nat.reduceAdd, Nat.reduceSub, Array.replicate_succ, Array.replicate_zero, List.push_toArray, List.append_toArray, List.nil_append, List.cons_append]
  have HFr := Lib.hid (fun (u : World) => from_any p (⟨low, 1099511627776, false, []⟩, none, 0, 0) u)
  have HFr2 : Hid (∀ u, Calls Try.prog 34 #[.pointer p, .agg #[.string low, .int .i64 1099511627776, .bool false, .slice none 0 0], .func (.func 31) #[] #[]] u fun e w' => e = .returned (.func (.func 40) #[] #[.pointer (some ⟨u.heap.size, 0, none⟩), .pointer (some ⟨u.heap.size + 1, 0, none⟩), .pointer (some ⟨u.heap.size + 2, 0, none⟩)]) ∧
      Holds w' u.heap.size [.pointer p] ∧ Holds w' (u.heap.size + 1) (Bk.cells (⟨low, 1099511627776, false, []⟩, none, 0, 0)) ∧ Holds w' (u.heap.size + 2) [.func (.func 31) #[] #[]] ∧ Below u.heap.size u w') := Lib.hid HFr.out
  clear HFr
  gi_wp2_with (first
    | (refine ⟨trivial, ?_⟩; gi_at_call 32; refine (callsIn_wide.2 (made_any m _ _ HM1.out)).mono ?_; rintro e w1 ⟨rfl, rfl⟩)
    | (refine ⟨trivial, ?_⟩; gi_at_call 34; refine (callsIn_wide.2 (HFr2.out _)).mono ?_; rintro e v2 ⟨rfl, hb0, hb1, hb2, hb⟩))
  have HB2 := Lib.hid (below_next HBa.out hb)
  have HZ2 := Lib.hid (show Holds v2 w.heap.size [.string high] ∧ Boxed v2 (w.heap.size + 1) 30 (.slice none 0 0) from ⟨HZ.out.1.below hb, Boxed.below HZ.out.2 hb⟩)
  rw [World.size_alloc, World.size_alloc] at hb0 hb1 hb2
  have hq := (from_stops (Bk.AtS (fun k => w.heap.size ≤ k) w) 8 w.heap.size p T (⟨low, 1099511627776, false, []⟩, none, 0, 0) _ v2 HB2.out.size (HT.out.sm (.low HB2.out)) HT.out.entries hb0 hb1 hb2)
  dsimp only at hq
  rw [← HXs.out] at hq
  have HQ := Lib.hid hq
  clear hq hb0 hb1 hb2 hb c1 HZ HM1 HM2 HM hm HB HBa HFr2
  have HLn := Lib.hid hlen
  clear hlen
  refine wpIn_rangeFunc_ownH rfl (by decide) (gf := 40) (lb := #[.pointer (some ⟨w.heap.size + 1 + 1, 0, none⟩), .pointer (some ⟨w.heap.size + 1 + 1 + 1, 0, none⟩), .pointer (some ⟨w.heap.size + 1 + 1 + 2, 0, none⟩)]) rfl trivial (enters_of Try.func40 (by kernel_rfl) rfl) HQ.out KpE.trans (fun W l o o' h1 h2 h3 h4 => KpE.putObj HB2.out.size W l o o' h1 h2 h3 h4) (Below.refl _ _) (fun _ => rfl)
    (RanIS Subtype.val w high) (RanXS Subtype.val w high) (ranIS_own _ HB2.out.size) (ranXS_own _ HB2.out.size) ⟨none, 0, [], rfl, HZ2.out.1, HZ2.out.2, EntS.none_ _ _, (fun z hz => by cases hz), HB2.out⟩
    (fun x a' W => ∃ Bx, Holds W Bx (Bk.cells x.1) ∧ a' = { tmps := #[Value.pointer (some { block := m, off := 0 }), Value.string low, Value.string high, undef, undef,
          Value.pointer (some { block := w.heap.size, off := 0 }), Value.slice none 0 0,
          Value.pointer (some { block := w.heap.size + 1, off := 0 }), .pointer (some ⟨Bx, 0, none⟩),
          Value.pointer (some { block := m, off := 0 }), Value.bool true, Value.bool false,
          Value.pointer (some { block := m, off := 0 }), Value.pointer (some { block := m, off := 0 }),
          Value.pointer (some { block := m, off := 1 }), Value.pointer p, Value.string low,
          Value.agg #[Value.string low, Value.int IntKind.i64 1099511627776, Value.bool false, Value.slice none 0 0],
          Value.func (Fn.func 40) #[] #[Value.pointer (some { block := w.heap.size + 1 + 1, off := 0 }), Value.pointer (some { block := w.heap.size + 1 + 1 + 1, off := 0 }), Value.pointer (some { block := w.heap.size + 1 + 1 + 2, off := 0 })],
          .agg (Bk.cells x.1).toArray, undef, undef, undef, undef, undef, undef, undef, undef, undef, undef, undef, undef, undef, undef], defers := [] })
    (fun x a' => fun _ A A' row hs hg hr => by obtain ⟨Bx, h1, h2⟩ := hs; exact ⟨Bx, h1.keepO hg (fun r e => (hr r e).2), h2⟩) ?assign ?body ?done ?stop
  case assign =>
    rintro l pre ⟨⟨⟨key2, seq2, del2, val2⟩, V2, n2, c2⟩, hx⟩ W K hI hK
    have HI := Lib.hid hI
    have HKK := Lib.hid hK
    clear hI hK
    simp only [Bk.cells]
    gi_wp2
    have hn := Holds.new W #[Value.string key2, .int .i64 seq2, .bool del2, .slice V2 n2 c2] 59
    have hb := (Below.refl W.heap.size W).alloc (Nat.le_refl _) (.cells #[Value.string key2, .int .i64 seq2, .bool del2, .slice V2 n2 c2] 59)
    obtain ⟨B', c, es, h1, h2, h3, h4, h5, h6⟩ := HI.out
    exact HKK.out _ _ ((KeepsOthers.alloc _ _).from _) (KpE.of_below hb h6.size) ⟨B', c, es, h1, h2.below hb, Boxed.below h3 hb, h4.below hb, h5, below_next h6 hb⟩ ⟨W.heap.size, hn, rfl⟩
  case body =>
    rintro l pre ⟨⟨⟨key2, seq2, del2, val2⟩, V2, n2, c2⟩, hx⟩ a' W _ _ ⟨B', c, es, h1, h2, h3, h4, h5, h6⟩ ⟨Bx, hBx, rfl⟩ hlt
    have hBx : Holds W Bx [.string key2, .int .i64 seq2, .bool del2, .slice V2 n2 c2] := hBx
    have d0 := hBx.2.1 0 _ rfl
    have d1 := hBx.2.1 1 _ rfl
    have d2 := hBx.2.1 2 _ rfl
    have d3 := hBx.2.1 3 _ rfl
    have k0 := h2.2.1 0 _ rfl
    have s0 := Boxed.cell h3
    have HAt := Lib.hid (show Bk.At W (⟨key2, seq2, del2, val2⟩, V2, n2, c2) from (hx.sm (.low h6)).1)
    have Ow : Hid (Calls Try.prog 35 #[.agg #[.string key2, .int .i64 seq2, .bool del2, .slice V2 n2 c2]] W (GivesOwnS W (⟨key2, seq2, del2, val2⟩, V2, n2, c2))) := Lib.hid (ownS_any (⟨key2, seq2, del2, val2⟩, V2, n2, c2) W HAt.out)
    have HI := Lib.hid (And.intro h1 (And.intro h2 (And.intro h3 (And.intro h4 (And.intro h5 h6)))))
    have HLt := Lib.hid (Nat.lt_of_lt_of_le hlt HLn.out)
    clear h1 h2 h3 h4 h5 h6 hBx hlt
    simp only [Bk.cells]
    have hl := Bk.less_cmp key2 high
    cases hok : Bk.okH high (⟨key2, seq2, del2, val2⟩, V2, n2, c2) with
    | true =>
      have HOK := Lib.hid hok
      have hw : high = ⟨#[]⟩ ∨ (¬ high = ⟨#[]⟩ ∧ Bk.cmpS key2 high < 0) := okH_ways hok
      clear hok
      rcases hw with he | ⟨hne, hc⟩
      · have e1 : high.toList = [] := by rw [he, ByteArray.toList_eq]
        have e2 : high.toList.isEmpty = true := by rw [e1]; rfl
        clear hl he
        gi_wp2_with fail
        clear e1 e2
        have hm : Try.prog.follows .mixedOrders = true := by kernel_rfl
        have HS0 := Lib.hid (fun (u : World) (hu : Below W.heap.size W u) => (hu.cell (p := ⟨w.heap.size + 1, 0, none⟩) HI.out.2.2.1.lt).trans s0)
        refine wpIn_region_any hm ?_
        show wpAnyIn _ _ _ _ _ _ _ _ _ W.drew
        refine rd_chain (v0 := .slice B' es.length c) (v1 := .agg #[.string key2, .int .i64 seq2, .bool del2, .slice V2 n2 c2]) (f := 35) (args := #[.agg #[.string key2, .int .i64 seq2, .bool del2, .slice V2 n2 c2]]) (some 28) (some 29) (some 30) (some 31) (OwnRS W (⟨key2, seq2, del2, val2⟩, V2, n2, c2)) (fun _ w' => .slice (some ⟨w'.heap.size, 0, none⟩) 1 1) (fun v w' => w'.alloc (.cells (aggOf v) 24)) (by kernel_rfl) (by kernel_rfl) (by kernel_rfl) (by kernel_rfl) (by kernel_rfl) (by kernel_rfl) (by kernel_rfl) rfl rfl rfl rfl rfl rfl rfl rfl rfl rfl rfl rfl (by nofun) (by nofun) (by nofun) (by nofun) ?_ ?_ ?_ ?_ ?_ ?_ ?_ ?_ ?_ ?_ ?_ rfl (fun _ => rfl) (fun _ _ => rfl) ?_
        · go_simp
        · (try simp only [Act.put, List.setIfInBounds_toArray, List.set_cons_zero, List.set_cons_succ]); go_simp
        · rintro v w' ⟨V5, c5, rfl, h5, hf5, hb5⟩
          have s0' := HS0.out _ hb5
          (try simp only [Act.put, List.setIfInBounds_toArray, List.set_cons_zero, List.set_cons_succ]); go_simp
        · rintro v w' ⟨V5, c5, rfl, h5, hf5, hb5⟩
          have s0' := HS0.out _ (hb5.alloc hb5.size (.cells #[.string key2, .int .i64 seq2, .bool del2, .slice V5 n2 c5] 24))
          simp only [aggOf]
          (try simp only [Act.put, List.setIfInBounds_toArray, List.set_cons_zero, List.set_cons_succ]); go_simp
        · go_simp
        · (try simp only [Act.put, List.setIfInBounds_toArray, List.set_cons_zero, List.set_cons_succ]); go_simp
        · (try simp only [Act.put, List.setIfInBounds_toArray, List.set_cons_zero, List.set_cons_succ]); exact exec_call1 (run_enter Try.func35 (by kernel_rfl) (by kernel_rfl)) _ _ _ rfl rfl
        · (try simp only [Act.put, List.setIfInBounds_toArray, List.set_cons_zero, List.set_cons_succ]); exact exec_call1 (run_enter Try.func35 (by kernel_rfl) (by kernel_rfl)) _ _ _ rfl rfl
        · refine CallsIn.inRound l (callsIn_wide.2 ((show Calls _ _ _ _ (GivesOwnS W.drew (⟨key2, seq2, del2, val2⟩, V2, n2, c2)) from ownS_any (⟨key2, seq2, del2, val2⟩, V2, n2, c2) W.drew ⟨HAt.out.1.drew, HAt.out.2⟩).mono ?_))
          rintro e w' ⟨V5, c5, he, h5, hf5, hb5⟩
          exact ⟨_, he, V5, c5, rfl, h5, hf5, below_next (show Below W.heap.size W W.drew from (Below.refl _ _).drew) hb5⟩
        · rintro v w' ⟨V5, c5, rfl, h5, hf5, hb5⟩
          simp only [aggOf]
          (try simp only [Act.put, List.setIfInBounds_toArray, List.set_cons_zero, List.set_cons_succ]); go_simp
        · rintro v w' ⟨V5, c5, rfl, h5, hf5, hb5⟩
          simp only [aggOf]
          (try simp only [Act.put, List.setIfInBounds_toArray, List.set_cons_zero, List.set_cons_succ]); go_simp
        · rintro v w' ⟨V5, c5, rfl, h5, hf5, hb5⟩
          simp only [aggOf]
          (try simp only [Act.put, List.setIfInBounds_toArray, List.set_cons_zero, List.set_cons_succ])
          have HF := Lib.hid (And.intro h5 (And.intro hf5 hb5))
          clear h5 hf5
          have HEn := Lib.hid (((HI.out.2.2.2.1).below hb5).below ((Below.refl w'.heap.size w').alloc (Nat.le_refl _) (.cells #[Value.string key2, .int .i64 seq2, .bool del2, .slice V5 n2 c5] 24)))
          have hlen : es.length < 100000 := by
            have := congrArg List.length HI.out.1
            simp only [List.length_map] at this
            have := HLt.out
            omega
          have hbs : w.heap.size + 2 ≤ w'.heap.size := by
            have a1 := HI.out.2.2.1.lt
            have a2 := hb5.size
            omega
          obtain ⟨B6, c6, w6, hrun, hg⟩ := run_appC manyE HEn.out.1.row ⟨w'.heap.size, 0, none⟩ 1 1 (Bk.cells (⟨key2, seq2, del2, val2⟩, V5, n2, c5)) (Bk.cells_one _) (rdc_new 4 w' _ _ 1 rfl (0, 0)) (by omega) (by simp; omega) 0
          refine rd_one (i := 4) (v := .slice B6 (es.length + 1) c6) (w' := w6) (some 32) (by kernel_rfl) rfl rfl rfl (by nofun) (by exact exec_app _ _ _ _ _ rfl rfl rfl hrun) ?_
          (try simp only [Act.put, List.setIfInBounds_toArray, List.set_cons_zero, List.set_cons_succ])
          have hE6 := ran_appendS HI.out.2.2.2.1 HI.out.2.1 HI.out.2.2.1 HI.out.2.2.2.2.2 HF.out.2.2 HF.out.1 HF.out.2.1 hg
          have q0 := Boxed.cell hE6.2.2.1
          have q1 := Boxed.frozen hE6.2.2.1
          have HE6 := Lib.hid hE6
          clear hE6 hg hrun hb5
          refine rd_skip (i := 5) (w' := w6.setCell ⟨w.heap.size + 1, 0, none⟩ (.slice B6 (es.length + 1) c6)) none (by kernel_rfl) rfl rfl rfl (by nofun) (by go_simp) ?_
          refine wpAnyIn_done (by kernel_rfl) ?_ _
          clear q0 q1
          gi_wp2
          have hfin := ran_roundS (W := W) (pre := pre) (z := (⟨(⟨key2, seq2, del2, val2⟩, V2, n2, c2), hx⟩ : { x // Bk.AtS (fun k => w.heap.size ≤ k) w x })) (f := Subtype.val) (c5 := c5) (V5 := V5) HI.out.1 HI.out.2.2.1 HI.out.2.2.2.1 HI.out.2.2.2.2.1 HI.out.2.2.2.2.2.size HOK.out HE6.out
          exact ⟨hfin.1.from _, hfin.2.1, hfin.2.2⟩
      · have e1 := bytes_some hne
        have e2 := bytes_some' hne
        rw [decide_eq_true hc] at hl
        clear hne hc
        gi_wp2_with fail
        clear e1 e2 hl
        have hm : Try.prog.follows .mixedOrders = true := by kernel_rfl
        have HS0 := Lib.hid (fun (u : World) (hu : Below W.heap.size W u) => (hu.cell (p := ⟨w.heap.size + 1, 0, none⟩) HI.out.2.2.1.lt).trans s0)
        refine wpIn_region_any hm ?_
        show wpAnyIn _ _ _ _ _ _ _ _ _ W.drew
        refine rd_chain (v0 := .slice B' es.length c) (v1 := .agg #[.string key2, .int .i64 seq2, .bool del2, .slice V2 n2 c2]) (f := 35) (args := #[.agg #[.string key2, .int .i64 seq2, .bool del2, .slice V2 n2 c2]]) (some 28) (some 29) (some 30) (some 31) (OwnRS W (⟨key2, seq2, del2, val2⟩, V2, n2, c2)) (fun _ w' => .slice (some ⟨w'.heap.size, 0, none⟩) 1 1) (fun v w' => w'.alloc (.cells (aggOf v) 24)) (by kernel_rfl) (by kernel_rfl) (by kernel_rfl) (by kernel_rfl) (by kernel_rfl) (by kernel_rfl) (by kernel_rfl) rfl rfl rfl rfl rfl rfl rfl rfl rfl rfl rfl rfl (by nofun) (by nofun) (by nofun) (by nofun) ?_ ?_ ?_ ?_ ?_ ?_ ?_ ?_ ?_ ?_ ?_ rfl (fun _ => rfl) (fun _ _ => rfl) ?_
        · go_simp
        · (try simp only [Act.put, List.setIfInBounds_toArray, List.set_cons_zero, List.set_cons_succ]); go_simp
        · rintro v w' ⟨V5, c5, rfl, h5, hf5, hb5⟩
          have s0' := HS0.out _ hb5
          (try simp only [Act.put, List.setIfInBounds_toArray, List.set_cons_zero, List.set_cons_succ]); go_simp
        · rintro v w' ⟨V5, c5, rfl, h5, hf5, hb5⟩
          have s0' := HS0.out _ (hb5.alloc hb5.size (.cells #[.string key2, .int .i64 seq2, .bool del2, .slice V5 n2 c5] 24))
          simp only [aggOf]
          (try simp only [Act.put, List.setIfInBounds_toArray, List.set_cons_zero, List.set_cons_succ]); go_simp
        · go_simp
        · (try simp only [Act.put, List.setIfInBounds_toArray, List.set_cons_zero, List.set_cons_succ]); go_simp
        · (try simp only [Act.put, List.setIfInBounds_toArray, List.set_cons_zero, List.set_cons_succ]); exact exec_call1 (run_enter Try.func35 (by kernel_rfl) (by kernel_rfl)) _ _ _ rfl rfl
        · (try simp only [Act.put, List.setIfInBounds_toArray, List.set_cons_zero, List.set_cons_succ]); exact exec_call1 (run_enter Try.func35 (by kernel_rfl) (by kernel_rfl)) _ _ _ rfl rfl
        · refine CallsIn.inRound l (callsIn_wide.2 ((show Calls _ _ _ _ (GivesOwnS W.drew (⟨key2, seq2, del2, val2⟩, V2, n2, c2)) from ownS_any (⟨key2, seq2, del2, val2⟩, V2, n2, c2) W.drew ⟨HAt.out.1.drew, HAt.out.2⟩).mono ?_))
          rintro e w' ⟨V5, c5, he, h5, hf5, hb5⟩
          exact ⟨_, he, V5, c5, rfl, h5, hf5, below_next (show Below W.heap.size W W.drew from (Below.refl _ _).drew) hb5⟩
        · rintro v w' ⟨V5, c5, rfl, h5, hf5, hb5⟩
          simp only [aggOf]
          (try simp only [Act.put, List.setIfInBounds_toArray, List.set_cons_zero, List.set_cons_succ]); go_simp
        · rintro v w' ⟨V5, c5, rfl, h5, hf5, hb5⟩
          simp only [aggOf]
          (try simp only [Act.put, List.setIfInBounds_toArray, List.set_cons_zero, List.set_cons_succ]); go_simp
        · rintro v w' ⟨V5, c5, rfl, h5, hf5, hb5⟩
          simp only [aggOf]
          (try simp only [Act.put, List.setIfInBounds_toArray, List.set_cons_zero, List.set_cons_succ])
          have HF := Lib.hid (And.intro h5 (And.intro hf5 hb5))
          clear h5 hf5
          have HEn := Lib.hid (((HI.out.2.2.2.1).below hb5).below ((Below.refl w'.heap.size w').alloc (Nat.le_refl _) (.cells #[Value.string key2, .int .i64 seq2, .bool del2, .slice V5 n2 c5] 24)))
          have hlen : es.length < 100000 := by
            have := congrArg List.length HI.out.1
            simp only [List.length_map] at this
            have := HLt.out
            omega
          have hbs : w.heap.size + 2 ≤ w'.heap.size := by
            have a1 := HI.out.2.2.1.lt
            have a2 := hb5.size
            omega
          obtain ⟨B6, c6, w6, hrun, hg⟩ := run_appC manyE HEn.out.1.row ⟨w'.heap.size, 0, none⟩ 1 1 (Bk.cells (⟨key2, seq2, del2, val2⟩, V5, n2, c5)) (Bk.cells_one _) (rdc_new 4 w' _ _ 1 rfl (0, 0)) (by omega) (by simp; omega) 0
          refine rd_one (i := 4) (v := .slice B6 (es.length + 1) c6) (w' := w6) (some 32) (by kernel_rfl) rfl rfl rfl (by nofun) (by exact exec_app _ _ _ _ _ rfl rfl rfl hrun) ?_
          (try simp only [Act.put, List.setIfInBounds_toArray, List.set_cons_zero, List.set_cons_succ])
          have hE6 := ran_appendS HI.out.2.2.2.1 HI.out.2.1 HI.out.2.2.1 HI.out.2.2.2.2.2 HF.out.2.2 HF.out.1 HF.out.2.1 hg
          have q0 := Boxed.cell hE6.2.2.1
          have q1 := Boxed.frozen hE6.2.2.1
          have HE6 := Lib.hid hE6
          clear hE6 hg hrun hb5
          refine rd_skip (i := 5) (w' := w6.setCell ⟨w.heap.size + 1, 0, none⟩ (.slice B6 (es.length + 1) c6)) none (by kernel_rfl) rfl rfl rfl (by nofun) (by go_simp) ?_
          refine wpAnyIn_done (by kernel_rfl) ?_ _
          clear q0 q1
          gi_wp2
          have hfin := ran_roundS (W := W) (pre := pre) (z := (⟨(⟨key2, seq2, del2, val2⟩, V2, n2, c2), hx⟩ : { x // Bk.AtS (fun k => w.heap.size ≤ k) w x })) (f := Subtype.val) (c5 := c5) (V5 := V5) HI.out.1 HI.out.2.2.1 HI.out.2.2.2.1 HI.out.2.2.2.2.1 HI.out.2.2.2.2.2.size HOK.out HE6.out
          exact ⟨hfin.1.from _, hfin.2.1, hfin.2.2⟩
    | false =>
      obtain ⟨hne, hc⟩ := okH_no hok
      have e1 := bytes_some hne
      have e2 := bytes_some' hne
      rw [decide_eq_false hc] at hl
      have HOK := Lib.hid hok
      clear hne hc hok
      gi_wp2
      exact ⟨(KeepsOthers.refl _).from _, rfl, pre, _, rfl, HOK.out, B', c, es, HI.out⟩
  case done =>
    rintro D ys W hD hS ⟨B', c, es, h1, h2, h3, h4, h5, h6⟩ hK
    have HX := Lib.hid (ran_done hS h1 h5)
    clear hS
    have HH := Lib.hid (And.intro h2 (And.intro h4 h6))
    have s0 := Boxed.cell h3
    have HK := Lib.hid hK
    clear hK h1 h2 h3 h4 h5 h6
    gi_wp2
    have hg := grownBy_putObj' W D (.deferred none)
    have hr : ∀ r, some D = some r → ∃ o : Obj, W.heap[r]? = some o ∧ o.isCells = false := fun r e => by injection e with e; subst e; exact ⟨_, HK.out, rfl⟩
    refine ⟨by simp, .inl ⟨_, _, rfl, run_takeDeferred HK.out, ?_⟩⟩
    exact ⟨.slice B' es.length c, by simp [results, Try.results26, go_sem], B', c, es, rfl, by rw [HX.out.1]; exact HX.out.2, (HH.out.2.1.keepO hg hr).base_ (by omega), HH.out.2.2.trans (belowK_b (Nat.le_refl _) W D _ _ (Nat.le_trans HB2.out.size hD) HK.out rfl rfl)⟩
  case stop =>
    rintro D cd pre W hD hpre hX hK
    cases cd with
    | exit id =>
      obtain ⟨rfl, p', x, rfl, hx, ⟨B', c, es, h1, h2, h3, h4, h5, h6⟩⟩ := hX
      have HX := Lib.hid (ran_stop hpre h1 h5 hx)
      clear hpre hx
      have HH := Lib.hid (And.intro h2 (And.intro h4 h6))
      have s0 := Boxed.cell h3
      have HK := Lib.hid hK
      clear hK h1 h2 h3 h4 h5 h6
      gi_wp2
      have hg := grownBy_putObj' W D (.deferred none)
      have hr : ∀ r, some D = some r → ∃ o : Obj, W.heap[r]? = some o ∧ o.isCells = false := fun r e => by injection e with e; subst e; exact ⟨_, HK.out, rfl⟩
      refine ⟨by simp, .inl ⟨_, _, rfl, run_takeDeferred HK.out, ?_⟩⟩
      exact ⟨.slice B' es.length c, by simp [results, Try.results26, go_sem], B', c, es, rfl, by rw [HX.out.1]; exact HX.out.2, (HH.out.2.1.keepO hg hr).base_ (by omega), HH.out.2.2.trans (belowK_b (Nat.le_refl _) W D _ _ (Nat.le_trans HB2.out.size hD) HK.out rfl rfl)⟩
    | _ => exact hX.elim
end Go.Proofs.Ytfmbnoafmnbhcaa
