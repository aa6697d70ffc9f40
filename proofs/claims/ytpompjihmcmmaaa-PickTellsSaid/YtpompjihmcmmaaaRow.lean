/- Words for slices whose elements take one cell each, over whatever element type: a slice that reads as a list of values, one that the call owns, append of values, make, a cell written. -/
import Derived.Test.YtpompjihmcmmaaaBytes
namespace Go.Proofs.Ytpompjihmcmmaaa
open Go.RowKit
/-- A slice of n elements with this address reads as vs. -/
def RdV (w : World) (A : Option Addr) (n : Nat) (vs : List Value) : Prop :=
  vs.length = n ∧ (0 < n → ∃ b o, A = some ⟨b, o, none⟩ ∧ b < w.heap.size ∧ ∀ (j : Nat) (v : Value), vs[j]? = some v → w.cell? ⟨b, o + j, none⟩ = some v)
section
variable {w w' : World} {A : Option Addr} {n : Nat} {vs : List Value}
theorem RdV.nil (w : World) (A : Option Addr) : RdV w A 0 [] := ⟨rfl, by simp⟩
theorem RdV.keep (h : RdV w A n vs) (hs : w.heap.size ≤ w'.heap.size) (hk : ∀ p : Addr, p.block < w.heap.size → w'.cell? p = w.cell? p) : RdV w' A n vs := by
  refine ⟨h.1, fun hn => ?_⟩
  obtain ⟨b, o, rfl, hb, hc⟩ := h.2 hn
  exact ⟨b, o, rfl, by omega, fun j x hx => (hk _ hb).trans (hc j x hx)⟩
theorem RdV.below (h : RdV w A n vs) (hb : Below w.heap.size w w') : RdV w' A n vs := h.keep hb.size fun _ hp => hb.cell hp
theorem RdV.drew (h : RdV w A n vs) : RdV w.drew A n vs := h
theorem RdV.alloc (h : RdV w A n vs) (o : Obj) : RdV (w.alloc o) A n vs := h.below ((Below.refl _ _).alloc (Nat.le_refl _) o)
theorem RdV.at_ (h : RdV w A n vs) {k : Nat} (hk : k < n) : ∃ b o v, A = some ⟨b, o, none⟩ ∧ b < w.heap.size ∧ vs[k]? = some v ∧ w.cell? ⟨b, o + k, none⟩ = some v := by
  obtain ⟨b, o, rfl, hb, hc⟩ := h.2 (by omega)
  have hx : vs[k]? = some (vs[k]'(by rw [h.1]; exact hk)) := List.getElem?_eq_getElem _
  exact ⟨b, o, _, rfl, hb, hx, hc k _ hx⟩
theorem RdV.take (h : RdV w A n vs) {k : Nat} (hk : k ≤ n) : RdV w A k (vs.take k) := by
  refine ⟨by rw [List.length_take, h.1]; omega, fun hn => ?_⟩
  obtain ⟨b, o, rfl, hb, hc⟩ := h.2 (by omega)
  refine ⟨b, o, rfl, hb, fun j x hx => hc j x ?_⟩
  rw [List.getElem?_take] at hx
  split at hx
  · exact hx
  · cases hx
end
theorem Rd.row {w : World} {A : Option Addr} {n : Nat} {l : List Nat} (h : Rd w A n l) : RdV w A n (bv l) := by
  refine ⟨by rw [bv_length, h.1], fun hn => ?_⟩
  obtain ⟨b, o, rfl, hb, hc⟩ := h.2.2 hn
  refine ⟨b, o, rfl, hb, fun j v hv => ?_⟩
  unfold bv at hv
  rw [List.getElem?_map] at hv
  cases hx : l[j]? with
  | none => rw [hx] at hv; cases hv
  | some x => rw [hx] at hv; injection hv with hv; subst hv; exact hc j x hx
/-- A slice of the call's own that holds the values vs. -/
def OwnV (w : World) (base : Nat) (E : TypeId) (A : Option Addr) (n cap : Nat) (vs : List Value) : Prop :=
  vs.length = n ∧ w.ownsRow base E 1 (.slice A n cap) n vs
/-- An element type whose values take one cell: its zero and its bytes. -/
structure One (S E : TypeId) (z : Value) (bytes : Nat) : Prop where
  info : (Try.prog.info? E).map (fun i => (i.zero, i.size, i.bytes)) = some (some z, 1, bytes)
  under : Try.prog.underlying S = some (.slice E)
  zero : z.cells = #[z]
  few : bytes ≤ 100
section
variable {w w' : World} {base n cap : Nat} {A : Option Addr} {vs : List Value} {S E : TypeId} {z : Value} {bytes : Nat}
set_option maxRecDepth 100000 in
theorem OwnV.rd (h : OwnV w base E A n cap vs) : RdV w A n vs := by
  refine ⟨h.1, fun hn => ?_⟩
  rcases h.2.2 with ⟨hv, h0⟩ | ⟨g, c, cur, hv, hb, hg, hnc, hc, hs, ht⟩
  · omega
  · injection hv with hA _ _
    subst hA
    refine ⟨g, 0, rfl, (Array.getElem?_eq_some_iff.1 hg).1, fun j x hx => ?_⟩
    rw [Nat.zero_add, cell_of_row w g j cur _ (0, 0) hg]
    rw [← ht, List.getElem?_take] at hx
    split at hx
    · simpa using hx
    · cases hx
theorem OwnV.grown (h : OwnV w base E A n cap vs) {row : Option Nat} (hg : w.grownBy w' row) (hne : row = none ∨ ∀ g, row = some g → (Value.slice A n cap).ownBlock ≠ some g) : OwnV w' base E A n cap vs := by
  refine ⟨h.1, h.2.kept hg ?_⟩
  rcases hb : (Value.slice A n cap).ownBlock with _ | g
  · exact .inl rfl
  · refine .inr fun e => ?_
    rcases hne with e2 | e2
    · rw [e2] at e; cases e
    · exact e2 g e.symm hb
theorem OwnV.below (h : OwnV w base E A n cap vs) (hb : Below w.heap.size w w') : OwnV w' base E A n cap vs := h.grown (grown_of_below hb) (.inl rfl)
theorem OwnV.alloc (h : OwnV w base E A n cap vs) (o : Obj) : OwnV (w.alloc o) base E A n cap vs := h.below ((Below.refl _ _).alloc (Nat.le_refl _) o)
theorem OwnV.drew (h : OwnV w base E A n cap vs) : OwnV w.drew base E A n cap vs := h
theorem OwnV.none_ (w : World) (base : Nat) (E : TypeId) : OwnV w base E none 0 0 [] := ⟨rfl, World.ownsRow_nil w base E 1⟩
theorem OwnV.blk (h : OwnV w base E A n cap vs) : ∀ g, (Value.slice A n cap).ownBlock = some g → base ≤ g ∧ g < w.heap.size := h.2.lt
theorem OwnV.fits (h : OwnV w base E A n cap vs) : n ≤ cap := by
  rcases h.2.2 with ⟨hv, hn⟩ | ⟨g, c, cur, hv, _, _, hc, _⟩
  · omega
  · injection hv with _ _ h3
    omega
theorem OwnV.form (h : OwnV w base E A n cap vs) (hn : 0 < n) : ∃ g, A = some ⟨g, 0, none⟩ ∧ base ≤ g ∧ g < w.heap.size := by
  rcases h.2.2 with ⟨hv, h0⟩ | ⟨g, c, cur, hv, hb, hg, _⟩
  · omega
  · injection hv with hA _ _
    exact ⟨g, hA, hb, (Array.getElem?_eq_some_iff.1 hg).1⟩
theorem OwnV.base_ {base' : Nat} (h : OwnV w base E A n cap vs) (hb : base' ≤ base) : OwnV w base' E A n cap vs := by
  refine ⟨h.1, h.2.1, ?_⟩
  rcases h.2.2 with hn | ⟨g, c, cur, hv, hbg, rest⟩
  · exact .inl hn
  · exact .inr ⟨g, c, cur, hv, Nat.le_trans hb hbg, rest⟩
theorem OwnV.lit (w : World) (E : TypeId) (vs : List Value) (hb : base ≤ w.heap.size) (hm : vs.length ≤ 100000000) : OwnV (w.alloc (.cells vs.toArray E)) base E (some ⟨w.heap.size, 0, none⟩) vs.length vs.length vs :=
  ⟨rfl, by
    have := World.ownsRow_lit (base := base) (e := E) (size := 1) w vs.toArray vs.length hb (by simp only [maxLen]; omega) (by simp)
    simpa using this⟩
theorem OwnV.zeros (w : World) (E : TypeId) (z : Value) (base n : Nat) (hb : base ≤ w.heap.size) (hn : n ≤ 100000000) : OwnV (w.alloc (.cells (madeCells #[z] n) E)) base E (some ⟨w.heap.size, 0, none⟩) n n (List.replicate n z) := by
  refine ⟨by simp, ?_⟩
  have h := World.ownsRow_lit (base := base) (e := E) (size := 1) w (madeCells #[z] n) n hb (by simp only [maxLen]; omega) (by rw [size_madeCells, Nat.mul_one])
  rw [toList_madeCells_one] at h
  exact h
theorem OwnV.set {g : Nat} (h : OwnV w base E (some ⟨g, 0, none⟩) n cap vs) (j : Nat) (y : Value) : OwnV (w.setCell ⟨g, j, none⟩ y) base E (some ⟨g, 0, none⟩) n cap (vs.set j y) :=
  ⟨by rw [List.length_set]; exact h.1, (h.2.stored j _).1⟩
theorem OwnV.cell {g : Nat} (h : OwnV w base E (some ⟨g, 0, none⟩) n cap vs) {j : Nat} {x : Value} (hx : vs[j]? = some x) : w.cell? ⟨g, j, none⟩ = some x := by
  have hj : j < n := by have := (List.getElem?_eq_some_iff.1 hx).1; rw [h.1] at this; exact this
  rw [h.2.cellAt j (by omega)]
  exact hx
theorem OwnV.free {g : Nat} (h : OwnV w base E (some ⟨g, 0, none⟩) n cap vs) (j : Nat) : w.frozen? ⟨g, j, none⟩ = false := h.2.frozenAt j
theorem OwnV.far {g j : Nat} (h : OwnV w base E A n cap vs) (hg : g < base) (u : Value) : OwnV (w.setCell ⟨g, j, none⟩ u) base E A n cap vs := by
  refine h.grown (row := some g) ⟨rfl, rfl, rfl, by simp [World.setCell], fun k hk hne => Below.heap_setCell _ _ _ _ (fun e => hne (by rw [e]))⟩ (.inr fun g' hg' e => ?_)
  injection hg' with hg'
  have := (h.blk _ e).1
  omega
/-- make of n elements. -/
theorem make_row (O : One S E z bytes) (n : Nat) (hn : n ≤ 1000000) (w : World) : (Instr.makeSlice S (.int .i64 (n : Int)) (.int .i64 (n : Int))).run Try.prog w = .ok (.slice (some ⟨w.heap.size, 0, none⟩) n n) (w.alloc (.cells (madeCells #[z] n) E)) := by
  obtain ⟨i0, hi, hz0, hz1, hz2⟩ := info_parts O.info
  have hb : (i0.bytes : Int) * n ≤ 281474976710656 := by
    have h1 : i0.bytes * n ≤ 100 * 1000000 := Nat.mul_le_mul (by rw [hz2]; exact O.few) hn
    have h2 : ((i0.bytes * n : Nat) : Int) = (i0.bytes : Int) * n := by simp
    rw [← h2]; omega
  have hr := run_make (P := Try.prog) w S E i0 _ O.under hi hz0 .i64 .i64 n n (by omega) (by omega) hb (by omega)
  rw [hz1, O.zero] at hr
  rw [Int.toNat_natCast, Nat.mul_one] at hr
  exact hr
/-- What append leaves. -/
structure GrewV (w w' : World) (base : Nat) (E : TypeId) (A A' : Option Addr) (n cap n' cap' : Nat) (vs : List Value) : Prop where
  own : OwnV w' base E A' n' cap' vs
  grew : w.grownBy w' (Value.slice A n cap).ownBlock
  blk : (Value.slice A' n' cap').ownBlock = (Value.slice A n cap).ownBlock ∨ (Value.slice A' n' cap').ownBlock = some w.heap.size
theorem GrewV.below {a : World} {n' cap' : Nat} {A' : Option Addr} {B : Nat} (h : GrewV w w' base E A A' n cap n' cap' vs) (hb : Below B a w) (hB : B ≤ w.heap.size) (hr : ∀ g, (Value.slice A n cap).ownBlock = some g → B ≤ g) : Below B a w' :=
  hb.grown h.grew hB hr
set_option maxRecDepth 100000 in
theorem run_appV (O : One S E z bytes) (hown : OwnV w base E A n cap vs) (B : Option Addr) (m c : Nat) (news : List Value) (h1 : ∀ u ∈ news, u.oneCell' = true) (hr : RdV w B m news) (hlen : n + m ≤ 1000000) (hbase : base ≤ w.heap.size) (ty : TypeId) :
    ∃ A' cap' w', (Builtin.append_ #[S, S] ty #[.slice A n cap, .slice B m c]).run Try.prog w = .ok (.slice A' (n + m) cap') w' ∧ GrewV w w' base E A A' n cap (n + m) cap' (vs ++ news) := by
  obtain ⟨i0, hi, hz0, hz1, hz2⟩ := info_parts O.info
  have hlen2 : (vs ++ news).length = n + m := by rw [List.length_append, hown.1, hr.1]
  by_cases hB : ∃ ad, B = some ad
  · obtain ⟨ad, rfl⟩ := hB
    have hnews : ∀ j u, news[j]? = some u → w.cell? (ad.add j) = some u := by
      intro j u hu
      by_cases hm : 0 < m
      · obtain ⟨b, o, he, _, hc⟩ := hr.2 hm
        injection he with he
        subst he
        have e : (⟨b, o, none⟩ : Addr).add j = ⟨b, o + j, none⟩ := by unfold Addr.add; split <;> simp_all
        rw [e]
        exact hc j _ hu
      · have h0 : news = [] := List.eq_nil_of_length_eq_zero (by rw [hr.1]; omega)
        subst h0
        simp at hu
    have hbytes : (n + m) * bytes ≤ 140737488355328 := by
      have : (n + m) * bytes ≤ 1000000 * 100 := Nat.mul_le_mul hlen O.few
      omega
    obtain ⟨v', w', hrun, h2, h3, _, h5⟩ := run_append_own_at (P := Try.prog) w base S ty E i0 z 1 bytes O.under hi hz0 hz1 hz2 (by rw [O.zero]; rfl) (by omega) (.slice A n cap) n vs hown.2 ad m c news
      (by rw [hr.1, Nat.mul_one]) hnews h1 (by simp only [maxLen]; omega) hbytes hbase
    have hf : ∃ A' cap', v' = .slice A' (n + m) cap' := by
      rcases h2.2 with ⟨hv, h0⟩ | ⟨g, c', cur, hv, _⟩
      · exact ⟨none, 0, by rw [hv, h0]⟩
      · exact ⟨_, _, hv⟩
    obtain ⟨A', cap', rfl⟩ := hf
    exact ⟨A', cap', w', hrun, ⟨hlen2, h2⟩, h3, h5⟩
  · have hB : B = none := by
      rcases B with _ | ad
      · rfl
      · exact absurd ⟨ad, rfl⟩ hB
    subst hB
    have hm : m = 0 := by
      rcases Nat.eq_zero_or_pos m with h0 | h0
      · exact h0
      · obtain ⟨b, o, he, _⟩ := hr.2 h0
        cases he
    subst hm
    have h0 : news = [] := List.eq_nil_of_length_eq_zero hr.1
    subst h0
    have hrun : (Builtin.append_ #[S, S] ty #[.slice A n cap, .slice none 0 c]).run Try.prog w = .ok (.slice A n cap) w := by
      rcases hown.2.2 with ⟨hv, hn0⟩ | ⟨g, c', cur, hv, _, _, hnc, _⟩
      · rw [hv]
        simp [Builtin.append_, run_underlying O.under, sizeOf, typeInfo, hi, Builtin.lenOf, Builtin.firstCells]
      · rw [hv]
        simp [Builtin.append_, run_underlying O.under, sizeOf, typeInfo, hi, Builtin.lenOf, Builtin.firstCells, hnc, storeCells]
    exact ⟨A, cap, w, hrun, ⟨by simpa using hown, World.grownBy.refl w _, .inl rfl⟩⟩
theorem wpList_appV (O : One S E z bytes) {ops : Array Oper} {rest : List Oper} {o : Oper} {a : Act} {Q : Exit → Act → World → Prop} (hgd : o.guard = none) (s x : Operand)
    (ho : o.op = .call { callee := .builtin .append, args := #[s, x], argTypes := #[S, S] })
    (hs : a.eval s = .slice A n cap) (hown : OwnV w base E A n cap vs) (B : Option Addr) (m c : Nat) (news : List Value) (h1 : ∀ u ∈ news, u.oneCell' = true) (hx : a.eval x = .slice B m c) (hr : RdV w B m news) (hlen : n + m ≤ 1000000) (hbase : base ≤ w.heap.size)
    (h : ∀ A' cap' w', GrewV w w' base E A A' n cap (n + m) cap' (vs ++ news) → wpList Try.prog ops Q rest (a.put o.dst (.slice A' (n + m) cap')) w') : wpList Try.prog ops Q (o :: rest) a w := by
  obtain ⟨A', cap', w', hrun, hg⟩ := run_appV O hown B m c news h1 hr hlen hbase o.type
  refine wpList_plain hgd fun K hK => ?_
  unfold Oper.wp execOp
  simp only [ho, resolve, invoke, builtin, Sem.run_bind, Sem.run_pure, Result.andThen_ok, List.map_toArray, List.map_cons, List.map_nil, hs, hx, hrun]
  exact hK _ _ (h A' cap' w' hg)
end
set_option maxRecDepth 100000 in
/-- A new row of one value reads as it. -/
theorem rdv_one (w : World) (E : TypeId) (v : Value) : RdV (w.alloc (.cells #[v] E)) (some ⟨w.heap.size, 0, none⟩) 1 [v] := by
  refine ⟨rfl, fun _ => ⟨w.heap.size, 0, rfl, by simp, fun j x hx => ?_⟩⟩
  rw [Nat.zero_add, World.cell?_alloc_mark]
  match j, hx with
  | 0, hx => simp at hx; subst hx; rfl
  | j + 1, hx => simp at hx
end Go.Proofs.Ytpompjihmcmmaaa
