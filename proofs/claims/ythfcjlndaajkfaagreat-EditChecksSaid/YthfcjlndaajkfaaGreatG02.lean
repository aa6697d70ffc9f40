/- Words for slices whose elements take s cells each: a slice that reads as a list of cells, one that the call owns, append. Words for blocks of the call's own that hold plain cells: what they hold, that it stays, and what a store of three cells makes of them. append of values at a step of a region that draws its order. Tables of a version: rows of them; which keys are ahead; which tables meet a range. How many tables a level may have; which levels have more: the program's and the document's. Which levels have more than they may: the document's Full, and package pick's. append of a row that may be nil, also at a step of a drawn region; parts of a row of numbers. The document's insert of a number into a row that rises; two rows of numbers compared. -/
import Derived.Test.YthfcjlndaajkfaaGreatG01
import Derived.Laws.IdiomStrings
import Derived.Deep.RegionLaw
import Derived.Deep.RegionHeldLaw
import Derived.Deep.DeepCutAuto
import Derived.Deep.CutBlock
namespace Go.Proofs.YthfcjlndaajkfaaGreat
open Go.RowKit
/-- A slice of n elements of s cells each with this address reads as vs. -/
def RdC (s : Nat) (w : World) (A : Option Addr) (n : Nat) (vs : List Value) : Prop :=
  vs.length = n * s ∧ (0 < n → ∃ b o, A = some ⟨b, o, none⟩ ∧ b < w.heap.size ∧ ∀ (j : Nat) (v : Value), vs[j]? = some v → w.cell? ⟨b, o + j, none⟩ = some v)
section
variable {s : Nat} {w w' : World} {A : Option Addr} {n : Nat} {vs : List Value}
theorem RdC.nil (s : Nat) (w : World) (A : Option Addr) : RdC s w A 0 [] := ⟨by simp, by simp⟩
theorem RdC.keep (h : RdC s w A n vs) (hs : w.heap.size ≤ w'.heap.size) (hk : ∀ p : Addr, p.block < w.heap.size → w'.cell? p = w.cell? p) : RdC s w' A n vs := by
  refine ⟨h.1, fun hn => ?_⟩
  obtain ⟨b, o, rfl, hb, hc⟩ := h.2 hn
  exact ⟨b, o, rfl, by omega, fun j x hx => (hk _ hb).trans (hc j x hx)⟩
theorem RdC.below (h : RdC s w A n vs) (hb : Below w.heap.size w w') : RdC s w' A n vs := h.keep hb.size fun _ hp => hb.cell hp
theorem RdC.drew (h : RdC s w A n vs) : RdC s w.drew A n vs := h
theorem RdC.alloc (h : RdC s w A n vs) (o : Obj) : RdC s (w.alloc o) A n vs := h.below ((Below.refl _ _).alloc (Nat.le_refl _) o)
theorem RdC.take (h : RdC s w A n vs) {k : Nat} (hk : k ≤ n) : RdC s w A k (vs.take (k * s)) := by
  refine ⟨by rw [List.length_take, h.1, Nat.min_eq_left (Nat.mul_le_mul_right s hk)], fun hn => ?_⟩
  obtain ⟨b, o, rfl, hb, hc⟩ := h.2 (by omega)
  refine ⟨b, o, rfl, hb, fun j x hx => hc j x ?_⟩
  rw [List.getElem?_take] at hx
  split at hx
  · exact hx
  · cases hx
end
/-- A slice of the call's own that holds the cells vs. -/
def OwnC (s : Nat) (w : World) (base : Nat) (E : TypeId) (A : Option Addr) (n cap : Nat) (vs : List Value) : Prop :=
  w.ownsRow base E s (.slice A n cap) n vs
/-- An element type whose values take s cells: its zero and its bytes. -/
structure Many (s : Nat) (S E : TypeId) (z : Value) (bytes : Nat) : Prop where
  info : (Tryz.prog.info? E).map (fun i => (i.zero, i.size, i.bytes)) = some (some z, s, bytes)
  under : Tryz.prog.underlying S = some (.slice E)
  zero : z.cells.size = s
  pos : 0 < s
  few : bytes ≤ 1000
section
variable {s : Nat} {w w' : World} {base n cap : Nat} {A : Option Addr} {vs : List Value} {S E : TypeId} {z : Value} {bytes : Nat}
set_option maxRecDepth 100000 in
theorem OwnC.rd (h : OwnC s w base E A n cap vs) : RdC s w A n vs := by
  refine ⟨h.1, fun hn => ?_⟩
  rcases h.2 with ⟨hv, h0⟩ | ⟨g, c, cur, hv, hb, hg, hnc, hc, hs, ht⟩
  · omega
  · injection hv with hA _ _
    subst hA
    refine ⟨g, 0, rfl, (Array.getElem?_eq_some_iff.1 hg).1, fun j x hx => ?_⟩
    rw [Nat.zero_add, cell_of_row w g j cur _ (0, 0) hg]
    rw [← ht, List.getElem?_take] at hx
    split at hx
    · simpa using hx
    · cases hx
theorem OwnC.grown (h : OwnC s w base E A n cap vs) {row : Option Nat} (hg : w.grownBy w' row) (hne : row = none ∨ ∀ g, row = some g → (Value.slice A n cap).ownBlock ≠ some g) : OwnC s w' base E A n cap vs := by
  refine World.ownsRow.kept h hg ?_
  rcases hb : (Value.slice A n cap).ownBlock with _ | g
  · exact .inl rfl
  · refine .inr fun e => ?_
    rcases hne with e2 | e2
    · rw [e2] at e; cases e
    · exact e2 g e.symm hb
theorem OwnC.below (h : OwnC s w base E A n cap vs) (hb : Below w.heap.size w w') : OwnC s w' base E A n cap vs := h.grown (grown_of_below hb) (.inl rfl)
theorem OwnC.alloc (h : OwnC s w base E A n cap vs) (o : Obj) : OwnC s (w.alloc o) base E A n cap vs := h.below ((Below.refl _ _).alloc (Nat.le_refl _) o)
theorem OwnC.drew (h : OwnC s w base E A n cap vs) : OwnC s w.drew base E A n cap vs := h
theorem OwnC.none_ (s : Nat) (w : World) (base : Nat) (E : TypeId) : OwnC s w base E none 0 0 [] := World.ownsRow_nil w base E s
theorem OwnC.blk (h : OwnC s w base E A n cap vs) : ∀ g, (Value.slice A n cap).ownBlock = some g → base ≤ g ∧ g < w.heap.size := World.ownsRow.lt h
theorem OwnC.fits (h : OwnC s w base E A n cap vs) : n ≤ cap := by
  rcases h.2 with ⟨hv, hn⟩ | ⟨g, c, cur, hv, _, _, hc, _⟩
  · omega
  · injection hv with _ _ h3
    omega
theorem OwnC.form (h : OwnC s w base E A n cap vs) (hn : 0 < n) : ∃ g, A = some ⟨g, 0, none⟩ ∧ base ≤ g ∧ g < w.heap.size := by
  rcases h.2 with ⟨hv, h0⟩ | ⟨g, c, cur, hv, hb, hg, _⟩
  · omega
  · injection hv with hA _ _
    exact ⟨g, hA, hb, (Array.getElem?_eq_some_iff.1 hg).1⟩
theorem OwnC.base_ {base' : Nat} (h : OwnC s w base E A n cap vs) (hb : base' ≤ base) : OwnC s w base' E A n cap vs := by
  refine ⟨h.1, ?_⟩
  rcases h.2 with hn | ⟨g, c, cur, hv, hbg, rest⟩
  · exact .inl hn
  · exact .inr ⟨g, c, cur, hv, Nat.le_trans hb hbg, rest⟩
/-- What append leaves. -/
structure GrewC (s : Nat) (w w' : World) (base : Nat) (E : TypeId) (A A' : Option Addr) (n cap n' cap' : Nat) (vs : List Value) : Prop where
  own : OwnC s w' base E A' n' cap' vs
  grew : w.grownBy w' (Value.slice A n cap).ownBlock
  blk : (Value.slice A' n' cap').ownBlock = (Value.slice A n cap).ownBlock ∨ (Value.slice A' n' cap').ownBlock = some w.heap.size
theorem GrewC.below {a : World} {n' cap' : Nat} {A' : Option Addr} {B : Nat} (h : GrewC s w w' base E A A' n cap n' cap' vs) (hb : Below B a w) (hB : B ≤ w.heap.size) (hr : ∀ g, (Value.slice A n cap).ownBlock = some g → B ≤ g) : Below B a w' :=
  hb.grown h.grew hB hr
set_option maxRecDepth 100000 in
theorem run_appC (O : Many s S E z bytes) (hown : OwnC s w base E A n cap vs) (ad : Addr) (m c : Nat) (news : List Value) (h1 : ∀ u ∈ news, u.oneCell' = true) (hr : RdC s w (some ad) m news) (hlen : n + m ≤ 1000000) (hbase : base ≤ w.heap.size) (ty : TypeId) :
    ∃ A' cap' w', (Builtin.append_ #[S, S] ty #[.slice A n cap, .slice (some ad) m c]).run Tryz.prog w = .ok (.slice A' (n + m) cap') w' ∧ GrewC s w w' base E A A' n cap (n + m) cap' (vs ++ news) := by
  obtain ⟨i0, hi, hz0, hz1, hz2⟩ := info_parts O.info
  have hnews : ∀ j u, news[j]? = some u → w.cell? (ad.add j) = some u := by
    intro j u hu
    by_cases hm : 0 < m
    · obtain ⟨b, o, he, _, hc⟩ := hr.2 hm
      injection he with he
      subst he
      have e : (⟨b, o, none⟩ : Addr).add j = ⟨b, o + j, none⟩ := by unfold Addr.add; split <;> simp_all
      rw [e]
      exact hc j _ hu
    · have h00 : m = 0 := by omega
      subst h00
      have h0 : news = [] := List.eq_nil_of_length_eq_zero (by rw [hr.1]; simp)
      subst h0
      simp at hu
  have hbytes : (n + m) * bytes ≤ 140737488355328 := by
    have : (n + m) * bytes ≤ 1000000 * 1000 := Nat.mul_le_mul hlen O.few
    omega
  obtain ⟨v', w', hrun, h2, h3, _, h5⟩ := run_append_own_at (P := Tryz.prog) w base S ty E i0 z s bytes O.under hi hz0 hz1 hz2 O.zero O.pos (.slice A n cap) n vs hown ad m c news
    hr.1 hnews h1 (by simp only [maxLen]; omega) hbytes hbase
  have hf : ∃ A' cap', v' = .slice A' (n + m) cap' := by
    rcases h2.2 with ⟨hv, h0⟩ | ⟨g, c', cur, hv, _⟩
    · exact ⟨none, 0, by rw [hv, h0]⟩
    · exact ⟨_, _, hv⟩
  obtain ⟨A', cap', rfl⟩ := hf
  exact ⟨A', cap', w', hrun, ⟨h2, h3, h5⟩⟩
theorem wpList_appC (O : Many s S E z bytes) {ops : Array Oper} {rest : List Oper} {o : Oper} {a : Act} {Q : Exit → Act → World → Prop} (hgd : o.guard = none) (s1 x : Operand)
    (ho : o.op = .call { callee := .builtin .append, args := #[s1, x], argTypes := #[S, S] })
    (hs : a.eval s1 = .slice A n cap) (hown : OwnC s w base E A n cap vs) (ad : Addr) (m c : Nat) (news : List Value) (h1 : ∀ u ∈ news, u.oneCell' = true) (hx : a.eval x = .slice (some ad) m c) (hr : RdC s w (some ad) m news) (hlen : n + m ≤ 1000000) (hbase : base ≤ w.heap.size)
    (h : ∀ A' cap' w', GrewC s w w' base E A A' n cap (n + m) cap' (vs ++ news) → wpList Tryz.prog ops Q rest (a.put o.dst (.slice A' (n + m) cap')) w') : wpList Tryz.prog ops Q (o :: rest) a w := by
  obtain ⟨A', cap', w', hrun, hg⟩ := run_appC O hown ad m c news h1 hr hlen hbase o.type
  refine wpList_plain hgd fun K hK => ?_
  unfold Oper.wp execOp
  simp only [ho, resolve, invoke, builtin, Sem.run_bind, Sem.run_pure, Result.andThen_ok, List.map_toArray, List.map_cons, List.map_nil, hs, hx, hrun]
  exact hK _ _ (h A' cap' w' hg)
end
/-- A new row of cells reads as it. -/
theorem rdc_new (s : Nat) (w : World) (E : TypeId) (vs : List Value) (n : Nat) (hn : vs.length = n * s) (fr : Nat × Nat) : RdC s (w.alloc (.cells vs.toArray E fr)) (some ⟨w.heap.size, 0, none⟩) n vs := by
  refine ⟨hn, fun _ => ⟨w.heap.size, 0, rfl, by simp, fun j x hx => ?_⟩⟩
  rw [Nat.zero_add, World.cell?_alloc_mark]
  simpa using hx
end Go.Proofs.YthfcjlndaajkfaaGreat
namespace Go.Proofs.YthfcjlndaajkfaaGreat
open Go.RowKit
/-- Block b holds these cells, from its head on, and may be written. -/
def Holds (w : World) (b : Nat) (cs : List Value) : Prop := b < w.heap.size ∧ (∀ (i : Nat) v, cs[i]? = some v → w.cell? ⟨b, i, none⟩ = some v) ∧ ∀ i, w.frozen? ⟨b, i, none⟩ = false
theorem Holds.below {w w' : World} {b : Nat} {cs : List Value} (k : Holds w b cs) (hb : Below w.heap.size w w') : Holds w' b cs :=
  ⟨Nat.lt_of_lt_of_le k.1 hb.size, fun i v h => (hb.cell (p := ⟨b, i, none⟩) k.1).trans (k.2.1 i v h), fun i => (hb.frozen (p := ⟨b, i, none⟩) k.1).trans (k.2.2 i)⟩
theorem Holds.alloc {w : World} {b : Nat} {cs : List Value} (k : Holds w b cs) (o : Obj) : Holds (w.alloc o) b cs := k.below ((Below.refl _ _).alloc (Nat.le_refl _) o)
theorem Holds.new (w : World) (cs : Array Value) (t : TypeId) : Holds (w.alloc (.cells cs t)) w.heap.size cs.toList :=
  ⟨by simp, fun i v h => by rw [World.cell?_alloc_mark]; simpa using h, fun i => by rw [World.frozen?_alloc_mark]; simp⟩
theorem Holds.next {w w' : World} {cs : Array Value} {t : TypeId} (hb : Below (w.alloc (.cells cs t)).heap.size (w.alloc (.cells cs t)) w') : Holds w' w.heap.size cs.toList := (Holds.new w cs t).below hb
theorem Holds.at_ {w : World} {b : Nat} {cs : List Value} (k : Holds w b cs) (i : Nat) {v : Value} (h : cs[i]? = some v) : w.cell? ⟨b, i, none⟩ = some v := k.2.1 i v h
theorem Holds.other {w : World} {b c i : Nat} {cs : List Value} {v : Value} (k : Holds w c cs) (h : c ≠ b) : Holds (w.setCell ⟨b, i, none⟩ v) c cs :=
  ⟨by simpa [World.setCell] using k.1, fun j u hj => by rw [World.cell?_setCell_other w _ _ _ (fun e => h (by injection e with e1 _; exact e1.symm))]; exact k.2.1 j u hj, fun j => by rw [World.frozen?_setCell]; exact k.2.2 j⟩
theorem Holds.set {w : World} {b : Nat} {cs : List Value} (k : Holds w b cs) (i : Nat) (v : Value) (hi : i < cs.length) : Holds (w.setCell ⟨b, i, none⟩ v) b (cs.set i v) := by
  refine ⟨by simpa [World.setCell] using k.1, fun j u hj => ?_, fun j => by rw [World.frozen?_setCell]; exact k.2.2 j⟩
  by_cases e : j = i
  · subst e
    rw [List.getElem?_set_self hi] at hj
    injection hj with hj
    subst hj
    exact World.cell?_setCell_same w _ _ (k.2.1 j _ (List.getElem?_eq_getElem hi))
  · rw [List.getElem?_set_ne (fun e2 => e e2.symm)] at hj
    rw [World.cell?_setCell_other w _ _ _ (fun e2 => e (by injection e2 with _ e3; exact e3.symm))]
    exact k.2.1 j u hj
theorem Holds.set3 {w : World} {b : Nat} {x y z : Value} (k : Holds w b [x, y, z]) (x' y' z' : Value) : Holds (((w.setCell ⟨b, 0, none⟩ x').setCell ⟨b, 1, none⟩ y').setCell ⟨b, 2, none⟩ z') b [x', y', z'] :=
  ((k.set 0 x' (by simp)).set 1 y' (by simp)).set 2 z' (by simp)
theorem Holds.other3 {w : World} {b c : Nat} {cs : List Value} {x y z : Value} (k : Holds w c cs) (h : c ≠ b) : Holds (((w.setCell ⟨b, 0, none⟩ x).setCell ⟨b, 1, none⟩ y).setCell ⟨b, 2, none⟩ z) c cs := ((k.other h).other h).other h
end Go.Proofs.YthfcjlndaajkfaaGreat
namespace Go.Proofs.YthfcjlndaajkfaaGreat
open Go.RowKit
theorem step_appV {w : World} {base n cap : Nat} {A : Option Addr} {vs : List Value} {S E : TypeId} {z : Value} {bytes : Nat} (O : One S E z bytes) {ops : Array Oper} {o : Oper} {a : Act} {K : Act → World → Prop} {Q : Exit → Act → World → Prop} {F : Prop} (hw : Region.wanted o (yielded ops a.tmps) = true) (s x : Operand)
    (ho : o.op = .call { callee := .builtin .append, args := #[s, x], argTypes := #[S, S] })
    (hs : a.eval s = .slice A n cap) (hown : OwnV w base E A n cap vs) (B : Option Addr) (m c : Nat) (news : List Value) (h1 : ∀ u ∈ news, u.oneCell' = true) (hx : a.eval x = .slice B m c) (hr : RdV w B m news) (hlen : n + m ≤ 1000000) (hbase : base ≤ w.heap.size)
    (h : ∀ A' cap' w', GrewV w w' base E A A' n cap (n + m) cap' (vs ++ news) → K (a.put o.dst (.slice A' (n + m) cap')) w') :
    if Region.wanted o (yielded ops a.tmps) = true then Oper.wp Tryz.prog o a w K Q else F := by
  rw [if_pos hw]
  obtain ⟨A', cap', w', hrun, hg⟩ := run_appV O hown B m c news h1 hr hlen hbase o.type
  unfold Oper.wp execOp
  simp only [ho, resolve, invoke, builtin, Sem.run_bind, Sem.run_pure, Result.andThen_ok, List.map_toArray, List.map_cons, List.map_nil, hs, hx, hrun]
  exact h A' cap' w' hg
end Go.Proofs.YthfcjlndaajkfaaGreat
namespace Go.Proofs.YthfcjlndaajkfaaGreat
open Go.RowKit
namespace Pk
/-- A table. -/
structure Tb where
  id : Int
  ep : Int
  P : Option Addr
  pn : Nat
  pc : Nat
  sz : Int
  lv : Int
  ct : Int
  lo : ByteArray
  hi : ByteArray
  tp : Int
def Tb.cells (t : Tb) : List Value := [.int .i64 t.id, .int .i64 t.ep, .slice t.P t.pn t.pc, .int .i64 t.sz, .int .i64 t.lv, .int .i64 t.ct, .string t.lo, .string t.hi, .int .i64 t.tp]
def flat (l : List Tb) : List Value := l.flatMap Tb.cells
theorem flatMap_at {α : Type} {f : α → List Value} {s : Nat} (hs : ∀ x, (f x).length = s) {j : Nat} {v : Value} : ∀ {l : List α} {k : Nat} {x : α}, l[k]? = some x → (f x)[j]? = some v → (l.flatMap f)[k * s + j]? = some v
  | [], k, x, h, _ => by cases h
  | y :: ys, k, x, h, hj => by
    rw [List.flatMap_cons]
    have hjs : j < s := by rw [← hs x]; exact (List.getElem?_eq_some_iff.1 hj).1
    cases k with
    | zero =>
      have h : y = x := by simpa using h
      subst h
      rw [Nat.zero_mul, Nat.zero_add, List.getElem?_append_left (by rw [hs]; exact hjs)]
      exact hj
    | succ k =>
      rw [List.getElem?_append_right (by rw [hs, Nat.succ_mul]; omega), hs, show (k + 1) * s + j - s = k * s + j by rw [Nat.succ_mul]; omega]
      exact flatMap_at hs (by simpa using h) hj
theorem flatMap_length {α : Type} {f : α → List Value} {s : Nat} (hs : ∀ x, (f x).length = s) : ∀ l : List α, (l.flatMap f).length = l.length * s
  | [] => by simp
  | y :: ys => by rw [List.flatMap_cons, List.length_append, hs, flatMap_length hs ys, List.length_cons, Nat.succ_mul]; omega
theorem flat_append (a b : List Tb) : flat (a ++ b) = flat a ++ flat b := by unfold flat; rw [List.flatMap_append]
theorem cells_one (x : Tb) : ∀ u ∈ Tb.cells x, u.oneCell' = true := by
  intro u hu
  simp only [Tb.cells, List.mem_cons, List.not_mem_nil, or_false] at hu
  rcases hu with rfl | rfl | rfl | rfl | rfl | rfl | rfl | rfl | rfl <;> rfl
/-- Numbers and texts as a machine has them. -/
def Tb.fits (t : Tb) : Prop := t.lo.size ≤ 9223372036854775807 ∧ t.hi.size ≤ 9223372036854775807 ∧ (-9223372036854775808 ≤ t.lv ∧ t.lv ≤ 9223372036854775807) ∧ (-9223372036854775808 ≤ t.ct ∧ t.ct ≤ 9223372036854775807) ∧ (-9223372036854775808 ≤ t.id ∧ t.id ≤ 9223372036854775807)
/-- A key's bytes. -/
def kb (s : ByteArray) : List UInt8 := s.data.toList
theorem kb_inj {s t : ByteArray} (h : kb s = kb t) : s = t := by
  cases s; cases t
  simp [kb] at h
  rw [h]
theorem bytesLess_lt : ∀ x y : List UInt8, Op.bytesLess x y = decide (x < y)
  | [], [] => by simp [Op.bytesLess]
  | _ :: _, [] => by simp [Op.bytesLess]
  | [], _ :: _ => by simp [Op.bytesLess]
  | a :: x, b :: y => by
    rw [Op.bytesLess, bytesLess_lt x y]
    by_cases h1 : a < b
    · simp [h1, List.cons_lt_cons_iff]
    · by_cases h2 : a = b
      · subst h2; simp [h1]
      · have h3 : (a == b) = false := beq_eq_false_iff_ne.2 h2
        simp [h1, h2, h3, List.cons_lt_cons_iff]
/-- Is a key ahead of another? -/
def lt (a b : ByteArray) : Bool := Op.bytesLess a.toList b.toList
theorem lt_iff (a b : ByteArray) : lt a b = true ↔ kb a < kb b := by
  unfold lt
  rw [ByteArray.toList_eq, ByteArray.toList_eq, bytesLess_lt]
  exact decide_eq_true_iff
/-- '<=' on texts, as the walk has it. -/
theorem le_eq (a b : ByteArray) : (Op.bytesLess a.toList b.toList || a.toList == b.toList) = !lt b a := by
  have h1 := lt_iff a b
  have h2 := lt_iff b a
  unfold lt at h1 h2 ⊢
  by_cases e : a = b
  · subst e
    have h3 : Op.bytesLess a.toList a.toList = false := by
      cases h : Op.bytesLess a.toList a.toList with
      | false => rfl
      | true => exact absurd (h1.1 h) (List.lt_irrefl _)
    rw [h3]; simp
  · have h3 : (a.toList == b.toList) = false := by
      rw [beq_eq_false_iff_ne]
      intro h
      apply e
      rw [ByteArray.toList_eq, ByteArray.toList_eq] at h
      exact kb_inj h
    rw [h3, Bool.or_false]
    cases h4 : Op.bytesLess b.toList a.toList with
    | true =>
      have h5 := h2.1 h4
      cases h6 : Op.bytesLess a.toList b.toList with
      | false => rfl
      | true => exact absurd (List.lt_trans (h1.1 h6) h5) (List.lt_irrefl _)
    | false =>
      cases h6 : Op.bytesLess a.toList b.toList with
      | true => rfl
      | false =>
        have h7 : kb b ≤ kb a := List.not_lt.1 (fun h => by rw [h1.2 h] at h6; cases h6)
        have h8 : kb a ≤ kb b := List.not_lt.1 (fun h => by rw [h2.2 h] at h4; cases h4)
        exact absurd (kb_inj (List.le_antisymm h8 h7)) e
/-- Does a table meet a range? -/
def meets (t : Tb) (low high : ByteArray) : Bool := !lt t.hi low && !lt high t.lo
end Pk
/-- A slice that reads as tables. -/
def RdTb (w : World) (A : Option Addr) (n : Nat) (l : List Pk.Tb) : Prop := l.length = n ∧ RdC 9 w A n (Pk.flat l) ∧ ∀ x ∈ l, x.fits
theorem RdTb.at_ {w : World} {A : Option Addr} {n k : Nat} {l : List Pk.Tb} {x : Pk.Tb} (h : RdTb w A n l) (hx : l[k]? = some x) : ∃ b o, A = some ⟨b, o, none⟩ ∧ b < w.heap.size ∧ ∀ j u, x.cells[j]? = some u → w.cell? ⟨b, o + (k * 9 + j), none⟩ = some u := by
  have hk : k < n := by rw [← h.1]; exact (List.getElem?_eq_some_iff.1 hx).1
  obtain ⟨b, o, rfl, hb, hc⟩ := h.2.1.2 (by omega)
  exact ⟨b, o, rfl, hb, fun j u hu => hc _ u (Pk.flatMap_at (f := Pk.Tb.cells) (s := 9) (fun _ => rfl) hx hu)⟩
theorem RdTb.below {w w' : World} {A : Option Addr} {n : Nat} {l : List Pk.Tb} (h : RdTb w A n l) (hb : Below w.heap.size w w') : RdTb w' A n l := ⟨h.1, h.2.1.below hb, h.2.2⟩
/-- The nine cells of one. -/
theorem RdTb.nine {w : World} {A : Option Addr} {n k : Nat} {l : List Pk.Tb} {x : Pk.Tb} (h : RdTb w A n l) (hx : l[k]? = some x) : ∃ b o, A = some ⟨b, o, none⟩ ∧ b < w.heap.size ∧ ∀ w', Below w.heap.size w w' →
    w'.cell? ⟨b, o + k * 9, none⟩ = some (.int .i64 x.id) ∧ w'.cell? ⟨b, o + k * 9 + 1, none⟩ = some (.int .i64 x.ep) ∧ w'.cell? ⟨b, o + k * 9 + 2, none⟩ = some (.slice x.P x.pn x.pc) ∧ w'.cell? ⟨b, o + k * 9 + 3, none⟩ = some (.int .i64 x.sz) ∧ w'.cell? ⟨b, o + k * 9 + 4, none⟩ = some (.int .i64 x.lv) ∧ w'.cell? ⟨b, o + k * 9 + 5, none⟩ = some (.int .i64 x.ct) ∧ w'.cell? ⟨b, o + k * 9 + 6, none⟩ = some (.string x.lo) ∧ w'.cell? ⟨b, o + k * 9 + 7, none⟩ = some (.string x.hi) ∧ w'.cell? ⟨b, o + k * 9 + 8, none⟩ = some (.int .i64 x.tp) := by
  obtain ⟨b, o, rfl, hb, hc⟩ := h.at_ hx
  exact ⟨b, o, rfl, hb, fun w' hw => ⟨(hw.cell hb).trans (hc 0 _ rfl), (hw.cell hb).trans (hc 1 _ rfl), (hw.cell hb).trans (hc 2 _ rfl), (hw.cell hb).trans (hc 3 _ rfl), (hw.cell hb).trans (hc 4 _ rfl), (hw.cell hb).trans (hc 5 _ rfl), (hw.cell hb).trans (hc 6 _ rfl), (hw.cell hb).trans (hc 7 _ rfl), (hw.cell hb).trans (hc 8 _ rfl)⟩⟩
end Go.Proofs.YthfcjlndaajkfaaGreat
namespace Go.Proofs.YthfcjlndaajkfaaGreat
open Go.RowKit
namespace Pk
def lim (k : Int) : Int := if k = 0 then 3 else if k = 1 then 4 else if k = 2 then 8 else -1
/-- How many tables a level has. -/
def count (l : List Tb) (k : Int) : Nat := (l.filter (fun t => decide (t.lv = k))).length
theorem count_snoc {l : List Tb} {i : Nat} {x : Tb} (h : l[i]? = some x) (k : Int) : count (l.take (i + 1)) k = count (l.take i) k + (if x.lv = k then 1 else 0) := by
  unfold count
  rw [List.take_add_one, h, List.filter_append, List.length_append]
  by_cases e : x.lv = k
  · simp [e]
  · simp [e]
theorem count_le (l : List Tb) (i : Nat) (k : Int) : count (l.take i) k ≤ i := by
  unfold count
  refine Nat.le_trans (List.length_filter_le _ _) ?_
  rw [List.length_take]; omega
/-- Has a level more? -/
def more (l : List Tb) (k : Nat) : Bool := decide (lim k < (count l k : Int))
def full (l : List Tb) : List Int := ((List.range 3).filter (more l)).map (fun (k : Nat) => (k : Int))
def iv (l : List Int) : List Value := l.map (Value.int .i64)
theorem iv_append (a b : List Int) : iv (a ++ b) = iv a ++ iv b := by unfold iv; rw [List.map_append]
theorem iv_one (l : List Int) : ∀ u ∈ iv l, u.oneCell' = true := by
  intro u hu
  unfold iv at hu
  obtain ⟨x, _, rfl⟩ := List.mem_map.1 hu
  rfl
theorem iv_len (l : List Int) : (iv l).length = l.length := List.length_map _
/-- A version's value. -/
def ver (a b : Int) (L : Option Addr) (ln lc : Nat) (A : Option Addr) (n c : Nat) : Array Value := #[.int .i64 a, .int .i64 b, .slice L ln lc, .slice A n c]
theorem range_step (l : List Tb) (k : Nat) : ((List.range (k + 1)).filter (more l)).map (fun (k : Nat) => (k : Int)) = ((List.range k).filter (more l)).map (fun (k : Nat) => (k : Int)) ++ (if more l k then [(k : Int)] else []) := by
  rw [List.range_succ, List.filter_append, List.map_append]
  by_cases h : more l k = true
  · rw [if_pos h]; simp [h]
  · rw [if_neg h]; simp [h]
end Pk
theorem manyI : Many 1 73 3 (.int .i64 0) 8 := ⟨by kernel_rfl, Tryz.underlying73, by kernel_rfl, by decide, by decide⟩
end Go.Proofs.YthfcjlndaajkfaaGreat
namespace Go.Proofs.YthfcjlndaajkfaaGreat
open Go.RowKit
/-- Numbers in a row of the call's own. -/
def GivesInts (w : World) (l : List Int) (e : Ending) (w' : World) : Prop :=
  ∃ B c, e = .returned (.slice B l.length c) ∧ OwnC 1 w' w.heap.size 3 B l.length c (Pk.iv l) ∧ Below w.heap.size w w'
end Go.Proofs.YthfcjlndaajkfaaGreat
namespace Go.Proofs.YthfcjlndaajkfaaGreat
open Go.RowKit
section
variable {s : Nat} {w w' : World} {base n cap : Nat} {A : Option Addr} {vs : List Value} {S E : TypeId} {z : Value} {bytes : Nat}
set_option maxRecDepth 100000 in
theorem run_appN (O : Many s S E z bytes) (hown : OwnC s w base E A n cap vs) (B : Option Addr) (m c : Nat) (news : List Value) (h1 : ∀ u ∈ news, u.oneCell' = true) (hr : RdC s w B m news) (hlen : n + m ≤ 1000000) (hbase : base ≤ w.heap.size) (ty : TypeId) :
    ∃ A' cap' w', (Builtin.append_ #[S, S] ty #[.slice A n cap, .slice B m c]).run Tryz.prog w = .ok (.slice A' (n + m) cap') w' ∧ GrewC s w w' base E A A' n cap (n + m) cap' (vs ++ news) := by
  cases B with
  | some ad => exact run_appC O hown ad m c news h1 hr hlen hbase ty
  | none =>
    obtain ⟨i0, hi, hz0, hz1, hz2⟩ := info_parts O.info
    have hm : m = 0 := by
      rcases Nat.eq_zero_or_pos m with h0 | h0
      · exact h0
      · obtain ⟨b, o, he, _⟩ := hr.2 h0
        cases he
    subst hm
    have h0 : news = [] := List.eq_nil_of_length_eq_zero (by rw [hr.1]; simp)
    subst h0
    have hrun : (Builtin.append_ #[S, S] ty #[.slice A n cap, .slice none 0 c]).run Tryz.prog w = .ok (.slice A n cap) w := by
      rcases hown.2 with ⟨hv, hn0⟩ | ⟨g, c', cur, hv, _, _, hnc, _⟩
      · rw [hv]
        simp [Builtin.append_, run_underlying O.under, sizeOf, typeInfo, hi, Builtin.lenOf, Builtin.firstCells]
      · rw [hv]
        simp [Builtin.append_, run_underlying O.under, sizeOf, typeInfo, hi, Builtin.lenOf, Builtin.firstCells, hnc, storeCells]
    exact ⟨A, cap, w, hrun, ⟨by simpa using hown, World.grownBy.refl w _, .inl rfl⟩⟩
theorem step_appN (O : Many s S E z bytes) {ops : Array Oper} {o : Oper} {a : Act} {K : Act → World → Prop} {Q : Exit → Act → World → Prop} {F : Prop} (hw : Region.wanted o (yielded ops a.tmps) = true) (d : Nat) (hd : o.dst = some d) (s1 x : Operand)
    (ho : o.op = .call { callee := .builtin .append, args := #[s1, x], argTypes := #[S, S] })
    (hs : a.eval s1 = .slice A n cap) (hown : OwnC s w base E A n cap vs) (B : Option Addr) (m c : Nat) (news : List Value) (h1 : ∀ u ∈ news, u.oneCell' = true) (hx : a.eval x = .slice B m c) (hr : RdC s w B m news) (hlen : n + m ≤ 1000000) (hbase : base ≤ w.heap.size)
    (h : ∀ A' cap' w', GrewC s w w' base E A A' n cap (n + m) cap' (vs ++ news) → K (a.put (some d) (.slice A' (n + m) cap')) w') :
    if Region.wanted o (yielded ops a.tmps) = true then Oper.wp Tryz.prog o a w K Q else F := by
  rw [if_pos hw]
  obtain ⟨A', cap', w', hrun, hg⟩ := run_appN O hown B m c news h1 hr hlen hbase o.type
  unfold Oper.wp execOp
  simp only [ho, resolve, invoke, builtin, Sem.run_bind, Sem.run_pure, Result.andThen_ok, List.map_toArray, List.map_cons, List.map_nil, hs, hx, hrun]
  have h2 := h A' cap' w' hg
  rw [← hd] at h2
  exact h2
/-- A row of no element. -/
theorem OwnC.empty (s : Nat) (w : World) (E : TypeId) (base : Nat) (hb : base ≤ w.heap.size) : OwnC s (w.alloc (.cells #[] E)) base E (some ⟨w.heap.size, 0, none⟩) 0 0 [] := by
  have h := World.ownsRow_lit (base := base) (e := E) (size := s) w #[] 0 hb (by simp only [maxLen]; omega) (by simp)
  exact ⟨by simp, h.2⟩
end
theorem RdC.grown {s : Nat} {w w' : World} {A : Option Addr} {n : Nat} {vs : List Value} {row : Option Nat} (h : RdC s w A n vs) (hg : w.grownBy w' row) (hne : 0 < n → ∀ g o, A = some ⟨g, o, none⟩ → row ≠ some g) : RdC s w' A n vs := by
  refine ⟨h.1, fun hn => ?_⟩
  obtain ⟨b, o, rfl, hb, hc⟩ := h.2 hn
  exact ⟨b, o, rfl, Nat.lt_of_lt_of_le hb hg.size, fun j x hx => (World.grownBy.cell_far hg ⟨b, o + j, none⟩ hb (fun e => hne hn b o rfl e.symm)).trans (hc j x hx)⟩
theorem first_app {w1 wx v3 : World} {B n c3 : Nat} {A3 : Option Addr} {vs : List Value} (hb : Below w1.heap.size w1 wx) (hs : w1.heap.size ≤ B) (hg : GrewC 1 wx v3 w1.heap.size 3 (some ⟨B, 0, none⟩) A3 0 0 (0 + n) c3 ([] ++ vs)) :
    Below w1.heap.size w1 v3 ∧ OwnC 1 v3 w1.heap.size 3 A3 n c3 vs ∧ wx.heap.size ≤ v3.heap.size := by
  have h := hg.own
  rw [List.nil_append, Nat.zero_add] at h
  exact ⟨hb.grown hg.grew hb.size (fun g e => by injection e with e; have e : B = g := e; omega), h, hg.grew.size⟩
theorem next_app {w1 wx v5 : World} {n c4 c5 m : Nat} {A4 A5 : Option Addr} {vs us : List Value} (hb : Below w1.heap.size w1 wx) (ho : OwnC 1 wx w1.heap.size 3 A4 n c4 vs) (hg : GrewC 1 wx v5 w1.heap.size 3 A4 A5 n c4 (n + m) c5 (vs ++ us)) :
    Below w1.heap.size w1 v5 ∧ OwnC 1 v5 w1.heap.size 3 A5 (n + m) c5 (vs ++ us) :=
  ⟨hb.grown hg.grew hb.size (fun g e => (ho.blk g e).1), hg.own⟩
theorem side_row {wx v3 : World} {B q : Nat} {A3 : Option Addr} {n c3 : Nat} {vs us : List Value} {base : Nat} (hr : RdC 1 wx (some ⟨q, 0, none⟩) 1 us) (hne : B ≠ q) (hg : GrewC 1 wx v3 base 3 (some ⟨B, 0, none⟩) A3 0 0 n c3 vs) : RdC 1 v3 (some ⟨q, 0, none⟩) 1 us :=
  hr.grown hg.grew (fun _ g o e h => by
    injection e with e
    injection e with e
    injection h with h
    have h : B = g := h
    omega)
/-- A row of numbers from its f-th on. -/
def behindI (A : Option Addr) (c f : Nat) : Option Addr := if c = f then A else A.map (·.add f)
set_option maxRecDepth 100000 in
theorem run_fromI (A : Option Addr) (n c f : Nat) (hf : f ≤ n) (hc : n ≤ c) (w : World) : (Instr.slice 73 (.slice A n c) (some (.int .i64 (f : Int))) none none).run Tryz.prog w = .ok (.slice (behindI A c f) (n - f) (c - f)) w := by
  obtain ⟨i0, hi, hz0, hz1, hz2⟩ := info_parts manyI.info
  unfold behindI
  by_cases e : c = f
  · subst e
    simp [Instr.slice, run_underlying Tryz.underlying73, Instr.sliceBounds, Instr.sliceBound, asIntOf, go_sem, hf, hc]
  · simp [Instr.slice, run_underlying Tryz.underlying73, Instr.sliceBounds, Instr.sliceBound, asIntOf, go_sem, hf, e, sizeOf, typeInfo, hi, hz1]
set_option maxRecDepth 100000 in
theorem run_toI (A : Option Addr) (n c t : Nat) (ht : t ≤ n) (hc : n ≤ c) (w : World) : (Instr.slice 73 (.slice A n c) none (some (.int .i64 (t : Int))) none).run Tryz.prog w = .ok (.slice A t c) w := by
  have h2 : t ≤ c := by omega
  simp [Instr.slice, run_underlying Tryz.underlying73, Instr.sliceBounds, Instr.sliceBound, asIntOf, go_sem, h2]
/-- A slice that reads as numbers. -/
def RdI (w : World) (A : Option Addr) (n : Nat) (l : List Int) : Prop := l.length = n ∧ RdC 1 w A n (Pk.iv l)
section
variable {w w' : World} {A : Option Addr} {n c k base : Nat} {l : List Int}
theorem RdI.below (h : RdI w A n l) (hb : Below w.heap.size w w') : RdI w' A n l := ⟨h.1, h.2.below hb⟩
theorem OwnC.ints (h : OwnC 1 w base 3 A n c (Pk.iv l)) : RdI w A n l := ⟨by have := h.rd.1; rw [Pk.iv_len] at this; omega, h.rd⟩
theorem RdI.at_ {x : Int} (h : RdI w A n l) (hx : l[k]? = some x) : ∃ b o, A = some ⟨b, o, none⟩ ∧ b < w.heap.size ∧ ∀ w', Below w.heap.size w w' → w'.cell? ⟨b, o + k, none⟩ = some (.int .i64 x) := by
  have hk : k < n := by rw [← h.1]; exact (List.getElem?_eq_some_iff.1 hx).1
  obtain ⟨b, o, rfl, hb, hc⟩ := h.2.2 (by omega)
  exact ⟨b, o, rfl, hb, fun w' hw => (hw.cell hb).trans (hc _ _ (by unfold Pk.iv; rw [List.getElem?_map, hx]; rfl))⟩
theorem RdI.to (h : RdI w A n l) (hk : k ≤ n) : RdI w A k (l.take k) := by
  refine ⟨by rw [List.length_take, h.1]; omega, ?_⟩
  have h2 := h.2.take hk
  rw [Nat.mul_one] at h2
  unfold Pk.iv at h2 ⊢
  rw [List.map_take]
  exact h2
theorem RdI.from_ (h : RdI w A n l) (hf : k ≤ n) (hc : n ≤ c) : RdI w (behindI A c k) (n - k) (l.drop k) := by
  refine ⟨by rw [List.length_drop, h.1], by rw [Pk.iv_len, List.length_drop, h.1, Nat.mul_one], fun hm => ?_⟩
  obtain ⟨b, o, rfl, hb, hcl⟩ := h.2.2 (by omega)
  refine ⟨b, o + k, ?_, hb, fun j x hx => ?_⟩
  · unfold behindI
    rw [if_neg (by omega)]
    simp only [Option.map_some, Addr.add]
    split
    · rename_i e; rw [e, Nat.add_zero]
    · rfl
  · unfold Pk.iv at hx
    rw [List.map_drop, List.getElem?_drop] at hx
    rw [Nat.add_assoc]
    exact hcl _ _ hx
end
namespace Pk
/-- A number put into a row that rises. -/
def ins : List Int → Int → List Int
  | [], x => [x]
  | y :: ys, x => if y < x then y :: ins ys x else x :: y :: ys
theorem ins_at {l : List Int} {x : Int} {k : Nat} (hk : k ≤ l.length) (hp : ∀ y ∈ l.take k, y < x) (hq : ∀ y, l[k]? = some y → ¬ y < x) : ins l x = l.take k ++ x :: l.drop k := by
  induction k generalizing l with
  | zero =>
    cases l with
    | nil => rfl
    | cons y ys =>
      unfold ins
      rw [if_neg (hq y rfl)]
      rfl
  | succ k ih =>
    cases l with
    | nil => simp at hk
    | cons y ys =>
      unfold ins
      rw [if_pos (hp y (by simp)), ih (by simpa using hk) (fun z hz => hp z (by simp [hz])) (fun z hz => hq z (by simpa using hz))]
      rfl
theorem ins_len (l : List Int) (x : Int) : (ins l x).length = l.length + 1 := by
  induction l with
  | nil => rfl
  | cons y ys ih =>
    unfold ins
    split
    · simp [ih]
    · simp
theorem ins_perm (l : List Int) (x : Int) : (ins l x).Perm (x :: l) := by
  induction l with
  | nil => exact List.Perm.refl _
  | cons y ys ih =>
    unfold ins
    split
    · exact (List.Perm.cons y ih).trans (List.Perm.swap x y ys)
    · exact List.Perm.refl _
theorem ins_sorted {l : List Int} {x : Int} (h : l.Pairwise (· ≤ ·)) : (ins l x).Pairwise (· ≤ ·) := by
  induction l with
  | nil => simp [ins]
  | cons y ys ih =>
    have h1 := List.pairwise_cons.1 h
    unfold ins
    split
    · rename_i hy
      refine List.pairwise_cons.2 ⟨fun z hz => ?_, ih h1.2⟩
      rcases List.mem_cons.1 ((ins_perm ys x).mem_iff.1 hz) with rfl | hz
      · omega
      · exact h1.1 z hz
    · rename_i hy
      refine List.pairwise_cons.2 ⟨fun z hz => ?_, h⟩
      rcases List.mem_cons.1 hz with rfl | hz
      · omega
      · have := h1.1 z hz; omega
/-- Numbers put in one after another: they are sorted. -/
def insAll (l : List Int) : List Int := l.foldl ins []
theorem foldl_ins (l acc : List Int) (h : acc.Pairwise (· ≤ ·)) : (l.foldl ins acc).Pairwise (· ≤ ·) ∧ (l.foldl ins acc).Perm (acc ++ l) := by
  induction l generalizing acc with
  | nil => exact ⟨h, by simp⟩
  | cons x xs ih =>
    obtain ⟨h1, h2⟩ := ih (ins acc x) (ins_sorted h)
    refine ⟨h1, h2.trans ?_⟩
    have h3 : (ins acc x ++ xs).Perm ((x :: acc) ++ xs) := (ins_perm acc x).append_right xs
    refine h3.trans ?_
    simpa using (List.perm_middle (l₁ := acc) (l₂ := xs) (a := x)).symm
theorem insAll_sort (l : List Int) : (l.mergeSort fun x y => decide (x ≤ y)) = insAll l := by
  obtain ⟨h1, h2⟩ := foldl_ins l [] List.Pairwise.nil
  have h3 : (l.mergeSort fun x y => decide (x ≤ y)).Perm (insAll l) := (List.mergeSort_perm l _).trans (by unfold insAll; simpa using h2.symm)
  have h4 : (l.mergeSort fun x y => decide (x ≤ y)).Pairwise (· ≤ ·) := by
    have h := List.pairwise_mergeSort (le := fun (x y : Int) => decide (x ≤ y)) (by intro a b c; simp; omega) (by intro a b; simp; omega) l
    exact h.imp (fun h => of_decide_eq_true h)
  exact List.Perm.eq_of_pairwise (fun a b _ _ h1 h2 => by omega) h4 h1 h3
theorem insAll_snoc (l : List Int) (x : Int) : insAll (l ++ [x]) = ins (insAll l) x := by unfold insAll; rw [List.foldl_append]; rfl
theorem insAll_len (l : List Int) : (insAll l).length = l.length := by
  have h := (foldl_ins l [] List.Pairwise.nil).2.length_eq
  unfold insAll
  simpa using h
end Pk
end Go.Proofs.YthfcjlndaajkfaaGreat
namespace Go.Proofs.YthfcjlndaajkfaaGreat
open Go.RowKit
theorem rins_done {w v : World} {l : List Int} {x : Int} {k n c7 : Nat} {A7 : Option Addr} (hi : Pk.ins l x = l.take k ++ x :: l.drop k) (hl : l.length = n) (hk : k ≤ n) (hb7 : Below w.heap.size w v)
    (ho : OwnC 1 v w.heap.size 3 A7 (k + 1 + (n - k)) c7 ((Pk.iv (l.take k) ++ [.int .i64 x]) ++ Pk.iv (l.drop k))) : GivesInts w (Pk.ins l x) (.returned (.slice A7 (k + 1 + (n - k)) c7)) v := by
  have hlen : (Pk.ins l x).length = k + 1 + (n - k) := by rw [Pk.ins_len, hl]; omega
  have hfl : Pk.iv (Pk.ins l x) = (Pk.iv (l.take k) ++ [.int .i64 x]) ++ Pk.iv (l.drop k) := by rw [hi, Pk.iv_append, List.append_assoc]; rfl
  unfold GivesInts
  rw [hlen, hfl]
  exact ⟨A7, c7, rfl, ho, hb7⟩
end Go.Proofs.YthfcjlndaajkfaaGreat
