/- Words for blocks of the call's own that hold plain cells: what they hold, that it stays, and what a store of three cells makes of them. Worlds where only one block, or two, and new ones, are other; rows of bytes in an array. Words for slices whose elements take one cell each, over whatever element type: a slice that reads as a list of values, one that the call owns, append of values, make, a cell written. Words for slices whose elements take s cells each: a slice that reads as a list of cells, one that the call owns, append. append of values at a step of a region that draws its order. Words for strings: a string as a list of numbers, its parts, what is equal, what is less; bytes of a string, in new memory; append of a string to bytes. -/
import Derived.Test.YtbdomhookjmmgaaBytes
import Derived.Laws.IdiomStrings
import Derived.Laws.CopyOwn
import Derived.Laws.Rows
import Derived.Deep.RegionLaw
import Derived.Deep.RegionHeldLaw
import Derived.Lib.AppendStr
import Derived.Lib.ConvBytes
import Derived.Lib.Strings
namespace Go.Proofs.Ytbdomhookjmmgaa
open Go.RowKit
/-- Block b holds these cells, from its head on, and may be written. -/
def Holds (w : World) (b : Nat) (cs : List Value) : Prop := b < w.heap.size ∧ (∀ (i : Nat) v, cs[i]? = some v → w.cell? ⟨b, i, none⟩ = some v) ∧ ∀ i, w.frozen? ⟨b, i, none⟩ = false
theorem Holds.below {w w' : World} {b : Nat} {cs : List Value} (k : Holds w b cs) (hb : Below w.heap.size w w') : Holds w' b cs :=
  ⟨Nat.lt_of_lt_of_le k.1 hb.size, fun i v h => (hb.cell (p := ⟨b, i, none⟩) k.1).trans (k.2.1 i v h), fun i => (hb.frozen (p := ⟨b, i, none⟩) k.1).trans (k.2.2 i)⟩
theorem Holds.alloc {w : World} {b : Nat} {cs : List Value} (k : Holds w b cs) (o : Obj) : Holds (w.alloc o) b cs := k.below ((Below.refl _ _).alloc (Nat.le_refl _) o)
theorem Holds.new (w : World) (cs : Array Value) (t : TypeId) : Holds (w.alloc (.cells cs t)) w.heap.size cs.toList :=
  ⟨by simp, fun i v h => by rw [World.cell?_alloc_mark]; simpa using h, fun i => by rw [World.frozen?_alloc_mark]; simp⟩
theorem Holds.next {w w' : World} {cs : Array Value} {t : TypeId} (hb : Below (w.alloc (.cells cs t)).heap.size (w.alloc (.cells cs t)) w') : Holds w' w.heap.size cs.toList := (Holds.new w cs t).below hb
theorem Holds.at_ {w : World} {b : Nat} {cs : List Value} (k : Holds w b cs) (i : Nat) {v : Value} (h : cs[i]? = some v) : w.cell? ⟨b, i, none⟩ = some v := k.2.1 i v h
theorem Holds.other {w : World} {b c i : Nat} {cs : List Value} {v : Value} (k : Holds w c cs) (h : c ≠ b) : Holds (w.setCell ⟨b, i, none⟩ v) c cs :=
  ⟨by simpa [World.setCell] using k.1, fun j u hj => by rw [World.cell?_setCell_other w _ _ _ (fun e => h (by injection e with e1 _; exact e1.symm))]; exact k.2.1 j u hj, fun j => by rw [World.frozen?_setCell]; exact k.2.2 j⟩
theorem Holds.set {w : World} {b : Nat} {cs : List Value} (k : Holds w b cs) (i : Nat) (v : Value) (hi : i < cs.length) : Holds (w.setCell ⟨b, i, none⟩ v) b (cs.set i v) := by
  refine ⟨by simpa [World.setCell] using k.1, fun j u hj => ?_, fun j => by rw [World.frozen?_setCell]; exact k.2.2 j⟩
  by_cases e : j = i
  · subst e
    rw [List.getElem?_set_self hi] at hj
    injection hj with hj
    subst hj
    exact World.cell?_setCell_same w _ _ (k.2.1 j _ (List.getElem?_eq_getElem hi))
  · rw [List.getElem?_set_ne (fun e2 => e e2.symm)] at hj
    rw [World.cell?_setCell_other w _ _ _ (fun e2 => e (by injection e2 with _ e3; exact e3.symm))]
    exact k.2.1 j u hj
theorem Holds.set3 {w : World} {b : Nat} {x y z : Value} (k : Holds w b [x, y, z]) (x' y' z' : Value) : Holds (((w.setCell ⟨b, 0, none⟩ x').setCell ⟨b, 1, none⟩ y').setCell ⟨b, 2, none⟩ z') b [x', y', z'] :=
  ((k.set 0 x' (by simp)).set 1 y' (by simp)).set 2 z' (by simp)
theorem Holds.other3 {w : World} {b c : Nat} {cs : List Value} {x y z : Value} (k : Holds w c cs) (h : c ≠ b) : Holds (((w.setCell ⟨b, 0, none⟩ x).setCell ⟨b, 1, none⟩ y).setCell ⟨b, 2, none⟩ z) c cs := ((k.other h).other h).other h
end Go.Proofs.Ytbdomhookjmmgaa
namespace Go.Proofs.Ytbdomhookjmmgaa
open Go.RowKit
set_option linter.unusedVariables false
/-- Only blocks b and c, and new ones, may be other. -/
structure Ch2 (b c : Nat) (w w' : World) : Prop where
  os : w'.os = w.os
  tape : w'.tape = w.tape
  output : w'.output = w.output
  size : w.heap.size ≤ w'.heap.size
  block : ∀ k, k < w.heap.size → k ≠ b → k ≠ c → w'.heap[k]? = w.heap[k]?
section
variable {b c : Nat} {w v u : World}
theorem Ch2.refl (b c : Nat) (w : World) : Ch2 b c w w := ⟨rfl, rfl, rfl, Nat.le_refl _, fun _ _ _ _ => rfl⟩
theorem Ch2.trans (h : Ch2 b c w v) (k : Ch2 b c v u) : Ch2 b c w u := ⟨k.os.trans h.os, k.tape.trans h.tape, k.output.trans h.output, Nat.le_trans h.size k.size, fun i hi h1 h2 => (k.block i (Nat.lt_of_lt_of_le hi h.size) h1 h2).trans (h.block i hi h1 h2)⟩
theorem Ch2.of_below (h : Below w.heap.size w v) : Ch2 b c w v := ⟨h.os, h.tape, h.output, h.size, fun k hk _ _ => h.block k hk⟩
theorem Ch2.set1 (b c i : Nat) (w : World) (x : Value) : Ch2 b c w (w.setCell ⟨b, i, none⟩ x) := ⟨rfl, rfl, rfl, by simp [World.setCell], fun k hk h1 h2 => Below.heap_setCell _ _ _ _ (fun e => h1 (by rw [e]))⟩
theorem Ch2.set2 (b c i : Nat) (w : World) (x : Value) : Ch2 b c w (w.setCell ⟨c, i, none⟩ x) := ⟨rfl, rfl, rfl, by simp [World.setCell], fun k hk h1 h2 => Below.heap_setCell _ _ _ _ (fun e => h2 (by rw [e]))⟩
theorem Ch2.row (b c : Nat) (w : World) (cs : Array Value) : Ch2 b c w (w.setRow b cs) := ⟨rfl, rfl, rfl, by simp [World.setRow], fun k hk h1 h2 => setRow_other w b k cs h1⟩
theorem Ch2.drew (h : Ch2 b c w v) : Ch2 b c w v.drew := h.trans (Ch2.of_below (Below.refl _ _).drew)
theorem Ch2.below {B : Nat} {a : World} (h : Ch2 b c w v) (ha : Below B a w) (h1 : B ≤ b) (h2 : B ≤ c) (hs : B ≤ w.heap.size) : Below B a v :=
  ha.trans ⟨h.os, h.tape, h.output, h.size, fun k hk => h.block k (Nat.lt_of_lt_of_le hk hs) (by omega) (by omega)⟩
theorem Ch2.cell (h : Ch2 b c w v) {p : Addr} (hp : p.block < w.heap.size) (h1 : p.block ≠ b) (h2 : p.block ≠ c) : v.cell? p = w.cell? p := World.cell?_of_block (h.block p.block hp h1 h2)
theorem Ch2.frozen (h : Ch2 b c w v) {p : Addr} (hp : p.block < w.heap.size) (h1 : p.block ≠ b) (h2 : p.block ≠ c) : v.frozen? p = w.frozen? p := World.frozen?_of_block (h.block p.block hp h1 h2)
theorem Holds.ch2 {x : Nat} {cs : List Value} (k : Holds w x cs) (h : Ch2 b c w v) (h1 : x ≠ b) (h2 : x ≠ c) : Holds v x cs :=
  ⟨Nat.lt_of_lt_of_le k.1 h.size, fun i y hy => (h.cell (p := ⟨x, i, none⟩) k.1 h1 h2).trans (k.2.1 i y hy), fun i => (h.frozen (p := ⟨x, i, none⟩) k.1 h1 h2).trans (k.2.2 i)⟩
end
/-- Block g is an array of 128 bytes. -/
def Arr (w : World) (g : Nat) (l : List Nat) : Prop := w.heap[g]? = some (.cells (bv l).toArray 129 (0, 0)) ∧ ∀ x ∈ l, x < 256
section
variable {g : Nat} {l : List Nat} {w v : World}
theorem Arr.lt (h : Arr w g l) : g < w.heap.size := (Array.getElem?_eq_some_iff.1 h.1).1
theorem Arr.cell (h : Arr w g l) {j x : Nat} (hx : l[j]? = some x) : w.cell? ⟨g, j, none⟩ = some (.int .u8 (x : Int)) := by
  refine (cell_of_row _ _ _ _ _ _ h.1).trans ?_
  have := bv_at hx
  simpa using this
theorem Arr.free (h : Arr w g l) (j : Nat) : w.frozen? ⟨g, j, none⟩ = false := frozen_of_row _ _ _ _ _ h.1
theorem Arr.set (h : Arr w g l) (j y : Nat) (hy : y < 256) : Arr (w.setCell ⟨g, j, none⟩ (.int .u8 (y : Int))) g (l.set j y) := by
  refine ⟨?_, fun x hx => ?_⟩
  · rw [heap_setCell_same _ _ _ _ _ _ h.1]
    simp [bv, List.map_set]
  · rcases List.mem_or_eq_of_mem_set hx with h1 | h1
    · exact h.2 x h1
    · omega
theorem Arr.ch2 {b c : Nat} (h : Arr w g l) (k : Ch2 b c w v) (h1 : g ≠ b) (h2 : g ≠ c) : Arr v g l := ⟨(k.block g h.lt h1 h2).trans h.1, h.2⟩
theorem Arr.other (h : Arr w g l) {p : Addr} (hp : p.block ≠ g) (x : Value) : Arr (w.setCell p x) g l := ⟨(Below.heap_setCell _ _ _ _ (fun e => hp e.symm)).trans h.1, h.2⟩
theorem Arr.below (h : Arr w g l) (hb : Below w.heap.size w v) : Arr v g l := ⟨(hb.block g h.lt).trans h.1, h.2⟩
theorem Arr.rd (h : Arr w g l) (o n : Nat) (ho : o + n ≤ l.length) : Rd w (some ⟨g, o, none⟩) n ((l.drop o).take n) := by
  refine ⟨by rw [List.length_take, List.length_drop]; omega, fun x hx => h.2 x (List.mem_of_mem_drop (List.mem_of_mem_take hx)), fun _ => ⟨g, o, rfl, h.lt, fun j x hx => ?_⟩⟩
  rw [List.getElem?_take] at hx
  split at hx
  · rw [List.getElem?_drop] at hx
    exact h.cell hx
  · cases hx
set_option maxRecDepth 100000 in
/-- copy of bytes into such an array, behind its first o bytes. -/
theorem wpList_copyB {ops : Array Oper} {rest : List Oper} {op : Oper} {a : Act} {Q : Exit → Act → World → Prop} (hgd : op.guard = none) (d s : Operand)
    (ho : op.op = .call { callee := .builtin .copy, args := #[d, s], argTypes := #[28, 28] }) (h : Arr w g l) (o dLen dCap : Nat) (hd : a.eval d = .slice (some ⟨g, o, none⟩) dLen dCap) (A : Option Addr) (n c : Nat) (p : List Nat)
    (hs : a.eval s = .slice A n c) (hp : Rd w A n p) (hn : n ≤ dLen) (hfit : o + n ≤ l.length)
    (hk : ∀ w', Arr w' g (l.take o ++ (p ++ l.drop (o + p.length))) → (∀ x, Ch2 g x w w') → wpList Try.prog ops Q rest (a.put op.dst (goInt n)) w') : wpList Try.prog ops Q (op :: rest) a w := by
  have hsz : (Try.prog.info? 5).map (·.size) = some 1 := by kernel_rfl
  have hpl := hp.1
  have hall : ∀ x ∈ l.take o ++ (p ++ l.drop (o + p.length)), x < 256 := by
    intro x hx
    rcases List.mem_append.1 hx with h1 | h1
    · exact h.2 x (List.mem_of_mem_take h1)
    · rcases List.mem_append.1 h1 with h1 | h1
      · exact hp.lt h1
      · exact h.2 x (List.mem_of_mem_drop h1)
  by_cases h0 : n = 0
  · subst h0
    have hp0 : p = [] := List.eq_nil_of_length_eq_zero hpl
    subst hp0
    refine wpList_copy_nothing hgd d s 28 28 ho 5 Try.underlying28 hsz (some ⟨g, o, none⟩) A dLen dCap 0 c hd hs (by simp) ?_
    refine hk w ⟨?_, hall⟩ (fun x => Ch2.refl _ _ _)
    simpa using h.1
  · obtain ⟨b, o2, rfl, hb, hc⟩ := hp.2.2 (by omega)
    have hr := wpList_copy_own (P := Try.prog) (w := w) (ops := ops) (rest := rest) (o := op) (a := a) (Q := Q) hgd d s 28 28 ho 5 Try.underlying28 hsz g o dLen dCap ⟨b, o2, none⟩ n c hd hs (bv l).toArray _ h.1 (bv p) (by rw [bv_length, hpl]; exact (Nat.min_eq_left hn).symm)
      (fun j x hx => by
        unfold bv at hx
        rw [List.getElem?_map] at hx
        cases hq : p[j]? with
        | none => rw [hq] at hx; cases hx
        | some y =>
          rw [hq] at hx
          injection hx with hx
          subst hx
          have e : (⟨b, o2, none⟩ : Addr).add j = ⟨b, o2 + j, none⟩ := by unfold Addr.add; split <;> simp_all
          rw [e]; exact hc j y hq) (by simp [bv]; omega) (bv_one _)
    refine hr ?_
    rw [bv_length, hpl]
    refine hk _ ⟨?_, hall⟩ (fun x => Ch2.row _ _ _ _)
    rw [setRow_heap w g _ _ _ _ h.1]
    simp [bv, hpl, List.map_take, List.map_drop]
end
end Go.Proofs.Ytbdomhookjmmgaa
namespace Go.Proofs.Ytbdomhookjmmgaa
open Go.RowKit
/-- A slice of n elements with this address reads as vs. -/
def RdV (w : World) (A : Option Addr) (n : Nat) (vs : List Value) : Prop :=
  vs.length = n ∧ (0 < n → ∃ b o, A = some ⟨b, o, none⟩ ∧ b < w.heap.size ∧ ∀ (j : Nat) (v : Value), vs[j]? = some v → w.cell? ⟨b, o + j, none⟩ = some v)
section
variable {w w' : World} {A : Option Addr} {n : Nat} {vs : List Value}
theorem RdV.nil (w : World) (A : Option Addr) : RdV w A 0 [] := ⟨rfl, by simp⟩
theorem RdV.keep (h : RdV w A n vs) (hs : w.heap.size ≤ w'.heap.size) (hk : ∀ p : Addr, p.block < w.heap.size → w'.cell? p = w.cell? p) : RdV w' A n vs := by
  refine ⟨h.1, fun hn => ?_⟩
  obtain ⟨b, o, rfl, hb, hc⟩ := h.2 hn
  exact ⟨b, o, rfl, by omega, fun j x hx => (hk _ hb).trans (hc j x hx)⟩
theorem RdV.below (h : RdV w A n vs) (hb : Below w.heap.size w w') : RdV w' A n vs := h.keep hb.size fun _ hp => hb.cell hp
theorem RdV.drew (h : RdV w A n vs) : RdV w.drew A n vs := h
theorem RdV.alloc (h : RdV w A n vs) (o : Obj) : RdV (w.alloc o) A n vs := h.below ((Below.refl _ _).alloc (Nat.le_refl _) o)
theorem RdV.at_ (h : RdV w A n vs) {k : Nat} (hk : k < n) : ∃ b o v, A = some ⟨b, o, none⟩ ∧ b < w.heap.size ∧ vs[k]? = some v ∧ w.cell? ⟨b, o + k, none⟩ = some v := by
  obtain ⟨b, o, rfl, hb, hc⟩ := h.2 (by omega)
  have hx : vs[k]? = some (vs[k]'(by rw [h.1]; exact hk)) := List.getElem?_eq_getElem _
  exact ⟨b, o, _, rfl, hb, hx, hc k _ hx⟩
theorem RdV.take (h : RdV w A n vs) {k : Nat} (hk : k ≤ n) : RdV w A k (vs.take k) := by
  refine ⟨by rw [List.length_take, h.1]; omega, fun hn => ?_⟩
  obtain ⟨b, o, rfl, hb, hc⟩ := h.2 (by omega)
  refine ⟨b, o, rfl, hb, fun j x hx => hc j x ?_⟩
  rw [List.getElem?_take] at hx
  split at hx
  · exact hx
  · cases hx
end
theorem Rd.row {w : World} {A : Option Addr} {n : Nat} {l : List Nat} (h : Rd w A n l) : RdV w A n (bv l) := by
  refine ⟨by rw [bv_length, h.1], fun hn => ?_⟩
  obtain ⟨b, o, rfl, hb, hc⟩ := h.2.2 hn
  refine ⟨b, o, rfl, hb, fun j v hv => ?_⟩
  unfold bv at hv
  rw [List.getElem?_map] at hv
  cases hx : l[j]? with
  | none => rw [hx] at hv; cases hv
  | some x => rw [hx] at hv; injection hv with hv; subst hv; exact hc j x hx
/-- A slice of the call's own that holds the values vs. -/
def OwnV (w : World) (base : Nat) (E : TypeId) (A : Option Addr) (n cap : Nat) (vs : List Value) : Prop :=
  vs.length = n ∧ w.ownsRow base E 1 (.slice A n cap) n vs
/-- An element type whose values take one cell: its zero and its bytes. -/
structure One (S E : TypeId) (z : Value) (bytes : Nat) : Prop where
  info : (Try.prog.info? E).map (fun i => (i.zero, i.size, i.bytes)) = some (some z, 1, bytes)
  under : Try.prog.underlying S = some (.slice E)
  zero : z.cells = #[z]
  few : bytes ≤ 100
section
variable {w w' : World} {base n cap : Nat} {A : Option Addr} {vs : List Value} {S E : TypeId} {z : Value} {bytes : Nat}
set_option maxRecDepth 100000 in
theorem OwnV.rd (h : OwnV w base E A n cap vs) : RdV w A n vs := by
  refine ⟨h.1, fun hn => ?_⟩
  rcases h.2.2 with ⟨hv, h0⟩ | ⟨g, c, cur, hv, hb, hg, hnc, hc, hs, ht⟩
  · omega
  · injection hv with hA _ _
    subst hA
    refine ⟨g, 0, rfl, (Array.getElem?_eq_some_iff.1 hg).1, fun j x hx => ?_⟩
    rw [Nat.zero_add, cell_of_row w g j cur _ (0, 0) hg]
    rw [← ht, List.getElem?_take] at hx
    split at hx
    · simpa using hx
    · cases hx
theorem OwnV.grown (h : OwnV w base E A n cap vs) {row : Option Nat} (hg : w.grownBy w' row) (hne : row = none ∨ ∀ g, row = some g → (Value.slice A n cap).ownBlock ≠ some g) : OwnV w' base E A n cap vs := by
  refine ⟨h.1, h.2.kept hg ?_⟩
  rcases hb : (Value.slice A n cap).ownBlock with _ | g
  · exact .inl rfl
  · refine .inr fun e => ?_
    rcases hne with e2 | e2
    · rw [e2] at e; cases e
    · exact e2 g e.symm hb
theorem OwnV.below (h : OwnV w base E A n cap vs) (hb : Below w.heap.size w w') : OwnV w' base E A n cap vs := h.grown (grown_of_below hb) (.inl rfl)
theorem OwnV.alloc (h : OwnV w base E A n cap vs) (o : Obj) : OwnV (w.alloc o) base E A n cap vs := h.below ((Below.refl _ _).alloc (Nat.le_refl _) o)
theorem OwnV.drew (h : OwnV w base E A n cap vs) : OwnV w.drew base E A n cap vs := h
theorem OwnV.none_ (w : World) (base : Nat) (E : TypeId) : OwnV w base E none 0 0 [] := ⟨rfl, World.ownsRow_nil w base E 1⟩
theorem OwnV.blk (h : OwnV w base E A n cap vs) : ∀ g, (Value.slice A n cap).ownBlock = some g → base ≤ g ∧ g < w.heap.size := h.2.lt
theorem OwnV.fits (h : OwnV w base E A n cap vs) : n ≤ cap := by
  rcases h.2.2 with ⟨hv, hn⟩ | ⟨g, c, cur, hv, _, _, hc, _⟩
  · omega
  · injection hv with _ _ h3
    omega
theorem OwnV.form (h : OwnV w base E A n cap vs) (hn : 0 < n) : ∃ g, A = some ⟨g, 0, none⟩ ∧ base ≤ g ∧ g < w.heap.size := by
  rcases h.2.2 with ⟨hv, h0⟩ | ⟨g, c, cur, hv, hb, hg, _⟩
  · omega
  · injection hv with hA _ _
    exact ⟨g, hA, hb, (Array.getElem?_eq_some_iff.1 hg).1⟩
theorem OwnV.base_ {base' : Nat} (h : OwnV w base E A n cap vs) (hb : base' ≤ base) : OwnV w base' E A n cap vs := by
  refine ⟨h.1, h.2.1, ?_⟩
  rcases h.2.2 with hn | ⟨g, c, cur, hv, hbg, rest⟩
  · exact .inl hn
  · exact .inr ⟨g, c, cur, hv, Nat.le_trans hb hbg, rest⟩
theorem OwnV.lit (w : World) (E : TypeId) (vs : List Value) (hb : base ≤ w.heap.size) (hm : vs.length ≤ 100000000) : OwnV (w.alloc (.cells vs.toArray E)) base E (some ⟨w.heap.size, 0, none⟩) vs.length vs.length vs :=
  ⟨rfl, by
    have := World.ownsRow_lit (base := base) (e := E) (size := 1) w vs.toArray vs.length hb (by simp only [maxLen]; omega) (by simp)
    simpa using this⟩
theorem OwnV.zeros (w : World) (E : TypeId) (z : Value) (base n : Nat) (hb : base ≤ w.heap.size) (hn : n ≤ 100000000) : OwnV (w.alloc (.cells (madeCells #[z] n) E)) base E (some ⟨w.heap.size, 0, none⟩) n n (List.replicate n z) := by
  refine ⟨by simp, ?_⟩
  have h := World.ownsRow_lit (base := base) (e := E) (size := 1) w (madeCells #[z] n) n hb (by simp only [maxLen]; omega) (by rw [size_madeCells, Nat.mul_one])
  rw [toList_madeCells_one] at h
  exact h
theorem OwnV.set {g : Nat} (h : OwnV w base E (some ⟨g, 0, none⟩) n cap vs) (j : Nat) (y : Value) : OwnV (w.setCell ⟨g, j, none⟩ y) base E (some ⟨g, 0, none⟩) n cap (vs.set j y) :=
  ⟨by rw [List.length_set]; exact h.1, (h.2.stored j _).1⟩
theorem OwnV.cell {g : Nat} (h : OwnV w base E (some ⟨g, 0, none⟩) n cap vs) {j : Nat} {x : Value} (hx : vs[j]? = some x) : w.cell? ⟨g, j, none⟩ = some x := by
  have hj : j < n := by have := (List.getElem?_eq_some_iff.1 hx).1; rw [h.1] at this; exact this
  rw [h.2.cellAt j (by omega)]
  exact hx
theorem OwnV.free {g : Nat} (h : OwnV w base E (some ⟨g, 0, none⟩) n cap vs) (j : Nat) : w.frozen? ⟨g, j, none⟩ = false := h.2.frozenAt j
theorem OwnV.far {g j : Nat} (h : OwnV w base E A n cap vs) (hg : g < base) (u : Value) : OwnV (w.setCell ⟨g, j, none⟩ u) base E A n cap vs := by
  refine h.grown (row := some g) ⟨rfl, rfl, rfl, by simp [World.setCell], fun k hk hne => Below.heap_setCell _ _ _ _ (fun e => hne (by rw [e]))⟩ (.inr fun g' hg' e => ?_)
  injection hg' with hg'
  have := (h.blk _ e).1
  omega
/-- make of n elements. -/
theorem make_row (O : One S E z bytes) (n : Nat) (hn : n ≤ 1000000) (w : World) : (Instr.makeSlice S (.int .i64 (n : Int)) (.int .i64 (n : Int))).run Try.prog w = .ok (.slice (some ⟨w.heap.size, 0, none⟩) n n) (w.alloc (.cells (madeCells #[z] n) E)) := by
  obtain ⟨i0, hi, hz0, hz1, hz2⟩ := info_parts O.info
  have hb : (i0.bytes : Int) * n ≤ 281474976710656 := by
    have h1 : i0.bytes * n ≤ 100 * 1000000 := Nat.mul_le_mul (by rw [hz2]; exact O.few) hn
    have h2 : ((i0.bytes * n : Nat) : Int) = (i0.bytes : Int) * n := by simp
    rw [← h2]; omega
  have hr := run_make (P := Try.prog) w S E i0 _ O.under hi hz0 .i64 .i64 n n (by omega) (by omega) hb (by omega)
  rw [hz1, O.zero] at hr
  rw [Int.toNat_natCast, Nat.mul_one] at hr
  exact hr
/-- What append leaves. -/
structure GrewV (w w' : World) (base : Nat) (E : TypeId) (A A' : Option Addr) (n cap n' cap' : Nat) (vs : List Value) : Prop where
  own : OwnV w' base E A' n' cap' vs
  grew : w.grownBy w' (Value.slice A n cap).ownBlock
  blk : (Value.slice A' n' cap').ownBlock = (Value.slice A n cap).ownBlock ∨ (Value.slice A' n' cap').ownBlock = some w.heap.size
theorem GrewV.below {a : World} {n' cap' : Nat} {A' : Option Addr} {B : Nat} (h : GrewV w w' base E A A' n cap n' cap' vs) (hb : Below B a w) (hB : B ≤ w.heap.size) (hr : ∀ g, (Value.slice A n cap).ownBlock = some g → B ≤ g) : Below B a w' :=
  hb.grown h.grew hB hr
set_option maxRecDepth 100000 in
theorem run_appV (O : One S E z bytes) (hown : OwnV w base E A n cap vs) (B : Option Addr) (m c : Nat) (news : List Value) (h1 : ∀ u ∈ news, u.oneCell' = true) (hr : RdV w B m news) (hlen : n + m ≤ 1000000) (hbase : base ≤ w.heap.size) (ty : TypeId) :
    ∃ A' cap' w', (Builtin.append_ #[S, S] ty #[.slice A n cap, .slice B m c]).run Try.prog w = .ok (.slice A' (n + m) cap') w' ∧ GrewV w w' base E A A' n cap (n + m) cap' (vs ++ news) := by
  obtain ⟨i0, hi, hz0, hz1, hz2⟩ := info_parts O.info
  have hlen2 : (vs ++ news).length = n + m := by rw [List.length_append, hown.1, hr.1]
  by_cases hB : ∃ ad, B = some ad
  · obtain ⟨ad, rfl⟩ := hB
    have hnews : ∀ j u, news[j]? = some u → w.cell? (ad.add j) = some u := by
      intro j u hu
      by_cases hm : 0 < m
      · obtain ⟨b, o, he, _, hc⟩ := hr.2 hm
        injection he with he
        subst he
        have e : (⟨b, o, none⟩ : Addr).add j = ⟨b, o + j, none⟩ := by unfold Addr.add; split <;> simp_all
        rw [e]
        exact hc j _ hu
      · have h0 : news = [] := List.eq_nil_of_length_eq_zero (by rw [hr.1]; omega)
        subst h0
        simp at hu
    have hbytes : (n + m) * bytes ≤ 140737488355328 := by
      have : (n + m) * bytes ≤ 1000000 * 100 := Nat.mul_le_mul hlen O.few
      omega
    obtain ⟨v', w', hrun, h2, h3, _, h5⟩ := run_append_own_at (P := Try.prog) w base S ty E i0 z 1 bytes O.under hi hz0 hz1 hz2 (by rw [O.zero]; rfl) (by omega) (.slice A n cap) n vs hown.2 ad m c news
      (by rw [hr.1, Nat.mul_one]) hnews h1 (by simp only [maxLen]; omega) hbytes hbase
    have hf : ∃ A' cap', v' = .slice A' (n + m) cap' := by
      rcases h2.2 with ⟨hv, h0⟩ | ⟨g, c', cur, hv, _⟩
      · exact ⟨none, 0, by rw [hv, h0]⟩
      · exact ⟨_, _, hv⟩
    obtain ⟨A', cap', rfl⟩ := hf
    exact ⟨A', cap', w', hrun, ⟨hlen2, h2⟩, h3, h5⟩
  · have hB : B = none := by
      rcases B with _ | ad
      · rfl
      · exact absurd ⟨ad, rfl⟩ hB
    subst hB
    have hm : m = 0 := by
      rcases Nat.eq_zero_or_pos m with h0 | h0
      · exact h0
      · obtain ⟨b, o, he, _⟩ := hr.2 h0
        cases he
    subst hm
    have h0 : news = [] := List.eq_nil_of_length_eq_zero hr.1
    subst h0
    have hrun : (Builtin.append_ #[S, S] ty #[.slice A n cap, .slice none 0 c]).run Try.prog w = .ok (.slice A n cap) w := by
      rcases hown.2.2 with ⟨hv, hn0⟩ | ⟨g, c', cur, hv, _, _, hnc, _⟩
      · rw [hv]
        simp [Builtin.append_, run_underlying O.under, sizeOf, typeInfo, hi, Builtin.lenOf, Builtin.firstCells]
      · rw [hv]
        simp [Builtin.append_, run_underlying O.under, sizeOf, typeInfo, hi, Builtin.lenOf, Builtin.firstCells, hnc, storeCells]
    exact ⟨A, cap, w, hrun, ⟨by simpa using hown, World.grownBy.refl w _, .inl rfl⟩⟩
theorem wpList_appV (O : One S E z bytes) {ops : Array Oper} {rest : List Oper} {o : Oper} {a : Act} {Q : Exit → Act → World → Prop} (hgd : o.guard = none) (s x : Operand)
    (ho : o.op = .call { callee := .builtin .append, args := #[s, x], argTypes := #[S, S] })
    (hs : a.eval s = .slice A n cap) (hown : OwnV w base E A n cap vs) (B : Option Addr) (m c : Nat) (news : List Value) (h1 : ∀ u ∈ news, u.oneCell' = true) (hx : a.eval x = .slice B m c) (hr : RdV w B m news) (hlen : n + m ≤ 1000000) (hbase : base ≤ w.heap.size)
    (h : ∀ A' cap' w', GrewV w w' base E A A' n cap (n + m) cap' (vs ++ news) → wpList Try.prog ops Q rest (a.put o.dst (.slice A' (n + m) cap')) w') : wpList Try.prog ops Q (o :: rest) a w := by
  obtain ⟨A', cap', w', hrun, hg⟩ := run_appV O hown B m c news h1 hr hlen hbase o.type
  refine wpList_plain hgd fun K hK => ?_
  unfold Oper.wp execOp
  simp only [ho, resolve, invoke, builtin, Sem.run_bind, Sem.run_pure, Result.andThen_ok, List.map_toArray, List.map_cons, List.map_nil, hs, hx, hrun]
  exact hK _ _ (h A' cap' w' hg)
end
set_option maxRecDepth 100000 in
/-- A new row of one value reads as it. -/
theorem rdv_one (w : World) (E : TypeId) (v : Value) : RdV (w.alloc (.cells #[v] E)) (some ⟨w.heap.size, 0, none⟩) 1 [v] := by
  refine ⟨rfl, fun _ => ⟨w.heap.size, 0, rfl, by simp, fun j x hx => ?_⟩⟩
  rw [Nat.zero_add, World.cell?_alloc_mark]
  match j, hx with
  | 0, hx => simp at hx; subst hx; rfl
  | j + 1, hx => simp at hx
end Go.Proofs.Ytbdomhookjmmgaa
namespace Go.Proofs.Ytbdomhookjmmgaa
open Go.RowKit
/-- A slice of n elements of s cells each with this address reads as vs. -/
def RdC (s : Nat) (w : World) (A : Option Addr) (n : Nat) (vs : List Value) : Prop :=
  vs.length = n * s ∧ (0 < n → ∃ b o, A = some ⟨b, o, none⟩ ∧ b < w.heap.size ∧ ∀ (j : Nat) (v : Value), vs[j]? = some v → w.cell? ⟨b, o + j, none⟩ = some v)
section
variable {s : Nat} {w w' : World} {A : Option Addr} {n : Nat} {vs : List Value}
theorem RdC.nil (s : Nat) (w : World) (A : Option Addr) : RdC s w A 0 [] := ⟨by simp, by simp⟩
theorem RdC.keep (h : RdC s w A n vs) (hs : w.heap.size ≤ w'.heap.size) (hk : ∀ p : Addr, p.block < w.heap.size → w'.cell? p = w.cell? p) : RdC s w' A n vs := by
  refine ⟨h.1, fun hn => ?_⟩
  obtain ⟨b, o, rfl, hb, hc⟩ := h.2 hn
  exact ⟨b, o, rfl, by omega, fun j x hx => (hk _ hb).trans (hc j x hx)⟩
theorem RdC.below (h : RdC s w A n vs) (hb : Below w.heap.size w w') : RdC s w' A n vs := h.keep hb.size fun _ hp => hb.cell hp
theorem RdC.drew (h : RdC s w A n vs) : RdC s w.drew A n vs := h
theorem RdC.alloc (h : RdC s w A n vs) (o : Obj) : RdC s (w.alloc o) A n vs := h.below ((Below.refl _ _).alloc (Nat.le_refl _) o)
theorem RdC.take (h : RdC s w A n vs) {k : Nat} (hk : k ≤ n) : RdC s w A k (vs.take (k * s)) := by
  refine ⟨by rw [List.length_take, h.1, Nat.min_eq_left (Nat.mul_le_mul_right s hk)], fun hn => ?_⟩
  obtain ⟨b, o, rfl, hb, hc⟩ := h.2 (by omega)
  refine ⟨b, o, rfl, hb, fun j x hx => hc j x ?_⟩
  rw [List.getElem?_take] at hx
  split at hx
  · exact hx
  · cases hx
end
/-- A slice of the call's own that holds the cells vs. -/
def OwnC (s : Nat) (w : World) (base : Nat) (E : TypeId) (A : Option Addr) (n cap : Nat) (vs : List Value) : Prop :=
  w.ownsRow base E s (.slice A n cap) n vs
/-- An element type whose values take s cells: its zero and its bytes. -/
structure Many (s : Nat) (S E : TypeId) (z : Value) (bytes : Nat) : Prop where
  info : (Try.prog.info? E).map (fun i => (i.zero, i.size, i.bytes)) = some (some z, s, bytes)
  under : Try.prog.underlying S = some (.slice E)
  zero : z.cells.size = s
  pos : 0 < s
  few : bytes ≤ 100
section
variable {s : Nat} {w w' : World} {base n cap : Nat} {A : Option Addr} {vs : List Value} {S E : TypeId} {z : Value} {bytes : Nat}
set_option maxRecDepth 100000 in
theorem OwnC.rd (h : OwnC s w base E A n cap vs) : RdC s w A n vs := by
  refine ⟨h.1, fun hn => ?_⟩
  rcases h.2 with ⟨hv, h0⟩ | ⟨g, c, cur, hv, hb, hg, hnc, hc, hs, ht⟩
  · omega
  · injection hv with hA _ _
    subst hA
    refine ⟨g, 0, rfl, (Array.getElem?_eq_some_iff.1 hg).1, fun j x hx => ?_⟩
    rw [Nat.zero_add, cell_of_row w g j cur _ (0, 0) hg]
    rw [← ht, List.getElem?_take] at hx
    split at hx
    · simpa using hx
    · cases hx
theorem OwnC.grown (h : OwnC s w base E A n cap vs) {row : Option Nat} (hg : w.grownBy w' row) (hne : row = none ∨ ∀ g, row = some g → (Value.slice A n cap).ownBlock ≠ some g) : OwnC s w' base E A n cap vs := by
  refine World.ownsRow.kept h hg ?_
  rcases hb : (Value.slice A n cap).ownBlock with _ | g
  · exact .inl rfl
  · refine .inr fun e => ?_
    rcases hne with e2 | e2
    · rw [e2] at e; cases e
    · exact e2 g e.symm hb
theorem OwnC.below (h : OwnC s w base E A n cap vs) (hb : Below w.heap.size w w') : OwnC s w' base E A n cap vs := h.grown (grown_of_below hb) (.inl rfl)
theorem OwnC.alloc (h : OwnC s w base E A n cap vs) (o : Obj) : OwnC s (w.alloc o) base E A n cap vs := h.below ((Below.refl _ _).alloc (Nat.le_refl _) o)
theorem OwnC.drew (h : OwnC s w base E A n cap vs) : OwnC s w.drew base E A n cap vs := h
theorem OwnC.none_ (s : Nat) (w : World) (base : Nat) (E : TypeId) : OwnC s w base E none 0 0 [] := World.ownsRow_nil w base E s
theorem OwnC.blk (h : OwnC s w base E A n cap vs) : ∀ g, (Value.slice A n cap).ownBlock = some g → base ≤ g ∧ g < w.heap.size := World.ownsRow.lt h
theorem OwnC.fits (h : OwnC s w base E A n cap vs) : n ≤ cap := by
  rcases h.2 with ⟨hv, hn⟩ | ⟨g, c, cur, hv, _, _, hc, _⟩
  · omega
  · injection hv with _ _ h3
    omega
theorem OwnC.form (h : OwnC s w base E A n cap vs) (hn : 0 < n) : ∃ g, A = some ⟨g, 0, none⟩ ∧ base ≤ g ∧ g < w.heap.size := by
  rcases h.2 with ⟨hv, h0⟩ | ⟨g, c, cur, hv, hb, hg, _⟩
  · omega
  · injection hv with hA _ _
    exact ⟨g, hA, hb, (Array.getElem?_eq_some_iff.1 hg).1⟩
theorem OwnC.base_ {base' : Nat} (h : OwnC s w base E A n cap vs) (hb : base' ≤ base) : OwnC s w base' E A n cap vs := by
  refine ⟨h.1, ?_⟩
  rcases h.2 with hn | ⟨g, c, cur, hv, hbg, rest⟩
  · exact .inl hn
  · exact .inr ⟨g, c, cur, hv, Nat.le_trans hb hbg, rest⟩
/-- What append leaves. -/
structure GrewC (s : Nat) (w w' : World) (base : Nat) (E : TypeId) (A A' : Option Addr) (n cap n' cap' : Nat) (vs : List Value) : Prop where
  own : OwnC s w' base E A' n' cap' vs
  grew : w.grownBy w' (Value.slice A n cap).ownBlock
  blk : (Value.slice A' n' cap').ownBlock = (Value.slice A n cap).ownBlock ∨ (Value.slice A' n' cap').ownBlock = some w.heap.size
theorem GrewC.below {a : World} {n' cap' : Nat} {A' : Option Addr} {B : Nat} (h : GrewC s w w' base E A A' n cap n' cap' vs) (hb : Below B a w) (hB : B ≤ w.heap.size) (hr : ∀ g, (Value.slice A n cap).ownBlock = some g → B ≤ g) : Below B a w' :=
  hb.grown h.grew hB hr
set_option maxRecDepth 100000 in
theorem run_appC (O : Many s S E z bytes) (hown : OwnC s w base E A n cap vs) (ad : Addr) (m c : Nat) (news : List Value) (h1 : ∀ u ∈ news, u.oneCell' = true) (hr : RdC s w (some ad) m news) (hlen : n + m ≤ 1000000) (hbase : base ≤ w.heap.size) (ty : TypeId) :
    ∃ A' cap' w', (Builtin.append_ #[S, S] ty #[.slice A n cap, .slice (some ad) m c]).run Try.prog w = .ok (.slice A' (n + m) cap') w' ∧ GrewC s w w' base E A A' n cap (n + m) cap' (vs ++ news) := by
  obtain ⟨i0, hi, hz0, hz1, hz2⟩ := info_parts O.info
  have hnews : ∀ j u, news[j]? = some u → w.cell? (ad.add j) = some u := by
    intro j u hu
    by_cases hm : 0 < m
    · obtain ⟨b, o, he, _, hc⟩ := hr.2 hm
      injection he with he
      subst he
      have e : (⟨b, o, none⟩ : Addr).add j = ⟨b, o + j, none⟩ := by unfold Addr.add; split <;> simp_all
      rw [e]
      exact hc j _ hu
    · have h00 : m = 0 := by omega
      subst h00
      have h0 : news = [] := List.eq_nil_of_length_eq_zero (by rw [hr.1]; simp)
      subst h0
      simp at hu
  have hbytes : (n + m) * bytes ≤ 140737488355328 := by
    have : (n + m) * bytes ≤ 1000000 * 100 := Nat.mul_le_mul hlen O.few
    omega
  obtain ⟨v', w', hrun, h2, h3, _, h5⟩ := run_append_own_at (P := Try.prog) w base S ty E i0 z s bytes O.under hi hz0 hz1 hz2 O.zero O.pos (.slice A n cap) n vs hown ad m c news
    hr.1 hnews h1 (by simp only [maxLen]; omega) hbytes hbase
  have hf : ∃ A' cap', v' = .slice A' (n + m) cap' := by
    rcases h2.2 with ⟨hv, h0⟩ | ⟨g, c', cur, hv, _⟩
    · exact ⟨none, 0, by rw [hv, h0]⟩
    · exact ⟨_, _, hv⟩
  obtain ⟨A', cap', rfl⟩ := hf
  exact ⟨A', cap', w', hrun, ⟨h2, h3, h5⟩⟩
theorem wpList_appC (O : Many s S E z bytes) {ops : Array Oper} {rest : List Oper} {o : Oper} {a : Act} {Q : Exit → Act → World → Prop} (hgd : o.guard = none) (s1 x : Operand)
    (ho : o.op = .call { callee := .builtin .append, args := #[s1, x], argTypes := #[S, S] })
    (hs : a.eval s1 = .slice A n cap) (hown : OwnC s w base E A n cap vs) (ad : Addr) (m c : Nat) (news : List Value) (h1 : ∀ u ∈ news, u.oneCell' = true) (hx : a.eval x = .slice (some ad) m c) (hr : RdC s w (some ad) m news) (hlen : n + m ≤ 1000000) (hbase : base ≤ w.heap.size)
    (h : ∀ A' cap' w', GrewC s w w' base E A A' n cap (n + m) cap' (vs ++ news) → wpList Try.prog ops Q rest (a.put o.dst (.slice A' (n + m) cap')) w') : wpList Try.prog ops Q (o :: rest) a w := by
  obtain ⟨A', cap', w', hrun, hg⟩ := run_appC O hown ad m c news h1 hr hlen hbase o.type
  refine wpList_plain hgd fun K hK => ?_
  unfold Oper.wp execOp
  simp only [ho, resolve, invoke, builtin, Sem.run_bind, Sem.run_pure, Result.andThen_ok, List.map_toArray, List.map_cons, List.map_nil, hs, hx, hrun]
  exact hK _ _ (h A' cap' w' hg)
end
/-- A new row of cells reads as it. -/
theorem rdc_new (s : Nat) (w : World) (E : TypeId) (vs : List Value) (n : Nat) (hn : vs.length = n * s) (fr : Nat × Nat) : RdC s (w.alloc (.cells vs.toArray E fr)) (some ⟨w.heap.size, 0, none⟩) n vs := by
  refine ⟨hn, fun _ => ⟨w.heap.size, 0, rfl, by simp, fun j x hx => ?_⟩⟩
  rw [Nat.zero_add, World.cell?_alloc_mark]
  simpa using hx
end Go.Proofs.Ytbdomhookjmmgaa
namespace Go.Proofs.Ytbdomhookjmmgaa
open Go.RowKit
theorem step_appV {w : World} {base n cap : Nat} {A : Option Addr} {vs : List Value} {S E : TypeId} {z : Value} {bytes : Nat} (O : One S E z bytes) {ops : Array Oper} {o : Oper} {a : Act} {K : Act → World → Prop} {Q : Exit → Act → World → Prop} {F : Prop} (hw : Region.wanted o (yielded ops a.tmps) = true) (s x : Operand)
    (ho : o.op = .call { callee := .builtin .append, args := #[s, x], argTypes := #[S, S] })
    (hs : a.eval s = .slice A n cap) (hown : OwnV w base E A n cap vs) (B : Option Addr) (m c : Nat) (news : List Value) (h1 : ∀ u ∈ news, u.oneCell' = true) (hx : a.eval x = .slice B m c) (hr : RdV w B m news) (hlen : n + m ≤ 1000000) (hbase : base ≤ w.heap.size)
    (h : ∀ A' cap' w', GrewV w w' base E A A' n cap (n + m) cap' (vs ++ news) → K (a.put o.dst (.slice A' (n + m) cap')) w') :
    if Region.wanted o (yielded ops a.tmps) = true then Oper.wp Try.prog o a w K Q else F := by
  rw [if_pos hw]
  obtain ⟨A', cap', w', hrun, hg⟩ := run_appV O hown B m c news h1 hr hlen hbase o.type
  unfold Oper.wp execOp
  simp only [ho, resolve, invoke, builtin, Sem.run_bind, Sem.run_pure, Result.andThen_ok, List.map_toArray, List.map_cons, List.map_nil, hs, hx, hrun]
  exact h A' cap' w' hg
end Go.Proofs.Ytbdomhookjmmgaa
namespace Go.Proofs.Ytbdomhookjmmgaa
open Go.RowKit
/-- The bytes of a string. -/
def bs (s : ByteArray) : List Nat := s.data.toList.map UInt8.toNat
theorem bs_lt (s : ByteArray) : ∀ x ∈ bs s, x < 256 := by
  intro x hx
  obtain ⟨u, _, rfl⟩ := List.mem_map.1 hx
  have := u.toNat_lt
  omega
theorem bs_length (s : ByteArray) : (bs s).length = s.size := by
  rw [bs, List.length_map, Array.length_toList]; rfl
theorem str_bs (s : ByteArray) : str (bs s) = s := by
  unfold str bs
  rw [List.map_map]
  have e : ((fun (n : Nat) => UInt8.ofNat n) ∘ UInt8.toNat) = id := by funext u; simp
  rw [e, List.map_id]
theorem bs_str {l : List Nat} (hl : ∀ x ∈ l, x < 256) : bs (str l) = l := by
  have h : str (bs (str l)) = str l := str_bs _
  exact str_inj (bs_lt _) hl h
theorem bs_inj {a b : ByteArray} (h : bs a = bs b) : a = b := by rw [← str_bs a, ← str_bs b, h]
theorem bs_at {s : ByteArray} {k : Nat} (hk : k < s.size) : (bs s)[k]? = some s[k].toNat := by
  unfold bs
  rw [List.getElem?_map]
  have h2 : k < s.data.toList.length := by rw [Array.length_toList]; exact hk
  rw [List.getElem?_eq_getElem h2]
  simp [ByteArray.getElem_eq_getElem_data]
theorem bs_extract (s : ByteArray) (a b : Nat) : bs (s.extract a b) = ((bs s).drop a).take (b - a) := by
  unfold bs
  rw [Lib.extract_data, List.map_take, List.map_drop]
theorem bs_append (a b : ByteArray) : bs (a ++ b) = bs a ++ bs b := by
  unfold bs
  rw [← List.map_append]
  simp
/-- What is equal. -/
theorem toList_beq (a b : ByteArray) : (a.toList == b.toList) = decide (bs a = bs b) := by
  rw [ByteArray.toList_eq, ByteArray.toList_eq]
  by_cases h : a = b
  · subst h; simp
  · have h1 : ¬ bs a = bs b := fun e => h (bs_inj e)
    rw [decide_eq_false h1, beq_eq_false_iff_ne]
    intro e
    apply h1
    unfold bs
    rw [e]
/-- What is less, byte by byte. -/
def lessL : List Nat → List Nat → Bool
  | _, [] => false
  | [], _ :: _ => true
  | a :: x, b :: y => decide (a < b) || (decide (a = b) && lessL x y)
theorem less_aux : ∀ (x y : List UInt8), Op.bytesLess x y = lessL (x.map UInt8.toNat) (y.map UInt8.toNat)
  | [], [] => rfl
  | _ :: _, [] => rfl
  | [], _ :: _ => rfl
  | a :: x, b :: y => by
    have e1 : (decide (a < b)) = decide (a.toNat < b.toNat) := by
      by_cases h : a < b
      · rw [decide_eq_true h, decide_eq_true (UInt8.lt_iff_toNat_lt.1 h)]
      · rw [decide_eq_false h, decide_eq_false (fun h2 => h (UInt8.lt_iff_toNat_lt.2 h2))]
    have e2 : (a == b) = decide (a.toNat = b.toNat) := by
      by_cases h : a = b
      · subst h; simp
      · have h2 : ¬ a.toNat = b.toNat := fun e => h (UInt8.toNat_inj.1 e)
        rw [decide_eq_false h2, beq_eq_false_iff_ne]; exact h
    show (decide (a < b) || (a == b && Op.bytesLess x y)) = (decide (a.toNat < b.toNat) || (decide (a.toNat = b.toNat) && lessL (x.map UInt8.toNat) (y.map UInt8.toNat)))
    rw [e1, e2, less_aux x y]
theorem bytesLess_bs (a b : ByteArray) : Op.bytesLess a.toList b.toList = lessL (bs a) (bs b) := by
  rw [ByteArray.toList_eq, ByteArray.toList_eq]
  exact less_aux _ _
/-- append of a string to bytes of the call's own. -/
theorem strCells_bv (s : ByteArray) : Lib.strCells s = bv (bs s) := by
  unfold Lib.strCells bv bs
  rw [List.map_map]
  rfl
theorem wpList_appS {w : World} {base n cap : Nat} {A : Option Addr} {l : List Nat} {ops : Array Oper} {rest : List Oper} {o : Oper} {a : Act} {Q : Exit → Act → World → Prop} (hgd : o.guard = none) (sl x : Operand)
    (ho : o.op = .call { callee := .builtin .append, args := #[sl, x], argTypes := #[28, 9] })
    (hs : a.eval sl = .slice A n cap) (hown : Own w base A n cap l) (s : ByteArray) (hx : a.eval x = .string s) (hlen : n + s.size ≤ 100000000) (hbase : base ≤ w.heap.size)
    (h : ∀ A' cap' w', Own w' base A' (n + s.size) cap' (l ++ bs s) → w.grownBy w' (Value.slice A n cap).ownBlock → wpList Try.prog ops Q rest (a.put o.dst (.slice A' (n + s.size) cap')) w') : wpList Try.prog ops Q (o :: rest) a w := by
  obtain ⟨i0, hi, hz0, hz1, hz2⟩ := info_parts info5
  refine Lib.wpList_append_own_string w hgd sl x 28 9 ho base 5 i0 Try.underlying28 Try.underlying9 hi hz0 hz1 hz2 (.slice A n cap) n (bv l) hs hown.2.2 s hx (by simp only [maxLen]; omega) (by omega) hbase ?_
  intro v' w' h2 h3 _
  have hf : ∃ A' cap', v' = .slice A' (n + s.size) cap' := by
    rcases h2.2 with ⟨hv, h0⟩ | ⟨g, c', cur, hv, _⟩
    · exact ⟨none, 0, by rw [hv, h0]⟩
    · exact ⟨_, _, hv⟩
  obtain ⟨A', cap', rfl⟩ := hf
  refine h A' cap' w' ⟨by rw [List.length_append, hown.1, bs_length], fun y hy => (List.mem_append.1 hy).elim (hown.2.1 y) (bs_lt s y), ?_⟩ h3
  rw [bv_append, ← strCells_bv]
  exact h2
/-- Bytes of a string, in new memory. -/
theorem conv_bytes (w : World) (s : ByteArray) : ∃ W cap, (convert 9 28 (.string s)).run Try.prog w = .ok (.slice (some ⟨w.heap.size, 0, none⟩) s.size cap) W ∧ Rd W (some ⟨w.heap.size, 0, none⟩) s.size (bs s) ∧
    Below w.heap.size w W ∧ s.size ≤ cap ∧ (∀ j, j < s.size → W.frozen? ⟨w.heap.size, j, none⟩ = false) ∧ w.heap.size < W.heap.size := by
  refine ⟨Lib.bytesWorld w 5 s, grownCap w s.size 0 5, Lib.run_convert_string_bytes w 9 28 5 s Try.underlying9 Try.underlying28 Try.underlying5, ⟨bs_length s, bs_lt s, fun _ => ⟨w.heap.size, 0, rfl, ?_, fun j x hx => ?_⟩⟩, ⟨?_, ?_, ?_, ?_, fun k hk => Lib.bytesWorld_at_old w 5 s k hk⟩, grownCap_ge _ _ _ _, fun j hj => ?_, ?_⟩
  · rw [Lib.bytesWorld_size]; omega
  · rw [Nat.zero_add]
    have hj : j < s.size := by have := (List.getElem?_eq_some_iff.1 hx).1; rw [bs_length] at this; exact this
    rw [Lib.bytesWorld_cell w 5 s j hj]
    have h2 : j < s.data.toList.length := by rw [Array.length_toList]; exact hj
    unfold bs at hx
    rw [List.getElem?_map, List.getElem?_eq_getElem h2, Option.map_some, Option.some.injEq] at hx
    rw [List.getD_eq_getElem?_getD, List.getElem?_eq_getElem h2, Option.getD_some, hx]
  · unfold Lib.bytesWorld World.freeze; split <;> rfl
  · unfold Lib.bytesWorld World.freeze; split <;> rfl
  · unfold Lib.bytesWorld World.freeze; split <;> rfl
  · rw [Lib.bytesWorld_size]; omega
  · have hsz : (Lib.bytesCells w 5 s).size ≥ s.size := by
      unfold Lib.bytesCells
      rw [Array.size_append, Array.size_map]
      exact Nat.le_add_right _ _
    unfold World.frozen?
    rw [Lib.bytesWorld_at_new w 5 s]
    simp
    omega
  · rw [Lib.bytesWorld_size]; omega
/-- A byte of a row that reads as a list is written. -/
theorem Rd.set {w : World} {g n j y : Nat} {l : List Nat} (h : Rd w (some ⟨g, 0, none⟩) n l) (hj : j < n) (hy : y < 256) : Rd (w.setCell ⟨g, j, none⟩ (.int .u8 (y : Int))) (some ⟨g, 0, none⟩) n (l.set j y) := by
  obtain ⟨b, o, he, hb, hc⟩ := h.2.2 (by omega)
  injection he with he
  injection he with e1 e2
  subst e1 e2
  have hx : l[j]? = some (l[j]'(by rw [h.1]; exact hj)) := List.getElem?_eq_getElem _
  refine ⟨by rw [List.length_set]; exact h.1, fun x hx => ?_, fun _ => ⟨g, 0, rfl, by simpa [World.setCell] using hb, fun i x hi => ?_⟩⟩
  · rcases List.mem_or_eq_of_mem_set hx with h1 | h1
    · exact h.2.1 x h1
    · omega
  · rw [Nat.zero_add]
    by_cases e : i = j
    · subst e
      rw [List.getElem?_set_self (by rw [h.1]; exact hj)] at hi
      injection hi with hi
      subst hi
      have h0 := hc i _ hx
      rw [Nat.zero_add] at h0
      exact World.cell?_setCell_same w _ _ h0
    · rw [List.getElem?_set_ne (fun e2 => e e2.symm)] at hi
      have h0 := hc i x hi
      rw [Nat.zero_add] at h0
      rw [World.cell?_setCell_other w _ _ _ (fun e2 => e (by injection e2 with _ e3; exact e3.symm))]
      exact h0
/-- A string that came in. -/
theorem text_in {s : ByteArray} : ∃ l, bs s = l ∧ (∀ x ∈ l, x < 256) ∧ l.length = s.size := ⟨bs s, rfl, bs_lt s, bs_length s⟩
end Go.Proofs.Ytbdomhookjmmgaa
