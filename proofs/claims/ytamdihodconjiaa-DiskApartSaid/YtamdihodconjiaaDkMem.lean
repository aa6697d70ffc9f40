/- The program's disk in memory: its box, its buffer, its map, the rows and sectors that are loose; each block by its label. -/
import Derived.Test.YtamdihodconjiaaDkMath
import Derived.Test.YtamdihodconjiaaHolds
import Derived.Test.YtamdihodconjiaaStepV
import Derived.Test.YtamdihodconjiaaRowC
import Derived.Test.YtamdihodconjiaaStr
import Derived.Maps.OwnSet
import Derived.Maps.RangeWalk
import Derived.Laws.CopyOwn
import Derived.Laws.Rows
import Derived.Carry
namespace Go.Proofs.Ytamdihodconjiaa
open Go.RowKit
set_option linter.unusedVariables false
/-- Block g is these bytes. -/
def Buf (w : World) (g : Nat) (l : List Nat) : Prop := w.heap[g]? = some (.cells (bv l).toArray 5 (0, 0)) ∧ ∀ x ∈ l, x < 256
section
variable {g : Nat} {l : List Nat} {w v : World}
theorem Buf.lt (h : Buf w g l) : g < w.heap.size := (Array.getElem?_eq_some_iff.1 h.1).1
theorem Buf.block (h : Buf w g l) (hb : v.heap[g]? = w.heap[g]?) : Buf v g l := ⟨hb.trans h.1, h.2⟩
theorem Buf.below (h : Buf w g l) (hb : Below w.heap.size w v) : Buf v g l := h.block (hb.block g h.lt)
theorem Buf.cell (h : Buf w g l) {j x : Nat} (hx : l[j]? = some x) : w.cell? ⟨g, j, none⟩ = some (.int .u8 (x : Int)) := by
  refine (cell_of_row _ _ _ _ _ _ h.1).trans ?_
  have := bv_at hx
  simpa using this
theorem Buf.free (h : Buf w g l) (j : Nat) : w.frozen? ⟨g, j, none⟩ = false := frozen_of_row _ _ _ _ _ h.1
theorem Buf.set (h : Buf w g l) (j y : Nat) (hy : y < 256) : Buf (w.setCell ⟨g, j, none⟩ (.int .u8 (y : Int))) g (l.set j y) := by
  refine ⟨?_, fun x hx => ?_⟩
  · rw [heap_setCell_same _ _ _ _ _ _ h.1]
    simp [bv, List.map_set]
  · rcases List.mem_or_eq_of_mem_set hx with h1 | h1
    · exact h.2 x h1
    · omega
theorem Buf.rd (h : Buf w g l) (o n : Nat) (ho : o + n ≤ l.length) : Rd w (some ⟨g, o, none⟩) n ((l.drop o).take n) := by
  refine ⟨by rw [List.length_take, List.length_drop]; omega, fun x hx => h.2 x (List.mem_of_mem_drop (List.mem_of_mem_take hx)), fun _ => ⟨g, o, rfl, h.lt, fun j x hx => ?_⟩⟩
  rw [List.getElem?_take] at hx
  split at hx
  · rw [List.getElem?_drop] at hx
    exact h.cell hx
  · cases hx
theorem Buf.all (h : Buf w g l) : Rd w (some ⟨g, 0, none⟩) l.length l := by
  have := h.rd 0 l.length (by omega)
  rw [List.drop_zero, List.take_length] at this
  exact this
/-- Only block b, and new ones, may be other. -/
structure Ch1 (b : Nat) (w w' : World) : Prop where
  os : w'.os = w.os
  tape : w'.tape = w.tape
  output : w'.output = w.output
  size : w.heap.size ≤ w'.heap.size
  block : ∀ k, k < w.heap.size → k ≠ b → w'.heap[k]? = w.heap[k]?
theorem Ch1.refl (b : Nat) (w : World) : Ch1 b w w := ⟨rfl, rfl, rfl, Nat.le_refl _, fun _ _ _ => rfl⟩
theorem Ch1.row (b : Nat) (w : World) (cs : Array Value) : Ch1 b w (w.setRow b cs) := ⟨rfl, rfl, rfl, by simp [World.setRow], fun k hk h1 => setRow_other w b k cs h1⟩
theorem Ch1.set (b i : Nat) (w : World) (x : Value) : Ch1 b w (w.setCell ⟨b, i, none⟩ x) := ⟨rfl, rfl, rfl, by simp [World.setCell], fun k hk h1 => Below.heap_setCell _ _ _ _ (fun e => h1 (by rw [e]))⟩
theorem Ch1.trans {b : Nat} {u : World} (h : Ch1 b w v) (k : Ch1 b v u) : Ch1 b w u := ⟨k.os.trans h.os, k.tape.trans h.tape, k.output.trans h.output, Nat.le_trans h.size k.size, fun i hi h1 => (k.block i (Nat.lt_of_lt_of_le hi h.size) h1).trans (h.block i hi h1)⟩
theorem Ch1.of_below {b : Nat} (h : Below w.heap.size w v) : Ch1 b w v := ⟨h.os, h.tape, h.output, h.size, fun k hk _ => h.block k hk⟩
theorem Ch1.below {b B : Nat} {a : World} (h : Ch1 b w v) (ha : Below B a w) (h1 : B ≤ b) (hs : B ≤ w.heap.size) : Below B a v :=
  ha.trans ⟨h.os, h.tape, h.output, h.size, fun k hk => h.block k (Nat.lt_of_lt_of_le hk hs) (by omega)⟩
set_option maxRecDepth 100000 in
/-- copy of bytes into such a block, behind its first o bytes. -/
theorem wpList_copyF {ops : Array Oper} {rest : List Oper} {op : Oper} {a : Act} {Q : Exit → Act → World → Prop} (hgd : op.guard = none) (d s : Operand)
    (ho : op.op = .call { callee := .builtin .copy, args := #[d, s], argTypes := #[35, 35] }) (h : Buf w g l) (o dLen dCap : Nat) (hd : a.eval d = .slice (some ⟨g, o, none⟩) dLen dCap) (A : Option Addr) (n c : Nat) (p : List Nat)
    (hs : a.eval s = .slice A n c) (hp : Rd w A n p) (hn : n ≤ dLen) (hfit : o + n ≤ l.length)
    (hk : ∀ w', Buf w' g (l.take o ++ (p ++ l.drop (o + p.length))) → Ch1 g w w' → wpList Try.prog ops Q rest (a.put op.dst (goInt n)) w') : wpList Try.prog ops Q (op :: rest) a w := by
  have hsz : (Try.prog.info? 5).map (·.size) = some 1 := by kernel_rfl
  have hpl := hp.1
  have hall : ∀ x ∈ l.take o ++ (p ++ l.drop (o + p.length)), x < 256 := by
    intro x hx
    rcases List.mem_append.1 hx with h1 | h1
    · exact h.2 x (List.mem_of_mem_take h1)
    · rcases List.mem_append.1 h1 with h1 | h1
      · exact hp.lt h1
      · exact h.2 x (List.mem_of_mem_drop h1)
  by_cases h0 : n = 0
  · subst h0
    have hp0 : p = [] := List.eq_nil_of_length_eq_zero hpl
    subst hp0
    refine wpList_copy_nothing hgd d s 35 35 ho 5 Try.underlying35 hsz (some ⟨g, o, none⟩) A dLen dCap 0 c hd hs (by simp) ?_
    refine hk w ⟨?_, hall⟩ (Ch1.refl _ _)
    simpa using h.1
  · obtain ⟨b, o2, rfl, hb, hc⟩ := hp.2.2 (by omega)
    have hr := wpList_copy_own (P := Try.prog) (w := w) (ops := ops) (rest := rest) (o := op) (a := a) (Q := Q) hgd d s 35 35 ho 5 Try.underlying35 hsz g o dLen dCap ⟨b, o2, none⟩ n c hd hs (bv l).toArray _ h.1 (bv p) (by rw [bv_length, hpl]; exact (Nat.min_eq_left hn).symm)
      (fun j x hx => by
        unfold bv at hx
        rw [List.getElem?_map] at hx
        cases hq : p[j]? with
        | none => rw [hq] at hx; cases hx
        | some y =>
          rw [hq] at hx
          injection hx with hx
          subst hx
          have e : (⟨b, o2, none⟩ : Addr).add j = ⟨b, o2 + j, none⟩ := by unfold Addr.add; split <;> simp_all
          rw [e]; exact hc j y hq) (by simp [bv]; omega) (bv_one _)
    refine hr ?_
    rw [bv_length, hpl]
    refine hk _ ⟨?_, hall⟩ (Ch1.row _ _ _)
    rw [setRow_heap w g _ _ _ _ h.1]
    simp [bv, hpl, List.map_take, List.map_drop]
end
theorem OwnV.block {w w' : World} {base n cap g : Nat} {E : TypeId} {vs : List Value} (h : OwnV w base E (some ⟨g, 0, none⟩) n cap vs) (hb : w'.heap[g]? = w.heap[g]?) : OwnV w' base E (some ⟨g, 0, none⟩) n cap vs := by
  obtain ⟨e0, e1, e2⟩ := h
  refine ⟨e0, e1, ?_⟩
  rcases e2 with e2 | ⟨g', c, cur, hv, hbs, hg, r⟩
  · exact .inl e2
  · have e : g = g' := by
      have hv' := hv
      injection hv' with hA _ _
      injection hA with hA
      injection hA
    subst e
    exact .inr ⟨g, c, cur, hv, hbs, hb.trans hg, r⟩
theorem OwnV.small {w : World} {base n cap : Nat} {A : Option Addr} {E : TypeId} {vs : List Value} (h : OwnV w base E A n cap vs) : cap ≤ 9223372036854775807 := by
  obtain ⟨_, _, e2⟩ := h
  rcases e2 with ⟨hv, h0⟩ | ⟨g', c, cur, hv, hbs, hg, h1, h2, r⟩
  · injection hv with _ _ hc; omega
  · injection hv with _ _ hc
    simp only [maxLen] at h2
    omega
theorem Holds.block {w w' : World} {b : Nat} {cs : List Value} (k : Holds w b cs) (hs : w.heap.size ≤ w'.heap.size) (hb : w'.heap[b]? = w.heap[b]?) : Holds w' b cs :=
  ⟨Nat.lt_of_lt_of_le k.1 hs, fun i v hv => (World.cell?_of_block (a := ⟨b, i, none⟩) hb).trans (k.2.1 i v hv), fun i => (World.frozen?_of_block (a := ⟨b, i, none⟩) hb).trans (k.2.2 i)⟩
end Go.Proofs.Ytamdihodconjiaa
