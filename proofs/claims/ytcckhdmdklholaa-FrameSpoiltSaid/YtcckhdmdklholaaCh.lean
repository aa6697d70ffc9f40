/- Worlds where only one block, or two, and new ones, are other; rows of bytes in an array. -/
import Derived.Test.YtcckhdmdklholaaHolds
import Derived.Laws.CopyOwn
import Derived.Laws.Rows
namespace Go.Proofs.Ytcckhdmdklholaa
open Go.RowKit
set_option linter.unusedVariables false
/-- Only blocks b and c, and new ones, may be other. -/
structure Ch2 (b c : Nat) (w w' : World) : Prop where
  os : w'.os = w.os
  tape : w'.tape = w.tape
  output : w'.output = w.output
  size : w.heap.size ≤ w'.heap.size
  block : ∀ k, k < w.heap.size → k ≠ b → k ≠ c → w'.heap[k]? = w.heap[k]?
section
variable {b c : Nat} {w v u : World}
theorem Ch2.refl (b c : Nat) (w : World) : Ch2 b c w w := ⟨rfl, rfl, rfl, Nat.le_refl _, fun _ _ _ _ => rfl⟩
theorem Ch2.trans (h : Ch2 b c w v) (k : Ch2 b c v u) : Ch2 b c w u := ⟨k.os.trans h.os, k.tape.trans h.tape, k.output.trans h.output, Nat.le_trans h.size k.size, fun i hi h1 h2 => (k.block i (Nat.lt_of_lt_of_le hi h.size) h1 h2).trans (h.block i hi h1 h2)⟩
theorem Ch2.of_below (h : Below w.heap.size w v) : Ch2 b c w v := ⟨h.os, h.tape, h.output, h.size, fun k hk _ _ => h.block k hk⟩
theorem Ch2.set1 (b c i : Nat) (w : World) (x : Value) : Ch2 b c w (w.setCell ⟨b, i, none⟩ x) := ⟨rfl, rfl, rfl, by simp [World.setCell], fun k hk h1 h2 => Below.heap_setCell _ _ _ _ (fun e => h1 (by rw [e]))⟩
theorem Ch2.set2 (b c i : Nat) (w : World) (x : Value) : Ch2 b c w (w.setCell ⟨c, i, none⟩ x) := ⟨rfl, rfl, rfl, by simp [World.setCell], fun k hk h1 h2 => Below.heap_setCell _ _ _ _ (fun e => h2 (by rw [e]))⟩
theorem Ch2.row (b c : Nat) (w : World) (cs : Array Value) : Ch2 b c w (w.setRow b cs) := ⟨rfl, rfl, rfl, by simp [World.setRow], fun k hk h1 h2 => setRow_other w b k cs h1⟩
theorem Ch2.drew (h : Ch2 b c w v) : Ch2 b c w v.drew := h.trans (Ch2.of_below (Below.refl _ _).drew)
theorem Ch2.below {B : Nat} {a : World} (h : Ch2 b c w v) (ha : Below B a w) (h1 : B ≤ b) (h2 : B ≤ c) (hs : B ≤ w.heap.size) : Below B a v :=
  ha.trans ⟨h.os, h.tape, h.output, h.size, fun k hk => h.block k (Nat.lt_of_lt_of_le hk hs) (by omega) (by omega)⟩
theorem Ch2.cell (h : Ch2 b c w v) {p : Addr} (hp : p.block < w.heap.size) (h1 : p.block ≠ b) (h2 : p.block ≠ c) : v.cell? p = w.cell? p := World.cell?_of_block (h.block p.block hp h1 h2)
theorem Ch2.frozen (h : Ch2 b c w v) {p : Addr} (hp : p.block < w.heap.size) (h1 : p.block ≠ b) (h2 : p.block ≠ c) : v.frozen? p = w.frozen? p := World.frozen?_of_block (h.block p.block hp h1 h2)
theorem Holds.ch2 {x : Nat} {cs : List Value} (k : Holds w x cs) (h : Ch2 b c w v) (h1 : x ≠ b) (h2 : x ≠ c) : Holds v x cs :=
  ⟨Nat.lt_of_lt_of_le k.1 h.size, fun i y hy => (h.cell (p := ⟨x, i, none⟩) k.1 h1 h2).trans (k.2.1 i y hy), fun i => (h.frozen (p := ⟨x, i, none⟩) k.1 h1 h2).trans (k.2.2 i)⟩
end
/-- Block g is an array of 128 bytes. -/
def Arr (w : World) (g : Nat) (l : List Nat) : Prop := w.heap[g]? = some (.cells (bv l).toArray 44 (0, 0)) ∧ ∀ x ∈ l, x < 256
section
variable {g : Nat} {l : List Nat} {w v : World}
theorem Arr.lt (h : Arr w g l) : g < w.heap.size := (Array.getElem?_eq_some_iff.1 h.1).1
theorem Arr.cell (h : Arr w g l) {j x : Nat} (hx : l[j]? = some x) : w.cell? ⟨g, j, none⟩ = some (.int .u8 (x : Int)) := by
  refine (cell_of_row _ _ _ _ _ _ h.1).trans ?_
  have := bv_at hx
  simpa using this
theorem Arr.free (h : Arr w g l) (j : Nat) : w.frozen? ⟨g, j, none⟩ = false := frozen_of_row _ _ _ _ _ h.1
theorem Arr.set (h : Arr w g l) (j y : Nat) (hy : y < 256) : Arr (w.setCell ⟨g, j, none⟩ (.int .u8 (y : Int))) g (l.set j y) := by
  refine ⟨?_, fun x hx => ?_⟩
  · rw [heap_setCell_same _ _ _ _ _ _ h.1]
    simp [bv, List.map_set]
  · rcases List.mem_or_eq_of_mem_set hx with h1 | h1
    · exact h.2 x h1
    · omega
theorem Arr.ch2 {b c : Nat} (h : Arr w g l) (k : Ch2 b c w v) (h1 : g ≠ b) (h2 : g ≠ c) : Arr v g l := ⟨(k.block g h.lt h1 h2).trans h.1, h.2⟩
theorem Arr.other (h : Arr w g l) {p : Addr} (hp : p.block ≠ g) (x : Value) : Arr (w.setCell p x) g l := ⟨(Below.heap_setCell _ _ _ _ (fun e => hp e.symm)).trans h.1, h.2⟩
theorem Arr.below (h : Arr w g l) (hb : Below w.heap.size w v) : Arr v g l := ⟨(hb.block g h.lt).trans h.1, h.2⟩
theorem Arr.rd (h : Arr w g l) (o n : Nat) (ho : o + n ≤ l.length) : Rd w (some ⟨g, o, none⟩) n ((l.drop o).take n) := by
  refine ⟨by rw [List.length_take, List.length_drop]; omega, fun x hx => h.2 x (List.mem_of_mem_drop (List.mem_of_mem_take hx)), fun _ => ⟨g, o, rfl, h.lt, fun j x hx => ?_⟩⟩
  rw [List.getElem?_take] at hx
  split at hx
  · rw [List.getElem?_drop] at hx
    exact h.cell hx
  · cases hx
/-- copy of bytes into such an array, behind its first o bytes. -/
theorem wpList_copyB {ops : Array Oper} {rest : List Oper} {op : Oper} {a : Act} {Q : Exit → Act → World → Prop} (hgd : op.guard = none) (d s : Operand)
    (ho : op.op = .call { callee := .builtin .copy, args := #[d, s], argTypes := #[24, 24] }) (h : Arr w g l) (o dLen dCap : Nat) (hd : a.eval d = .slice (some ⟨g, o, none⟩) dLen dCap) (A : Option Addr) (n c : Nat) (p : List Nat)
    (hs : a.eval s = .slice A n c) (hp : Rd w A n p) (hn : n ≤ dLen) (hfit : o + n ≤ l.length)
    (hk : ∀ w', Arr w' g (l.take o ++ (p ++ l.drop (o + p.length))) → (∀ x, Ch2 g x w w') → wpList Try.prog ops Q rest (a.put op.dst (goInt n)) w') : wpList Try.prog ops Q (op :: rest) a w := by
  have hsz : (Try.prog.info? 5).map (·.size) = some 1 := by kernel_rfl
  have hpl := hp.1
  have hall : ∀ x ∈ l.take o ++ (p ++ l.drop (o + p.length)), x < 256 := by
    intro x hx
    rcases List.mem_append.1 hx with h1 | h1
    · exact h.2 x (List.mem_of_mem_take h1)
    · rcases List.mem_append.1 h1 with h1 | h1
      · exact hp.lt h1
      · exact h.2 x (List.mem_of_mem_drop h1)
  by_cases h0 : n = 0
  · subst h0
    have hp0 : p = [] := List.eq_nil_of_length_eq_zero hpl
    subst hp0
    refine wpList_copy_nothing hgd d s 24 24 ho 5 Try.underlying24 hsz (some ⟨g, o, none⟩) A dLen dCap 0 c hd hs (by simp) ?_
    refine hk w ⟨?_, hall⟩ (fun x => Ch2.refl _ _ _)
    simpa using h.1
  · obtain ⟨b, o2, rfl, hb, hc⟩ := hp.2.2 (by omega)
    have hr := wpList_copy_own (P := Try.prog) (w := w) (ops := ops) (rest := rest) (o := op) (a := a) (Q := Q) hgd d s 24 24 ho 5 Try.underlying24 hsz g o dLen dCap ⟨b, o2, none⟩ n c hd hs (bv l).toArray _ h.1 (bv p) (by rw [bv_length, hpl]; exact (Nat.min_eq_left hn).symm)
      (fun j x hx => by
        unfold bv at hx
        rw [List.getElem?_map] at hx
        cases hq : p[j]? with
        | none => rw [hq] at hx; cases hx
        | some y =>
          rw [hq] at hx
          injection hx with hx
          subst hx
          have e : (⟨b, o2, none⟩ : Addr).add j = ⟨b, o2 + j, none⟩ := by unfold Addr.add; split <;> simp_all
          rw [e]; exact hc j y hq) (by simp [bv]; omega) (bv_one _)
    refine hr ?_
    rw [bv_length, hpl]
    refine hk _ ⟨?_, hall⟩ (fun x => Ch2.row _ _ _ _)
    rw [setRow_heap w g _ _ _ _ h.1]
    simp [bv, hpl, List.map_take, List.map_drop]
end
end Go.Proofs.Ytcckhdmdklholaa
