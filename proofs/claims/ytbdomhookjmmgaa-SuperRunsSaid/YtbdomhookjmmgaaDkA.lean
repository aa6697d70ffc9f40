/- Disks, as plain lists: what each call makes of one, and what it answers. No program is imported. The program's disk in memory: its box, its buffer, its map, the rows and sectors that are loose; each block by its label. A map of rows by their sectors, as a list that rises: what is put, struck, asked and counted. The map in memory: what a look, a store, a delete make of it. -/
import Derived.Test.YtbdomhookjmmgaaSuA
import Derived.Maps.OwnSet
import Derived.Maps.RangeWalk
import Derived.Laws.CopyOwn
import Derived.Laws.Rows
import Derived.Carry
import Derived.WideKeyEntry
namespace Go.Proofs.Ytbdomhookjmmgaa
namespace Dk
/-- A sector: what is fixed, and its loose writes. -/
structure Sec where
  f : List Nat
  l : List (List Nat)
/-- As it stands. -/
def Sec.now (s : Sec) : List Nat := s.l.getLast?.getD s.f
structure St where
  s : List Sec
  n : Int
  fused : Bool
  left : Int
def zeros : List Nat := List.replicate 128 0
def St.new (k : Nat) : St := ⟨List.replicate k ⟨zeros, []⟩, 0, false, 0⟩
def St.down (d : St) : Bool := d.fused && decide (d.left = 0)
def St.has (d : St) (at_ : Int) : Bool := decide (0 ≤ at_) && decide (at_ < (d.s.length : Int))
def St.burn (d : St) : St := ⟨d.s, d.n + 1, d.fused, if d.fused then d.left - 1 else d.left⟩
def St.ready (d : St) (at_ : Int) : Int := if d.down then 30 else if d.has at_ then 0 else 5
def St.sec (d : St) (at_ : Int) : Sec := (d.s[at_.toNat]?).getD ⟨zeros, []⟩
def St.readB (d : St) (at_ : Int) : List Nat := if d.ready at_ = 0 then (d.sec at_).now else []
def St.writeE (d : St) (at_ : Int) (m : Nat) : Int := if d.ready at_ = 0 then (if m = 128 then 0 else 1) else d.ready at_
def upd (L : List Sec) (i : Nat) (g : Sec → Sec) : List Sec := L.modify i g
def St.write (d : St) (at_ : Int) (b : List Nat) : St := if d.writeE at_ b.length = 0 then St.burn ⟨upd d.s at_.toNat (fun s => ⟨s.f, s.l ++ [b]⟩), d.n, d.fused, d.left⟩ else d
def St.flushE (d : St) : Int := if d.down then 30 else 0
def fixed (L : List Sec) : List Sec := L.map fun s => ⟨s.now, []⟩
def St.flush (d : St) : St := if d.flushE = 0 then St.burn ⟨fixed d.s, d.n, d.fused, d.left⟩ else d
def St.fuseE (d : St) (n : Int) : Int := if d.down then 30 else if 0 ≤ n ∧ n ≤ 1048576 then 0 else 5
def St.fuse (d : St) (n : Int) : St := if d.fuseE n = 0 then ⟨d.s, d.n, true, n⟩ else d
def St.rotE (d : St) (at_ place : Int) : Int := if d.has at_ ∧ 0 ≤ place ∧ place < 128 then 0 else 5
def turn (b : List Nat) (i m : Nat) : List Nat := b.modify i (fun x => x ^^^ m)
def St.rot (d : St) (at_ place : Int) (m : Nat) : St := if d.rotE at_ place = 0 then ⟨upd d.s at_.toNat (fun s => ⟨turn s.f place.toNat m, s.l⟩), d.n, d.fused, d.left⟩ else d
/-- The loose sectors from number i on. -/
def looseF : Nat → List Sec → List (Nat × Nat)
  | _, [] => []
  | i, s :: r => if s.l = [] then looseF (i + 1) r else (i, s.l.length) :: looseF (i + 1) r
def St.loose (d : St) : List (Nat × Nat) := looseF 0 d.s
/-- A fate: Keep and Cut. -/
structure Fa where
  k : Int
  c : Int
def Fa.ok (f : Fa) (many : Nat) : Prop := 0 ≤ f.k ∧ f.k ≤ (many : Int) ∧ 0 ≤ f.c ∧ f.c < 128 ∧ (f.c = 0 ∨ f.k < (many : Int))
instance (f : Fa) (many : Nat) : Decidable (f.ok many) := by unfold Fa.ok; exact inferInstance
def Sec.after (s : Sec) (f : Fa) : List Nat :=
  let b := if 0 < f.k then (s.l[f.k.toNat - 1]?).getD [] else s.f
  ((s.l[f.k.toNat]?).getD []).take f.c.toNat ++ b.drop f.c.toNat
def fit : List Fa → List (Nat × Nat) → Bool
  | [], _ => true
  | _ :: _, [] => false
  | f :: fs, x :: xs => decide (f.ok x.2) && fit fs xs
def St.crashE (d : St) (fs : List Fa) : Int := if d.loose.length < fs.length then 3 else if fit fs d.loose then 0 else 5
def crashL : List Sec → List Fa → List Sec
  | [], _ => []
  | s :: r, fs => if s.l = [] then ⟨s.f, []⟩ :: crashL r fs else
    match fs with
    | [] => ⟨s.f, []⟩ :: crashL r []
    | x :: xs => ⟨s.after x, []⟩ :: crashL r xs
def St.crash (d : St) (fs : List Fa) : St := ⟨crashL d.s fs, 0, false, 0⟩
/-- Sectors of 128 bytes each. -/
def St.fine (d : St) : Prop := (∀ s ∈ d.s, s.f.length = 128 ∧ (∀ x ∈ s.f, x < 256) ∧ ∀ b ∈ s.l, b.length = 128 ∧ ∀ x ∈ b, x < 256) ∧ 1 ≤ d.s.length ∧ d.s.length ≤ 4096
end Dk
end Go.Proofs.Ytbdomhookjmmgaa
namespace Go.Proofs.Ytbdomhookjmmgaa
open Go.RowKit
set_option linter.unusedVariables false
/-- Block g is these bytes. -/
def Buf (w : World) (g : Nat) (l : List Nat) : Prop := w.heap[g]? = some (.cells (bv l).toArray 5 (0, 0)) ∧ ∀ x ∈ l, x < 256
section
variable {g : Nat} {l : List Nat} {w v : World}
theorem Buf.lt (h : Buf w g l) : g < w.heap.size := (Array.getElem?_eq_some_iff.1 h.1).1
theorem Buf.block (h : Buf w g l) (hb : v.heap[g]? = w.heap[g]?) : Buf v g l := ⟨hb.trans h.1, h.2⟩
theorem Buf.below (h : Buf w g l) (hb : Below w.heap.size w v) : Buf v g l := h.block (hb.block g h.lt)
theorem Buf.cell (h : Buf w g l) {j x : Nat} (hx : l[j]? = some x) : w.cell? ⟨g, j, none⟩ = some (.int .u8 (x : Int)) := by
  refine (cell_of_row _ _ _ _ _ _ h.1).trans ?_
  have := bv_at hx
  simpa using this
theorem Buf.free (h : Buf w g l) (j : Nat) : w.frozen? ⟨g, j, none⟩ = false := frozen_of_row _ _ _ _ _ h.1
theorem Buf.set (h : Buf w g l) (j y : Nat) (hy : y < 256) : Buf (w.setCell ⟨g, j, none⟩ (.int .u8 (y : Int))) g (l.set j y) := by
  refine ⟨?_, fun x hx => ?_⟩
  · rw [heap_setCell_same _ _ _ _ _ _ h.1]
    simp [bv, List.map_set]
  · rcases List.mem_or_eq_of_mem_set hx with h1 | h1
    · exact h.2 x h1
    · omega
theorem Buf.rd (h : Buf w g l) (o n : Nat) (ho : o + n ≤ l.length) : Rd w (some ⟨g, o, none⟩) n ((l.drop o).take n) := by
  refine ⟨by rw [List.length_take, List.length_drop]; omega, fun x hx => h.2 x (List.mem_of_mem_drop (List.mem_of_mem_take hx)), fun _ => ⟨g, o, rfl, h.lt, fun j x hx => ?_⟩⟩
  rw [List.getElem?_take] at hx
  split at hx
  · rw [List.getElem?_drop] at hx
    exact h.cell hx
  · cases hx
theorem Buf.all (h : Buf w g l) : Rd w (some ⟨g, 0, none⟩) l.length l := by
  have := h.rd 0 l.length (by omega)
  rw [List.drop_zero, List.take_length] at this
  exact this
/-- Only block b, and new ones, may be other. -/
structure Ch1 (b : Nat) (w w' : World) : Prop where
  os : w'.os = w.os
  tape : w'.tape = w.tape
  output : w'.output = w.output
  size : w.heap.size ≤ w'.heap.size
  block : ∀ k, k < w.heap.size → k ≠ b → w'.heap[k]? = w.heap[k]?
theorem Ch1.refl (b : Nat) (w : World) : Ch1 b w w := ⟨rfl, rfl, rfl, Nat.le_refl _, fun _ _ _ => rfl⟩
theorem Ch1.row (b : Nat) (w : World) (cs : Array Value) : Ch1 b w (w.setRow b cs) := ⟨rfl, rfl, rfl, by simp [World.setRow], fun k hk h1 => setRow_other w b k cs h1⟩
theorem Ch1.set (b i : Nat) (w : World) (x : Value) : Ch1 b w (w.setCell ⟨b, i, none⟩ x) := ⟨rfl, rfl, rfl, by simp [World.setCell], fun k hk h1 => Below.heap_setCell _ _ _ _ (fun e => h1 (by rw [e]))⟩
theorem Ch1.trans {b : Nat} {u : World} (h : Ch1 b w v) (k : Ch1 b v u) : Ch1 b w u := ⟨k.os.trans h.os, k.tape.trans h.tape, k.output.trans h.output, Nat.le_trans h.size k.size, fun i hi h1 => (k.block i (Nat.lt_of_lt_of_le hi h.size) h1).trans (h.block i hi h1)⟩
theorem Ch1.of_below {b : Nat} (h : Below w.heap.size w v) : Ch1 b w v := ⟨h.os, h.tape, h.output, h.size, fun k hk _ => h.block k hk⟩
theorem Ch1.below {b B : Nat} {a : World} (h : Ch1 b w v) (ha : Below B a w) (h1 : B ≤ b) (hs : B ≤ w.heap.size) : Below B a v :=
  ha.trans ⟨h.os, h.tape, h.output, h.size, fun k hk => h.block k (Nat.lt_of_lt_of_le hk hs) (by omega)⟩
set_option maxRecDepth 100000 in
/-- copy of bytes into such a block, behind its first o bytes. -/
theorem wpList_copyF {ops : Array Oper} {rest : List Oper} {op : Oper} {a : Act} {Q : Exit → Act → World → Prop} (hgd : op.guard = none) (d s : Operand)
    (ho : op.op = .call { callee := .builtin .copy, args := #[d, s], argTypes := #[28, 28] }) (h : Buf w g l) (o dLen dCap : Nat) (hd : a.eval d = .slice (some ⟨g, o, none⟩) dLen dCap) (A : Option Addr) (n c : Nat) (p : List Nat)
    (hs : a.eval s = .slice A n c) (hp : Rd w A n p) (hn : n ≤ dLen) (hfit : o + n ≤ l.length)
    (hk : ∀ w', Buf w' g (l.take o ++ (p ++ l.drop (o + p.length))) → Ch1 g w w' → wpList Try.prog ops Q rest (a.put op.dst (goInt n)) w') : wpList Try.prog ops Q (op :: rest) a w := by
  have hsz : (Try.prog.info? 5).map (·.size) = some 1 := by kernel_rfl
  have hpl := hp.1
  have hall : ∀ x ∈ l.take o ++ (p ++ l.drop (o + p.length)), x < 256 := by
    intro x hx
    rcases List.mem_append.1 hx with h1 | h1
    · exact h.2 x (List.mem_of_mem_take h1)
    · rcases List.mem_append.1 h1 with h1 | h1
      · exact hp.lt h1
      · exact h.2 x (List.mem_of_mem_drop h1)
  by_cases h0 : n = 0
  · subst h0
    have hp0 : p = [] := List.eq_nil_of_length_eq_zero hpl
    subst hp0
    refine wpList_copy_nothing hgd d s 28 28 ho 5 Try.underlying28 hsz (some ⟨g, o, none⟩) A dLen dCap 0 c hd hs (by simp) ?_
    refine hk w ⟨?_, hall⟩ (Ch1.refl _ _)
    simpa using h.1
  · obtain ⟨b, o2, rfl, hb, hc⟩ := hp.2.2 (by omega)
    have hr := wpList_copy_own (P := Try.prog) (w := w) (ops := ops) (rest := rest) (o := op) (a := a) (Q := Q) hgd d s 28 28 ho 5 Try.underlying28 hsz g o dLen dCap ⟨b, o2, none⟩ n c hd hs (bv l).toArray _ h.1 (bv p) (by rw [bv_length, hpl]; exact (Nat.min_eq_left hn).symm)
      (fun j x hx => by
        unfold bv at hx
        rw [List.getElem?_map] at hx
        cases hq : p[j]? with
        | none => rw [hq] at hx; cases hx
        | some y =>
          rw [hq] at hx
          injection hx with hx
          subst hx
          have e : (⟨b, o2, none⟩ : Addr).add j = ⟨b, o2 + j, none⟩ := by unfold Addr.add; split <;> simp_all
          rw [e]; exact hc j y hq) (by simp [bv]; omega) (bv_one _)
    refine hr ?_
    rw [bv_length, hpl]
    refine hk _ ⟨?_, hall⟩ (Ch1.row _ _ _)
    rw [setRow_heap w g _ _ _ _ h.1]
    simp [bv, hpl, List.map_take, List.map_drop]
end
theorem OwnV.block {w w' : World} {base n cap g : Nat} {E : TypeId} {vs : List Value} (h : OwnV w base E (some ⟨g, 0, none⟩) n cap vs) (hb : w'.heap[g]? = w.heap[g]?) : OwnV w' base E (some ⟨g, 0, none⟩) n cap vs := by
  obtain ⟨e0, e1, e2⟩ := h
  refine ⟨e0, e1, ?_⟩
  rcases e2 with e2 | ⟨g', c, cur, hv, hbs, hg, r⟩
  · exact .inl e2
  · have e : g = g' := by
      have hv' := hv
      injection hv' with hA _ _
      injection hA with hA
      injection hA
    subst e
    exact .inr ⟨g, c, cur, hv, hbs, hb.trans hg, r⟩
theorem OwnV.small {w : World} {base n cap : Nat} {A : Option Addr} {E : TypeId} {vs : List Value} (h : OwnV w base E A n cap vs) : cap ≤ 9223372036854775807 := by
  obtain ⟨_, _, e2⟩ := h
  rcases e2 with ⟨hv, h0⟩ | ⟨g', c, cur, hv, hbs, hg, h1, h2, r⟩
  · injection hv with _ _ hc; omega
  · injection hv with _ _ hc
    simp only [maxLen] at h2
    omega
theorem Holds.block {w w' : World} {b : Nat} {cs : List Value} (k : Holds w b cs) (hs : w.heap.size ≤ w'.heap.size) (hb : w'.heap[b]? = w.heap[b]?) : Holds w' b cs :=
  ⟨Nat.lt_of_lt_of_le k.1 hs, fun i v hv => (World.cell?_of_block (a := ⟨b, i, none⟩) hb).trans (k.2.1 i v hv), fun i => (World.frozen?_of_block (a := ⟨b, i, none⟩) hb).trans (k.2.2 i)⟩
end Go.Proofs.Ytbdomhookjmmgaa
namespace Go.Proofs.Ytbdomhookjmmgaa
open Go.RowKit
namespace Dm
/-- A sector's row: the sector, its block, how many, how many may be. -/
structure Mp where
  q : Int
  a : Nat
  n : Nat
  c : Nat
def Mp.val (m : Mp) : Value := .slice (some ⟨m.a, 0, none⟩) m.n m.c
def Mp.data (m : Mp) : DataW Unit := .agg [.lit (.int .i64 (m.a : Int)), .lit (.int .i64 (m.n : Int)), .lit (.int .i64 (m.c : Int))]
def none_ : DataW Unit := .agg [.lit (.int .i64 (-1)), .lit (.int .i64 0), .lit (.int .i64 0)]
/-- How an element of the map reads: its address, its length, its room. -/
def elem : Value → Option (DataW Unit × List MemPlace)
  | .slice (some ⟨a, 0, none⟩) n c => some (.agg [.lit (.int .i64 (a : Int)), .lit (.int .i64 (n : Int)), .lit (.int .i64 (c : Int))], [])
  | .slice none 0 0 => some (none_, [])
  | _ => none
theorem elem_mk (m : Mp) : elem m.val = some (m.data, []) := rfl
theorem elem_nil : elem (.slice none 0 0) = some (none_, []) := rfl
/-- What a row of messages reads as. -/
def ents (L : List Mp) : List (Lit × DataW Unit) := L.map fun m => (Lit.int .i64 m.q, m.data)
def dat (L : List Mp) : DataW Unit := .map (ents L)
/-- Rising numbers. -/
def Ris (L : List Mp) : Prop := L.Pairwise fun a b => a.q < b.q
/-- A message laid at its place. -/
def ins (m : Mp) : List Mp → List Mp
  | [] => [m]
  | x :: xs => if m.q < x.q then m :: x :: xs else x :: ins m xs
theorem ents_ins (m : Mp) : ∀ L : List Mp, ents (ins m L) = DataW.insert (Lit.int .i64 m.q, m.data) (ents L)
  | [] => rfl
  | x :: xs => by
    by_cases h : m.q < x.q
    · simp [ins, ents, DataW.insert, Lit.before, h]
    · have ih := ents_ins m xs
      simp only [ents] at ih
      simp [ins, ents, DataW.insert, Lit.before, h, ih]
theorem filter_no {L : List Mp} {q : Int} (h : ∀ x ∈ L, x.q ≠ q) : (ents L).filter (fun p => !p.1.sameKey (Lit.int .i64 q)) = ents L := by
  rw [List.filter_eq_self]
  intro p hp
  obtain ⟨x, hx, rfl⟩ := List.mem_map.1 hp
  simp [Lit.sameKey, h x hx]
theorem put_new {L : List Mp} {m : Mp} (h : ∀ x ∈ L, x.q ≠ m.q) : (dat L).put (.int .i64 m.q) m.data = dat (ins m L) := by
  show DataW.map (DataW.insert _ _) = _
  rw [filter_no h, ← ents_ins]
  rfl
theorem ins_last {m : Mp} : ∀ {L : List Mp}, (∀ x ∈ L, x.q < m.q) → ins m L = L ++ [m]
  | [], _ => rfl
  | x :: xs, h => by
    have := h x (by simp)
    rw [ins, if_neg (by omega), ins_last (fun y hy => h y (by simp [hy]))]
    rfl
theorem mem_ins {m x : Mp} : ∀ {L : List Mp}, x ∈ ins m L ↔ x = m ∨ x ∈ L
  | [] => by simp [ins]
  | y :: ys => by
    unfold ins
    split
    · simp
    · simp [mem_ins (L := ys)]
      constructor
      · rintro (h | h | h)
        · exact .inr (.inl h)
        · exact .inl h
        · exact .inr (.inr h)
      · rintro (h | h | h)
        · exact .inr (.inl h)
        · exact .inl h
        · exact .inr (.inr h)
theorem ris_ins {m : Mp} : ∀ {L : List Mp}, Ris L → (∀ x ∈ L, x.q ≠ m.q) → Ris (ins m L)
  | [], _, _ => List.pairwise_singleton _ _
  | x :: xs, h, hn => by
    obtain ⟨h1, h2⟩ := List.pairwise_cons.1 h
    unfold ins
    split
    · rename_i hlt
      refine List.pairwise_cons.2 ⟨fun y hy => ?_, h⟩
      rcases List.mem_cons.1 hy with rfl | hy
      · exact hlt
      · have := h1 y hy; omega
    · rename_i hlt
      refine List.pairwise_cons.2 ⟨fun y hy => ?_, ris_ins h2 (fun y hy => hn y (by simp [hy]))⟩
      rcases mem_ins.1 hy with rfl | hy
      · have := hn x (by simp); omega
      · exact h1 y hy
theorem len_ins (m : Mp) : ∀ L : List Mp, (ins m L).length = L.length + 1
  | [] => rfl
  | x :: xs => by
    unfold ins
    split
    · rfl
    · simp [len_ins m xs]
/-- Is there one of that number? -/
def hasq (L : List Mp) (q : Int) : Bool := L.any fun x => decide (x.q = q)
theorem has_dat (L : List Mp) (q : Int) : Maps.has (dat L) (.int .i64 q) = hasq L q := by
  show (ents L).any _ = _
  unfold ents hasq
  rw [List.any_map]
  congr 1
  funext x
  simp [Lit.sameKey]
theorem hasq_no {L : List Mp} {q : Int} (h : hasq L q = false) : ∀ x ∈ L, x.q ≠ q := by
  intro x hx e
  have := (List.any_eq_false.1 h) x hx
  simp [e] at this
theorem hasq_yes {L : List Mp} {q : Int} : hasq L q = true ↔ ∃ x ∈ L, x.q = q := by
  unfold hasq
  rw [List.any_eq_true]
  constructor
  · rintro ⟨x, hx, h⟩; exact ⟨x, hx, by simpa using h⟩
  · rintro ⟨x, hx, h⟩; exact ⟨x, hx, by simpa using h⟩
/-- All but that number. -/
def str (L : List Mp) (q : Int) : List Mp := L.filter fun x => !decide (x.q = q)
theorem del_dat (L : List Mp) (q : Int) : (dat L).del (.int .i64 q) = dat (str L q) := by
  show DataW.map ((ents L).filter _) = DataW.map (ents _)
  unfold ents str
  rw [List.filter_map]
  congr 2
  apply List.filter_congr
  intro x _
  simp [Lit.sameKey]
theorem put_any (L : List Mp) (m : Mp) : (dat L).put (.int .i64 m.q) m.data = dat (ins m (str L m.q)) := by
  show DataW.map (DataW.insert _ ((ents L).filter _)) = _
  have : (ents L).filter (fun p => !p.1.sameKey (Lit.int .i64 m.q)) = ents (str L m.q) := by
    have := del_dat L m.q
    injection this
  rw [this, ← ents_ins]
  rfl
theorem str_none {L : List Mp} {q : Int} (h : hasq L q = false) : str L q = L := by
  unfold str
  rw [List.filter_eq_self]
  intro x hx
  simpa using hasq_no h x hx
theorem mem_str {L : List Mp} {q : Int} {x : Mp} : x ∈ str L q ↔ x ∈ L ∧ x.q ≠ q := by
  unfold str; rw [List.mem_filter]; simp
theorem size_dat (L : List Mp) : Maps.size (dat L) = L.length := by simp [Maps.size, dat, ents]
theorem ris_str {L : List Mp} (h : Ris L) (q : Int) : Ris (str L q) := List.Pairwise.filter _ h
theorem one_q : ∀ {L : List Mp}, Ris L → ∀ {x y : Mp}, x ∈ L → y ∈ L → x.q = y.q → x = y
  | [], _, _, _, hx, _, _ => by simp at hx
  | a :: r, h, x, y, hx, hy, e => by
    obtain ⟨h1, h2⟩ := List.pairwise_cons.1 h
    rcases List.mem_cons.1 hx with ex | hx'
    · rcases List.mem_cons.1 hy with ey | hy'
      · rw [ex, ey]
      · have := h1 y hy'; rw [ex] at e; omega
    · rcases List.mem_cons.1 hy with ey | hy'
      · have := h1 x hx'; rw [ey] at e; omega
      · exact one_q h2 hx' hy' e
theorem at_dat {L : List Mp} (h : Ris L) {m : Mp} (hm : m ∈ L) (z : DataW Unit) : (dat L).atKey (.int .i64 m.q) z = m.data := by
  refine WideAt.atKey_mem z trivial ?_ (List.mem_map.2 ⟨m, hm, rfl⟩)
  refine List.pairwise_map.2 (h.imp ?_)
  intro a b hab e
  injection e with e1 e2
  omega
end Dm
end Go.Proofs.Ytbdomhookjmmgaa
namespace Go.Proofs.Ytbdomhookjmmgaa
open Go.RowKit
open Go.MapKept Go.ChangeMaps
set_option linter.unusedVariables false
namespace Dm
theorem elem_inv {v : Value} {z : DataW Unit × List MemPlace} (h : elem v = some z) : (∃ m : Mp, v = m.val ∧ z = (m.data, [])) ∨ (v = .slice none 0 0 ∧ z = (none_, [])) := by
  unfold elem at h
  split at h
  · rename_i a n c
    injection h with h
    exact .inl ⟨⟨0, a, n, c⟩, rfl, h.symm⟩
  · injection h with h
    exact .inr ⟨rfl, h.symm⟩
  · cases h
theorem data_none (m : Mp) : m.data ≠ none_ := by
  unfold Mp.data none_
  intro h
  injection h with h
  injection h with h _
  injection h with h
  injection h with _ h
  omega
theorem data_inj {m m' : Mp} (h : m.data = m'.data) : m.val = m'.val := by
  unfold Mp.data at h
  injection h with h
  injection h with h1 h
  injection h with h2 h
  injection h with h3 h
  injection h1 with h1
  injection h1 with _ h1
  injection h2 with h2
  injection h2 with _ h2
  injection h3 with h3
  injection h3 with _ h3
  have e1 : m.a = m'.a := by omega
  have e2 : m.n = m'.n := by omega
  have e3 : m.c = m'.c := by omega
  unfold Mp.val
  rw [e1, e2, e3]
end Dm
set_option maxRecDepth 100000 in
theorem keyed : Maps.Keyed Try.prog 3 := Maps.int_keyed Try.underlying3
set_option maxRecDepth 100000 in
theorem zero_rows (w : World) : (zeroValue 111).run Try.prog w = .ok (.slice none 0 0) w := by kernel_rfl
/-- A number that a key may be. -/
def Q64 (q : Int) : Prop := -9223372036854775808 ≤ q ∧ q ≤ 9223372036854775807
set_option maxRecDepth 100000 in
theorem key_of {q : Int} (h : Q64 q) : keyOf Try.prog 3 (.int .i64 q) = some (.int .i64 q) := Maps.keyOf_int_mk Try.underlying3 (by
  obtain ⟨h1, h2⟩ := h
  have h3 : IntKind.i64.min = -9223372036854775808 := by kernel_rfl
  have h4 : IntKind.i64.max = 9223372036854775807 := by kernel_rfl
  simp only [Lit.wf, h3, h4, decide_eq_true h1, decide_eq_true h2, Bool.and_self])
/-- Block b is a map of these. -/
def Mk (w : World) (b : Nat) (L : List Dm.Mp) : Prop := w.ownsMap Try.prog 3 Dm.elem b 1000000 (Dm.dat L)
section
variable {w w' : World} {b : Nat} {L : List Dm.Mp}
theorem Mk.of {n : Nat} (h : w.ownsMap Try.prog 3 Dm.elem b n (Dm.dat L)) (hl : L.length ≤ 1000000) : Mk w b L := by
  have hz := Dm.size_dat L
  obtain ⟨es, clock, hb, F, hs, hD⟩ := h
  refine ⟨es, clock, hb, F, ?_, hD⟩
  have : es.size = L.length := by
    rw [← hz, hD]
    simp [Maps.size, length_sorted]
  omega
theorem Mk.new (w : World) : Mk (w.alloc (.map #[] 0)) w.heap.size [] := .of (World.ownsMap_made _ _ _ _) (by simp)
theorem Mk.lt (h : Mk w b L) : b < w.heap.size := World.ownsMap.lt h
theorem Mk.block (h : Mk w b L) (hb : w'.heap[b]? = w.heap[b]?) : Mk w' b L := by
  obtain ⟨es, clock, h1, h2⟩ := h
  exact ⟨es, clock, hb.trans h1, h2⟩
theorem Mk.below (h : Mk w b L) (hb : Below w.heap.size w w') : Mk w' b L := h.block (hb.block b h.lt)
set_option maxRecDepth 100000 in
theorem Mk.look_no (h : Mk w b L) {q : Int} (hq : Q64 q) (hn : Dm.hasq L q = false) : (Instr.lookup 87 (.map (some b)) (.int .i64 q) false).run Try.prog w = .ok (.slice none 0 0) w := by
  obtain ⟨v, ps, he, hv⟩ := World.ownsMap.lookup h keyed Try.underlying87 (zero_rows w) Dm.elem_nil (key_of hq)
  rw [Maps.atKey_of_not_has (by rw [Dm.has_dat]; exact hn)] at hv
  rcases Dm.elem_inv hv with ⟨m, rfl, hm⟩ | ⟨rfl, _⟩
  · injection hm with hm _
    exact absurd hm.symm (Dm.data_none m)
  · exact he
set_option maxRecDepth 100000 in
theorem Mk.look_yes (h : Mk w b L) (hr : Dm.Ris L) {m : Dm.Mp} (hm : m ∈ L) (hq : Q64 m.q) : (Instr.lookup 87 (.map (some b)) (.int .i64 m.q) false).run Try.prog w = .ok m.val w := by
  obtain ⟨v, ps, he, hv⟩ := World.ownsMap.lookup h keyed Try.underlying87 (zero_rows w) Dm.elem_nil (key_of hq)
  rw [Dm.at_dat hr hm] at hv
  rcases Dm.elem_inv hv with ⟨m', rfl, hm'⟩ | ⟨rfl, hm'⟩
  · injection hm' with hm' _
    rw [← Dm.data_inj hm'] at he
    exact he
  · injection hm' with hm' _
    exact absurd hm' (Dm.data_none m)
set_option maxRecDepth 100000 in
theorem Mk.store (h : Mk w b L) (hl : L.length ≤ 10000) {m : Dm.Mp} (hq : Q64 m.q) : ∃ w', (Instr.mapUpdate 87 (.map (some b)) (.int .i64 m.q) m.val).run Try.prog w = .ok () w' ∧ Mk w' b (Dm.ins m (Dm.str L m.q)) ∧ w.mapTurned w' b := by
  obtain ⟨w', h1, h2, h3⟩ := World.ownsMap.store h keyed Try.underlying87 (by unfold maxLen; omega) (key_of hq) (Dm.elem_mk m)
  rw [Dm.put_any] at h2
  refine ⟨w', h1, .of h2 ?_, h3⟩
  rw [Dm.len_ins]
  have : (Dm.str L m.q).length ≤ L.length := List.length_filter_le _ _
  omega
set_option maxRecDepth 100000 in
theorem Mk.del (h : Mk w b L) (hl : L.length ≤ 10000) {q : Int} (hq : Q64 q) (ty : TypeId) : ∃ w', (Builtin.delete_ #[87, 3] ty #[.map (some b), .int .i64 q]).run Try.prog w = .ok (.tuple #[]) w' ∧ Mk w' b (Dm.str L q) ∧ w.mapTurned w' b := by
  obtain ⟨w', h1, h2, h3⟩ := World.ownsMap.drop h keyed Try.underlying87 (key_of hq) ty
  rw [Dm.del_dat] at h2
  refine ⟨w', h1, .of h2 ?_, h3⟩
  have : (Dm.str L q).length ≤ L.length := List.length_filter_le _ _
  omega
end
theorem setBlock_other {w : World} {b k : Nat} {o : Obj} (h : k ≠ b) : (setBlock w b o).heap[k]? = w.heap[k]? := by
  simp [setBlock, Ne.symm h]
theorem turned_ch {w w' : World} {b : Nat} (h : w.mapTurned w' b) : Ch1 b w w' := by
  obtain ⟨es, ck, es', ck', _, rfl⟩ := h
  exact ⟨rfl, rfl, rfl, by simp [setBlock], fun k _ hk => setBlock_other hk⟩
end Go.Proofs.Ytbdomhookjmmgaa
