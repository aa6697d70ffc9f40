/- A peer's Offer: the message, and what becomes of its books. -/
import Derived.Test.YthganbbiclmgpaaPrAll
import Derived.Test.YthganbbiclmgpaaPrArg
import Derived.Deep.RegionHeld3
namespace Go.Proofs.Ythganbbiclmgpaa
open Go.RowKit
open Go.MapKept Go.ChangeMaps
/-- A peer: its number, what it has sent, what of that is open, what it has got. -/
structure Peer (w : World) (g b1 b2 b3 : Nat) (who : Int) (S O G : List Pr.Mg) : Prop where
  box : Holds w g [.int .i64 who, .map (some b1), .map (some b2), .map (some b3)]
  sent : Bk w b1 S
  open_ : Bk w b2 O
  got : Bk w b3 G
  far : b1 ≠ b2 ∧ b1 ≠ b3 ∧ b2 ≠ b3 ∧ g ≠ b1 ∧ g ≠ b2 ∧ g ≠ b3
theorem Peer.below {w w' : World} {g b1 b2 b3 : Nat} {who : Int} {S O G : List Pr.Mg} (h : Peer w g b1 b2 b3 who S O G) (hb : Below w.heap.size w w') : Peer w' g b1 b2 b3 who S O G :=
  ⟨h.box.below hb, h.sent.below hb, h.open_.below hb, h.got.below hb, h.far⟩
/-- Only the books' blocks may be other, and new ones. -/
structure PCh (b1 b2 b3 : Nat) (w w' : World) : Prop where
  os : w'.os = w.os
  tape : w'.tape = w.tape
  output : w'.output = w.output
  size : w.heap.size ≤ w'.heap.size
  block : ∀ k, k < w.heap.size → k ≠ b1 → k ≠ b2 → k ≠ b3 → w'.heap[k]? = w.heap[k]?
theorem PCh.of_below {b1 b2 b3 : Nat} {w w' : World} (h : Below w.heap.size w w') : PCh b1 b2 b3 w w' := ⟨h.os, h.tape, h.output, h.size, fun k hk _ _ _ => h.block k hk⟩
theorem PCh.trans {b1 b2 b3 : Nat} {w w' w'' : World} (h : PCh b1 b2 b3 w w') (h2 : PCh b1 b2 b3 w' w'') : PCh b1 b2 b3 w w'' :=
  ⟨h2.os.trans h.os, h2.tape.trans h.tape, h2.output.trans h.output, Nat.le_trans h.size h2.size, fun k hk p q r => (h2.block k (Nat.lt_of_lt_of_le hk h.size) p q r).trans (h.block k hk p q r)⟩
theorem PCh.cell {b1 b2 b3 : Nat} {w w' : World} (h : PCh b1 b2 b3 w w') {b i : Nat} (hb : b < w.heap.size) (p : b ≠ b1) (q : b ≠ b2) (r : b ≠ b3) : w'.cell? ⟨b, i, none⟩ = w.cell? ⟨b, i, none⟩ := World.cell?_of_block (a := ⟨b, i, none⟩) (h.block b hb p q r)
theorem PCh.holds {b1 b2 b3 : Nat} {w w' : World} (h : PCh b1 b2 b3 w w') {b : Nat} {cs : List Value} (k : Holds w b cs) (p : b ≠ b1) (q : b ≠ b2) (r : b ≠ b3) : Holds w' b cs :=
  ⟨Nat.lt_of_lt_of_le k.1 h.size, fun i v hv => (h.cell k.1 p q r).trans (k.2.1 i v hv), fun i => (World.frozen?_of_block (a := ⟨b, i, none⟩) (h.block b k.1 p q r)).trans (k.2.2 i)⟩
theorem PCh.low {b1 b2 b3 : Nat} {w w' z : World} (h : PCh b1 b2 b3 w w') {B : Nat} (hb : Below B z w) (p : B ≤ b1) (q : B ≤ b2) (r : B ≤ b3) (hs : B ≤ w.heap.size) : Below B z w' :=
  hb.trans ⟨h.os, h.tape, h.output, h.size, fun k hk => h.block k (by omega) (by omega) (by omega) (by omega)⟩
theorem PCh.row {b1 b2 b3 s n : Nat} {w w' : World} {A : Option Addr} {vs : List Value} (h : PCh b1 b2 b3 w w') (k : RdC s w A n vs) (hne : ∀ g o, A = some ⟨g, o, none⟩ → g ≠ b1 ∧ g ≠ b2 ∧ g ≠ b3) : RdC s w' A n vs := by
  refine ⟨k.1, fun hn => ?_⟩
  obtain ⟨b, o, rfl, hb, hc⟩ := k.2 hn
  obtain ⟨p, q, r⟩ := hne b o rfl
  exact ⟨b, o, rfl, Nat.lt_of_lt_of_le hb h.size, fun j x hx => (h.cell hb p q r).trans (hc j x hx)⟩
theorem setBlock_other {w : World} {b k : Nat} {o : Obj} (h : k ≠ b) : (setBlock w b o).heap[k]? = w.heap[k]? := by
  simp [setBlock, Ne.symm h]
theorem setBlock_same {w : World} {b : Nat} {o : Obj} (h : b < w.heap.size) : (setBlock w b o).heap[b]? = some o := by
  simp [setBlock, h]
theorem setBlock_cell {w : World} {b : Nat} {o : Obj} {a : Addr} (h : a.block ≠ b) : (setBlock w b o).cell? a = w.cell? a := World.cell?_of_block (setBlock_other h)
/-- Two maps are written, each in two steps, in whatever order: F i j is the world behind i steps of the first and j of the second. -/
structure Steps2 (w : World) (b1 b2 : Nat) (m : Pr.Mg) (S O : List Pr.Mg) (F : Nat → Nat → World) (s1 s2 : Value) : Prop where
  start : F 0 0 = w
  e1 : ∀ j, (Instr.mapEntry 80 (.map (some b1)) (.int .i64 m.q)).run Try.prog (F 0 j) = .ok (.tuple #[.agg Pr.zero.cells.toArray, s1]) (F 1 j)
  t1 : ∀ j, (Instr.entryStore 80 (.map (some b1)) s1 (.agg m.cells.toArray)).run Try.prog (F 1 j) = .ok () (F 2 j)
  e2 : ∀ i, (Instr.mapEntry 80 (.map (some b2)) (.int .i64 m.q)).run Try.prog (F i 0) = .ok (.tuple #[.agg Pr.zero.cells.toArray, s2]) (F i 1)
  t2 : ∀ i, (Instr.entryStore 80 (.map (some b2)) s2 (.agg m.cells.toArray)).run Try.prog (F i 1) = .ok () (F i 2)
  cell : ∀ i j b o, b ≠ b1 → b ≠ b2 → (F i j).cell? ⟨b, o, none⟩ = w.cell? ⟨b, o, none⟩
  sent : Bk (F 2 2) b1 (Pr.ins m S)
  open_ : Bk (F 2 2) b2 (Pr.ins m O)
  ch : ∀ b3, PCh b1 b2 b3 w (F 2 2)
  other : ∀ k, k ≠ b1 → k ≠ b2 → (F 2 2).heap[k]? = w.heap[k]?
theorem steps2 {w : World} {b1 b2 : Nat} {m : Pr.Mg} {S O : List Pr.Mg} (h1 : Bk w b1 S) (h2 : Bk w b2 O) (hne : b1 ≠ b2) (hl1 : S.length ≤ 1000000) (hl2 : O.length ≤ 1000000) (hq : Q64 m.q) (n1 : Pr.hasq S m.q = false) (n2 : Pr.hasq O m.q = false) :
    ∃ F s1 s2, Steps2 w b1 b2 m S O F s1 s2 := by
  obtain ⟨s1, a1, a2, p1, p2, p3⟩ := h1.entry hl1 hq n1
  obtain ⟨s2, c1, c2, q1, q2, q3⟩ := h2.entry hl2 hq n2
  have z1 := h1.lt
  have z2 := h2.lt
  -- the world behind i and j steps
  let up : World → Nat → Obj → Obj → Nat → World := fun w b o o' i => match i with | 0 => w | 1 => setBlock w b o | _ => setBlock w b o'
  have comm : ∀ (o o' : Obj), setBlock (setBlock w b1 o) b2 o' = setBlock (setBlock w b2 o') b1 o := by
    intro o o'
    unfold setBlock
    simp only [World.mk.injEq, and_true]
    apply Array.ext_getElem?
    intro k
    simp only [Array.getElem?_setIfInBounds, Array.size_setIfInBounds]
    by_cases e1 : b1 = k
    · subst e1; simp [Ne.symm hne]
    · by_cases e2 : b2 = k
      · subst e2; simp [e1]
      · simp [e1, e2]
  have twice : ∀ (v : World) (b : Nat) (o o' : Obj), setBlock (setBlock v b o) b o' = setBlock v b o' := by
    intro v b o o'; unfold setBlock; simp
  have u2 : ∀ (v : World) (b k : Nat) (o o' : Obj) (i : Nat), k ≠ b → (up v b o o' i).heap[k]? = v.heap[k]? := by
    intro v b k o o' i hk
    match i with
    | 0 => rfl
    | 1 => exact setBlock_other hk
    | i + 2 => exact setBlock_other hk
  have us : ∀ (v : World) (b : Nat) (o o' : Obj) (i : Nat), (up v b o o' i).heap.size = v.heap.size := by
    intro v b o o' i
    match i with
    | 0 => rfl
    | 1 => simp [up, setBlock]
    | i + 2 => simp [up, setBlock]
  let F : Nat → Nat → World := fun i j => up (up w b2 c1 c2 j) b1 a1 a2 i
  have F' : ∀ i j, F i j = up (up w b1 a1 a2 i) b2 c1 c2 j := by
    intro i j
    match i, j with
    | 0, _ => rfl
    | 1, 0 => rfl
    | i + 2, 0 => rfl
    | 1, 1 => exact (comm _ _).symm
    | 1, j + 2 => exact (comm _ _).symm
    | i + 2, 1 => exact (comm _ _).symm
    | i + 2, j + 2 => exact (comm _ _).symm
  refine ⟨F, s1, s2, ⟨rfl, fun j => p1 _ (u2 _ _ _ _ _ _ hne), fun j => ?_, fun i => ?_, fun i => ?_, fun i j b o e1 e2 => ?_, p3 _ ?_, q3 _ ?_, fun b3 => ⟨rfl, rfl, rfl, ?_, fun k hk k1 k2 _ => ?_⟩, fun k k1 k2 => ?_⟩⟩
  · have h := p2 (F 1 j) (setBlock_same (by rw [us]; exact z1))
    rw [h]
    congr 1
    exact twice _ _ _ _
  · rw [F', F']
    exact q1 _ (u2 _ _ _ _ _ _ (Ne.symm hne))
  · rw [F', F']
    have h := q2 (up (up w b1 a1 a2 i) b2 c1 c2 1) (setBlock_same (by rw [us]; exact z2))
    rw [h]
    congr 1
    exact twice _ _ _ _
  · exact World.cell?_of_block (a := ⟨b, o, none⟩) ((u2 _ _ _ _ _ _ e1).trans (u2 _ _ _ _ _ _ e2))
  · exact setBlock_same (by rw [us]; exact z1)
  · rw [F']
    exact setBlock_same (by rw [us]; exact z2)
  · show _ ≤ (up (up w b2 c1 c2 2) b1 a1 a2 2).heap.size
    rw [us, us]
    exact Nat.le_refl _
  · exact (u2 (up w b2 c1 c2 2) b1 k a1 a2 2 k1).trans (u2 w b2 k c1 c2 2 k2)
  · exact (u2 (up w b2 c1 c2 2) b1 k a1 a2 2 k1).trans (u2 w b2 k c1 c2 2 k2)
end Go.Proofs.Ythganbbiclmgpaa
