/- Peers: three books of messages, in blocks of their own. -/
import Derived.Test.YthganbbiclmgpaaMlAwake
import Derived.Maps.OwnSet
namespace Go.Proofs.Ythganbbiclmgpaa
open Go.RowKit
namespace Pr
/-- A message. -/
structure Mg where
  k : Int
  p : Int
  q : Int
  s : ByteArray
  n : Int
  deriving DecidableEq
def Mg.cells (m : Mg) : List Value := [.int .i64 m.k, .int .i64 m.p, .int .i64 m.q, .string m.s, .int .i64 m.n]
/-- What a message reads as. -/
def Mg.data {H : Type} (m : Mg) : DataW H := .agg [.lit (.int .i64 m.k), .lit (.int .i64 m.p), .lit (.int .i64 m.q), .lit (.string m.s.data.toList), .lit (.int .i64 m.n)]
/-- How an element of a book reads. -/
def elem {H : Type} : Value → Option (DataW H × List MemPlace)
  | .agg cs => match cs.toList with
    | [.int .i64 k, .int .i64 p, .int .i64 q, .string s, .int .i64 n] => some ((⟨k, p, q, s, n⟩ : Mg).data, [])
    | _ => none
  | _ => none
theorem elem_mk {H : Type} (m : Mg) : elem (H := H) (.agg m.cells.toArray) = some (m.data, []) := rfl
end Pr
/-- A book in a block of its own. -/
def Book (w : World) (b n : Nat) (D : DataW Unit) : Prop := w.ownsMap Try.prog 3 Pr.elem b n D
theorem Book.below {w w' : World} {b n : Nat} {D : DataW Unit} (h : Book w b n D) (hb : Below w.heap.size w w') : Book w' b n D := by
  obtain ⟨es, clock, h1, h2⟩ := h
  exact ⟨es, clock, (hb.block b (Array.getElem?_eq_some_iff.1 h1).1).trans h1, h2⟩
/-- A peer: its number, what it has sent, what of that is open, what it has got. -/
structure PeerIs (w : World) (g : Nat) (who : Int) (b1 b2 b3 n1 n2 n3 : Nat) (D1 D2 D3 : DataW Unit) : Prop where
  box : Holds w g [.int .i64 who, .map (some b1), .map (some b2), .map (some b3)]
  sent : Book w b1 n1 D1
  open_ : Book w b2 n2 D2
  got : Book w b3 n3 D3
  far : b1 ≠ b2 ∧ b1 ≠ b3 ∧ b2 ≠ b3 ∧ g ≠ b1 ∧ g ≠ b2 ∧ g ≠ b3
theorem PeerIs.below {w w' : World} {g b1 b2 b3 n1 n2 n3 : Nat} {who : Int} {D1 D2 D3 : DataW Unit} (h : PeerIs w g who b1 b2 b3 n1 n2 n3 D1 D2 D3) (hb : Below w.heap.size w w') : PeerIs w' g who b1 b2 b3 n1 n2 n3 D1 D2 D3 :=
  ⟨h.box.below hb, h.sent.below hb, h.open_.below hb, h.got.below hb, h.far⟩
theorem book_made (w : World) : Book (w.alloc (.map #[] 0)) w.heap.size 0 (.map []) := World.ownsMap_made _ _ _ _
theorem peer_made (w : World) (who : Int) : PeerIs ((((w.alloc (.map #[] 0)).alloc (.map #[] 0)).alloc (.map #[] 0)).alloc (.cells #[.int .i64 who, .map (some w.heap.size), .map (some (w.heap.size + 1)), .map (some (w.heap.size + 1 + 1))] 82)) (w.heap.size + 1 + 1 + 1) who w.heap.size (w.heap.size + 1) (w.heap.size + 1 + 1) 0 0 0 (.map []) (.map []) (.map []) := by
  have e1 : (w.alloc (.map #[] 0)).heap.size = w.heap.size + 1 := by simp
  have e2 : ((w.alloc (.map #[] 0)).alloc (.map #[] 0)).heap.size = w.heap.size + 1 + 1 := by simp
  have e3 : (((w.alloc (.map #[] 0)).alloc (.map #[] 0)).alloc (.map #[] 0)).heap.size = w.heap.size + 1 + 1 + 1 := by simp
  have ha : ∀ (v : World) (o : Obj), Below v.heap.size v (v.alloc o) := fun v o => (Below.refl _ _).alloc (Nat.le_refl _) o
  refine ⟨?_, (((book_made w).below (ha _ _)).below (ha _ _)).below (ha _ _), ?_, ?_, by omega, by omega, by omega, by omega, by omega, by omega⟩
  · have h := Holds.new (((w.alloc (.map #[] 0)).alloc (.map #[] 0)).alloc (.map #[] 0)) #[.int .i64 who, .map (some w.heap.size), .map (some (w.heap.size + 1)), .map (some (w.heap.size + 1 + 1))] 82
    rw [e3] at h
    exact h
  · have h := ((book_made (w.alloc (.map #[] 0))).below (ha _ (.map #[] 0))).below (ha _ (.cells #[.int .i64 who, .map (some w.heap.size), .map (some (w.heap.size + 1)), .map (some (w.heap.size + 1 + 1))] 82))
    rw [e1] at h
    exact h
  · have h := (book_made ((w.alloc (.map #[] 0)).alloc (.map #[] 0))).below (ha _ (.cells #[.int .i64 who, .map (some w.heap.size), .map (some (w.heap.size + 1)), .map (some (w.heap.size + 1 + 1))] 82))
    rw [e2] at h
    exact h
/-- A new peer. -/
def GivesPeer (w : World) (n : Int) (e : Ending) (w' : World) : Prop :=
  ∃ g b1 b2 b3, e = .returned (.tuple #[.pointer (some ⟨g, 0, none⟩), .int .i64 0]) ∧ PeerIs w' g n b1 b2 b3 0 0 0 (.map []) (.map []) (.map []) ∧ Below w.heap.size w w' ∧ w.heap.size ≤ b1 ∧ w.heap.size ≤ b2 ∧ w.heap.size ≤ b3 ∧ w.heap.size ≤ g
set_option maxRecDepth 100000 in
theorem newpeer_ok (n : Int) (w : World) (h1 : 1 ≤ n) (h2 : n ≤ 15) : Calls Try.prog 21 #[.int .i64 n] w (GivesPeer w n) := by
  have hmm := @run_makeMap Try.prog
  have H := Lib.hid (peer_made w n)
  have q1 : ¬ n < 1 := by omega
  have q2 : ¬ 15 < n := by omega
  go_enter Try.func21, Try.ntmps21
  go_wp2
  refine ⟨rfl, .tuple #[.pointer (some ⟨w.heap.size + 1 + 1 + 1, 0, none⟩), .int .i64 0], ?_, w.heap.size + 1 + 1 + 1, w.heap.size, w.heap.size + 1, w.heap.size + 1 + 1, rfl, H.out, ((((Below.refl _ _).alloc (Nat.le_refl _) _).alloc (by simp) _).alloc (by simp; omega) _).alloc (by simp; omega) _, by omega, by omega, by omega, by omega⟩
  simp [results, Try.results21, go_sem]
set_option maxRecDepth 100000 in
theorem newpeer_no (n : Int) (w : World) (h : n < 1 ∨ 15 < n) : Calls Try.prog 21 #[.int .i64 n] w fun e w' => e = .returned (.tuple #[.pointer none, .int .i64 210]) ∧ w = w' := by
  by_cases q1 : n < 1
  · clear h
    go_enter Try.func21, Try.ntmps21
    go_wp2
    refine ⟨rfl, .tuple #[.pointer none, .int .i64 210], ?_, rfl, rfl⟩
    simp [results, Try.results21, go_sem]
  · have q2 : 15 < n := by omega
    clear h
    go_enter Try.func21, Try.ntmps21
    go_wp2
    refine ⟨rfl, .tuple #[.pointer none, .int .i64 210], ?_, rfl, rfl⟩
    simp [results, Try.results21, go_sem]
end Go.Proofs.Ythganbbiclmgpaa
