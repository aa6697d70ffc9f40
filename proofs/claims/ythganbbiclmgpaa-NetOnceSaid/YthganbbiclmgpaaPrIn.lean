/- Messages and acts that came in. -/
import Derived.Test.YthganbbiclmgpaaPrDuo
import Derived.Test.YthganbbiclmgpaaMlSteps
import Derived.Deep.DeepCutAuto
import Derived.Deep.CutRange
import Derived.Deep.CutBlock
namespace Go.Proofs.Ythganbbiclmgpaa
open Go.ChangeShapes Go.WideShapes Go.ChangeAt Go.RowKit Go.Joins Go.Deep
namespace Pr
/-- An act: its kind, key, number and message. -/
structure Ac where
  k : Nat
  s : ByteArray
  n : Int
  m : Mg
def Ac.cells (a : Ac) : List Value := [.int .u8 (a.k : Int), .string a.s, .int .i64 a.n, .int .i64 a.m.k, .int .i64 a.m.p, .int .i64 a.m.q, .string a.m.s, .int .i64 a.m.n]
/-- A message that came in. -/
def Mg.fine (m : Mg) : Prop := Q64 m.q ∧ m.s.size ≤ 9223372036854775807
def Ac.fine (a : Ac) : Prop := a.k < 256 ∧ a.s.size ≤ 9223372036854775807 ∧ a.m.fine
end Pr
/-- A slice of messages, of acts, that came in. -/
def RdMg (w : World) (A : Option Addr) (n : Nat) (l : List Pr.Mg) : Prop :=
  l.length = n ∧ (0 < n → ∃ b o, A = some ⟨b, o, none⟩ ∧ b < w.heap.size ∧ ∀ (i : Nat) (s : Pr.Mg), l[i]? = some s → (∀ (j : Nat) u, s.cells[j]? = some u → w.cell? ⟨b, o + (i * 5 + j), none⟩ = some u) ∧ s.fine)
def RdAc (w : World) (A : Option Addr) (n : Nat) (l : List Pr.Ac) : Prop :=
  l.length = n ∧ (0 < n → ∃ b o, A = some ⟨b, o, none⟩ ∧ b < w.heap.size ∧ ∀ (i : Nat) (s : Pr.Ac), l[i]? = some s → (∀ (j : Nat) u, s.cells[j]? = some u → w.cell? ⟨b, o + (i * 8 + j), none⟩ = some u) ∧ s.fine)
theorem cells_mg : Try.prog.cellsOf 59 = 5 := by kernel_rfl
theorem cells_act : Try.prog.cellsOf 61 = 8 := by kernel_rfl
theorem list8 {α : Type} {cs : List α} (h : cs.length = 8) : ∃ a b c d e f g i, cs = [a, b, c, d, e, f, g, i] := by
  match cs, h with
  | [a, b, c, d, e, f, g, i], _ => exact ⟨a, b, c, d, e, f, g, i, rfl⟩
section
variable {H : Type} {enc : TypeId × Value → H} {W : World} {base : Nat} {v : Value} {d : DataW H} {p : List MemPlace}
set_option maxRecDepth 100000 in
theorem open_msg {q : Nat} {cs : List Value} {y : DataW H × List MemPlace} {sp : Nat → Bool} {hd : Bool} (hl : cs.length = 5) (h : DataW.trod enc Try.prog W 0 sp hd q 59 cs = some y) : ∃ s : Pr.Mg, cs = s.cells ∧ s.fine := by
  obtain ⟨c0, c1, c2, c3, c4, rfl⟩ := list5 hl
  obtain ⟨xs, n, _, _, _, hlen, hf⟩ := DataW.trod_struct Try.underlying59 h
  match xs, hlen with
  | [y0, y1, y2, y3, y4], _ =>
    have h0 := hf 0 _ rfl
    have h1 := hf 1 _ rfl
    have h2 := hf 2 _ rfl
    have h3 := hf 3 _ rfl
    have h4 := hf 4 _ rfl
    simp only [List.getElem?_cons_zero, List.getElem?_cons_succ] at h0 h1 h2 h3 h4
    obtain ⟨k, rfl, _⟩ := one_int Try.underlying57 h0
    obtain ⟨p, rfl, _⟩ := one_int Try.underlying3 h1
    obtain ⟨q, rfl, hq⟩ := one_int Try.underlying3 h2
    obtain ⟨s, rfl, hs⟩ := one_str h3
    obtain ⟨n, rfl, _⟩ := one_int Try.underlying3 h4
    exact ⟨⟨k, p, q, s, n⟩, rfl, hq, hs⟩
set_option maxRecDepth 100000 in
theorem open_act {q : Nat} {cs : List Value} {y : DataW H × List MemPlace} {sp : Nat → Bool} {hd : Bool} (hl : cs.length = 8) (h : DataW.trod enc Try.prog W 0 sp hd q 61 cs = some y) : ∃ s : Pr.Ac, cs = s.cells ∧ s.fine := by
  obtain ⟨c0, c1, c2, c3, c4, c5, c6, c7, rfl⟩ := list8 hl
  obtain ⟨xs, n, _, _, _, hlen, hf⟩ := DataW.trod_struct Try.underlying61 h
  match xs, hlen with
  | [y0, y1, y2, y3], _ =>
    have h0 := hf 0 _ rfl
    have h1 := hf 1 _ rfl
    have h2 := hf 2 _ rfl
    have h3 := hf 3 _ rfl
    simp only [List.getElem?_cons_zero, List.getElem?_cons_succ] at h0 h1 h2 h3
    obtain ⟨k, rfl, hk⟩ := one_u8 h0
    obtain ⟨s, rfl, hs⟩ := one_str h1
    obtain ⟨n, rfl, _⟩ := one_int Try.underlying3 h2
    obtain ⟨m, hm, hfm⟩ := open_msg rfl h3
    injection hm with e0 hm
    injection hm with e1 hm
    injection hm with e2 hm
    injection hm with e3 hm
    injection hm with e4 _
    have e0 : c3 = .int .i64 m.k := e0
    have e1 : c4 = .int .i64 m.p := e1
    have e2 : c5 = .int .i64 m.q := e2
    have e3 : c6 = .string m.s := e3
    have e4 : c7 = .int .i64 m.n := e4
    subst e0 e1 e2 e3 e4
    exact ⟨⟨k, s, n, m⟩, rfl, hk, hs, hfm⟩
set_option maxRecDepth 100000 in
theorem in_msgs (hval : Value.okWide Try.prog W .any base 52 v) (h : Reads enc W 52 v d p) : ∃ (A : Option Addr) (n cap : Nat) (l : List Pr.Mg), v = .slice A n cap ∧ RdMg W A n l ∧ n ≤ cap ∧ n ≤ 9223372036854775807 := by
  obtain ⟨A, n, cap, rfl, hc, hn, hr⟩ := in_elems Try.underlying52 cells_mg (by decide) hval h
  by_cases h0 : 0 < n
  · obtain ⟨b, o, rfl, hb, he⟩ := hr h0
    obtain ⟨l, hl, hp⟩ := exists_list (α := Pr.Mg) (P := fun i s => (∀ (j : Nat) u, s.cells[j]? = some u → W.cell? ⟨b, o + (i * 5 + j), none⟩ = some u) ∧ s.fine) n (fun i hi => by
      obtain ⟨cs, q, y, h1, h2, h3⟩ := he i hi
      obtain ⟨s, rfl, hk⟩ := open_msg h1 h3
      exact ⟨s, h2, hk⟩)
    exact ⟨some ⟨b, o, none⟩, n, cap, l, rfl, ⟨hl, fun _ => ⟨b, o, rfl, hb, hp⟩⟩, hc, hn⟩
  · have : n = 0 := by omega
    subst this
    exact ⟨A, 0, cap, [], rfl, ⟨rfl, fun h => absurd h (by omega)⟩, hc, hn⟩
set_option maxRecDepth 100000 in
theorem in_acts (hval : Value.okWide Try.prog W .any base 47 v) (h : Reads enc W 47 v d p) : ∃ (A : Option Addr) (n cap : Nat) (l : List Pr.Ac), v = .slice A n cap ∧ RdAc W A n l ∧ n ≤ cap ∧ n ≤ 9223372036854775807 := by
  obtain ⟨A, n, cap, rfl, hc, hn, hr⟩ := in_elems Try.underlying47 cells_act (by decide) hval h
  by_cases h0 : 0 < n
  · obtain ⟨b, o, rfl, hb, he⟩ := hr h0
    obtain ⟨l, hl, hp⟩ := exists_list (α := Pr.Ac) (P := fun i s => (∀ (j : Nat) u, s.cells[j]? = some u → W.cell? ⟨b, o + (i * 8 + j), none⟩ = some u) ∧ s.fine) n (fun i hi => by
      obtain ⟨cs, q, y, h1, h2, h3⟩ := he i hi
      obtain ⟨s, rfl, hk⟩ := open_act h1 h3
      exact ⟨s, h2, hk⟩)
    exact ⟨some ⟨b, o, none⟩, n, cap, l, rfl, ⟨hl, fun _ => ⟨b, o, rfl, hb, hp⟩⟩, hc, hn⟩
  · have : n = 0 := by omega
    subst this
    exact ⟨A, 0, cap, [], rfl, ⟨rfl, fun h => absurd h (by omega)⟩, hc, hn⟩
end
end Go.Proofs.Ythganbbiclmgpaa
