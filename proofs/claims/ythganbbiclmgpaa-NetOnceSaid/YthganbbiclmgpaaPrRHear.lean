/- The document's Hear: what is not for it, and what is neither transfer nor ack. -/
import Derived.Test.YthganbbiclmgpaaPrROff
namespace Go.Proofs.Ythganbbiclmgpaa
open Go.RowKit
theorem two_boxes (w : World) (a b : Array Value) (ta tb : TypeId) : Holds ((w.alloc (.cells a ta)).alloc (.cells b tb)) w.heap.size a.toList ∧ Holds ((w.alloc (.cells a ta)).alloc (.cells b tb)) (w.heap.size + 1) b.toList ∧ Below w.heap.size w ((w.alloc (.cells a ta)).alloc (.cells b tb)) ∧ ((w.alloc (.cells a ta)).alloc (.cells b tb)).heap.size = w.heap.size + 1 + 1 := by
  have e1 : (w.alloc (.cells a ta)).heap.size = w.heap.size + 1 := by simp
  refine ⟨(Holds.new w a ta).alloc _, ?_, ((Below.refl _ _).alloc (Nat.le_refl _) _).alloc (by omega) _, by simp⟩
  have h := Holds.new (w.alloc (.cells a ta)) b tb
  rw [e1] at h
  exact h
/-- The four boxes of a Hear: the peer, the message, and the two results. -/
structure HBox (w w1 : World) (ps ms rs zs : List Value) : Prop where
  p : Holds w1 w.heap.size ps
  m : Holds w1 (w.heap.size + 1) ms
  r : Holds w1 (w.heap.size + 1 + 1) rs
  z : Holds w1 (w.heap.size + 1 + 1 + 1) zs
  bel : Below w.heap.size w w1
  big : w.heap.size + 1 + 1 + 1 < w1.heap.size
theorem HBox.below {w w1 w2 : World} {ps ms rs zs : List Value} (h : HBox w w1 ps ms rs zs) (hb : Below w1.heap.size w1 w2) : HBox w w2 ps ms rs zs :=
  ⟨h.p.below hb, h.m.below hb, h.r.below hb, h.z.below hb, below_next h.bel hb, Nat.lt_of_lt_of_le h.big hb.size⟩
theorem hbox_new (w : World) (a b c d : Array Value) (ta tb tc td : TypeId) : HBox w ((((w.alloc (.cells a ta)).alloc (.cells b tb)).alloc (.cells c tc)).alloc (.cells d td)) a.toList b.toList c.toList d.toList := by
  obtain ⟨h1, h2, h3, h4⟩ := two_boxes w a b ta tb
  obtain ⟨g1, g2, g3, g4⟩ := two_boxes ((w.alloc (.cells a ta)).alloc (.cells b tb)) c d tc td
  rw [h4] at g1 g2 g4
  exact ⟨h1.below g3, h2.below g3, g1, g2, below_next h3 g3, by omega⟩
/-- What Hear leaves where nothing is other. -/
def SameR (who : Int) (A B : Option Addr) (n cap k c : Nat) (w : World) (e : Ending) (w' : World) : Prop :=
  e = .returned (.tuple #[.agg #[.int .i64 who, .slice A n cap, .slice B k c], .agg #[.int .i64 0, .int .i64 0, .int .i64 0, .string ⟨#[]⟩, .int .i64 0], .bool false]) ∧ Below w.heap.size w w'
set_option maxRecDepth 100000 in
set_option maxHeartbeats 4000000 in
/-- Not for it; neither; an ack of what was not sent. -/
theorem rhear_same (who : Int) (A B : Option Addr) (n cap k c : Nat) (m : Pr.Mg) (w : World)
    (hno : (m.p ≠ who ∨ m.q < 0) ∨ (m.p = who ∧ 0 ≤ m.q ∧ m.k ≠ 1 ∧ (m.k = 2 → (n : Int) ≤ m.q))) :
    Calls Try.prog 26 #[.agg #[.int .i64 who, .slice A n cap, .slice B k c], .agg m.cells.toArray] w (SameR who A B n cap k c w) := by
  obtain ⟨mk, mp, mq, ms, mn⟩ := m
  have H := Lib.hid (hbox_new w #[.int .i64 who, .slice A n cap, .slice B k c] #[.int .i64 mk, .int .i64 mp, .int .i64 mq, .string ms, .int .i64 mn] #[.int .i64 0, .slice none 0 0, .slice none 0 0] #[.int .i64 0, .int .i64 0, .int .i64 0, .string ⟨#[]⟩, .int .i64 0] 54 59 54 59)
  have key : (mp != who) = true ∨ ((mp != who) = false ∧ mq < 0) ∨ ((mp != who) = false ∧ ¬ mq < 0 ∧ (mk == 2) = true ∧ ¬ mq < (n : Int)) ∨ ((mp != who) = false ∧ ¬ mq < 0 ∧ (mk == 2) = false ∧ (mk != 1) = true) := by
    simp only at hno
    by_cases e1 : mp = who
    · by_cases e2 : mq < 0
      · exact .inr (.inl ⟨by simp [e1], e2⟩)
      · rcases hno with (h | h) | ⟨_, h2, h3, h4⟩
        · exact absurd e1 h
        · exact absurd h e2
        · by_cases e3 : mk = 2
          · exact .inr (.inr (.inl ⟨by simp [e1], e2, by simp [e3], by have := h4 e3; omega⟩))
          · exact .inr (.inr (.inr ⟨by simp [e1], e2, by simp [e3], by simp [h3]⟩))
    · exact .inl (by simp [e1])
  clear hno
  show Calls _ _ #[.agg #[.int .i64 who, .slice A n cap, .slice B k c], .agg #[.int .i64 mk, .int .i64 mp, .int .i64 mq, .string ms, .int .i64 mn]] _ _
  rcases key with k1 | ⟨k1, k2⟩ | ⟨k1, k2, k3, k4⟩ | ⟨k1, k2, k3, k4⟩
  all_goals
    go_enter Try.func26, Try.ntmps26
    go_upto_region 1 with fail
    generalize ((((w.alloc (.cells #[.int .i64 who, .slice A n cap, .slice B k c] 54)).alloc (.cells #[.int .i64 mk, .int .i64 mp, .int .i64 mq, .string ms, .int .i64 mn] 59)).alloc (.cells #[.int .i64 0, .slice none 0 0, .slice none 0 0] 54)).alloc (.cells #[.int .i64 0, .int .i64 0, .int .i64 0, .string ⟨#[]⟩, .int .i64 0] 59)) = w1 at *
    obtain ⟨p0, p1, p2⟩ := results3 H.out.p
    obtain ⟨m0, m1, m2, m3, m4⟩ := results5 H.out.m
    obtain ⟨r0, r1, r2⟩ := results3 H.out.r
    obtain ⟨s0, s1, s2, s3, s4⟩ := results5 H.out.z
    have y0 := H.out.r.2.2 0
    have y1 := H.out.r.2.2 1
    have y2 := H.out.r.2.2 2
    have z0 := H.out.z.2.2 0
    have z1 := H.out.z.2.2 1
    have z2 := H.out.z.2.2 2
    have z3 := H.out.z.2.2 3
    have z4 := H.out.z.2.2 4
    go_wp2
    obtain ⟨c0, c1, c2⟩ := results3 ((H.out.r.set3 (.int .i64 who) (.slice A n cap) (.slice B k c)).other5 (b := w.heap.size + 1 + 1 + 1) (x := .int .i64 0) (y := .int .i64 0) (z := .int .i64 0) (u := .string ⟨#[]⟩) (v := .int .i64 0) (by omega))
    obtain ⟨d0, d1, d2, d3, d4⟩ := results5 ((H.out.z.other3 (b := w.heap.size + 1 + 1) (x := .int .i64 who) (y := .slice A n cap) (z := .slice B k c) (by omega)).set5 (.int .i64 0) (.int .i64 0) (.int .i64 0) (.string ⟨#[]⟩) (.int .i64 0))
    refine ⟨rfl, .tuple #[.agg #[.int .i64 who, .slice A n cap, .slice B k c], .agg #[.int .i64 0, .int .i64 0, .int .i64 0, .string ⟨#[]⟩, .int .i64 0], .bool false], ?_, rfl, below_set5 (below_set3 H.out.bel _ _ _ _ (by omega)) _ _ _ _ _ _ (by omega)⟩
    simp [results, Try.results26, go_sem, c0, c1, c2, d0, d1, d2, d3, d4]
end Go.Proofs.Ythganbbiclmgpaa
