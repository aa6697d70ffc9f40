/- A peer's Hear: what is not for it. -/
import Derived.Test.YthganbbiclmgpaaPrOff2
namespace Go.Proofs.Ythganbbiclmgpaa
open Go.RowKit
/-- What Hear needs of its two boxes. -/
theorem hear_start {w : World} {g b1 b2 b3 : Nat} {who : Int} {S O G : List Pr.Mg} {m : Pr.Mg} {cs : List Value} (h : Peer w g b1 b2 b3 who S O G) (hm : m.cells = cs) (zs : List Value) :
    Below w.heap.size w ((w.alloc (.cells cs.toArray 59)).alloc (.cells zs.toArray 59)) ∧ Peer ((w.alloc (.cells cs.toArray 59)).alloc (.cells zs.toArray 59)) g b1 b2 b3 who S O G ∧
      Holds ((w.alloc (.cells cs.toArray 59)).alloc (.cells zs.toArray 59)) w.heap.size m.cells ∧ Holds ((w.alloc (.cells cs.toArray 59)).alloc (.cells zs.toArray 59)) (w.heap.size + 1) zs ∧ (g < w.heap.size ∧ b1 < w.heap.size ∧ b2 < w.heap.size ∧ b3 < w.heap.size) := by
  subst hm
  have h1 : Below w.heap.size w ((w.alloc (.cells m.cells.toArray 59)).alloc (.cells zs.toArray 59)) := ((Below.refl _ _).alloc (Nat.le_refl _) _).alloc (by simp) _
  refine ⟨h1, h.below h1, (Holds.new w m.cells.toArray 59).alloc _, ?_, h.box.1, h.sent.lt, h.open_.lt, h.got.lt⟩
  have := Holds.new (w.alloc (.cells m.cells.toArray 59)) zs.toArray 59
  have e : (w.alloc (.cells m.cells.toArray 59)).heap.size = w.heap.size + 1 := by simp
  rw [e] at this
  exact this
set_option maxRecDepth 100000 in
set_option maxHeartbeats 2000000 in
/-- A message that is not for it, or of a number below 0. -/
theorem hear_not (g b1 b2 b3 : Nat) (who : Int) (S O G : List Pr.Mg) (m : Pr.Mg) (w : World) (h : Peer w g b1 b2 b3 who S O G) (hw : 0 < who) (hno : m.p ≠ who ∨ m.q < 0) :
    Calls Try.prog 25 #[.pointer (some ⟨g, 0, none⟩), .agg m.cells.toArray] w fun e w' => e = .returned (.tuple #[.agg Pr.zero.cells.toArray, .bool false]) ∧ Below w.heap.size w w' := by
  obtain ⟨mk, mp, mq, ms, mn⟩ := m
  have HS := Lib.hid (hear_start h (m := ⟨mk, mp, mq, ms, mn⟩) (cs := [.int .i64 mk, .int .i64 mp, .int .i64 mq, .string ms, .int .i64 mn]) rfl [.int .i64 0, .int .i64 0, .int .i64 0, .string ⟨#[]⟩, .int .i64 0])
  have Hm := Lib.hid (fun W (h : Holds W g [.int .i64 who, .map (some b1), .map (some b2), .map (some b3)]) => pmade_any g who _ _ _ W h hw)
  show Calls _ _ #[.pointer (some ⟨g, 0, none⟩), .agg #[.int .i64 mk, .int .i64 mp, .int .i64 mq, .string ms, .int .i64 mn]] _ _
  have key : (mp != who) = true ∨ ((mp != who) = false ∧ mq < 0) := by
    by_cases e : mp = who
    · exact .inr ⟨by simp [e], hno.resolve_left (fun h => h e)⟩
    · exact .inl (by simp [e])
  clear h hno
  rcases key with k1 | ⟨k1, k2⟩
  all_goals
    go_enter Try.func25, Try.ntmps25
    go_wp2_with fail
    generalize ((w.alloc (.cells #[.int .i64 mk, .int .i64 mp, .int .i64 mq, .string ms, .int .i64 mn] 59)).alloc (.cells #[.int .i64 0, .int .i64 0, .int .i64 0, .string ⟨#[]⟩, .int .i64 0] 59)) = w1 at *
    obtain ⟨hb1, hP1, hM1, hR1, hlt⟩ := HS.out
    have c0 := hP1.box.at_ 0 rfl
    have m1 := hM1.at_ 1 rfl
    have m2 := hM1.at_ 2 rfl
    have hX := Lib.hid (And.intro hb1 (And.intro hP1 (And.intro hM1 (And.intro hR1 hlt))))
    clear HS hb1 hP1 hM1 hR1 hlt
    go_quiet ((go_at_call 38; exact Calls.quiet_of_same ((Hm.out _ (hX.out.2.1.box.below (drewN_below _ _ _))).mono (fun _ _ h => ⟨h.1, h.2.symm⟩))))
    rename_i nq
    have hb2 := drewN_below w1.heap.size w1 nq
    have H2 := Lib.hid (hX.out.2.2.2.1.below hb2)
    have HB2 := Lib.hid (below_next hX.out.1 hb2)
    clear hb2 c0 m1 m2
    generalize w1.drewN nq = w2 at *
    have z0 := H2.out.2.2 0
    have z1 := H2.out.2.2 1
    have z2 := H2.out.2.2 2
    have z3 := H2.out.2.2 3
    have z4 := H2.out.2.2 4
    obtain ⟨b0, b1, b2, b3, b4⟩ := results5 H2.out
    go_wp2
    obtain ⟨c0, c1, c2, c3, c4⟩ := results5 (H2.out.set5 (.int .i64 0) (.int .i64 0) (.int .i64 0) (.string ⟨#[]⟩) (.int .i64 0))
    refine ⟨rfl, .tuple #[.agg #[.int .i64 0, .int .i64 0, .int .i64 0, .string ⟨#[]⟩, .int .i64 0], .bool false], ?_, rfl, below_set5 HB2.out _ _ _ _ _ _ (by omega)⟩
    simp [results, Try.results25, go_sem, c0, c1, c2, c3, c4]
end Go.Proofs.Ythganbbiclmgpaa
