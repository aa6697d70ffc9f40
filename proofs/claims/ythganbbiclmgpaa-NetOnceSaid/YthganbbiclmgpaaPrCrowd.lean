/- A peer's Offer where it waits for too many acks. -/
import Derived.Test.YthganbbiclmgpaaPrOff2
namespace Go.Proofs.Ythganbbiclmgpaa
open Go.RowKit
set_option maxRecDepth 100000 in
set_option maxHeartbeats 2000000 in
theorem offer_crowd (g b1 b2 b3 : Nat) (who : Int) (S O G : List Pr.Mg) (key : ByteArray) (n : Int) (w : World) (h : Peer w g b1 b2 b3 who S O G) (hw : 0 < who) (k1 : 1 ≤ key.size) (k2 : key.size ≤ 16) (k3 : 1 ≤ n) (k4 : n ≤ 1125899906842624) (hO : 64 ≤ O.length) :
    Calls Try.prog 23 #[.pointer (some ⟨g, 0, none⟩), .string key, .int .i64 n] w fun e w' => e = .returned (.tuple #[.agg #[.int .i64 0, .int .i64 0, .int .i64 0, .string ⟨#[]⟩, .int .i64 0], .int .i64 214]) ∧ Below w.heap.size w w' := by
  have HB0 := Lib.hid (show Below w.heap.size w (w.alloc (.cells #[.int .i64 0, .int .i64 0, .int .i64 0, .string ⟨#[]⟩, .int .i64 0] 59)) from (Below.refl _ _).alloc (Nat.le_refl _) _)
  have hP := h.below HB0.out
  have HP := Lib.hid hP
  have Hm := Lib.hid (pmade_any g who _ _ _ _ hP.box hw)
  have Hbx := Lib.hid (Holds.new w #[.int .i64 0, .int .i64 0, .int .i64 0, .string ⟨#[]⟩, .int .i64 0] 59)
  have q1 : ¬ (key.size : Int) < 1 := by omega
  have q2 : ¬ (16 : Int) < (key.size : Int) := by omega
  have q3 : ¬ n < 1 := by omega
  have q4 : ¬ 1125899906842624 < n := by omega
  have q5 : (64 : Int) ≤ (O.length : Int) := by omega
  clear h hP
  go_enter Try.func23, Try.ntmps23
  go_wp2_with fail
  generalize (w.alloc (.cells #[.int .i64 0, .int .i64 0, .int .i64 0, .string ⟨#[]⟩, .int .i64 0] 59)) = w1 at *
  refine Hm.out.mono ?_
  rintro e w2 ⟨rfl, rfl⟩
  clear Hm
  have c2 := HP.out.box.at_ 2 rfl
  have hlen2 := HP.out.open_.len_run 3
  have z0 := Hbx.out.2.2 0
  have z1 := Hbx.out.2.2 1
  have z2 := Hbx.out.2.2 2
  have z3 := Hbx.out.2.2 3
  have z4 := Hbx.out.2.2 4
  obtain ⟨b0, d1, d2, d3, d4⟩ := results5 Hbx.out
  go_wp2
  obtain ⟨c0, c1, c2, c3, c4⟩ := results5 (Hbx.out.set5 (.int .i64 0) (.int .i64 0) (.int .i64 0) (.string ⟨#[]⟩) (.int .i64 0))
  refine ⟨rfl, .tuple #[.agg #[.int .i64 0, .int .i64 0, .int .i64 0, .string ⟨#[]⟩, .int .i64 0], .int .i64 214], ?_, rfl, below_set5 HB0.out _ _ _ _ _ _ (Nat.le_refl _)⟩
  simp [results, Try.results23, go_sem, c0, c1, c2, c3, c4]
end Go.Proofs.Ythganbbiclmgpaa
