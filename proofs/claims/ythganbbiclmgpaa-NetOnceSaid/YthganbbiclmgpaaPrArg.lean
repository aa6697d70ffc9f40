/- A peer's Offer of what may not be. -/
import Derived.Test.YthganbbiclmgpaaPrBase
import Derived.Test.YthganbbiclmgpaaMlNobody
namespace Go.Proofs.Ythganbbiclmgpaa
open Go.RowKit
set_option maxRecDepth 100000 in
theorem pmade_any (g : Nat) (who : Int) (x y z : Value) (w : World) (h : Holds w g [.int .i64 who, x, y, z]) (hw : 0 < who) : Calls Try.prog 38 #[.pointer (some ⟨g, 0, none⟩)] w fun e w' => e = .returned (.bool true) ∧ w = w' := by
  have c0 := h.at_ 0 rfl
  clear h
  go_enter Try.func38, Try.ntmps38
  go_wp2
  go_ret
  exact ⟨rfl, rfl⟩
set_option maxRecDepth 100000 in
set_option maxHeartbeats 2000000 in
theorem offer_arg (g : Nat) (who : Int) (x y z : Value) (key : ByteArray) (n : Int) (w : World) (h : Holds w g [.int .i64 who, x, y, z]) (hw : 0 < who) (hno : ¬ (1 ≤ key.size ∧ key.size ≤ 16 ∧ 1 ≤ n ∧ n ≤ 1125899906842624)) :
    Calls Try.prog 23 #[.pointer (some ⟨g, 0, none⟩), .string key, .int .i64 n] w fun e w' => e = .returned (.tuple #[.agg #[.int .i64 0, .int .i64 0, .int .i64 0, .string ⟨#[]⟩, .int .i64 0], .int .i64 1]) ∧ Below w.heap.size w w' := by
  have HB0 := Lib.hid (show Below w.heap.size w (w.alloc (.cells #[.int .i64 0, .int .i64 0, .int .i64 0, .string ⟨#[]⟩, .int .i64 0] 59)) from (Below.refl _ _).alloc (Nat.le_refl _) _)
  have Hm := Lib.hid (pmade_any g who x y z _ (h.below HB0.out) hw)
  have Hbx := Lib.hid (Holds.new w #[.int .i64 0, .int .i64 0, .int .i64 0, .string ⟨#[]⟩, .int .i64 0] 59)
  clear h
  have key4 : ((key.size : Int) < 1) ∨ (¬ (key.size : Int) < 1 ∧ (16 : Int) < (key.size : Int)) ∨ (¬ (key.size : Int) < 1 ∧ ¬ (16 : Int) < (key.size : Int) ∧ n < 1) ∨ (¬ (key.size : Int) < 1 ∧ ¬ (16 : Int) < (key.size : Int) ∧ ¬ n < 1 ∧ 1125899906842624 < n) := by omega
  clear hno
  rcases key4 with k1 | ⟨k1, k2⟩ | ⟨k1, k2, k3⟩ | ⟨k1, k2, k3, k4⟩
  all_goals
    go_enter Try.func23, Try.ntmps23
    go_wp2_with fail
    generalize (w.alloc (.cells #[.int .i64 0, .int .i64 0, .int .i64 0, .string ⟨#[]⟩, .int .i64 0] 59)) = w1 at *
    refine Hm.out.mono ?_
    rintro e w2 ⟨rfl, rfl⟩
    have z0 := Hbx.out.2.2 0
    have z1 := Hbx.out.2.2 1
    have z2 := Hbx.out.2.2 2
    have z3 := Hbx.out.2.2 3
    have z4 := Hbx.out.2.2 4
    obtain ⟨b0, b1, b2, b3, b4⟩ := results5 Hbx.out
    go_wp2
    obtain ⟨c0, c1, c2, c3, c4⟩ := results5 (Hbx.out.set5 (.int .i64 0) (.int .i64 0) (.int .i64 0) (.string ⟨#[]⟩) (.int .i64 0))
    refine ⟨rfl, .tuple #[.agg #[.int .i64 0, .int .i64 0, .int .i64 0, .string ⟨#[]⟩, .int .i64 0], .int .i64 1], ?_, rfl, below_set5 HB0.out _ _ _ _ _ _ (Nat.le_refl _)⟩
    simp [results, Try.results23, go_sem, c0, c1, c2, c3, c4]
end Go.Proofs.Ythganbbiclmgpaa
