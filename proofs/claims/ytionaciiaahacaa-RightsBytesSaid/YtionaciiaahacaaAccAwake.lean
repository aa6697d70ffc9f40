/- The example at the head of layer 20's statements. -/
import Derived.Test.YtionaciiaahacaaAccRef
namespace Go.Proofs.Ytionaciiaahacaa
open Go.RowKit
set_option linter.unusedVariables false
/-- A block of the call's own that holds an account. -/
def Keeps (w : World) (b : Nat) (f h q : Int) : Prop :=
  b < w.heap.size ∧ w.cell? ⟨b, 0, none⟩ = some (.int .i64 f) ∧ w.cell? ⟨b, 1, none⟩ = some (.int .i64 h) ∧ w.cell? ⟨b, 2, none⟩ = some (.int .i64 q)
theorem Keeps.below {w w' : World} {b : Nat} {f h q : Int} (k : Keeps w b f h q) (hb : Below w.heap.size w w') : Keeps w' b f h q :=
  ⟨Nat.lt_of_lt_of_le k.1 hb.size, (hb.cell (p := ⟨b, 0, none⟩) k.1).trans k.2.1, (hb.cell (p := ⟨b, 1, none⟩) k.1).trans k.2.2.1, (hb.cell (p := ⟨b, 2, none⟩) k.1).trans k.2.2.2⟩
theorem Keeps.new (w : World) (f h q : Int) : Keeps (w.alloc (.cells #[.int .i64 f, .int .i64 h, .int .i64 q] 23)) w.heap.size f h q :=
  ⟨by simp, by rw [World.cell?_alloc_mark]; rfl, by rw [World.cell?_alloc_mark]; rfl, by rw [World.cell?_alloc_mark]; rfl⟩
theorem gives_eq {w w' : World} {r s : Int × Int × Int × Int} {e : Ending} (h : GivesAcc w r e w') (hs : r = s) : GivesAcc w s e w' := by rw [← hs]; exact h
set_option maxRecDepth 100000 in
theorem awake_any (w : World) : Calls Try.prog 17 #[] w fun e w' => e = .returned (.bool true) ∧ Below w.heap.size w w' := by
  go_enter Try.func17, Try.ntmps17
  go_wp2_with fail
  refine (fresh_any _).mono ?_
  rintro e w1 ⟨rfl, hx1⟩
  go_wp2_with fail
  refine (grant_any 0 0 1125899906842624 5 _).mono ?_
  intro e w2 hg
  obtain ⟨rfl, hb2⟩ := gives_eq hg (show _ = (5, 0, 1125899906842624, 0) by decide)
  have hx2 := below_next hx1 hb2
  clear hg hb2 hx1
  unfold acc
  go_wp2_with fail
  have hx3 : Below w.heap.size w (w2.alloc (.cells #[.int .i64 5, .int .i64 0, .int .i64 1125899906842624] 23)) := hx2.alloc hx2.size _
  refine (reserve_any 5 0 1125899906842624 3 9 _).mono ?_
  intro e w4 hg
  obtain ⟨rfl, hb4⟩ := gives_eq hg (show _ = (2, 3, 1125899906842624, 0) by decide)
  have hx4 := below_next hx3 hb4
  clear hg hb4 hx3 hx2
  unfold acc
  go_wp2_with fail
  have hk4 := Keeps.new w4 2 3 1125899906842624
  have hx5 : Below w.heap.size w (w4.alloc (.cells #[.int .i64 2, .int .i64 3, .int .i64 1125899906842624] 23)) := hx4.alloc hx4.size _
  refine (confirm_any 2 3 1125899906842624 3 9 10 _).mono ?_
  intro e w6 hg
  obtain ⟨rfl, hb6⟩ := gives_eq hg (show _ = (0, 0, 0, 204) by decide)
  have hx6 := below_next hx5 hb6
  have hk6 := hk4.below hb6
  generalize w4.heap.size = b4 at *
  clear hg hb6 hx5 hx4 hk4
  unfold acc
  have hk6' := hk6.below ((Below.refl _ _).alloc (Nat.le_refl _) (.cells #[.int .i64 0, .int .i64 0, .int .i64 0] 23))
  obtain ⟨_, c1, c2, c3⟩ := hk6'
  go_wp2_with fail
  have hx7 : Below w.heap.size w (w6.alloc (.cells #[.int .i64 0, .int .i64 0, .int .i64 0] 23)) := hx6.alloc hx6.size _
  have hk7 := hk6.below ((Below.refl _ _).alloc (Nat.le_refl _) (.cells #[.int .i64 0, .int .i64 0, .int .i64 0] 23))
  refine (expire_any 2 3 1125899906842624 3 9 10 _).mono ?_
  intro e w8 hg
  obtain ⟨rfl, hb8⟩ := gives_eq hg (show _ = (5, 0, 1125899906842624, 0) by decide)
  have hx8 := below_next hx7 hb8
  have hk8 := hk7.below hb8
  clear hg hb8 hx7 hk7 hk6 c1 c2 c3
  unfold acc
  have hk8' := hk8.below ((Below.refl _ _).alloc (Nat.le_refl _) (.cells #[.int .i64 5, .int .i64 0, .int .i64 1125899906842624] 23))
  obtain ⟨_, c1, c2, c3⟩ := hk8'
  go_wp2_with fail
  go_ret
  exact ⟨rfl, hx8.alloc hx8.size _⟩
end Go.Proofs.Ytionaciiaahacaa
