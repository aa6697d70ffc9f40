/- Nets and peers that nobody made. -/
import Derived.Test.YthganbbiclmgpaaMlAwake
import Derived.BigQuiet
namespace Go.Proofs.Ythganbbiclmgpaa
open Go.RowKit
/-- A net that nobody made. -/
def Nob (w : World) (n : Value) : Prop := n = .pointer none ∨ ∃ g, n = .pointer (some ⟨g, 0, none⟩) ∧ Holds w g [.bool false, .slice none 0 0]
theorem Nob.below {w w' : World} {n : Value} (h : Nob w n) (hb : Below w.heap.size w w') : Nob w' n := by
  rcases h with h | ⟨g, h, hg⟩
  · exact .inl h
  · exact .inr ⟨g, h, hg.below hb⟩
theorem nob_made (n : Value) (w : World) (h : Nob w n) : Calls Try.prog 33 #[n] w fun e w' => e = .returned (.bool false) ∧ w = w' := by
  rcases h with rfl | ⟨g, rfl, hg⟩
  · exact ismade_nil w
  · exact ismade_any g false _ w hg
set_option maxRecDepth 100000 in
theorem nob_has (n : Value) (i : Int) (w : World) (h : Nob w n) : Calls Try.prog 36 #[n, .int .i64 i] w fun e w' => e = .returned (.int .i64 4) ∧ w = w' := by
  have Hm := Lib.hid (nob_made n w h)
  clear h
  go_enter Try.func36, Try.ntmps36
  go_wp2_with fail
  refine Hm.out.mono ?_
  rintro e w1 ⟨rfl, rfl⟩
  go_wp2
  go_ret
  exact ⟨rfl, rfl⟩
set_option maxRecDepth 100000 in
theorem nob_len (n : Value) (w : World) (h : Nob w n) : Calls Try.prog 20 #[n] w fun e w' => e = .returned (.int .i64 0) ∧ w = w' := by
  have Hm := Lib.hid (nob_made n w h)
  clear h
  go_enter Try.func20, Try.ntmps20
  go_wp2_with fail
  refine Hm.out.mono ?_
  rintro e w1 ⟨rfl, rfl⟩
  go_wp2
  go_ret
  exact ⟨rfl, rfl⟩
set_option maxRecDepth 100000 in
theorem nob_send (n : Value) (m : Ml.M) (w : World) (h : Nob w n) : Calls Try.prog 10 #[n, .agg (Ml.cells m).toArray] w fun e w' => e = .returned (.int .i64 4) ∧ Below w.heap.size w w' := by
  obtain ⟨f, t, s⟩ := m
  have HB := Lib.hid (show Below w.heap.size w (w.alloc (.cells #[Value.int .i64 f, .int .i64 t, .string s] 28)) from (Below.refl _ _).alloc (Nat.le_refl _) _)
  have Hm := Lib.hid (nob_made n _ (h.below HB.out))
  clear h
  show Calls _ _ #[n, .agg #[.int .i64 f, .int .i64 t, .string s]] _ _
  go_enter Try.func10, Try.ntmps10
  go_wp2_with fail
  refine Hm.out.mono ?_
  rintro e w1 ⟨rfl, rfl⟩
  go_wp2
  go_ret
  exact ⟨rfl, HB.out⟩
set_option maxRecDepth 100000 in
theorem nob_at (n : Value) (i : Int) (w : World) (h : Nob w n) : Calls Try.prog 17 #[n, .int .i64 i] w fun e w' => e = .returned (.tuple #[.agg #[.int .i64 0, .int .i64 0, .string ⟨#[]⟩], .int .i64 4]) ∧ Below w.heap.size w w' := by
  have HB0 := Lib.hid (show Below w.heap.size w (w.alloc (.cells #[.int .i64 0, .int .i64 0, .string ⟨#[]⟩] 28)) from (Below.refl _ _).alloc (Nat.le_refl _) _)
  have Hm := Lib.hid (nob_has n i _ (h.below HB0.out))
  have Hbx := Lib.hid (Holds.new w #[.int .i64 0, .int .i64 0, .string ⟨#[]⟩] 28)
  clear h
  go_enter Try.func17, Try.ntmps17
  go_wp2_with fail
  generalize (w.alloc (.cells #[.int .i64 0, .int .i64 0, .string ⟨#[]⟩] 28)) = w1 at *
  refine Hm.out.mono ?_
  rintro e w2 ⟨rfl, rfl⟩
  have z0 := Hbx.out.2.2 0
  have z1 := Hbx.out.2.2 1
  have z2 := Hbx.out.2.2 2
  obtain ⟨b0, b1, b2⟩ := results3 Hbx.out
  go_wp2
  obtain ⟨c0, c1, c2⟩ := results3 (Hbx.out.set3 (.int .i64 0) (.int .i64 0) (.string ⟨#[]⟩))
  refine ⟨rfl, .tuple #[.agg #[.int .i64 0, .int .i64 0, .string ⟨#[]⟩], .int .i64 4], ?_, rfl, below_set3 HB0.out _ _ _ _ (Nat.le_refl _)⟩
  simp [results, Try.results17, go_sem, c0, c1, c2]
set_option maxRecDepth 100000 in
theorem nob_take (n : Value) (i : Int) (w : World) (h : Nob w n) : Calls Try.prog 12 #[n, .int .i64 i] w fun e w' => e = .returned (.tuple #[.agg #[.int .i64 0, .int .i64 0, .string ⟨#[]⟩], .int .i64 4]) ∧ Below w.heap.size w w' := by
  have HB0 := Lib.hid (show Below w.heap.size w (w.alloc (.cells #[.int .i64 0, .int .i64 0, .string ⟨#[]⟩] 28)) from (Below.refl _ _).alloc (Nat.le_refl _) _)
  have Hm := Lib.hid (nob_has n i _ (h.below HB0.out))
  have Hbx := Lib.hid (Holds.new w #[.int .i64 0, .int .i64 0, .string ⟨#[]⟩] 28)
  clear h
  go_enter Try.func12, Try.ntmps12
  go_wp2_with fail
  generalize (w.alloc (.cells #[.int .i64 0, .int .i64 0, .string ⟨#[]⟩] 28)) = w1 at *
  refine Hm.out.mono ?_
  rintro e w2 ⟨rfl, rfl⟩
  have z0 := Hbx.out.2.2 0
  have z1 := Hbx.out.2.2 1
  have z2 := Hbx.out.2.2 2
  obtain ⟨b0, b1, b2⟩ := results3 Hbx.out
  go_wp2
  obtain ⟨c0, c1, c2⟩ := results3 (Hbx.out.set3 (.int .i64 0) (.int .i64 0) (.string ⟨#[]⟩))
  refine ⟨rfl, .tuple #[.agg #[.int .i64 0, .int .i64 0, .string ⟨#[]⟩], .int .i64 4], ?_, rfl, below_set3 HB0.out _ _ _ _ (Nat.le_refl _)⟩
  simp [results, Try.results12, go_sem, c0, c1, c2]
set_option maxRecDepth 100000 in
theorem nob_lose (n : Value) (i : Int) (w : World) (h : Nob w n) : Calls Try.prog 14 #[n, .int .i64 i] w fun e w' => e = .returned (.int .i64 4) ∧ Below w.heap.size w w' := by
  have Hm := Lib.hid (nob_take n i w h)
  clear h
  go_enter Try.func14, Try.ntmps14
  go_wp2_with fail
  refine Hm.out.mono ?_
  rintro e w1 ⟨rfl, hb⟩
  have HB := Lib.hid hb
  clear hb
  go_wp2
  go_ret
  exact ⟨rfl, below_next HB.out ((Below.refl _ _).alloc (Nat.le_refl _) _)⟩
set_option maxRecDepth 100000 in
theorem nob_twin (n : Value) (i : Int) (w : World) (h : Nob w n) : Calls Try.prog 15 #[n, .int .i64 i] w fun e w' => e = .returned (.int .i64 4) ∧ w = w' := by
  have Hm := Lib.hid (nob_has n i w h)
  clear h
  go_enter Try.func15, Try.ntmps15
  go_wp2_with fail
  refine Hm.out.mono ?_
  rintro e w1 ⟨rfl, rfl⟩
  go_wp2
  go_ret
  exact ⟨rfl, rfl⟩
/-- A peer that nobody made. -/
def Nop (w : World) (n : Value) : Prop := n = .pointer none ∨ ∃ g, n = .pointer (some ⟨g, 0, none⟩) ∧ Holds w g [.int .i64 0, .map none, .map none, .map none]
theorem Nop.below {w w' : World} {n : Value} (h : Nop w n) (hb : Below w.heap.size w w') : Nop w' n := by
  rcases h with h | ⟨g, h, hg⟩
  · exact .inl h
  · exact .inr ⟨g, h, hg.below hb⟩
set_option maxRecDepth 100000 in
theorem nop_made (n : Value) (w : World) (h : Nop w n) : Calls Try.prog 38 #[n] w fun e w' => e = .returned (.bool false) ∧ w = w' := by
  rcases h with rfl | ⟨g, rfl, hg⟩
  · go_enter Try.func38, Try.ntmps38
    go_wp2
    go_ret
    exact ⟨rfl, rfl⟩
  · have c0 := hg.at_ 0 rfl
    clear hg
    go_enter Try.func38, Try.ntmps38
    go_wp2
    go_ret
    exact ⟨rfl, rfl⟩
set_option maxRecDepth 100000 in
theorem nop_again (n : Value) (w : World) (h : Nop w n) : Calls Try.prog 28 #[n] w fun e w' => e = .returned (.slice none 0 0) ∧ w = w' := by
  have Hm := Lib.hid (nop_made n w h)
  clear h
  go_enter Try.func28, Try.ntmps28
  go_wp2_with fail
  refine Hm.out.mono ?_
  rintro e w1 ⟨rfl, rfl⟩
  go_wp2
  go_ret
  exact ⟨rfl, rfl⟩
set_option maxRecDepth 100000 in
theorem nop_got (n : Value) (w : World) (h : Nop w n) : Calls Try.prog 30 #[n] w fun e w' => e = .returned (.slice none 0 0) ∧ w = w' := by
  have Hm := Lib.hid (nop_made n w h)
  clear h
  go_enter Try.func30, Try.ntmps30
  go_wp2_with fail
  refine Hm.out.mono ?_
  rintro e w1 ⟨rfl, rfl⟩
  go_wp2
  go_ret
  exact ⟨rfl, rfl⟩
set_option maxRecDepth 100000 in
theorem nop_sent (n : Value) (w : World) (h : Nop w n) : Calls Try.prog 31 #[n] w fun e w' => e = .returned (.slice none 0 0) ∧ w = w' := by
  have Hm := Lib.hid (nop_made n w h)
  clear h
  go_enter Try.func31, Try.ntmps31
  go_wp2_with fail
  refine Hm.out.mono ?_
  rintro e w1 ⟨rfl, rfl⟩
  go_wp2
  go_ret
  exact ⟨rfl, rfl⟩
theorem Holds.set5 {w : World} {b : Nat} {x y z u v : Value} (k : Holds w b [x, y, z, u, v]) (x' y' z' u' v' : Value) : Holds (((((w.setCell ⟨b, 0, none⟩ x').setCell ⟨b, 1, none⟩ y').setCell ⟨b, 2, none⟩ z').setCell ⟨b, 3, none⟩ u').setCell ⟨b, 4, none⟩ v') b [x', y', z', u', v'] :=
  ((((k.set 0 x' (by simp)).set 1 y' (by simp)).set 2 z' (by simp)).set 3 u' (by simp)).set 4 v' (by simp)
theorem below_set5 {B : Nat} {z w : World} (h : Below B z w) (b : Nat) (x y v s t : Value) (hb : B ≤ b) : Below B z (((((w.setCell ⟨b, 0, none⟩ x).setCell ⟨b, 1, none⟩ y).setCell ⟨b, 2, none⟩ v).setCell ⟨b, 3, none⟩ s).setCell ⟨b, 4, none⟩ t) :=
  below_set (below_set (below_set3 h b x y v hb) _ _ hb) _ _ hb
theorem results5 {w : World} {b : Nat} {x y z u v : Value} (h : Holds w b [x, y, z, u, v]) : w.cell? ⟨b, 0, none⟩ = some x ∧ w.cell? ⟨b, 1, none⟩ = some y ∧ w.cell? ⟨b, 2, none⟩ = some z ∧ w.cell? ⟨b, 3, none⟩ = some u ∧ w.cell? ⟨b, 4, none⟩ = some v := ⟨h.at_ 0 rfl, h.at_ 1 rfl, h.at_ 2 rfl, h.at_ 3 rfl, h.at_ 4 rfl⟩
set_option maxRecDepth 100000 in
theorem nop_offer (n : Value) (w : World) (h : Nop w n) : Calls Try.prog 23 #[n, .string ⟨#[97]⟩, .int .i64 1] w fun e w' => e = .returned (.tuple #[.agg #[.int .i64 0, .int .i64 0, .int .i64 0, .string ⟨#[]⟩, .int .i64 0], .int .i64 4]) ∧ Below w.heap.size w w' := by
  have HB0 := Lib.hid (show Below w.heap.size w (w.alloc (.cells #[.int .i64 0, .int .i64 0, .int .i64 0, .string ⟨#[]⟩, .int .i64 0] 59)) from (Below.refl _ _).alloc (Nat.le_refl _) _)
  have Hm := Lib.hid (nop_made n _ (h.below HB0.out))
  have Hbx := Lib.hid (Holds.new w #[.int .i64 0, .int .i64 0, .int .i64 0, .string ⟨#[]⟩, .int .i64 0] 59)
  clear h
  go_enter Try.func23, Try.ntmps23
  go_wp2_with fail
  generalize (w.alloc (.cells #[.int .i64 0, .int .i64 0, .int .i64 0, .string ⟨#[]⟩, .int .i64 0] 59)) = w1 at *
  refine Hm.out.mono ?_
  rintro e w2 ⟨rfl, rfl⟩
  have z0 := Hbx.out.2.2 0
  have z1 := Hbx.out.2.2 1
  have z2 := Hbx.out.2.2 2
  have z3 := Hbx.out.2.2 3
  have z4 := Hbx.out.2.2 4
  obtain ⟨b0, b1, b2, b3, b4⟩ := results5 Hbx.out
  go_wp2
  obtain ⟨c0, c1, c2, c3, c4⟩ := results5 (Hbx.out.set5 (.int .i64 0) (.int .i64 0) (.int .i64 0) (.string ⟨#[]⟩) (.int .i64 0))
  refine ⟨rfl, .tuple #[.agg #[.int .i64 0, .int .i64 0, .int .i64 0, .string ⟨#[]⟩, .int .i64 0], .int .i64 4], ?_, rfl, below_set5 HB0.out _ _ _ _ _ _ (Nat.le_refl _)⟩
  simp [results, Try.results23, go_sem, c0, c1, c2, c3, c4]
theorem drewN_below (B : Nat) (w : World) (n : Nat) : Below B w (w.drewN n) := (Below.refl _ _).trans ⟨rfl, rfl, rfl, Nat.le_refl _, fun _ _ => rfl⟩
set_option maxRecDepth 100000 in
theorem nop_hear (n : Value) (x0 x1 x2 x4 : Int) (x3 : ByteArray) (w : World) (h : Nop w n) : Calls Try.prog 25 #[n, .agg #[.int .i64 x0, .int .i64 x1, .int .i64 x2, .string x3, .int .i64 x4]] w fun e w' => e = .returned (.tuple #[.agg #[.int .i64 0, .int .i64 0, .int .i64 0, .string ⟨#[]⟩, .int .i64 0], .bool false]) ∧ Below w.heap.size w w' := by
  have HBa := Lib.hid (show Below w.heap.size w (w.alloc (.cells #[.int .i64 x0, .int .i64 x1, .int .i64 x2, .string x3, .int .i64 x4] 59)) from (Below.refl _ _).alloc (Nat.le_refl _) _)
  have HB0 := Lib.hid (HBa.out.alloc (by simp) (.cells #[.int .i64 0, .int .i64 0, .int .i64 0, .string ⟨#[]⟩, .int .i64 0] 59))
  have Hn := Lib.hid (h.below HB0.out)
  have hbx := Holds.new (w.alloc (.cells #[.int .i64 x0, .int .i64 x1, .int .i64 x2, .string x3, .int .i64 x4] 59)) #[.int .i64 0, .int .i64 0, .int .i64 0, .string ⟨#[]⟩, .int .i64 0] 59
  rw [show (w.alloc (.cells #[.int .i64 x0, .int .i64 x1, .int .i64 x2, .string x3, .int .i64 x4] 59)).heap.size = w.heap.size + 1 by simp] at hbx
  have Hbx := Lib.hid hbx
  clear h hbx
  go_enter Try.func25, Try.ntmps25
  go_upto_region 1 with fail
  generalize ((w.alloc (.cells #[.int .i64 x0, .int .i64 x1, .int .i64 x2, .string x3, .int .i64 x4] 59)).alloc (.cells #[.int .i64 0, .int .i64 0, .int .i64 0, .string ⟨#[]⟩, .int .i64 0] 59)) = w1 at *
  clear HBa
  go_quiet ((go_at_call 38; exact Calls.quiet_of_same ((nop_made n _ (Hn.out.below (drewN_below _ _ _))).mono (fun _ _ h => ⟨h.1, h.2.symm⟩))))
  rename_i nq
  have hb2 := drewN_below w1.heap.size w1 nq
  have H2 := Lib.hid (Hbx.out.below hb2)
  have HB2 := Lib.hid (below_next HB0.out hb2)
  clear hb2
  generalize w1.drewN nq = w2 at *
  have z0 := H2.out.2.2 0
  have z1 := H2.out.2.2 1
  have z2 := H2.out.2.2 2
  have z3 := H2.out.2.2 3
  have z4 := H2.out.2.2 4
  obtain ⟨b0, b1, b2, b3, b4⟩ := results5 H2.out
  go_wp2
  obtain ⟨c0, c1, c2, c3, c4⟩ := results5 (H2.out.set5 (.int .i64 0) (.int .i64 0) (.int .i64 0) (.string ⟨#[]⟩) (.int .i64 0))
  refine ⟨rfl, .tuple #[.agg #[.int .i64 0, .int .i64 0, .int .i64 0, .string ⟨#[]⟩, .int .i64 0], .bool false], ?_, rfl, below_set5 HB2.out _ _ _ _ _ _ (by omega)⟩
  simp [results, Try.results25, go_sem, c0, c1, c2, c3, c4]
end Go.Proofs.Ythganbbiclmgpaa
