/- Logs that nobody made; a disk that nobody made has none. -/
import Derived.Test.YtahoiabibjdobaaWlAwake
import Derived.Test.YtahoiabibjdobaaM04
namespace Go.Proofs.Ytahoiabibjdobaa
open Go.RowKit Fi Fr
set_option linter.unusedVariables false
set_option linter.unusedSimpArgs false
def NoLog (w : World) (x : Value) : Prop := x = .pointer none ∨ ∃ g, x = .pointer (some ⟨g, 0, none⟩) ∧ Holds w g [.int .i64 0, .int .i64 0, .slice none 0 0, .int .i64 0, .int .i64 0, .pointer none, .int .i64 0, .int .i64 0]
theorem NoLog.below {w w' : World} {x : Value} (h : NoLog w x) (hb : Below w.heap.size w w') : NoLog w' x := by
  rcases h with h | ⟨g, h, k⟩
  · exact .inl h
  · exact .inr ⟨g, h, k.below hb⟩
theorem made_no (x : Value) (w : World) (h : NoLog w x) : Calls Try.prog 27 #[x] w fun e w' => e = .returned (.bool false) ∧ w = w' := by
  rcases h with rfl | ⟨g, rfl, k⟩
  · exact made_none w
  · exact made_zero g _ _ _ _ _ _ _ w k
set_option maxRecDepth 100000 in
theorem add_no (x : Value) (w : World) (h : NoLog w x) (B : Option Addr) (m c : Nat) : Calls Try.prog 12 #[x, .slice B m c] w fun e w' => e = .returned (.int .i64 4) ∧ w = w' := by
  have C := Lib.hid (made_no x w h)
  go_enter Try.func12, Try.ntmps12
  go_wp2_with fail
  refine C.out.mono ?_
  rintro e v ⟨rfl, rfl⟩
  go_wp2
  go_ret
  exact ⟨rfl, rfl⟩
set_option maxRecDepth 100000 in
theorem fits_no (x : Value) (w : World) (h : NoLog w x) (B : Option Addr) (m c : Nat) : Calls Try.prog 11 #[x, .slice B m c] w fun e w' => e = .returned (.bool false) ∧ w = w' := by
  have C := Lib.hid (made_no x w h)
  go_enter Try.func11, Try.ntmps11
  go_wp2_with fail
  refine C.out.mono ?_
  rintro e v ⟨rfl, rfl⟩
  go_wp2
  go_ret
  exact ⟨rfl, rfl⟩
set_option maxRecDepth 100000 in
theorem frames_no (x : Value) (w : World) (h : NoLog w x) : Calls Try.prog 14 #[x] w fun e w' => e = .returned (.int .i64 0) ∧ w = w' := by
  have C := Lib.hid (made_no x w h)
  go_enter Try.func14, Try.ntmps14
  go_wp2_with fail
  refine C.out.mono ?_
  rintro e v ⟨rfl, rfl⟩
  go_wp2
  go_ret
  exact ⟨rfl, rfl⟩
set_option maxRecDepth 100000 in
theorem left_no (x : Value) (w : World) (h : NoLog w x) : Calls Try.prog 20 #[x] w fun e w' => e = .returned (.int .i64 0) ∧ w = w' := by
  have C := Lib.hid (made_no x w h)
  go_enter Try.func20, Try.ntmps20
  go_wp2_with fail
  refine C.out.mono ?_
  rintro e v ⟨rfl, rfl⟩
  go_wp2
  go_ret
  exact ⟨rfl, rfl⟩
set_option maxRecDepth 100000 in
theorem records_no (x : Value) (w : World) (h : NoLog w x) : Calls Try.prog 15 #[x] w fun e w' => e = .returned (.int .i64 0) ∧ w = w' := by
  have C := Lib.hid (made_no x w h)
  go_enter Try.func15, Try.ntmps15
  go_wp2_with fail
  refine C.out.mono ?_
  rintro e v ⟨rfl, rfl⟩
  go_wp2
  go_ret
  exact ⟨rfl, rfl⟩
set_option maxRecDepth 100000 in
theorem part_no (x : Value) (w : World) (h : NoLog w x) : Calls Try.prog 21 #[x] w fun e w' => e = .returned (.agg #[.int .i64 0, .int .i64 0, .slice none 0 0, .int .i64 0, .int .i64 0]) ∧ Below w.heap.size w w' := by
  have hb : Below w.heap.size w (w.alloc (.cells #[.int .i64 0, .int .i64 0, .slice none 0 0, .int .i64 0, .int .i64 0] 60)) := (Below.refl _ _).alloc (Nat.le_refl _) _
  have k := Holds.new w #[.int .i64 0, .int .i64 0, .slice none 0 0, .int .i64 0, .int .i64 0] 60
  have C := Lib.hid (made_no x _ (h.below hb))
  have HB := Lib.hid hb
  have y0 := k.at_ 0 rfl
  have y1 := k.at_ 1 rfl
  have y2 := k.at_ 2 rfl
  have y3 := k.at_ 3 rfl
  have y4 := k.at_ 4 rfl
  have f0 := k.2.2 0
  have f1 := k.2.2 1
  have f2 := k.2.2 2
  have f3 := k.2.2 3
  have f4 := k.2.2 4
  clear hb k
  go_enter Try.func21, Try.ntmps21
  go_wp2_with fail
  refine C.out.mono ?_
  rintro e v ⟨rfl, rfl⟩
  go_wp2_with fail
  refine bodyPost_ret (v := .agg #[.int .i64 0, .int .i64 0, .slice none 0 0, .int .i64 0, .int .i64 0]) ?_ rfl ⟨rfl, HB.out⟩
  simp [results, Try.results21, go_sem, y0, y1, y2, y3, y4]
set_option maxRecDepth 100000 in
theorem wopen_no (id ep : Int) (A : Option Addr) (n c : Nat) (kind epoch : Int) (w : World) : Calls Try.prog 8 #[.pointer none, .agg #[.int .i64 id, .int .i64 ep, .slice A n c], .int .i64 kind, .int .i64 epoch] w fun e w' => e = .returned (.tuple #[.pointer none, .slice none 0 0, .int .i64 4]) ∧ Below w.heap.size w w' := by
  have HB := Lib.hid (show Below w.heap.size w (w.alloc (.cells #[.int .i64 id, .int .i64 ep, .slice A n c] 34)) from (Below.refl _ _).alloc (Nat.le_refl _) _)
  go_enter Try.func8, Try.ntmps8
  go_wp2_with fail
  refine (nod_size _ _ (.inl rfl)).mono ?_
  rintro e v ⟨rfl, rfl⟩
  go_wp2
  go_ret3
  exact ⟨rfl, HB.out⟩
end Go.Proofs.Ytahoiabibjdobaa
