/- A disk that nobody made. -/
import Derived.Test.YtbdomhookjmmgaaDkAwake
namespace Go.Proofs.Ytbdomhookjmmgaa
open Go.RowKit
set_option linter.unusedVariables false
/-- A disk that nobody made. -/
def Nod (w : World) (n : Value) : Prop := n = .pointer none ∨ ∃ g, n = .pointer (some ⟨g, 0, none⟩) ∧ Holds w g [.slice none 0 0, .map none, .int .i64 0, .bool false, .int .i64 0]
theorem Nod.below {w w' : World} {n : Value} (h : Nod w n) (hb : Below w.heap.size w w') : Nod w' n := by
  rcases h with h | ⟨g, h, hg⟩
  · exact .inl h
  · exact .inr ⟨g, h, hg.below hb⟩
set_option maxRecDepth 100000 in
theorem nod_size (n : Value) (w : World) (h : Nod w n) : Calls Try.prog 66 #[n] w fun e w' => e = .returned (.int .i64 0) ∧ w = w' := by
  rcases h with rfl | ⟨g, rfl, hg⟩
  · go_enter Try.func66, Try.ntmps66
    go_wp2
    go_ret
    exact ⟨rfl, rfl⟩
  · have c0 := hg.at_ 0 rfl
    clear hg
    go_enter Try.func66, Try.ntmps66
    go_wp2
    go_ret
    exact ⟨rfl, rfl⟩
set_option maxRecDepth 100000 in
theorem nod_down (n : Value) (w : World) (h : Nod w n) : Calls Try.prog 82 #[n] w fun e w' => e = .returned (.bool false) ∧ w = w' := by
  rcases h with rfl | ⟨g, rfl, hg⟩
  · go_enter Try.func82, Try.ntmps82
    go_wp2
    go_ret
    exact ⟨rfl, rfl⟩
  · have c3 := hg.at_ 3 rfl
    have c4 := hg.at_ 4 rfl
    clear hg
    go_enter Try.func82, Try.ntmps82
    go_wp2
    go_ret
    exact ⟨rfl, rfl⟩
set_option maxRecDepth 100000 in
theorem nod_ready (n : Value) (i : Int) (w : World) (h : Nod w n) : Calls Try.prog 60 #[n, .int .i64 i] w fun e w' => e = .returned (.int .i64 4) ∧ w = w' := by
  have HS := Lib.hid (nod_size n w h)
  clear h
  go_enter Try.func60, Try.ntmps60
  go_wp2_with fail
  refine HS.out.mono ?_
  rintro e w1 ⟨rfl, rfl⟩
  go_wp2
  go_ret
  exact ⟨rfl, rfl⟩
set_option maxRecDepth 100000 in
theorem nod_read (n : Value) (i : Int) (w : World) (h : Nod w n) : Calls Try.prog 41 #[n, .int .i64 i] w fun e w' => e = .returned (.tuple #[.slice none 0 0, .int .i64 4]) ∧ w = w' := by
  have HS := Lib.hid (nod_ready n i w h)
  clear h
  go_enter Try.func41, Try.ntmps41
  go_wp2_with fail
  refine HS.out.mono ?_
  rintro e w1 ⟨rfl, rfl⟩
  go_wp2
  go_ret2
  exact ⟨rfl, rfl⟩
set_option maxRecDepth 100000 in
theorem nod_write (n : Value) (i : Int) (b : Value) (w : World) (h : Nod w n) : Calls Try.prog 26 #[n, .int .i64 i, b] w fun e w' => e = .returned (.int .i64 4) ∧ w = w' := by
  have HS := Lib.hid (nod_ready n i w h)
  clear h
  go_enter Try.func26, Try.ntmps26
  go_wp2_with fail
  refine HS.out.mono ?_
  rintro e w1 ⟨rfl, rfl⟩
  go_wp2
  go_ret
  exact ⟨rfl, rfl⟩
set_option maxRecDepth 100000 in
theorem nod_flush (n : Value) (w : World) (h : Nod w n) : Calls Try.prog 37 #[n] w fun e w' => e = .returned (.int .i64 4) ∧ w = w' := by
  have HS := Lib.hid (nod_ready n 0 w h)
  clear h
  go_enter Try.func37, Try.ntmps37
  go_wp2_with fail
  refine HS.out.mono ?_
  rintro e w1 ⟨rfl, rfl⟩
  go_wp2
  go_ret
  exact ⟨rfl, rfl⟩
set_option maxRecDepth 100000 in
theorem nod_fuse (n : Value) (i : Int) (w : World) (h : Nod w n) : Calls Try.prog 31 #[n, .int .i64 i] w fun e w' => e = .returned (.int .i64 4) ∧ w = w' := by
  have HS := Lib.hid (nod_ready n 0 w h)
  clear h
  go_enter Try.func31, Try.ntmps31
  go_wp2_with fail
  refine HS.out.mono ?_
  rintro e w1 ⟨rfl, rfl⟩
  go_wp2
  go_ret
  exact ⟨rfl, rfl⟩
set_option maxRecDepth 100000 in
theorem nod_rot (n : Value) (i j m : Int) (w : World) (h : Nod w n) : Calls Try.prog 29 #[n, .int .i64 i, .int .i64 j, .int .u8 m] w fun e w' => e = .returned (.int .i64 4) ∧ w = w' := by
  have HS := Lib.hid (nod_size n w h)
  clear h
  go_enter Try.func29, Try.ntmps29
  go_wp2_with fail
  refine HS.out.mono ?_
  rintro e w1 ⟨rfl, rfl⟩
  go_wp2
  go_ret
  exact ⟨rfl, rfl⟩
set_option maxRecDepth 100000 in
theorem nod_crash (n : Value) (fs : Value) (w : World) (h : Nod w n) : Calls Try.prog 35 #[n, fs] w fun e w' => e = .returned (.tuple #[.pointer none, .int .i64 4]) ∧ w = w' := by
  have HS := Lib.hid (nod_size n w h)
  clear h
  go_enter Try.func35, Try.ntmps35
  go_wp2_with fail
  refine HS.out.mono ?_
  rintro e w1 ⟨rfl, rfl⟩
  go_wp2
  go_ret2
  exact ⟨rfl, rfl⟩
set_option maxRecDepth 100000 in
theorem nod_loose (n : Value) (w : World) (h : Nod w n) : Calls Try.prog 40 #[n] w fun e w' => ∃ A c, e = .returned (.slice A 0 c) ∧ Below w.heap.size w w' := by
  rcases h with rfl | ⟨g, rfl, hg⟩
  · go_enter Try.func40, Try.ntmps40
    go_wp2
    go_ret
    exact ⟨none, 0, rfl, Below.refl _ _⟩
  · have c0 := hg.at_ 1 rfl
    have hrg : ∀ wx : World, (Instr.range 87 (.map none)).run Try.prog wx = _ := fun wx => run_range_nilMap wx 87 3 111 Try.underlying87
    have hnx : ∀ ty, (Instr.next (.pointer (some ⟨w.heap.size, 0, none⟩)) false ty).run Try.prog (w.alloc (.mapIter none 0 #[] 0)) = .ok (.tuple #[.bool false]) (w.alloc (.mapIter none 0 #[] 0)) := fun ty => run_next_nilMap (P := Try.prog) w ty 0 0 #[]
    have HB := Lib.hid (show Below w.heap.size w (w.alloc (.mapIter none 0 #[] 0)) from (Below.refl _ _).alloc (Nat.le_refl _) _)
    have HS := Lib.hid (sort_loose none (w.alloc (.mapIter none 0 #[] 0)).heap.size 0 0 [] (w.alloc (.mapIter none 0 #[] 0)) (OwnC.none_ _ _ _ _) (fun x hx => by simp at hx) (by omega))
    clear hg
    go_enter Try.func40, Try.ntmps40
    go_wp2_with fail
    refine wp_loop_rounds 1 ?_
    rw [rounds_succ]
    go_wp2_with fail
    refine HS.out.mono ?_
    rintro e w1 ⟨rfl, zs, _, _, _, hgr⟩
    have HG := Lib.hid (HB.out.grown hgr (HB.out.size) (fun g e => by cases e))
    clear hgr
    go_wp2
    go_ret
    exact ⟨none, 0, rfl, HG.out⟩
end Go.Proofs.Ytbdomhookjmmgaa
