/- The functions that package file defers. -/
import Derived.Test.YtpggomekbahddaaFiFirst
import Derived.Defers
import Derived.Recover
namespace Go.Proofs.Ytpggomekbahddaa
open Go.RowKit Fi
set_option linter.unusedVariables false
theorem below_set {B : Nat} {z w : World} (h : Below B z w) (p : Addr) (v : Value) (hp : B ≤ p.block) : Below B z (w.setCell p v) :=
  h.trans ⟨rfl, rfl, rfl, by simp [World.setCell], fun k hk => Below.heap_setCell _ _ _ _ (fun e => by omega)⟩
namespace Fi
/-- The panic, behind recover. -/
def panned (k : Int) : FrameMode := .panicking [{ v := .iface 26 (.int .i64 k), recovered := true }]
end Fi
set_option maxRecDepth 100000 in
theorem idle_read (p : Addr) (w : World) :
    CallsD Try.prog 45 #[.pointer (some p)] .returning w fun e u' w' => e = .returned (.tuple #[]) ∧ u' = .returning ∧ w' = w := by
  refine callsD_of_wpS Try.func45 rfl fun c₀ cs hu => ?_
  apply wpS_seq
  apply wpS_region
  simp [wpOpsS, go_sem, recoverD, hu, Try.ntmps45, Exit.thenS]
  apply wpS_seq
  apply wpS_region
  simp [wpOpsS, go_sem, Exit.thenS]
  refine wpS_cond (t := false) (by simp [Act.eval, Array.replicate]) ?_
  simp only [Bool.false_eq_true, if_false]
  refine wpS_of_wp (wp_skip ?_)
  cases c₀
  simp_all [bodyPostS, results, Try.results45]
set_option maxRecDepth 100000 in
set_option maxHeartbeats 2000000 in
theorem catch_read (c : Nat) (y : Value) (k : Int) (w : World) (hc : Holds w c [y]) :
    CallsD Try.prog 45 #[.pointer (some ⟨c, 0, none⟩)] (.panicking (Fi.pan k)) w fun e u' w' =>
      e = .returned (.tuple #[]) ∧ u' = Fi.panned k ∧ Holds w' c [.int .i64 k] ∧ w' = w.setCell ⟨c, 0, none⟩ (.int .i64 k) := by
  have hta : ∀ (v : Value) (w : World), (Instr.typeAssert (.iface 26 v) 20 26 false).run Try.prog w = .ok v w := fun v w => by kernel_rfl
  have hy : w.cell? ⟨c, 0, none⟩ = some y := hc.at_ 0 rfl
  have zy : w.frozen? ⟨c, 0, none⟩ = false := hc.2.2 0
  have Fin := Lib.hid (hc.set 0 (.int .i64 k) (by simp))
  refine callsD_of_wpS Try.func45 rfl fun c₀ cs hu => ?_
  apply wpS_seq
  apply wpS_region
  simp [wpOpsS, go_sem, recoverD, hu, Try.ntmps45, Exit.thenS, Fi.pan]
  apply wpS_seq
  apply wpS_region
  simp [wpOpsS, go_sem, Exit.thenS]
  refine wpS_cond (t := true) (by simp [Act.eval, Array.replicate]) ?_
  simp only [if_true]
  refine wpS_of_wp ?_
  go_wp2_with fail
  refine ⟨rfl, Fi.panned k, rfl, .tuple #[], results_none rfl _ _ _, rfl, rfl, Fin.out, rfl⟩
set_option maxRecDepth 100000 in
theorem idle_write (p : Addr) (w : World) :
    CallsD Try.prog 40 #[.pointer (some p)] .returning w fun e u' w' => e = .returned (.tuple #[]) ∧ u' = .returning ∧ w' = w := by
  refine callsD_of_wpS Try.func40 rfl fun c₀ cs hu => ?_
  apply wpS_seq
  apply wpS_region
  simp [wpOpsS, go_sem, recoverD, hu, Try.ntmps40, Exit.thenS]
  apply wpS_seq
  apply wpS_region
  simp [wpOpsS, go_sem, Exit.thenS]
  refine wpS_cond (t := false) (by simp [Act.eval, Array.replicate]) ?_
  simp only [Bool.false_eq_true, if_false]
  refine wpS_of_wp (wp_skip ?_)
  cases c₀
  simp_all [bodyPostS, results, Try.results40]
set_option maxRecDepth 100000 in
set_option maxHeartbeats 2000000 in
theorem catch_write (c : Nat) (y : Value) (k : Int) (w : World) (hc : Holds w c [y]) :
    CallsD Try.prog 40 #[.pointer (some ⟨c, 0, none⟩)] (.panicking (Fi.pan k)) w fun e u' w' =>
      e = .returned (.tuple #[]) ∧ u' = Fi.panned k ∧ Holds w' c [.int .i64 k] ∧ w' = w.setCell ⟨c, 0, none⟩ (.int .i64 k) := by
  have hta : ∀ (v : Value) (w : World), (Instr.typeAssert (.iface 26 v) 20 26 false).run Try.prog w = .ok v w := fun v w => by kernel_rfl
  have hy : w.cell? ⟨c, 0, none⟩ = some y := hc.at_ 0 rfl
  have zy : w.frozen? ⟨c, 0, none⟩ = false := hc.2.2 0
  have Fin := Lib.hid (hc.set 0 (.int .i64 k) (by simp))
  refine callsD_of_wpS Try.func40 rfl fun c₀ cs hu => ?_
  apply wpS_seq
  apply wpS_region
  simp [wpOpsS, go_sem, recoverD, hu, Try.ntmps40, Exit.thenS, Fi.pan]
  apply wpS_seq
  apply wpS_region
  simp [wpOpsS, go_sem, Exit.thenS]
  refine wpS_cond (t := true) (by simp [Act.eval, Array.replicate]) ?_
  simp only [if_true]
  refine wpS_of_wp ?_
  go_wp2_with fail
  refine ⟨rfl, Fi.panned k, rfl, .tuple #[], results_none rfl _ _ _, rfl, rfl, Fin.out, rfl⟩
end Go.Proofs.Ytpggomekbahddaa
