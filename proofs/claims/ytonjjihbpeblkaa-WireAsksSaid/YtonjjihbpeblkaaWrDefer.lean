/- The functions that package wire defers: of a call that returns they change nothing, of one that panics they lay an error. -/
import Derived.Test.YtonjjihbpeblkaaWrClo
import Derived.Defers
import Derived.Recover
namespace Go.Proofs.Ytonjjihbpeblkaa
open Go.RowKit
theorem below_set {B : Nat} {z w : World} (h : Below B z w) (p : Addr) (v : Value) (hp : B ≤ p.block) : Below B z (w.setCell p v) :=
  h.trans ⟨rfl, rfl, rfl, by simp [World.setCell], fun k hk => Below.heap_setCell _ _ _ _ (fun e => by omega)⟩
theorem Holds.drew {w : World} {b : Nat} {cs : List Value} (k : Holds w b cs) : Holds w.drew b cs := k
namespace Wr
/-- The panic, behind recover. -/
def panned : FrameMode := .panicking [{ v := .iface 28 (.int .i64 220), recovered := true }]
end Wr
set_option maxRecDepth 100000 in
theorem idle_put (p q : Addr) (w : World) :
    CallsD Try.prog 45 #[.pointer (some p), .pointer (some q)] .returning w fun e u' w' => e = .returned (.tuple #[]) ∧ u' = .returning ∧ w' = w := by
  refine callsD_of_wpS Try.func45 rfl fun c₀ cs hu => ?_
  apply wpS_seq
  apply wpS_region
  simp [wpOpsS, go_sem, recoverD, hu, Try.ntmps45, Exit.thenS]
  apply wpS_seq
  apply wpS_region
  simp [wpOpsS, go_sem, Exit.thenS]
  refine wpS_cond (t := false) (by simp [Act.eval, Array.replicate]) ?_
  simp only [Bool.false_eq_true, if_false]
  refine wpS_of_wp (wp_skip ?_)
  cases c₀
  simp_all [bodyPostS, results, Try.results45]
set_option maxRecDepth 100000 in
set_option maxHeartbeats 2000000 in
theorem catch_put (b c : Nat) (x0 y : Value) (w : World) (hb : Holds w b [x0]) (hc : Holds w c [y]) (hne : b ≠ c) :
    CallsD Try.prog 45 #[.pointer (some ⟨b, 0, none⟩), .pointer (some ⟨c, 0, none⟩)] (.panicking Wr.pan) w fun e u' w' =>
      e = .returned (.tuple #[]) ∧ u' = Wr.panned ∧ Holds w' b [.slice none 0 0] ∧ Holds w' c [.int .i64 220] ∧ ∀ B, B ≤ b → B ≤ c → Below B w w' := by
  have hta : ∀ (v : Value) (w : World), (Instr.typeAssert (.iface 28 v) 20 28 false).run Try.prog w = .ok v w := fun v w => by kernel_rfl
  have h0 : w.cell? ⟨b, 0, none⟩ = some x0 := hb.at_ 0 rfl
  have z0 : w.frozen? ⟨b, 0, none⟩ = false := hb.2.2 0
  have hy : w.cell? ⟨c, 0, none⟩ = some y := hc.at_ 0 rfl
  have zy : w.frozen? ⟨c, 0, none⟩ = false := hc.2.2 0
  have fin : Holds ((w.setCell ⟨b, 0, none⟩ (.slice none 0 0)).setCell ⟨c, 0, none⟩ (.int .i64 220)) b [.slice none 0 0] ∧ Holds ((w.setCell ⟨b, 0, none⟩ (.slice none 0 0)).setCell ⟨c, 0, none⟩ (.int .i64 220)) c [.int .i64 220] ∧ ∀ B, B ≤ b → B ≤ c → Below B w ((w.setCell ⟨b, 0, none⟩ (.slice none 0 0)).setCell ⟨c, 0, none⟩ (.int .i64 220)) := by
    refine ⟨Holds.other (hb.set 0 (.slice none 0 0) (by simp)) hne, Holds.set (hc.other hne.symm) 0 (.int .i64 220) (by simp), fun B h1 h2 => ?_⟩
    exact below_set (below_set (Below.refl B w) ⟨b, 0, none⟩ (.slice none 0 0) h1) ⟨c, 0, none⟩ (.int .i64 220) h2
  have Fin := Lib.hid fin
  clear fin
  refine callsD_of_wpS Try.func45 rfl fun c₀ cs hu => ?_
  apply wpS_seq
  apply wpS_region
  simp [wpOpsS, go_sem, recoverD, hu, Try.ntmps45, Exit.thenS, Wr.pan]
  apply wpS_seq
  apply wpS_region
  simp [wpOpsS, go_sem, Exit.thenS]
  refine wpS_cond (t := true) (by simp [Act.eval, Array.replicate]) ?_
  simp only [if_true]
  refine wpS_of_wp ?_
  go_region
  all_goals
    refine ⟨rfl, Wr.panned, rfl, .tuple #[], results_none rfl _ _ _, rfl, rfl, Fin.out.1.drew, Fin.out.2.1.drew, fun B h1 h2 => (Fin.out.2.2 B h1 h2).drew⟩
set_option maxRecDepth 100000 in
theorem idle_read (p q : Addr) (w : World) :
    CallsD Try.prog 32 #[.pointer (some p), .pointer (some q)] .returning w fun e u' w' => e = .returned (.tuple #[]) ∧ u' = .returning ∧ w' = w := by
  refine callsD_of_wpS Try.func32 rfl fun c₀ cs hu => ?_
  apply wpS_seq
  apply wpS_region
  simp [wpOpsS, go_sem, recoverD, hu, Try.ntmps32, Exit.thenS]
  apply wpS_seq
  apply wpS_region
  simp [wpOpsS, go_sem, Exit.thenS]
  refine wpS_cond (t := false) (by simp [Act.eval, Array.replicate]) ?_
  simp only [Bool.false_eq_true, if_false]
  refine wpS_of_wp (wp_skip ?_)
  cases c₀
  simp_all [bodyPostS, results, Try.results32]
set_option maxRecDepth 100000 in
set_option maxHeartbeats 2000000 in
theorem catch_read (b c : Nat) (x0 x1 x2 x3 x4 x5 x6 y : Value) (w : World) (hb : Holds w b [x0, x1, x2, x3, x4, x5, x6]) (hc : Holds w c [y]) (hne : b ≠ c) :
    CallsD Try.prog 32 #[.pointer (some ⟨b, 0, none⟩), .pointer (some ⟨c, 0, none⟩)] (.panicking Wr.pan) w fun e u' w' =>
      e = .returned (.tuple #[]) ∧ u' = Wr.panned ∧ Holds w' b [.int .i64 0, .string ⟨#[]⟩, .int .i64 0, .int .i64 0, .int .i64 0, .int .i64 0, .int .i64 0] ∧ Holds w' c [.int .i64 220] ∧ ∀ B, B ≤ b → B ≤ c → Below B w w' := by
  have hta : ∀ (v : Value) (w : World), (Instr.typeAssert (.iface 28 v) 20 28 false).run Try.prog w = .ok v w := fun v w => by kernel_rfl
  have h0 : w.cell? ⟨b, 0, none⟩ = some x0 := hb.at_ 0 rfl
  have z0 : w.frozen? ⟨b, 0, none⟩ = false := hb.2.2 0
  have h1 : w.cell? ⟨b, 1, none⟩ = some x1 := hb.at_ 1 rfl
  have z1 : w.frozen? ⟨b, 1, none⟩ = false := hb.2.2 1
  have h2 : w.cell? ⟨b, 2, none⟩ = some x2 := hb.at_ 2 rfl
  have z2 : w.frozen? ⟨b, 2, none⟩ = false := hb.2.2 2
  have h3 : w.cell? ⟨b, 3, none⟩ = some x3 := hb.at_ 3 rfl
  have z3 : w.frozen? ⟨b, 3, none⟩ = false := hb.2.2 3
  have h4 : w.cell? ⟨b, 4, none⟩ = some x4 := hb.at_ 4 rfl
  have z4 : w.frozen? ⟨b, 4, none⟩ = false := hb.2.2 4
  have h5 : w.cell? ⟨b, 5, none⟩ = some x5 := hb.at_ 5 rfl
  have z5 : w.frozen? ⟨b, 5, none⟩ = false := hb.2.2 5
  have h6 : w.cell? ⟨b, 6, none⟩ = some x6 := hb.at_ 6 rfl
  have z6 : w.frozen? ⟨b, 6, none⟩ = false := hb.2.2 6
  have hy : w.cell? ⟨c, 0, none⟩ = some y := hc.at_ 0 rfl
  have zy : w.frozen? ⟨c, 0, none⟩ = false := hc.2.2 0
  have fin : Holds ((((((((w.setCell ⟨b, 0, none⟩ (.int .i64 0)).setCell ⟨b, 1, none⟩ (.string ⟨#[]⟩)).setCell ⟨b, 2, none⟩ (.int .i64 0)).setCell ⟨b, 3, none⟩ (.int .i64 0)).setCell ⟨b, 4, none⟩ (.int .i64 0)).setCell ⟨b, 5, none⟩ (.int .i64 0)).setCell ⟨b, 6, none⟩ (.int .i64 0)).setCell ⟨c, 0, none⟩ (.int .i64 220)) b [.int .i64 0, .string ⟨#[]⟩, .int .i64 0, .int .i64 0, .int .i64 0, .int .i64 0, .int .i64 0] ∧ Holds ((((((((w.setCell ⟨b, 0, none⟩ (.int .i64 0)).setCell ⟨b, 1, none⟩ (.string ⟨#[]⟩)).setCell ⟨b, 2, none⟩ (.int .i64 0)).setCell ⟨b, 3, none⟩ (.int .i64 0)).setCell ⟨b, 4, none⟩ (.int .i64 0)).setCell ⟨b, 5, none⟩ (.int .i64 0)).setCell ⟨b, 6, none⟩ (.int .i64 0)).setCell ⟨c, 0, none⟩ (.int .i64 220)) c [.int .i64 220] ∧ ∀ B, B ≤ b → B ≤ c → Below B w ((((((((w.setCell ⟨b, 0, none⟩ (.int .i64 0)).setCell ⟨b, 1, none⟩ (.string ⟨#[]⟩)).setCell ⟨b, 2, none⟩ (.int .i64 0)).setCell ⟨b, 3, none⟩ (.int .i64 0)).setCell ⟨b, 4, none⟩ (.int .i64 0)).setCell ⟨b, 5, none⟩ (.int .i64 0)).setCell ⟨b, 6, none⟩ (.int .i64 0)).setCell ⟨c, 0, none⟩ (.int .i64 220)) := by
    refine ⟨Holds.other (((((((hb.set 0 (.int .i64 0) (by simp)).set 1 (.string ⟨#[]⟩) (by simp)).set 2 (.int .i64 0) (by simp)).set 3 (.int .i64 0) (by simp)).set 4 (.int .i64 0) (by simp)).set 5 (.int .i64 0) (by simp)).set 6 (.int .i64 0) (by simp)) hne, Holds.set (((((((hc.other hne.symm).other hne.symm).other hne.symm).other hne.symm).other hne.symm).other hne.symm).other hne.symm) 0 (.int .i64 220) (by simp), fun B h1 h2 => ?_⟩
    exact below_set (below_set (below_set (below_set (below_set (below_set (below_set (below_set (Below.refl B w) ⟨b, 0, none⟩ (.int .i64 0) h1) ⟨b, 1, none⟩ (.string ⟨#[]⟩) h1) ⟨b, 2, none⟩ (.int .i64 0) h1) ⟨b, 3, none⟩ (.int .i64 0) h1) ⟨b, 4, none⟩ (.int .i64 0) h1) ⟨b, 5, none⟩ (.int .i64 0) h1) ⟨b, 6, none⟩ (.int .i64 0) h1) ⟨c, 0, none⟩ (.int .i64 220) h2
  have Fin := Lib.hid fin
  clear fin
  refine callsD_of_wpS Try.func32 rfl fun c₀ cs hu => ?_
  apply wpS_seq
  apply wpS_region
  simp [wpOpsS, go_sem, recoverD, hu, Try.ntmps32, Exit.thenS, Wr.pan]
  apply wpS_seq
  apply wpS_region
  simp [wpOpsS, go_sem, Exit.thenS]
  refine wpS_cond (t := true) (by simp [Act.eval, Array.replicate]) ?_
  simp only [if_true]
  refine wpS_of_wp ?_
  go_region
  all_goals
    refine ⟨rfl, Wr.panned, rfl, .tuple #[], results_none rfl _ _ _, rfl, rfl, Fin.out.1.drew, Fin.out.2.1.drew, fun B h1 h2 => (Fin.out.2.2 B h1 h2).drew⟩
set_option maxRecDepth 100000 in
theorem idle_readreply (p q : Addr) (w : World) :
    CallsD Try.prog 39 #[.pointer (some p), .pointer (some q)] .returning w fun e u' w' => e = .returned (.tuple #[]) ∧ u' = .returning ∧ w' = w := by
  refine callsD_of_wpS Try.func39 rfl fun c₀ cs hu => ?_
  apply wpS_seq
  apply wpS_region
  simp [wpOpsS, go_sem, recoverD, hu, Try.ntmps39, Exit.thenS]
  apply wpS_seq
  apply wpS_region
  simp [wpOpsS, go_sem, Exit.thenS]
  refine wpS_cond (t := false) (by simp [Act.eval, Array.replicate]) ?_
  simp only [Bool.false_eq_true, if_false]
  refine wpS_of_wp (wp_skip ?_)
  cases c₀
  simp_all [bodyPostS, results, Try.results39]
set_option maxRecDepth 100000 in
set_option maxHeartbeats 2000000 in
theorem catch_readreply (b c : Nat) (x0 x1 x2 x3 x4 y : Value) (w : World) (hb : Holds w b [x0, x1, x2, x3, x4]) (hc : Holds w c [y]) (hne : b ≠ c) :
    CallsD Try.prog 39 #[.pointer (some ⟨b, 0, none⟩), .pointer (some ⟨c, 0, none⟩)] (.panicking Wr.pan) w fun e u' w' =>
      e = .returned (.tuple #[]) ∧ u' = Wr.panned ∧ Holds w' b [.int .i64 0, .int .i64 0, .int .i64 0, .int .i64 0, .int .i64 0] ∧ Holds w' c [.int .i64 220] ∧ ∀ B, B ≤ b → B ≤ c → Below B w w' := by
  have hta : ∀ (v : Value) (w : World), (Instr.typeAssert (.iface 28 v) 20 28 false).run Try.prog w = .ok v w := fun v w => by kernel_rfl
  have h0 : w.cell? ⟨b, 0, none⟩ = some x0 := hb.at_ 0 rfl
  have z0 : w.frozen? ⟨b, 0, none⟩ = false := hb.2.2 0
  have h1 : w.cell? ⟨b, 1, none⟩ = some x1 := hb.at_ 1 rfl
  have z1 : w.frozen? ⟨b, 1, none⟩ = false := hb.2.2 1
  have h2 : w.cell? ⟨b, 2, none⟩ = some x2 := hb.at_ 2 rfl
  have z2 : w.frozen? ⟨b, 2, none⟩ = false := hb.2.2 2
  have h3 : w.cell? ⟨b, 3, none⟩ = some x3 := hb.at_ 3 rfl
  have z3 : w.frozen? ⟨b, 3, none⟩ = false := hb.2.2 3
  have h4 : w.cell? ⟨b, 4, none⟩ = some x4 := hb.at_ 4 rfl
  have z4 : w.frozen? ⟨b, 4, none⟩ = false := hb.2.2 4
  have hy : w.cell? ⟨c, 0, none⟩ = some y := hc.at_ 0 rfl
  have zy : w.frozen? ⟨c, 0, none⟩ = false := hc.2.2 0
  have fin : Holds ((((((w.setCell ⟨b, 0, none⟩ (.int .i64 0)).setCell ⟨b, 1, none⟩ (.int .i64 0)).setCell ⟨b, 2, none⟩ (.int .i64 0)).setCell ⟨b, 3, none⟩ (.int .i64 0)).setCell ⟨b, 4, none⟩ (.int .i64 0)).setCell ⟨c, 0, none⟩ (.int .i64 220)) b [.int .i64 0, .int .i64 0, .int .i64 0, .int .i64 0, .int .i64 0] ∧ Holds ((((((w.setCell ⟨b, 0, none⟩ (.int .i64 0)).setCell ⟨b, 1, none⟩ (.int .i64 0)).setCell ⟨b, 2, none⟩ (.int .i64 0)).setCell ⟨b, 3, none⟩ (.int .i64 0)).setCell ⟨b, 4, none⟩ (.int .i64 0)).setCell ⟨c, 0, none⟩ (.int .i64 220)) c [.int .i64 220] ∧ ∀ B, B ≤ b → B ≤ c → Below B w ((((((w.setCell ⟨b, 0, none⟩ (.int .i64 0)).setCell ⟨b, 1, none⟩ (.int .i64 0)).setCell ⟨b, 2, none⟩ (.int .i64 0)).setCell ⟨b, 3, none⟩ (.int .i64 0)).setCell ⟨b, 4, none⟩ (.int .i64 0)).setCell ⟨c, 0, none⟩ (.int .i64 220)) := by
    refine ⟨Holds.other (((((hb.set 0 (.int .i64 0) (by simp)).set 1 (.int .i64 0) (by simp)).set 2 (.int .i64 0) (by simp)).set 3 (.int .i64 0) (by simp)).set 4 (.int .i64 0) (by simp)) hne, Holds.set (((((hc.other hne.symm).other hne.symm).other hne.symm).other hne.symm).other hne.symm) 0 (.int .i64 220) (by simp), fun B h1 h2 => ?_⟩
    exact below_set (below_set (below_set (below_set (below_set (below_set (Below.refl B w) ⟨b, 0, none⟩ (.int .i64 0) h1) ⟨b, 1, none⟩ (.int .i64 0) h1) ⟨b, 2, none⟩ (.int .i64 0) h1) ⟨b, 3, none⟩ (.int .i64 0) h1) ⟨b, 4, none⟩ (.int .i64 0) h1) ⟨c, 0, none⟩ (.int .i64 220) h2
  have Fin := Lib.hid fin
  clear fin
  refine callsD_of_wpS Try.func39 rfl fun c₀ cs hu => ?_
  apply wpS_seq
  apply wpS_region
  simp [wpOpsS, go_sem, recoverD, hu, Try.ntmps39, Exit.thenS, Wr.pan]
  apply wpS_seq
  apply wpS_region
  simp [wpOpsS, go_sem, Exit.thenS]
  refine wpS_cond (t := true) (by simp [Act.eval, Array.replicate]) ?_
  simp only [if_true]
  refine wpS_of_wp ?_
  go_region
  all_goals
    refine ⟨rfl, Wr.panned, rfl, .tuple #[], results_none rfl _ _ _, rfl, rfl, Fin.out.1.drew, Fin.out.2.1.drew, fun B h1 h2 => (Fin.out.2.2 B h1 h2).drew⟩
set_option maxRecDepth 100000 in
theorem idle_readmsg (p q : Addr) (w : World) :
    CallsD Try.prog 44 #[.pointer (some p), .pointer (some q)] .returning w fun e u' w' => e = .returned (.tuple #[]) ∧ u' = .returning ∧ w' = w := by
  refine callsD_of_wpS Try.func44 rfl fun c₀ cs hu => ?_
  apply wpS_seq
  apply wpS_region
  simp [wpOpsS, go_sem, recoverD, hu, Try.ntmps44, Exit.thenS]
  apply wpS_seq
  apply wpS_region
  simp [wpOpsS, go_sem, Exit.thenS]
  refine wpS_cond (t := false) (by simp [Act.eval, Array.replicate]) ?_
  simp only [Bool.false_eq_true, if_false]
  refine wpS_of_wp (wp_skip ?_)
  cases c₀
  simp_all [bodyPostS, results, Try.results44]
set_option maxRecDepth 100000 in
set_option maxHeartbeats 2000000 in
theorem catch_readmsg (b c : Nat) (x0 x1 x2 x3 x4 y : Value) (w : World) (hb : Holds w b [x0, x1, x2, x3, x4]) (hc : Holds w c [y]) (hne : b ≠ c) :
    CallsD Try.prog 44 #[.pointer (some ⟨b, 0, none⟩), .pointer (some ⟨c, 0, none⟩)] (.panicking Wr.pan) w fun e u' w' =>
      e = .returned (.tuple #[]) ∧ u' = Wr.panned ∧ Holds w' b [.int .i64 0, .int .i64 0, .int .i64 0, .string ⟨#[]⟩, .int .i64 0] ∧ Holds w' c [.int .i64 220] ∧ ∀ B, B ≤ b → B ≤ c → Below B w w' := by
  have hta : ∀ (v : Value) (w : World), (Instr.typeAssert (.iface 28 v) 20 28 false).run Try.prog w = .ok v w := fun v w => by kernel_rfl
  have h0 : w.cell? ⟨b, 0, none⟩ = some x0 := hb.at_ 0 rfl
  have z0 : w.frozen? ⟨b, 0, none⟩ = false := hb.2.2 0
  have h1 : w.cell? ⟨b, 1, none⟩ = some x1 := hb.at_ 1 rfl
  have z1 : w.frozen? ⟨b, 1, none⟩ = false := hb.2.2 1
  have h2 : w.cell? ⟨b, 2, none⟩ = some x2 := hb.at_ 2 rfl
  have z2 : w.frozen? ⟨b, 2, none⟩ = false := hb.2.2 2
  have h3 : w.cell? ⟨b, 3, none⟩ = some x3 := hb.at_ 3 rfl
  have z3 : w.frozen? ⟨b, 3, none⟩ = false := hb.2.2 3
  have h4 : w.cell? ⟨b, 4, none⟩ = some x4 := hb.at_ 4 rfl
  have z4 : w.frozen? ⟨b, 4, none⟩ = false := hb.2.2 4
  have hy : w.cell? ⟨c, 0, none⟩ = some y := hc.at_ 0 rfl
  have zy : w.frozen? ⟨c, 0, none⟩ = false := hc.2.2 0
  have fin : Holds ((((((w.setCell ⟨b, 0, none⟩ (.int .i64 0)).setCell ⟨b, 1, none⟩ (.int .i64 0)).setCell ⟨b, 2, none⟩ (.int .i64 0)).setCell ⟨b, 3, none⟩ (.string ⟨#[]⟩)).setCell ⟨b, 4, none⟩ (.int .i64 0)).setCell ⟨c, 0, none⟩ (.int .i64 220)) b [.int .i64 0, .int .i64 0, .int .i64 0, .string ⟨#[]⟩, .int .i64 0] ∧ Holds ((((((w.setCell ⟨b, 0, none⟩ (.int .i64 0)).setCell ⟨b, 1, none⟩ (.int .i64 0)).setCell ⟨b, 2, none⟩ (.int .i64 0)).setCell ⟨b, 3, none⟩ (.string ⟨#[]⟩)).setCell ⟨b, 4, none⟩ (.int .i64 0)).setCell ⟨c, 0, none⟩ (.int .i64 220)) c [.int .i64 220] ∧ ∀ B, B ≤ b → B ≤ c → Below B w ((((((w.setCell ⟨b, 0, none⟩ (.int .i64 0)).setCell ⟨b, 1, none⟩ (.int .i64 0)).setCell ⟨b, 2, none⟩ (.int .i64 0)).setCell ⟨b, 3, none⟩ (.string ⟨#[]⟩)).setCell ⟨b, 4, none⟩ (.int .i64 0)).setCell ⟨c, 0, none⟩ (.int .i64 220)) := by
    refine ⟨Holds.other (((((hb.set 0 (.int .i64 0) (by simp)).set 1 (.int .i64 0) (by simp)).set 2 (.int .i64 0) (by simp)).set 3 (.string ⟨#[]⟩) (by simp)).set 4 (.int .i64 0) (by simp)) hne, Holds.set (((((hc.other hne.symm).other hne.symm).other hne.symm).other hne.symm).other hne.symm) 0 (.int .i64 220) (by simp), fun B h1 h2 => ?_⟩
    exact below_set (below_set (below_set (below_set (below_set (below_set (Below.refl B w) ⟨b, 0, none⟩ (.int .i64 0) h1) ⟨b, 1, none⟩ (.int .i64 0) h1) ⟨b, 2, none⟩ (.int .i64 0) h1) ⟨b, 3, none⟩ (.string ⟨#[]⟩) h1) ⟨b, 4, none⟩ (.int .i64 0) h1) ⟨c, 0, none⟩ (.int .i64 220) h2
  have Fin := Lib.hid fin
  clear fin
  refine callsD_of_wpS Try.func44 rfl fun c₀ cs hu => ?_
  apply wpS_seq
  apply wpS_region
  simp [wpOpsS, go_sem, recoverD, hu, Try.ntmps44, Exit.thenS, Wr.pan]
  apply wpS_seq
  apply wpS_region
  simp [wpOpsS, go_sem, Exit.thenS]
  refine wpS_cond (t := true) (by simp [Act.eval, Array.replicate]) ?_
  simp only [if_true]
  refine wpS_of_wp ?_
  go_region
  all_goals
    refine ⟨rfl, Wr.panned, rfl, .tuple #[], results_none rfl _ _ _, rfl, rfl, Fin.out.1.drew, Fin.out.2.1.drew, fun B h1 h2 => (Fin.out.2.2 B h1 h2).drew⟩
end Go.Proofs.Ytonjjihbpeblkaa
