/- For every account and every hold: whether they may be, and the fresh account, are the document's (P20.1), and the example at the head holds; the arguments stay as they were. No condition. -/
import Derived.Test.YtionaciiaahacaaInAcc
import Derived.Test.YtionaciiaahacaaAccAwake
import Derived.Test.YtionaciiaahacaaHolds
import Derived.WalkKit
import Derived.ProofKit
import Derived.OpenShut
import Derived.ShutString
import Derived.ChangeOld
import Derived.Below
import Derived.Deep.RegionHeld
namespace Go.Proofs.Ytionaciiaahacaa.rightsChecks
open Go.ChangeShapes Go.WideShapes Go.ChangeAt Go.RowKit
set_option linter.unusedVariables false
theorem own : ownKnob Try.prog.godebug = none := by kernel_rfl
theorem laidOut : laidOutB Try.prog = true := by kernel_rfl
set_option maxRecDepth 100000 in
set_option maxHeartbeats 2000000 in
theorem walk (f0 x0 q0 : Int) (n1 u1 : Int) (w : World)  :
    Calls Try.prog 3 #[acc f0 x0 q0, hold n1 u1] w fun e w' => e = .returned (.bool true) ∧ Below w.heap.size w w' := by
  -- heartbeats 2000000
  have g1 := fun w' => check_any f0 x0 q0 w'
  have g2 := fun w' => rcheck_any f0 x0 q0 w'
  have g3 := fun w' => checkhold_any n1 u1 w'
  have g4 := fun w' => rcheckhold_any n1 u1 w'
  have g5 := fun w' => fresh_any w'
  have g6 := fun w' => rfresh_any w'
  generalize chkA f0 x0 q0 = c at g1 g2
  generalize chkH n1 u1 = d at g3 g4
  have hA := (Holds.new w #[.int .i64 f0, .int .i64 x0, .int .i64 q0] 23).alloc (.cells #[.int .i64 n1, .int .i64 u1] 25)
  have hH := Holds.new (w.alloc (.cells #[.int .i64 f0, .int .i64 x0, .int .i64 q0] 23)) #[.int .i64 n1, .int .i64 u1] 25
  have hx : Below w.heap.size w ((w.alloc (.cells #[.int .i64 f0, .int .i64 x0, .int .i64 q0] 23)).alloc (.cells #[.int .i64 n1, .int .i64 u1] 25)) := ((Below.refl _ _).alloc (Nat.le_refl _) _).alloc (by simp) _
  unfold acc at g1 g2 g5 g6 ⊢
  unfold hold at g3 g4 ⊢
  have b1 : ∀ W w' : World, Below W.heap.size W w' → Calls Try.prog 11 #[.agg #[.int .i64 f0, .int .i64 x0, .int .i64 q0]] w' fun e w2 => e = .returned (.int .i64 c) ∧ Below W.heap.size W w2 := fun W w' h => (g1 w').mono fun _ _ ⟨he, hw⟩ => ⟨he, by subst hw; exact h.alloc h.size _⟩
  have b2 : ∀ W w' : World, Below W.heap.size W w' → Calls Try.prog 12 #[.agg #[.int .i64 f0, .int .i64 x0, .int .i64 q0]] w' fun e w2 => e = .returned (.int .i64 c) ∧ Below W.heap.size W w2 := fun W w' h => (g2 w').mono fun _ _ ⟨he, hw⟩ => ⟨he, by subst hw; exact h.alloc h.size _⟩
  have b3 : ∀ W w' : World, Below W.heap.size W w' → Calls Try.prog 13 #[.agg #[.int .i64 n1, .int .i64 u1]] w' fun e w2 => e = .returned (.int .i64 d) ∧ Below W.heap.size W w2 := fun W w' h => (g3 w').mono fun _ _ ⟨he, hw⟩ => ⟨he, by subst hw; exact h.alloc h.size _⟩
  have b4 : ∀ W w' : World, Below W.heap.size W w' → Calls Try.prog 14 #[.agg #[.int .i64 n1, .int .i64 u1]] w' fun e w2 => e = .returned (.int .i64 d) ∧ Below W.heap.size W w2 := fun W w' h => (g4 w').mono fun _ _ ⟨he, hw⟩ => ⟨he, by subst hw; exact h.alloc h.size _⟩
  have B1 := Lib.hid b1
  have B2 := Lib.hid b2
  have B3 := Lib.hid b3
  have B4 := Lib.hid b4
  have B5 := Lib.hid g5
  have B6 := Lib.hid g6
  clear b1 b2 b3 b4 g1 g2 g3 g4 g5 g6
  go_enter Try.func3, Try.ntmps3
  go_wp2
  generalize hW : (w.alloc (.cells #[.int .i64 f0, .int .i64 x0, .int .i64 q0] 23)).alloc (.cells #[.int .i64 n1, .int .i64 u1] 25) = W at *
  clear hW
  have hH' : Holds W (w.heap.size + 1) [.int .i64 n1, .int .i64 u1] := by simpa using hH
  clear hH
  have hca : ∀ w' : World, Below W.heap.size W w' → w'.cell? ⟨w.heap.size, 0, none⟩ = some (.int .i64 f0) ∧ w'.cell? ⟨w.heap.size, 1, none⟩ = some (.int .i64 x0) ∧ w'.cell? ⟨w.heap.size, 2, none⟩ = some (.int .i64 q0) := fun w' h => ⟨(hA.below h).at_ 0 rfl, (hA.below h).at_ 1 rfl, (hA.below h).at_ 2 rfl⟩
  have hch : ∀ w' : World, Below W.heap.size W w' → w'.cell? ⟨w.heap.size + 1, 0, none⟩ = some (.int .i64 n1) ∧ w'.cell? ⟨w.heap.size + 1, 1, none⟩ = some (.int .i64 u1) := fun w' h => ⟨(hH'.below h).at_ 0 rfl, (hH'.below h).at_ 1 rfl⟩
  refine region_class (fun w' => Below W.heap.size W w') (by kernel_rfl) (by kernel_rfl) ((Below.refl _ _).drew) ?_
  have Ca := Lib.hid hca
  have Ch := Lib.hid hch
  clear hca hch hA hH'
  repeat (go_big_quiet_step ((first | (intro _; with_reducible rfl) | (intro hq; exact B1.out _ _ hq) | (intro hq; exact B2.out _ _ hq) | (intro hq; exact B3.out _ _ hq) | (intro hq; exact B4.out _ _ hq) | (intro hq; exact calls_class hq (B5.out _)) | (intro hq; exact calls_class hq (B6.out _)) | (intro hq; exact calls_class hq (awake_any _)) | (intro hq; obtain ⟨e1, e2, e3⟩ := Ca.out _ hq; simp [e1, e2, e3, Result.andThen]; with_reducible rfl) | (intro hq; obtain ⟨e1, e2⟩ := Ch.out _ hq; simp [e1, e2, Result.andThen]; with_reducible rfl))))
  refine wpQuiet_nil ?_
  intro w2 hw2
  go_wp2
  go_ret
  exact ⟨rfl, below_next hx hw2⟩
set_option maxRecDepth 100000 in
theorem lifted (os : Os) (started : os.Started) (H : Type) (enc : TypeId × Value → H) :
    ReturnsInHanded {} Try.checked os 3 .any (Rows.rightsChecksSpec.pre6 enc Try.prog Try.f3 Rows.rightsChecksRow.domain false) (Rows.rightsChecksSpec.post enc Try.prog Try.f3 false true false false) := by
  refine returnsInHanded_of_change (C := Try.checked) own started (by kernel_rfl) Try.func3
    (ChangeSpec.witness6 (enc := enc) (C := Try.checked) false ⟨#[], #[.agg #[.int .i64 0, .int .i64 0, .int .i64 0], .agg #[.int .i64 0, .int .i64 0]], []⟩ 8 (by kernel_rfl) (by kernel_rfl) (by kernel_rfl) (by kernel_rfl)) ?_
  intro W base args ds gs before hval0 hW hcnd _
  have hval : ∀ (j : Nat) t v, Try.f3.params[j]? = some t → args[j]? = some v → Value.okWide Try.prog W .any base t v := hval0
  have hW' := hW
  obtain ⟨p, q, hA0, hV, rfl, hfz, hnd⟩ := hW
  have hA : DataW.TrodAll enc Try.prog W 0 (fun _ => true) true Try.f3.params.toList args.toList ds p := hA0
  rw [Try.params3] at hA hval
  obtain ⟨v0, vs0, d0, ds0, p0, q0, hargs, rfl, rfl, h0, t0⟩ := trodAll_cons hA
  obtain ⟨v1, vs1, d1, ds1, p1, q1, rfl, rfl, rfl, h1, t1⟩ := trodAll_cons t0
  obtain ⟨rfl, rfl, rfl⟩ := trodAll_nil t1
  obtain rfl : args = #[v0, v1] := by cases args; simp_all
  obtain ⟨rfl, rfl⟩ := trodVars_none hV
  have k0 : Reads enc W 23 v0 d0 p0 := h0
  have lt0 : ∀ x ∈ p0, x.block < W.heap.size := by obtain ⟨m, hm⟩ := k0; exact DataW.trod_lt m _ _ _ hm
  obtain ⟨f0, x0, q0, rfl⟩ := in_acc (hval 0 23 v0 rfl rfl) k0
  have k1 : Reads enc W 25 v1 d1 p1 := h1
  have lt1 : ∀ x ∈ p1, x.block < W.heap.size := by obtain ⟨m, hm⟩ := k1; exact DataW.trod_lt m _ _ _ hm
  obtain ⟨n1, u1, rfl⟩ := in_hold (hval 1 25 v1 rfl rfl) k1
  clear hA0 hval0
  refine (walk f0 x0 q0 n1 u1 W ).mono fun e W' ⟨he, bel⟩ => ?_
  subst he
  exact ⟨_, rfl, _, _, _, [], _, [], hW', trodAll_mk1 (shut_bool Try.underlying4 _), (trodAll_cons_mk (Below.trod laidOut (by kernel_rfl) (of_decide_eq_true (by kernel_rfl)) k0 bel lt0) (trodAll_cons_mk (Below.trod laidOut (by kernel_rfl) (of_decide_eq_true (by kernel_rfl)) k1 bel lt1) trodAll_mk0)), rfl, bel.frame _, fun h => by cases h⟩
theorem over : Rows.rightsChecksRow.holds Try.pinned (OpenSpec.ofChange Rows.rightsChecksSpec) :=
  OpenClaim.holds_of_wide 3 Try.f3 rfl rfl rfl rfl rfl rfl rfl ⟨rfl, rfl, rfl, rfl, rfl⟩ rfl rfl rfl rfl rfl (by kernel_rfl) Try.func3 (by kernel_rfl)
    (of_decide_eq_true (by kernel_rfl)) (by unfold Func.isWrapper; first | (rw [if_pos (by decide +kernel)]; kernel_rfl) | (rw [if_neg (by decide +kernel)]; exact ⟨rfl, rfl⟩))
    (fun os started H enc _ => lifted os started H enc)
theorem proved : Rows.RightsChecksSaid := over
end Go.Proofs.Ytionaciiaahacaa.rightsChecks
