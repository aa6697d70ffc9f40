/- For every inbox and every two numbers: what Take and Send make, whether an inbox may be and what it has, are the document's (P21.1, P21.2), and the example at the head holds; the arguments stay as they were. No condition. -/
import Derived.Test.YtaoiokilnmpniaaInBox
import Derived.Test.YtaoiokilnmpniaaBoxAwake
import Derived.WalkKit
import Derived.ProofKit
import Derived.OpenShut
import Derived.ShutString
import Derived.ChangeOld
import Derived.Below
import Derived.Deep.RegionHeld
namespace Go.Proofs.Ytaoiokilnmpniaa.outboxTakes
open Go.ChangeShapes Go.WideShapes Go.ChangeAt Go.RowKit
set_option linter.unusedVariables false
theorem own : ownKnob Try.prog.godebug = none := by kernel_rfl
theorem laidOut : laidOutB Try.prog = true := by kernel_rfl
theorem calls_alloc {P : Program} {f : FuncId} {args : Array Value} {w : World} {v : Value} {o : Obj} (h : Calls P f args w fun e w' => e = .returned v ∧ w.alloc o = w') : Calls P f args w fun e w' => e = .returned v ∧ Below w.heap.size w w' :=
  h.mono fun _ _ ⟨h1, h2⟩ => ⟨h1, by rw [← h2]; exact (Below.refl _ _).alloc (Nat.le_refl _) o⟩
set_option maxRecDepth 100000 in
set_option maxHeartbeats 4000000 in
theorem walk (f0 : Int) (x0 : Nat) (n1 : Int) (n2 : Int) (w : World) (wl0 : -9223372036854775808 ≤ f0) (wh0 : f0 ≤ 9223372036854775807) (w0 : x0 < 18446744073709551616) (wl1 : -9223372036854775808 ≤ n1) (w1 : n1 ≤ 9223372036854775807) (wl2 : -9223372036854775808 ≤ n2) (w2 : n2 ≤ 9223372036854775807) :
    Calls Try.prog 3 #[boxV f0 x0, .int .i64 n1, .int .i64 n2] w fun e w' => e = .returned (.bool true) ∧ Below w.heap.size w w' := by
  -- heartbeats 4000000
  have hT := fun W => take_any f0 x0 n1 W w0
  have hR := fun W => rtake_any f0 x0 n1 W w0
  have hS := fun W => send_any n1 n2 W
  have hRS := fun W => rsend_any n1 n2 W
  have hC := fun W => checkbox_any f0 x0 W w0
  have hI := fun W => isbox_any f0 x0 W w0
  have hH := fun W => hasbox_any f0 x0 n1 W w0 w1
  have hRH := fun W => rhasbox_any f0 x0 n1 W w0 w1
  unfold GivesBox at hT hR
  unfold boxV at hT hR hC hI hH hRH ⊢
  generalize Ob.takeB f0 x0 n1 = r at *
  obtain ⟨a, q, er⟩ := r
  generalize Ob.sendB n1 n2 = r2 at *
  obtain ⟨sn, se⟩ := r2
  generalize Ob.hasB f0 x0 n1 = hb at *
  have HT := Lib.hid hT
  have HR := Lib.hid hR
  have HS := Lib.hid hS
  have HRS := Lib.hid hRS
  have HH := Lib.hid hH
  have HRH := Lib.hid hRH
  have hk : (chkB f0 x0 = 0 ∧ Ob.isB f0 x0 = true) ∨ (chkB f0 x0 = 215 ∧ Ob.isB f0 x0 = false) := by
    unfold chkB
    cases Ob.isB f0 x0
    · exact .inr ⟨rfl, rfl⟩
    · exact .inl ⟨rfl, rfl⟩
  clear hT hR hS hRS hH hRH
  rcases hk with ⟨k1, k2⟩ | ⟨k1, k2⟩
  all_goals
    rw [k1] at hC
    rw [k2] at hI
    have HC := Lib.hid hC
    have HI := Lib.hid hI
    clear hC hI k1 k2
    go_enter Try.func3, Try.ntmps3
    go_wp2_with fail
    refine (HT.out _).mono ?_
    rintro e v1 ⟨rfl, hb1⟩
    have k3 := (Holds.new w #[.int .i64 f0, .int .u64 (x0 : Int)] 24).below hb1
    have hx1 := below_after _ hb1
    have c30 := k3.at_ 0 rfl
    have c31 := k3.at_ 1 rfl
    have hlt := k3.1
    go_wp2_with fail
    refine (HR.out _).mono ?_
    rintro e v2 ⟨rfl, hb2⟩
    have k3' := (k3.alloc (.cells #[.int .i64 a, .int .u64 (q : Int)] 24)).below hb2
    have k7 := (Holds.new v1 #[.int .i64 a, .int .u64 (q : Int)] 24).below hb2
    have hx2 := below_next hx1 (below_after _ hb2)
    clear c30 c31 k3 hb1 hb2 hx1
    have k3n := k3'.alloc (.cells #[.int .i64 a, .int .u64 (q : Int)] 24)
    have k7n := k7.alloc (.cells #[.int .i64 a, .int .u64 (q : Int)] 24)
    have k9 := Holds.new v2 #[.int .i64 a, .int .u64 (q : Int)] 24
    have c30 := k3n.at_ 0 rfl
    have c31 := k3n.at_ 1 rfl
    have hx3 := (hx2.alloc hx2.size (.cells #[.int .i64 a, .int .u64 (q : Int)] 24))
    have hlt2 := k3n.1
    go_wp2_with (first | (go_at_call 12; refine (HS.out _).mono ?_; rintro e v3 ⟨rfl, rfl⟩) | (go_at_call 13; refine (HRS.out _).mono ?_; rintro e v3 ⟨rfl, rfl⟩) | (go_at_call 14; refine (HC.out _).mono ?_; rintro e v3 ⟨rfl, rfl⟩))
    have k3f := k3n.alloc (.cells #[.int .i64 f0, .int .u64 (x0 : Int)] 24)
    have k7f := k7n.alloc (.cells #[.int .i64 f0, .int .u64 (x0 : Int)] 24)
    have k9f := k9.alloc (.cells #[.int .i64 f0, .int .u64 (x0 : Int)] 24)
    have hx4 := hx3.alloc hx3.size (.cells #[.int .i64 f0, .int .u64 (x0 : Int)] 24)
    clear c30 c31 k3n k7n k9 k3' k7 hx3 hx2
    generalize ((v2.alloc (.cells #[.int .i64 a, .int .u64 (q : Int)] 24)).alloc (.cells #[.int .i64 f0, .int .u64 (x0 : Int)] 24)) = W at *
    have hca : ∀ w' : World, Below W.heap.size W w' → (w'.cell? ⟨w.heap.size, 0, none⟩ = some (.int .i64 f0) ∧ w'.cell? ⟨w.heap.size, 1, none⟩ = some (.int .u64 (x0 : Int))) ∧ (w'.cell? ⟨v1.heap.size, 0, none⟩ = some (.int .i64 a) ∧ w'.cell? ⟨v1.heap.size, 1, none⟩ = some (.int .u64 (q : Int))) ∧ w'.cell? ⟨v2.heap.size, 0, none⟩ = some (.int .i64 a) ∧ w'.cell? ⟨v2.heap.size, 1, none⟩ = some (.int .u64 (q : Int)) := fun w' h => ⟨⟨(k3f.below h).at_ 0 rfl, (k3f.below h).at_ 1 rfl⟩, ⟨(k7f.below h).at_ 0 rfl, (k7f.below h).at_ 1 rfl⟩, (k9f.below h).at_ 0 rfl, (k9f.below h).at_ 1 rfl⟩
    have Ca := Lib.hid hca
    clear hca k3f k7f k9f
    refine region_class (fun w' => Below W.heap.size W w') (by kernel_rfl) (by kernel_rfl) ((Below.refl _ _).drew) ?_
    repeat (go_big_quiet_step ((first | (intro _; with_reducible rfl) | (intro hq; exact calls_class hq (HH.out _)) | (intro hq; exact calls_class hq (HRH.out _)) | (intro hq; exact calls_class hq (calls_alloc (HI.out _))) | (intro hq; exact calls_class hq (calls_alloc (HC.out _))) | (intro hq; exact calls_class hq (awake_any _)) | (intro hq; obtain ⟨⟨e1, e2⟩, ⟨e3, e4⟩, e5, e6⟩ := Ca.out _ hq; simp [e1, e2, e3, e4, e5, e6, Result.andThen]; with_reducible rfl))))
    refine wpQuiet_nil ?_
    intro v9 hv9
    go_wp2_with fail
    go_ret
    exact ⟨rfl, below_next hx4 hv9⟩
set_option maxRecDepth 100000 in
theorem lifted (os : Os) (started : os.Started) (H : Type) (enc : TypeId × Value → H) :
    ReturnsInHanded {} Try.checked os 3 .any (Rows.outboxTakesSpec.pre6 enc Try.prog Try.f3 Rows.outboxTakesRow.domain false) (Rows.outboxTakesSpec.post enc Try.prog Try.f3 false true false false) := by
  refine returnsInHanded_of_change (C := Try.checked) own started (by kernel_rfl) Try.func3
    (ChangeSpec.witness6 (enc := enc) (C := Try.checked) false ⟨#[], #[.agg #[.int .i64 0, .int .u64 0], .int .i64 0, .int .i64 0], []⟩ 8 (by kernel_rfl) (by kernel_rfl) (by kernel_rfl) (by kernel_rfl)) ?_
  intro W base args ds gs before hval0 hW hcnd _
  have hval : ∀ (j : Nat) t v, Try.f3.params[j]? = some t → args[j]? = some v → Value.okWide Try.prog W .any base t v := hval0
  have hW' := hW
  obtain ⟨p, q, hA0, hV, rfl, hfz, hnd⟩ := hW
  have hA : DataW.TrodAll enc Try.prog W 0 (fun _ => true) true Try.f3.params.toList args.toList ds p := hA0
  rw [Try.params3] at hA hval
  obtain ⟨v0, vs0, d0, ds0, p0, q0, hargs, rfl, rfl, h0, t0⟩ := trodAll_cons hA
  obtain ⟨v1, vs1, d1, ds1, p1, q1, rfl, rfl, rfl, h1, t1⟩ := trodAll_cons t0
  obtain ⟨v2, vs2, d2, ds2, p2, q2, rfl, rfl, rfl, h2, t2⟩ := trodAll_cons t1
  obtain ⟨rfl, rfl, rfl⟩ := trodAll_nil t2
  obtain rfl : args = #[v0, v1, v2] := by cases args; simp_all
  obtain ⟨rfl, rfl⟩ := trodVars_none hV
  have k0 : Reads enc W 24 v0 d0 p0 := h0
  have lt0 : ∀ x ∈ p0, x.block < W.heap.size := by obtain ⟨m, hm⟩ := k0; exact DataW.trod_lt m _ _ _ hm
  obtain ⟨f0, x0, rfl, wl0, wh0, w0⟩ := in_inbox (hval 0 24 v0 rfl rfl) k0
  have k1 : Reads enc W 3 v1 d1 p1 := h1
  have lt1 : ∀ x ∈ p1, x.block < W.heap.size := by obtain ⟨m, hm⟩ := k1; exact DataW.trod_lt m _ _ _ hm
  obtain ⟨n1, rfl, wl1, w1⟩ := in_int (hval 1 3 v1 rfl rfl) k1
  have k2 : Reads enc W 3 v2 d2 p2 := h2
  have lt2 : ∀ x ∈ p2, x.block < W.heap.size := by obtain ⟨m, hm⟩ := k2; exact DataW.trod_lt m _ _ _ hm
  obtain ⟨n2, rfl, wl2, w2⟩ := in_int (hval 2 3 v2 rfl rfl) k2
  clear hA0 hval0
  refine (walk f0 x0 n1 n2 W wl0 wh0 w0 wl1 w1 wl2 w2).mono fun e W' ⟨he, bel⟩ => ?_
  subst he
  exact ⟨_, rfl, _, _, _, [], _, [], hW', trodAll_mk1 (shut_bool Try.underlying4 _), (trodAll_cons_mk (Below.trod laidOut (by kernel_rfl) (of_decide_eq_true (by kernel_rfl)) k0 bel lt0) (trodAll_cons_mk (Below.trod laidOut (by kernel_rfl) (of_decide_eq_true (by kernel_rfl)) k1 bel lt1) (trodAll_cons_mk (Below.trod laidOut (by kernel_rfl) (of_decide_eq_true (by kernel_rfl)) k2 bel lt2) trodAll_mk0))), rfl, bel.frame _, fun h => by cases h⟩
theorem over : Rows.outboxTakesRow.holds Try.pinned (OpenSpec.ofChange Rows.outboxTakesSpec) :=
  OpenClaim.holds_of_wide 3 Try.f3 rfl rfl rfl rfl rfl rfl rfl ⟨rfl, rfl, rfl, rfl, rfl⟩ rfl rfl rfl rfl rfl (by kernel_rfl) Try.func3 (by kernel_rfl)
    (of_decide_eq_true (by kernel_rfl)) (by unfold Func.isWrapper; first | (rw [if_pos (by decide +kernel)]; kernel_rfl) | (rw [if_neg (by decide +kernel)]; exact ⟨rfl, rfl⟩))
    (fun os started H enc _ => lifted os started H enc)
theorem proved : Rows.OutboxTakesSaid := over
end Go.Proofs.Ytaoiokilnmpniaa.outboxTakes
