/- For every slice of bytes, every stamp and every kind: Is of its first 300 bytes is what the document says (P4.4), and the example at the head holds; the arguments stay as they were. No condition. -/
import Derived.Test.YtcckhdmdklholaaFrTwo
import Derived.Test.YtcckhdmdklholaaFrBoth
import Derived.Test.YtcckhdmdklholaaFrAwake
import Derived.Test.YtcckhdmdklholaaIns
import Derived.Test.YtcckhdmdklholaaHolds
import Derived.WalkKit
import Derived.ProofKit
import Derived.OpenShut
import Derived.ShutString
import Derived.ChangeOld
import Derived.Below
import Derived.Deep.RegionHeld
namespace Go.Proofs.Ytcckhdmdklholaa.frameIs
open Go.ChangeShapes Go.WideShapes Go.ChangeAt Go.RowKit
set_option linter.unusedVariables false
theorem own : ownKnob Try.prog.godebug = none := by kernel_rfl
theorem laidOut : laidOutB Try.prog = true := by kernel_rfl
set_option maxRecDepth 100000 in
set_option maxHeartbeats 4000000 in
theorem walk (A0 : Option Addr) (m0 c0 : Nat) (l0 : List Nat) (f1 e1 i1 : Int) (n2 : Int) (w : World) (r0 : Rd w A0 m0 l0) (wc0 : m0 ≤ c0) (w0 : m0 ≤ 9223372036854775807) (wl2 : -9223372036854775808 ≤ n2) (w2 : n2 ≤ 9223372036854775807) :
    Calls Try.prog 5 #[.slice A0 m0 c0, .agg #[.int .i64 f1, .int .i64 e1, .int .i64 i1], .int .i64 n2] w fun e w' => e = .returned (.bool true) ∧ Below w.heap.size w w' := by
  -- heartbeats 4000000
  have hm := r0.1
  subst hm
  have hcut := fun W => cut_any A0 l0.length c0 l0 W rfl wc0 w0
  have HCut := Lib.hid hcut
  have hpl := fun (W : World) (hW : Below w.heap.size w W) => (r0.take (k := min 300 l0.length) (Nat.min_le_right _ _)).below hW
  have hpe : (l0.take (min 300 l0.length)) = l0.take 300 := by rw [← List.take_take]; simp
  have hpn : (l0.take 300).length = min 300 l0.length := List.length_take
  rw [hpe, ← hpn] at hpl
  have hbig : (l0.take 300).length ≤ 9223372036854775807 := by rw [hpn]; omega
  have hcc : (l0.take 300).length ≤ c0 := by rw [hpn]; omega
  obtain ⟨b, hd, hrd⟩ := both_is f1 e1 i1 n2 A0 c0 (l0.take 300) hcc hbig
  clear hpe hpn hbig hcut hcc
  generalize l0.take 300 = pl at *
  have HP := Lib.hid hpl
  have HD := Lib.hid hd
  have HRD := Lib.hid hrd
  clear hpl hd hrd
  go_enter Try.func5, Try.ntmps5
  go_wp2_with fail
  refine (HCut.out _).mono ?_
  rintro e9 v0 ⟨rfl, rfl⟩
  have k0 := Holds.new w #[.int .i64 f1, .int .i64 e1, .int .i64 i1] 23
  have hx0 : Below w.heap.size w (w.alloc (.cells #[.int .i64 f1, .int .i64 e1, .int .i64 i1] 23)) := (Below.refl _ _).alloc (Nat.le_refl _) _
  go_upto_region 2 with fail
  generalize (w.alloc (.cells #[.int .i64 f1, .int .i64 e1, .int .i64 i1] 23)) = W at *
  have hca : ∀ w' : World, Below W.heap.size W w' → w'.cell? ⟨w.heap.size, 0, none⟩ = some (.int .i64 f1) ∧ w'.cell? ⟨w.heap.size, 1, none⟩ = some (.int .i64 e1) ∧ w'.cell? ⟨w.heap.size, 2, none⟩ = some (.int .i64 i1) := fun w' h => ⟨(k0.below h).at_ 0 rfl, (k0.below h).at_ 1 rfl, (k0.below h).at_ 2 rfl⟩
  have hpw : ∀ w' : World, Below W.heap.size W w' → Rd w' A0 pl.length pl := fun w' h => HP.out w' (below_next hx0 h)
  have HPw := Lib.hid hpw
  have Ca := Lib.hid hca
  have hbb : (b == b) = true := by simp
  clear hca k0 hpw
  refine region_class (fun w' => Below W.heap.size W w') (by kernel_rfl) (by kernel_rfl) ((Below.refl _ _).drew) ?_
  repeat (go_big_quiet_step ((first | (intro _; with_reducible rfl) | (intro hq; exact calls_class hq (HD.out _ (HPw.out _ hq))) | (intro hq; exact calls_class hq (HRD.out _ (HPw.out _ hq))) | (intro hq; exact calls_class hq (awake_any _)) | (intro hq; obtain ⟨e1, e2, e3⟩ := Ca.out _ hq; simp [e1, e2, e3, Result.andThen]; with_reducible rfl))))
  refine wpQuiet_nil ?_
  intro v9 hv9
  go_wp2_with fail
  go_ret
  exact ⟨rfl, below_next hx0 hv9⟩
set_option maxRecDepth 100000 in
theorem lifted (os : Os) (started : os.Started) (H : Type) (enc : TypeId × Value → H) :
    ReturnsInHanded {} Try.checked os 5 .any (Rows.frameIsSpec.pre6 enc Try.prog Try.f5 Rows.frameIsRow.domain false) (Rows.frameIsSpec.post enc Try.prog Try.f5 false true false false) := by
  refine returnsInHanded_of_change (C := Try.checked) own started (by kernel_rfl) Try.func5
    (ChangeSpec.witness6 (enc := enc) (C := Try.checked) false ⟨#[], #[.slice none 0 0, .agg #[.int .i64 0, .int .i64 0, .int .i64 0], .int .i64 0], []⟩ 8 (by kernel_rfl) (by kernel_rfl) (by kernel_rfl) (by kernel_rfl)) ?_
  intro W base args ds gs before hval0 hW hcnd _
  have hval : ∀ (j : Nat) t v, Try.f5.params[j]? = some t → args[j]? = some v → Value.okWide Try.prog W .any base t v := hval0
  have hW' := hW
  obtain ⟨p, q, hA0, hV, rfl, hfz, hnd⟩ := hW
  have hA : DataW.TrodAll enc Try.prog W 0 (fun _ => true) true Try.f5.params.toList args.toList ds p := hA0
  rw [Try.params5] at hA hval
  obtain ⟨v0, vs0, d0, ds0, p0, q0, hargs, rfl, rfl, h0, t0⟩ := trodAll_cons hA
  obtain ⟨v1, vs1, d1, ds1, p1, q1, rfl, rfl, rfl, h1, t1⟩ := trodAll_cons t0
  obtain ⟨v2, vs2, d2, ds2, p2, q2, rfl, rfl, rfl, h2, t2⟩ := trodAll_cons t1
  obtain ⟨rfl, rfl, rfl⟩ := trodAll_nil t2
  obtain rfl : args = #[v0, v1, v2] := by cases args; simp_all
  obtain ⟨rfl, rfl⟩ := trodVars_none hV
  have k0 : Reads enc W 24 v0 d0 p0 := h0
  have lt0 : ∀ x ∈ p0, x.block < W.heap.size := by obtain ⟨m, hm⟩ := k0; exact DataW.trod_lt m _ _ _ hm
  obtain ⟨A0, m0, c0, l0, rfl, r0, wc0, w0⟩ := in_bytes (hval 0 24 v0 rfl rfl) k0
  have k1 : Reads enc W 23 v1 d1 p1 := h1
  have lt1 : ∀ x ∈ p1, x.block < W.heap.size := by obtain ⟨m, hm⟩ := k1; exact DataW.trod_lt m _ _ _ hm
  obtain ⟨f1, e1, i1, rfl⟩ := in_stamp (hval 1 23 v1 rfl rfl) k1
  have k2 : Reads enc W 3 v2 d2 p2 := h2
  have lt2 : ∀ x ∈ p2, x.block < W.heap.size := by obtain ⟨m, hm⟩ := k2; exact DataW.trod_lt m _ _ _ hm
  obtain ⟨n2, rfl, wl2, w2⟩ := in_int (hval 2 3 v2 rfl rfl) k2
  clear hA0 hval0
  refine (walk A0 m0 c0 l0 f1 e1 i1 n2 W r0 wc0 w0 wl2 w2).mono fun e W' ⟨he, bel⟩ => ?_
  subst he
  exact ⟨_, rfl, _, _, _, [], _, [], hW', trodAll_mk1 (shut_bool Try.underlying4 _), (trodAll_cons_mk (Below.trod laidOut (by kernel_rfl) (of_decide_eq_true (by kernel_rfl)) k0 bel lt0) (trodAll_cons_mk (Below.trod laidOut (by kernel_rfl) (of_decide_eq_true (by kernel_rfl)) k1 bel lt1) (trodAll_cons_mk (Below.trod laidOut (by kernel_rfl) (of_decide_eq_true (by kernel_rfl)) k2 bel lt2) trodAll_mk0))), rfl, bel.frame _, fun h => by cases h⟩
theorem over : Rows.frameIsRow.holds Try.pinned (OpenSpec.ofChange Rows.frameIsSpec) :=
  OpenClaim.holds_of_wide 5 Try.f5 rfl rfl rfl rfl rfl rfl rfl ⟨rfl, rfl, rfl, rfl, rfl⟩ rfl rfl rfl rfl rfl (by kernel_rfl) Try.func5 (by kernel_rfl)
    (of_decide_eq_true (by kernel_rfl)) (by unfold Func.isWrapper; first | (rw [if_pos (by decide +kernel)]; kernel_rfl) | (rw [if_neg (by decide +kernel)]; exact ⟨rfl, rfl⟩))
    (fun os started H enc _ => lifted os started H enc)
theorem proved : Rows.FrameIsSaid := over
end Go.Proofs.Ytcckhdmdklholaa.frameIs
