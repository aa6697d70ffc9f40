/- What both Encodes give of a stamp, a kind and a payload is the same, and Check says as the document. -/
import Derived.Test.YtcckhdmdklholaaFrBoth
import Derived.Test.YtcckhdmdklholaaFrAwake
import Derived.Test.YtcckhdmdklholaaIns
import Derived.Test.YtcckhdmdklholaaHolds
import Derived.WalkKit
import Derived.ProofKit
import Derived.OpenShut
import Derived.ShutString
import Derived.ChangeOld
import Derived.Below
import Derived.Deep.RegionHeld
namespace Go.Proofs.Ytcckhdmdklholaa.frameEncodes
open Go.ChangeShapes Go.WideShapes Go.ChangeAt Go.RowKit
set_option linter.unusedVariables false
theorem own : ownKnob Try.prog.godebug = none := by kernel_rfl
theorem laidOut : laidOutB Try.prog = true := by kernel_rfl
set_option maxRecDepth 100000 in
set_option maxHeartbeats 4000000 in
theorem walk (f0 e0 i0 : Int) (n1 : Int) (A2 : Option Addr) (m2 c2 : Nat) (l2 : List Nat) (w : World) (wl1 : -9223372036854775808 ≤ n1) (w1 : n1 ≤ 9223372036854775807) (r2 : Rd w A2 m2 l2) (wc2 : m2 ≤ c2) (w2 : m2 ≤ 9223372036854775807) :
    Calls Try.prog 3 #[.agg #[.int .i64 f0, .int .i64 e0, .int .i64 i0], .int .i64 n1, .slice A2 m2 c2] w fun e w' => e = .returned (.bool true) ∧ Below w.heap.size w w' := by
  -- heartbeats 4000000
  have hm := r2.1
  subst hm
  have hcut := fun W => cut_any A2 l2.length c2 l2 W rfl wc2 w2
  have HCut := Lib.hid hcut
  have hpl := fun (W : World) (hW : Below w.heap.size w W) => (r2.take (k := min 300 l2.length) (Nat.min_le_right _ _)).below hW
  have hpe : (l2.take (min 300 l2.length)) = l2.take 300 := by rw [← List.take_take]; simp
  have hpn : (l2.take 300).length = min 300 l2.length := List.length_take
  rw [hpe, ← hpn] at hpl
  have hbig : (l2.take 300).length ≤ 9223372036854775807 := by rw [hpn]; omega
  obtain ⟨L, r, he, hre⟩ := both_enc f0 e0 i0 n1 A2 c2 (l2.take 300) hbig
  clear hpe hpn hbig hcut
  generalize l2.take 300 = pl at *
  have HP := Lib.hid hpl
  have HE := Lib.hid he
  have HRE := Lib.hid hre
  have hck : ∃ ck : Int, (∀ W, Calls Try.prog 12 #[.agg #[.int .i64 f0, .int .i64 e0, .int .i64 i0]] W fun x w' => x = .returned (.int .i64 ck) ∧ Below W.heap.size W w') ∧ (∀ W, Calls Try.prog 13 #[.agg #[.int .i64 f0, .int .i64 e0, .int .i64 i0]] W fun x w' => x = .returned (.int .i64 ck) ∧ Below W.heap.size W w') := by
    have hrc := fun W => rcheck_any f0 e0 i0 W
    cases hs : Fr.okS f0 e0 i0 with
    | true =>
      rw [hs] at hrc
      exact ⟨0, fun W => check_yes f0 e0 i0 W hs, fun W => hrc W⟩
    | false =>
      rw [hs] at hrc
      exact ⟨1, fun W => check_no f0 e0 i0 W hs, fun W => hrc W⟩
  obtain ⟨ck, hC, hRC⟩ := hck
  have HC := Lib.hid hC
  have HRC := Lib.hid hRC
  clear hpl he hre hC hRC
  go_enter Try.func3, Try.ntmps3
  go_wp2_with fail
  refine (HCut.out _).mono ?_
  rintro e v0 ⟨rfl, rfl⟩
  have k0 := Holds.new w #[.int .i64 f0, .int .i64 e0, .int .i64 i0] 23
  have hx0 : Below w.heap.size w (w.alloc (.cells #[.int .i64 f0, .int .i64 e0, .int .i64 i0] 23)) := (Below.refl _ _).alloc (Nat.le_refl _) _
  have c30 := k0.at_ 0 rfl
  have c31 := k0.at_ 1 rfl
  have c32 := k0.at_ 2 rfl
  have hlt := k0.1
  go_wp2_with fail
  refine (HE.out _ (HP.out _ hx0)).mono ?_
  rintro e v1 ⟨B, d, rfl, hr1, hd1, hb1⟩
  have k1 := k0.below hb1
  have hx1 := below_next hx0 hb1
  clear c30 c31 c32 hlt
  have c30 := k1.at_ 0 rfl
  have c31 := k1.at_ 1 rfl
  have c32 := k1.at_ 2 rfl
  have hlt := k1.1
  go_wp2_with fail
  refine (HRE.out _ (HP.out _ hx1)).mono ?_
  rintro e v2 ⟨B2, d2, rfl, hr2, hd2, hb2⟩
  have k2 := k1.below hb2
  have hx2 := below_next hx1 hb2
  have hr1b := hr1.below hb2
  clear c30 c31 c32 hlt hr1 hb1 hb2 hx0 hx1 k0 k1 hd1 hd2 HE HRE HP HCut
  have hca : ∀ w' : World, Below v2.heap.size v2 w' → w'.cell? ⟨w.heap.size, 0, none⟩ = some (.int .i64 f0) ∧ w'.cell? ⟨w.heap.size, 1, none⟩ = some (.int .i64 e0) ∧ w'.cell? ⟨w.heap.size, 2, none⟩ = some (.int .i64 i0) := fun w' h => ⟨(k2.below h).at_ 0 rfl, (k2.below h).at_ 1 rfl, (k2.below h).at_ 2 rfl⟩
  have hs1 : ∀ w' : World, Below v2.heap.size v2 w' → _ := fun w' h => run_str (cap := d) (hr1b.below h)
  have hs2 : ∀ w' : World, Below v2.heap.size v2 w' → _ := fun w' h => run_str (cap := d2) (hr2.below h)
  have Ca := Lib.hid hca
  have S1 := Lib.hid hs1
  have S2 := Lib.hid hs2
  clear hca hs1 hs2 k2 hr1b hr2
  go_wp2_with fail
  refine region_class (fun w' => Below v2.heap.size v2 w') (by kernel_rfl) (by kernel_rfl) ((Below.refl _ _).drew) ?_
  repeat (go_big_quiet_step ((first | (intro _; with_reducible rfl) | (intro hq; simp [S1.out _ hq, Result.andThen]; with_reducible rfl) | (intro hq; simp [S2.out _ hq, Result.andThen]; with_reducible rfl) | (intro hq; exact calls_class hq (HC.out _)) | (intro hq; exact calls_class hq (HRC.out _)) | (intro hq; exact calls_class hq (awake_any _)) | (intro hq; obtain ⟨e1, e2, e3⟩ := Ca.out _ hq; simp [e1, e2, e3, Result.andThen]; with_reducible rfl))))
  refine wpQuiet_nil ?_
  intro v9 hv9
  go_wp2_with fail
  go_ret
  exact ⟨rfl, below_next hx2 hv9⟩
set_option maxRecDepth 100000 in
theorem lifted (os : Os) (started : os.Started) (H : Type) (enc : TypeId × Value → H) :
    ReturnsInHanded {} Try.checked os 3 .any (Rows.frameEncodesSpec.pre6 enc Try.prog Try.f3 Rows.frameEncodesRow.domain false) (Rows.frameEncodesSpec.post enc Try.prog Try.f3 false true false false) := by
  refine returnsInHanded_of_change (C := Try.checked) own started (by kernel_rfl) Try.func3
    (ChangeSpec.witness6 (enc := enc) (C := Try.checked) false ⟨#[], #[.agg #[.int .i64 0, .int .i64 0, .int .i64 0], .int .i64 0, .slice none 0 0], []⟩ 8 (by kernel_rfl) (by kernel_rfl) (by kernel_rfl) (by kernel_rfl)) ?_
  intro W base args ds gs before hval0 hW hcnd _
  have hval : ∀ (j : Nat) t v, Try.f3.params[j]? = some t → args[j]? = some v → Value.okWide Try.prog W .any base t v := hval0
  have hW' := hW
  obtain ⟨p, q, hA0, hV, rfl, hfz, hnd⟩ := hW
  have hA : DataW.TrodAll enc Try.prog W 0 (fun _ => true) true Try.f3.params.toList args.toList ds p := hA0
  rw [Try.params3] at hA hval
  obtain ⟨v0, vs0, d0, ds0, p0, q0, hargs, rfl, rfl, h0, t0⟩ := trodAll_cons hA
  obtain ⟨v1, vs1, d1, ds1, p1, q1, rfl, rfl, rfl, h1, t1⟩ := trodAll_cons t0
  obtain ⟨v2, vs2, d2, ds2, p2, q2, rfl, rfl, rfl, h2, t2⟩ := trodAll_cons t1
  obtain ⟨rfl, rfl, rfl⟩ := trodAll_nil t2
  obtain rfl : args = #[v0, v1, v2] := by cases args; simp_all
  obtain ⟨rfl, rfl⟩ := trodVars_none hV
  have k0 : Reads enc W 23 v0 d0 p0 := h0
  have lt0 : ∀ x ∈ p0, x.block < W.heap.size := by obtain ⟨m, hm⟩ := k0; exact DataW.trod_lt m _ _ _ hm
  obtain ⟨f0, e0, i0, rfl⟩ := in_stamp (hval 0 23 v0 rfl rfl) k0
  have k1 : Reads enc W 3 v1 d1 p1 := h1
  have lt1 : ∀ x ∈ p1, x.block < W.heap.size := by obtain ⟨m, hm⟩ := k1; exact DataW.trod_lt m _ _ _ hm
  obtain ⟨n1, rfl, wl1, w1⟩ := in_int (hval 1 3 v1 rfl rfl) k1
  have k2 : Reads enc W 24 v2 d2 p2 := h2
  have lt2 : ∀ x ∈ p2, x.block < W.heap.size := by obtain ⟨m, hm⟩ := k2; exact DataW.trod_lt m _ _ _ hm
  obtain ⟨A2, m2, c2, l2, rfl, r2, wc2, w2⟩ := in_bytes (hval 2 24 v2 rfl rfl) k2
  clear hA0 hval0
  refine (walk f0 e0 i0 n1 A2 m2 c2 l2 W wl1 w1 r2 wc2 w2).mono fun e W' ⟨he, bel⟩ => ?_
  subst he
  exact ⟨_, rfl, _, _, _, [], _, [], hW', trodAll_mk1 (shut_bool Try.underlying4 _), (trodAll_cons_mk (Below.trod laidOut (by kernel_rfl) (of_decide_eq_true (by kernel_rfl)) k0 bel lt0) (trodAll_cons_mk (Below.trod laidOut (by kernel_rfl) (of_decide_eq_true (by kernel_rfl)) k1 bel lt1) (trodAll_cons_mk (Below.trod laidOut (by kernel_rfl) (of_decide_eq_true (by kernel_rfl)) k2 bel lt2) trodAll_mk0))), rfl, bel.frame _, fun h => by cases h⟩
theorem over : Rows.frameEncodesRow.holds Try.pinned (OpenSpec.ofChange Rows.frameEncodesSpec) :=
  OpenClaim.holds_of_wide 3 Try.f3 rfl rfl rfl rfl rfl rfl rfl ⟨rfl, rfl, rfl, rfl, rfl⟩ rfl rfl rfl rfl rfl (by kernel_rfl) Try.func3 (by kernel_rfl)
    (of_decide_eq_true (by kernel_rfl)) (by unfold Func.isWrapper; first | (rw [if_pos (by decide +kernel)]; kernel_rfl) | (rw [if_neg (by decide +kernel)]; exact ⟨rfl, rfl⟩))
    (fun os started H enc _ => lifted os started H enc)
theorem proved : Rows.FrameEncodesSaid := over
end Go.Proofs.Ytcckhdmdklholaa.frameEncodes
