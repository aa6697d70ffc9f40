/- For every number, every size and every slice of bytes: Fixed's bytes and what TakeFixed takes of the first 4096 bytes are the document's (P2.3), and the example at the head holds; the arguments stay as they were. No condition. -/
import Derived.Test.YtejijhajgklmgaaCodeUni
import Derived.WalkKit
import Derived.ProofKit
import Derived.OpenShut
import Derived.ShutString
import Derived.ChangeOld
import Derived.Below
import Derived.Deep.RegionHeld
namespace Go.Proofs.Ytejijhajgklmgaa.codeFixed
open Go.ChangeShapes Go.WideShapes Go.ChangeAt Go.RowKit
set_option linter.unusedVariables false
theorem own : ownKnob Try.prog.godebug = none := by kernel_rfl
theorem laidOut : laidOutB Try.prog = true := by kernel_rfl
set_option maxRecDepth 100000 in
set_option maxHeartbeats 2000000 in
theorem walk (n0 : Nat) (n1 : Int) (A2 : Option Addr) (m2 c2 : Nat) (l2 : List Nat) (w : World) (w0 : n0 < 18446744073709551616) (wl1 : -9223372036854775808 ≤ n1) (w1 : n1 ≤ 9223372036854775807) (r2 : Rd w A2 m2 l2) (wc2 : m2 ≤ c2) (w2 : m2 ≤ 9223372036854775807) :
    Calls Try.prog 5 #[.int .u64 (n0 : Int), .int .i64 n1, .slice A2 m2 c2] w fun e w' => e = .returned (.bool true) ∧ Below w.heap.size w w' := by
  -- heartbeats 2000000
  have hl := r2.take (k := min m2 4096) (by omega)
  have hcut := cut_any A2 m2 c2 wc2 w2 w
  have hmn : min m2 4096 ≤ 4096 := by omega
  have hmc : min m2 4096 ≤ c2 := by omega
  have Hcut := Lib.hid hcut
  clear hcut r2
  generalize l2.take (min m2 4096) = l at hl
  generalize min m2 4096 = m at hl hmn hmc Hcut
  have hnl := Cd.fixed_length n0 n1
  obtain ⟨o, ho⟩ : ∃ o, o = Cd.takeFixed l n1 := ⟨_, rfl⟩
  have Ho := Lib.hid ho
  clear ho
  go_enter Try.func5, Try.ntmps5
  go_wp2_with fail
  refine Hcut.out.mono ?_
  rintro e v0 ⟨rfl, rfl⟩
  go_wp2_with fail
  have ht1 := takefixed_any A2 m c2 n1 l w hl hmc (by omega)
  rw [← Ho.out] at ht1
  refine ht1.mono ?_
  intro e v1 hg1
  obtain ⟨B1, d1, rfl, hr1, hd1, hb1⟩ := hg1.uni
  clear hg1 ht1
  go_wp2_with fail
  have ht2 := rtakefixed_any A2 m c2 n1 l v1 (hl.below hb1) hmc (by omega)
  rw [← Ho.out] at ht2
  refine ht2.mono ?_
  intro e v2 hg2
  obtain ⟨B2, d2, rfl, hr2, hd2, hb2⟩ := hg2.uni
  clear hg2 ht2
  go_wp2_with fail
  have hw2 := hb1.trans (hb2.mono hb1.size)
  have hr12 := hr1.below hb2
  clear hb1 hb2 hr1
  have hd : Below v2.heap.size v2 v2.drew := (Below.refl _ _).drew
  have hx1 : ∀ wx : World, Below v2.heap.size v2 wx → (convert 23 9 (.slice B1 (takeR o).length d1)).run Try.prog wx = .ok (.string (str (takeR o))) wx := fun wx h => run_str (hr12.below h)
  have hx2 : ∀ wx : World, Below v2.heap.size v2 wx → (convert 23 9 (.slice B2 (takeR o).length d2)).run Try.prog wx = .ok (.string (str (takeR o))) wx := fun wx h => run_str (hr2.below h)
  go_region_held (fun w' => Below v2.heap.size v2 w') (first | exact hd | exact hc10 | exact hc11 | exact hc9) (first | (go_at_call 24; refine (fixed_any n0 n1 w0 _).mono ?_; rintro e v10 ⟨A10, cap10, rfl, ho10, hb10⟩; have hc10 : Below v2.heap.size v2 v10 := below_next (by assumption) hb10; have hcv10 : ∀ wx : World, Below v10.heap.size v10 wx → (convert 23 9 (.slice A10 (Cd.fixed n0 n1).length cap10)).run Try.prog wx = .ok (.string (str (Cd.fixed n0 n1))) wx := fun wx h => run_str (ho10.rd.below h); have hr10 : Below v10.heap.size v10 v10 := Below.refl _ _) | (go_at_call 25; refine (rfixed_any n0 n1 w0 _).mono ?_; rintro e v11 ⟨A11, cap11, rfl, ho11, hb11⟩; have hc11 : Below v2.heap.size v2 v11 := below_next (by assumption) hb11; have hcv11 : ∀ wx : World, Below v11.heap.size v11 wx → (convert 23 9 (.slice A11 (Cd.fixed n0 n1).length cap11)).run Try.prog wx = .ok (.string (str (Cd.fixed n0 n1))) wx := fun wx h => run_str (ho11.rd.below h); have hr11 : Below v11.heap.size v11 v11 := Below.refl _ _) | (go_at_call 16; refine (awake_any _).mono ?_; rintro e v9 ⟨rfl, hb9⟩; have hc9 : Below v2.heap.size v2 v9 := below_next (by assumption) hb9))
  all_goals
    go_wp2
    go_ret
    exact ⟨rfl, below_next hw2 hc9⟩
set_option maxRecDepth 100000 in
theorem lifted (os : Os) (started : os.Started) (H : Type) (enc : TypeId × Value → H) :
    ReturnsInHanded {} Try.checked os 5 .any (Rows.codeFixedSpec.pre6 enc Try.prog Try.f5 Rows.codeFixedRow.domain false) (Rows.codeFixedSpec.post enc Try.prog Try.f5 false true false false) := by
  refine returnsInHanded_of_change (C := Try.checked) own started (by kernel_rfl) Try.func5
    (ChangeSpec.witness6 (enc := enc) (C := Try.checked) false ⟨#[], #[.int .u64 0, .int .i64 0, .slice none 0 0], []⟩ 8 (by kernel_rfl) (by kernel_rfl) (by kernel_rfl) (by kernel_rfl)) ?_
  intro W base args ds gs before hval0 hW hcnd _
  have hval : ∀ (j : Nat) t v, Try.f5.params[j]? = some t → args[j]? = some v → Value.okWide Try.prog W .any base t v := hval0
  have hW' := hW
  obtain ⟨p, q, hA0, hV, rfl, hfz, hnd⟩ := hW
  have hA : DataW.TrodAll enc Try.prog W 0 (fun _ => true) true Try.f5.params.toList args.toList ds p := hA0
  rw [Try.params5] at hA hval
  obtain ⟨v0, vs0, d0, ds0, p0, q0, hargs, rfl, rfl, h0, t0⟩ := trodAll_cons hA
  obtain ⟨v1, vs1, d1, ds1, p1, q1, rfl, rfl, rfl, h1, t1⟩ := trodAll_cons t0
  obtain ⟨v2, vs2, d2, ds2, p2, q2, rfl, rfl, rfl, h2, t2⟩ := trodAll_cons t1
  obtain ⟨rfl, rfl, rfl⟩ := trodAll_nil t2
  obtain rfl : args = #[v0, v1, v2] := by cases args; simp_all
  obtain ⟨rfl, rfl⟩ := trodVars_none hV
  have k0 : Reads enc W 22 v0 d0 p0 := h0
  have lt0 : ∀ x ∈ p0, x.block < W.heap.size := by obtain ⟨m, hm⟩ := k0; exact DataW.trod_lt m _ _ _ hm
  obtain ⟨n0, rfl, w0⟩ := in_u64 (hval 0 22 v0 rfl rfl) k0
  have k1 : Reads enc W 3 v1 d1 p1 := h1
  have lt1 : ∀ x ∈ p1, x.block < W.heap.size := by obtain ⟨m, hm⟩ := k1; exact DataW.trod_lt m _ _ _ hm
  obtain ⟨n1, rfl, wl1, w1⟩ := in_int (hval 1 3 v1 rfl rfl) k1
  have k2 : Reads enc W 23 v2 d2 p2 := h2
  have lt2 : ∀ x ∈ p2, x.block < W.heap.size := by obtain ⟨m, hm⟩ := k2; exact DataW.trod_lt m _ _ _ hm
  obtain ⟨A2, m2, c2, l2, rfl, r2, wc2, w2⟩ := in_bytes (hval 2 23 v2 rfl rfl) k2
  clear hA0 hval0
  refine (walk n0 n1 A2 m2 c2 l2 W w0 wl1 w1 r2 wc2 w2).mono fun e W' ⟨he, bel⟩ => ?_
  subst he
  exact ⟨_, rfl, _, _, _, [], _, [], hW', trodAll_mk1 (shut_bool Try.underlying4 _), (trodAll_cons_mk (Below.trod laidOut (by kernel_rfl) (of_decide_eq_true (by kernel_rfl)) k0 bel lt0) (trodAll_cons_mk (Below.trod laidOut (by kernel_rfl) (of_decide_eq_true (by kernel_rfl)) k1 bel lt1) (trodAll_cons_mk (Below.trod laidOut (by kernel_rfl) (of_decide_eq_true (by kernel_rfl)) k2 bel lt2) trodAll_mk0))), rfl, bel.frame _, fun h => by cases h⟩
theorem over : Rows.codeFixedRow.holds Try.pinned (OpenSpec.ofChange Rows.codeFixedSpec) :=
  OpenClaim.holds_of_wide 5 Try.f5 rfl rfl rfl rfl rfl rfl rfl ⟨rfl, rfl, rfl, rfl, rfl⟩ rfl rfl rfl rfl rfl (by kernel_rfl) Try.func5 (by kernel_rfl)
    (of_decide_eq_true (by kernel_rfl)) (by unfold Func.isWrapper; first | (rw [if_pos (by decide +kernel)]; kernel_rfl) | (rw [if_neg (by decide +kernel)]; exact ⟨rfl, rfl⟩))
    (fun os started H enc _ => lifted os started H enc)
theorem proved : Rows.CodeFixedSaid := over
end Go.Proofs.Ytejijhajgklmgaa.codeFixed
