/- For every string, every slice of bytes and every bound: Text's bytes (of the first 4096 bytes of the string) and what TakeText takes of the first 4096 bytes are the document's (P2.2), and the example at the head holds; the arguments stay as they were. No condition. -/
import Derived.Test.YtejijhajgklmgaaCodeUni
import Derived.WalkKit
import Derived.ProofKit
import Derived.OpenShut
import Derived.ShutString
import Derived.ChangeOld
import Derived.Below
import Derived.Deep.RegionHeld
namespace Go.Proofs.Ytejijhajgklmgaa.codeTexts
open Go.ChangeShapes Go.WideShapes Go.ChangeAt Go.RowKit
set_option linter.unusedVariables false
theorem own : ownKnob Try.prog.godebug = none := by kernel_rfl
theorem laidOut : laidOutB Try.prog = true := by kernel_rfl
set_option maxRecDepth 100000 in
set_option maxHeartbeats 2000000 in
theorem walk (s0 : ByteArray) (A1 : Option Addr) (m1 c1 : Nat) (l1 : List Nat) (n2 : Int) (w : World) (w0 : s0.size ≤ 9223372036854775807) (r1 : Rd w A1 m1 l1) (wc1 : m1 ≤ c1) (w1 : m1 ≤ 9223372036854775807) (wl2 : -9223372036854775808 ≤ n2) (w2 : n2 ≤ 9223372036854775807) :
    Calls Try.prog 4 #[.string s0, .slice A1 m1 c1, .int .i64 n2] w fun e w' => e = .returned (.bool true) ∧ Below w.heap.size w w' := by
  -- heartbeats 2000000
  have hl := r1.take (k := min m1 4096) (by omega)
  have hsh := short_any s0 w0 w
  have Hsh := Lib.hid hsh
  clear hsh
  have hsz := cutS_size s0
  generalize cutS s0 = s at Hsh hsz
  have hcut := cut_any A1 m1 c1 wc1 w1 w
  have hmn : min m1 4096 ≤ 4096 := by omega
  have hmc : min m1 4096 ≤ c1 := by omega
  have Hcut := Lib.hid hcut
  clear hcut r1
  generalize l1.take (min m1 4096) = l at hl
  generalize min m1 4096 = m at hl hmn hmc Hcut
  obtain ⟨o, ho⟩ : ∃ o, o = Cd.takeText l n2 := ⟨_, rfl⟩
  have Ho := Lib.hid ho
  clear ho
  go_enter Try.func4, Try.ntmps4
  go_wp2_with fail
  refine Hsh.out.mono ?_
  rintro e v0 ⟨rfl, rfl⟩
  go_wp2_with fail
  refine Hcut.out.mono ?_
  rintro e v0 ⟨rfl, rfl⟩
  go_wp2_with fail
  have ht1 := taketext_any A1 m c1 n2 l w hl hmc (by omega) w2
  rw [← Ho.out] at ht1
  refine ht1.mono ?_
  intro e v1 hg1
  obtain ⟨B1, d1, rfl, hr1, hd1, hb1⟩ := hg1.uni
  clear hg1 ht1
  go_wp2_with fail
  have ht2 := rtaketext_any A1 m c1 n2 l v1 (hl.below hb1) hmc (by omega) w2
  rw [← Ho.out] at ht2
  refine ht2.mono ?_
  intro e v2 hg2
  obtain ⟨B2, d2, rfl, hr2, hd2, hb2⟩ := hg2.uni
  clear hg2 ht2
  go_wp2_with fail
  have hw2 := hb1.trans (hb2.mono hb1.size)
  have hr12 := hr1.below hb2
  clear hb1 hb2 hr1
  have hd : Below v2.heap.size v2 v2.drew := (Below.refl _ _).drew
  have hx1 : ∀ wx : World, Below v2.heap.size v2 wx → (convert 23 9 (.slice B1 (takeR o).length d1)).run Try.prog wx = .ok (.string (str (takeR o))) wx := fun wx h => run_str (hr12.below h)
  have hx2 : ∀ wx : World, Below v2.heap.size v2 wx → (convert 23 9 (.slice B2 (takeR o).length d2)).run Try.prog wx = .ok (.string (str (takeR o))) wx := fun wx h => run_str (hr2.below h)
  go_region_held (fun w' => Below v2.heap.size v2 w') (first | exact hd | exact hc10 | exact hc11 | exact hc9) (first | (go_at_call 20; refine (text_any s (by omega) _).mono ?_; rintro e v10 ⟨A10, cap10, rfl, ho10, hb10⟩; have hc10 : Below v2.heap.size v2 v10 := below_next (by assumption) hb10; have hcv10 : ∀ wx : World, Below v10.heap.size v10 wx → (convert 23 9 (.slice A10 (Cd.text s).length cap10)).run Try.prog wx = .ok (.string (str (Cd.text s))) wx := fun wx h => run_str (ho10.rd.below h); have hr10 : Below v10.heap.size v10 v10 := Below.refl _ _) | (go_at_call 21; refine (rtext_any s (by omega) _).mono ?_; rintro e v11 ⟨A11, cap11, rfl, ho11, hb11⟩; have hc11 : Below v2.heap.size v2 v11 := below_next (by assumption) hb11; have hcv11 : ∀ wx : World, Below v11.heap.size v11 wx → (convert 23 9 (.slice A11 (Cd.text s).length cap11)).run Try.prog wx = .ok (.string (str (Cd.text s))) wx := fun wx h => run_str (ho11.rd.below h); have hr11 : Below v11.heap.size v11 v11 := Below.refl _ _) | (go_at_call 16; refine (awake_any _).mono ?_; rintro e v9 ⟨rfl, hb9⟩; have hc9 : Below v2.heap.size v2 v9 := below_next (by assumption) hb9))
  all_goals
    go_wp2
    go_ret
    exact ⟨rfl, below_next hw2 hc9⟩
set_option maxRecDepth 100000 in
theorem lifted (os : Os) (started : os.Started) (H : Type) (enc : TypeId × Value → H) :
    ReturnsInHanded {} Try.checked os 4 .any (Rows.codeTextsSpec.pre6 enc Try.prog Try.f4 Rows.codeTextsRow.domain false) (Rows.codeTextsSpec.post enc Try.prog Try.f4 false true false false) := by
  refine returnsInHanded_of_change (C := Try.checked) own started (by kernel_rfl) Try.func4
    (ChangeSpec.witness6 (enc := enc) (C := Try.checked) false ⟨#[], #[.string ⟨#[]⟩, .slice none 0 0, .int .i64 0], []⟩ 8 (by kernel_rfl) (by kernel_rfl) (by kernel_rfl) (by kernel_rfl)) ?_
  intro W base args ds gs before hval0 hW hcnd _
  have hval : ∀ (j : Nat) t v, Try.f4.params[j]? = some t → args[j]? = some v → Value.okWide Try.prog W .any base t v := hval0
  have hW' := hW
  obtain ⟨p, q, hA0, hV, rfl, hfz, hnd⟩ := hW
  have hA : DataW.TrodAll enc Try.prog W 0 (fun _ => true) true Try.f4.params.toList args.toList ds p := hA0
  rw [Try.params4] at hA hval
  obtain ⟨v0, vs0, d0, ds0, p0, q0, hargs, rfl, rfl, h0, t0⟩ := trodAll_cons hA
  obtain ⟨v1, vs1, d1, ds1, p1, q1, rfl, rfl, rfl, h1, t1⟩ := trodAll_cons t0
  obtain ⟨v2, vs2, d2, ds2, p2, q2, rfl, rfl, rfl, h2, t2⟩ := trodAll_cons t1
  obtain ⟨rfl, rfl, rfl⟩ := trodAll_nil t2
  obtain rfl : args = #[v0, v1, v2] := by cases args; simp_all
  obtain ⟨rfl, rfl⟩ := trodVars_none hV
  have k0 : Reads enc W 9 v0 d0 p0 := h0
  have lt0 : ∀ x ∈ p0, x.block < W.heap.size := by obtain ⟨m, hm⟩ := k0; exact DataW.trod_lt m _ _ _ hm
  obtain ⟨s0, rfl, w0⟩ := in_str (hval 0 9 v0 rfl rfl) k0
  have k1 : Reads enc W 23 v1 d1 p1 := h1
  have lt1 : ∀ x ∈ p1, x.block < W.heap.size := by obtain ⟨m, hm⟩ := k1; exact DataW.trod_lt m _ _ _ hm
  obtain ⟨A1, m1, c1, l1, rfl, r1, wc1, w1⟩ := in_bytes (hval 1 23 v1 rfl rfl) k1
  have k2 : Reads enc W 3 v2 d2 p2 := h2
  have lt2 : ∀ x ∈ p2, x.block < W.heap.size := by obtain ⟨m, hm⟩ := k2; exact DataW.trod_lt m _ _ _ hm
  obtain ⟨n2, rfl, wl2, w2⟩ := in_int (hval 2 3 v2 rfl rfl) k2
  clear hA0 hval0
  refine (walk s0 A1 m1 c1 l1 n2 W w0 r1 wc1 w1 wl2 w2).mono fun e W' ⟨he, bel⟩ => ?_
  subst he
  exact ⟨_, rfl, _, _, _, [], _, [], hW', trodAll_mk1 (shut_bool Try.underlying4 _), (trodAll_cons_mk (Below.trod laidOut (by kernel_rfl) (of_decide_eq_true (by kernel_rfl)) k0 bel lt0) (trodAll_cons_mk (Below.trod laidOut (by kernel_rfl) (of_decide_eq_true (by kernel_rfl)) k1 bel lt1) (trodAll_cons_mk (Below.trod laidOut (by kernel_rfl) (of_decide_eq_true (by kernel_rfl)) k2 bel lt2) trodAll_mk0))), rfl, bel.frame _, fun h => by cases h⟩
theorem over : Rows.codeTextsRow.holds Try.pinned (OpenSpec.ofChange Rows.codeTextsSpec) :=
  OpenClaim.holds_of_wide 4 Try.f4 rfl rfl rfl rfl rfl rfl rfl ⟨rfl, rfl, rfl, rfl, rfl⟩ rfl rfl rfl rfl rfl (by kernel_rfl) Try.func4 (by kernel_rfl)
    (of_decide_eq_true (by kernel_rfl)) (by unfold Func.isWrapper; first | (rw [if_pos (by decide +kernel)]; kernel_rfl) | (rw [if_neg (by decide +kernel)]; exact ⟨rfl, rfl⟩))
    (fun os started H enc _ => lifted os started H enc)
theorem proved : Rows.CodeTextsSaid := over
end Go.Proofs.Ytejijhajgklmgaa.codeTexts
