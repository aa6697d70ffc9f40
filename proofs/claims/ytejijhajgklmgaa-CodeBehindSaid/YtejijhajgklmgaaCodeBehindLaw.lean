/- For every two strings (the first 4096 bytes of each): Behind of the first is the document's, what begins with the first is below it, and no text from there on begins with it (P2.5, P2.8), and the example at the head holds; the arguments stay as they were. No condition. -/
import Derived.Test.YtejijhajgklmgaaCodeUniK
import Derived.WalkKit
import Derived.ProofKit
import Derived.OpenShut
import Derived.ShutString
import Derived.ChangeOld
import Derived.Below
import Derived.Deep.RegionHeld
namespace Go.Proofs.Ytejijhajgklmgaa.codeBehind
open Go.ChangeShapes Go.WideShapes Go.ChangeAt Go.RowKit
set_option linter.unusedVariables false
theorem own : ownKnob Try.prog.godebug = none := by kernel_rfl
theorem laidOut : laidOutB Try.prog = true := by kernel_rfl
set_option maxRecDepth 100000 in
set_option maxHeartbeats 1000000 in
theorem walk (s0 : ByteArray) (s1 : ByteArray) (w : World) (w0 : s0.size ≤ 9223372036854775807) (w1 : s1.size ≤ 9223372036854775807) :
    Calls Try.prog 10 #[.string s0, .string s1] w fun e w' => e = .returned (.bool true) ∧ Below w.heap.size w w' := by
  -- heartbeats 1000000
  have hsh0 := fun w => short_any s0 w0 w
  have hsh1 := fun w => short_any s1 w1 w
  have hz0 := cutS_size s0
  have hz1 := cutS_size s1
  have H0 := Lib.hid hsh0
  have H1 := Lib.hid hsh1
  clear hsh0 hsh1
  go_enter Try.func10, Try.ntmps10
  go_wp2_with fail
  refine (H0.out _).mono ?_
  rintro e v1 ⟨rfl, rfl⟩
  go_wp2_with fail
  refine (H1.out _).mono ?_
  rintro e v1 ⟨rfl, rfl⟩
  generalize cutS s0 = k at *
  generalize cutS s1 = s at *
  have hbl := behind_lt (bs k) (bs_lt k)
  have hbs := bs_str hbl
  have habove := behind_above (bs k)
  obtain ⟨q, hq⟩ : ∃ q, q = str (Cd.behind (bs k)) := ⟨_, rfl⟩
  rw [← hq] at hbs
  have hbeh := fun w' => behind_any k (by omega) w'
  have hrbeh := fun w' => rbehind_any k (by omega) w'
  rw [← hq] at hbeh hrbeh
  have Hbeh := Lib.hid hbeh
  have Hrbeh := Lib.hid hrbeh
  have Hbs := Lib.hid hbs
  have Habove := Lib.hid habove
  clear hbeh hrbeh hbs habove hbl hq
  have hadd : ∀ W : World, (Op.stringOp .add k s).run Try.prog W = .ok (.string (k ++ s)) W := fun W => run_string_add_sum W _ _ (by omega)
  go_wp2_with fail
  refine (Hbeh.out _).mono ?_
  rintro e v2 ⟨rfl, hb2⟩
  go_wp2_with fail
  refine (Hrbeh.out _).mono ?_
  rintro e v3 ⟨rfl, hb3⟩
  have hx3 := below_next hb2 hb3
  clear hb2 hb3
  go_wp2_with fail
  refine (awake_any _).mono ?_
  rintro e v4 ⟨rfl, hb4⟩
  have hx4 := below_next hx3 hb4
  clear hx3 hb4
  by_cases hempty : bs q = []
  · have he1 : q.toList.isEmpty = true := by
      have : q = str [] := by rw [← hempty, str_bs]
      rw [this]; decide +kernel
    have he2 : q.toList = [] := List.isEmpty_iff.1 he1
    go_wp2_with fail
    refine (Hrbeh.out _).mono ?_
    rintro e v5 ⟨rfl, hb5⟩
    go_wp2_with fail
    go_ret
    exact ⟨rfl, below_next hx4 hb5⟩
  · have he2 : ¬ q.toList = [] := by
      intro e
      apply hempty
      unfold bs
      rw [ByteArray.toList_eq] at e
      rw [e]; rfl
    have he1 : q.toList.isEmpty = false := by
      rw [Bool.eq_false_iff]; intro e; exact he2 (List.isEmpty_iff.1 e)
    have hless : Op.bytesLess (k ++ s).toList q.toList = true := by
      rw [bytesLess_bs, bs_append, Hbs.out]
      exact Habove.out (bs s) (by rw [← Hbs.out]; exact hempty)
    have hbegins : Op.bytesLess s.toList q.toList = true ∨ Cd.begins (bs s) (bs k) = false := by
      by_cases hb : Cd.begins (bs s) (bs k) = true
      · left
        obtain ⟨t, ht⟩ := begins_split hb
        rw [bytesLess_bs, ht, Hbs.out]
        exact behind_above (bs k) t (by rw [← Hbs.out]; exact hempty)
      · right; exact Bool.eq_false_iff.2 hb
    clear hempty
    rcases hbegins with hbg | hbg
    · go_wp2_with fail
      go_ret
      exact ⟨rfl, hx4⟩
    · have hbe := fun w' => begins_any s k w'
      rw [hbg] at hbe
      have Hbe := Lib.hid hbe
      clear hbe hbg
      by_cases hsq : Op.bytesLess s.toList q.toList = true
      · go_wp2_with fail
        go_ret
        exact ⟨rfl, hx4⟩
      · have hsq2 : Op.bytesLess s.toList q.toList = false := Bool.eq_false_iff.2 hsq
        clear hsq
        go_wp2_with fail
        refine (Hbe.out _).mono ?_
        rintro e v5 ⟨rfl, rfl⟩
        go_wp2_with fail
        go_ret
        exact ⟨rfl, hx4⟩
set_option maxRecDepth 100000 in
theorem lifted (os : Os) (started : os.Started) (H : Type) (enc : TypeId × Value → H) :
    ReturnsInHanded {} Try.checked os 10 .any (Rows.codeBehindSpec.pre6 enc Try.prog Try.f10 Rows.codeBehindRow.domain false) (Rows.codeBehindSpec.post enc Try.prog Try.f10 false true false false) := by
  refine returnsInHanded_of_change (C := Try.checked) own started (by kernel_rfl) Try.func10
    (ChangeSpec.witness6 (enc := enc) (C := Try.checked) false ⟨#[], #[.string ⟨#[]⟩, .string ⟨#[]⟩], []⟩ 8 (by kernel_rfl) (by kernel_rfl) (by kernel_rfl) (by kernel_rfl)) ?_
  intro W base args ds gs before hval0 hW hcnd _
  have hval : ∀ (j : Nat) t v, Try.f10.params[j]? = some t → args[j]? = some v → Value.okWide Try.prog W .any base t v := hval0
  have hW' := hW
  obtain ⟨p, q, hA0, hV, rfl, hfz, hnd⟩ := hW
  have hA : DataW.TrodAll enc Try.prog W 0 (fun _ => true) true Try.f10.params.toList args.toList ds p := hA0
  rw [Try.params10] at hA hval
  obtain ⟨v0, vs0, d0, ds0, p0, q0, hargs, rfl, rfl, h0, t0⟩ := trodAll_cons hA
  obtain ⟨v1, vs1, d1, ds1, p1, q1, rfl, rfl, rfl, h1, t1⟩ := trodAll_cons t0
  obtain ⟨rfl, rfl, rfl⟩ := trodAll_nil t1
  obtain rfl : args = #[v0, v1] := by cases args; simp_all
  obtain ⟨rfl, rfl⟩ := trodVars_none hV
  have k0 : Reads enc W 9 v0 d0 p0 := h0
  have lt0 : ∀ x ∈ p0, x.block < W.heap.size := by obtain ⟨m, hm⟩ := k0; exact DataW.trod_lt m _ _ _ hm
  obtain ⟨s0, rfl, w0⟩ := in_str (hval 0 9 v0 rfl rfl) k0
  have k1 : Reads enc W 9 v1 d1 p1 := h1
  have lt1 : ∀ x ∈ p1, x.block < W.heap.size := by obtain ⟨m, hm⟩ := k1; exact DataW.trod_lt m _ _ _ hm
  obtain ⟨s1, rfl, w1⟩ := in_str (hval 1 9 v1 rfl rfl) k1
  clear hA0 hval0
  refine (walk s0 s1 W w0 w1).mono fun e W' ⟨he, bel⟩ => ?_
  subst he
  exact ⟨_, rfl, _, _, _, [], _, [], hW', trodAll_mk1 (shut_bool Try.underlying4 _), (trodAll_cons_mk (Below.trod laidOut (by kernel_rfl) (of_decide_eq_true (by kernel_rfl)) k0 bel lt0) (trodAll_cons_mk (Below.trod laidOut (by kernel_rfl) (of_decide_eq_true (by kernel_rfl)) k1 bel lt1) trodAll_mk0)), rfl, bel.frame _, fun h => by cases h⟩
theorem over : Rows.codeBehindRow.holds Try.pinned (OpenSpec.ofChange Rows.codeBehindSpec) :=
  OpenClaim.holds_of_wide 10 Try.f10 rfl rfl rfl rfl rfl rfl rfl ⟨rfl, rfl, rfl, rfl, rfl⟩ rfl rfl rfl rfl rfl (by kernel_rfl) Try.func10 (by kernel_rfl)
    (of_decide_eq_true (by kernel_rfl)) (by unfold Func.isWrapper; first | (rw [if_pos (by decide +kernel)]; kernel_rfl) | (rw [if_neg (by decide +kernel)]; exact ⟨rfl, rfl⟩))
    (fun os started H enc _ => lifted os started H enc)
theorem proved : Rows.CodeBehindSaid := over
end Go.Proofs.Ytejijhajgklmgaa.codeBehind
