/- For every slice of strings and every string (the first nine of the strings, the first 4096 bytes of each): the key that the parts make, and the parts of the key, are the document's (P2.4), and the example at the head holds; the arguments stay as they were. No condition. -/
import Derived.Test.YtejijhajgklmgaaCodeUniK
import Derived.WalkKit
import Derived.ProofKit
import Derived.OpenShut
import Derived.ShutString
import Derived.ChangeOld
import Derived.Below
import Derived.Deep.RegionHeld
namespace Go.Proofs.Ytejijhajgklmgaa.codeKeys
open Go.ChangeShapes Go.WideShapes Go.ChangeAt Go.RowKit
set_option linter.unusedVariables false
theorem own : ownKnob Try.prog.godebug = none := by kernel_rfl
theorem laidOut : laidOutB Try.prog = true := by kernel_rfl
set_option maxRecDepth 100000 in
set_option maxHeartbeats 1000000 in
theorem walk (A0 : Option Addr) (m0 c0 : Nat) (l0 : List ByteArray) (s1 : ByteArray) (w : World) (r0 : RdS w A0 m0 l0) (wc0 : m0 ≤ c0) (w0 : m0 ≤ 9223372036854775807) (ws0 : ∀ s ∈ l0, s.size ≤ 9223372036854775807) (w1 : s1.size ≤ 9223372036854775807) :
    Calls Try.prog 6 #[.slice A0 m0 c0, .string s1] w fun e w' => e = .returned (.bool true) ∧ Below w.heap.size w w' := by
  -- heartbeats 1000000
  have hsh := fun w => short_any s1 w1 w
  have hcs := cutS_size s1
  have hrl := rowsOf_length l0
  have hrs := rowsOf_size l0
  have hpl := partsL_length (bs (cutS s1))
  have Hsh := Lib.hid hsh
  have Hrs := Lib.hid hrs
  clear hsh hrs
  go_enter Try.func6, Try.ntmps6
  go_wp2_with fail
  refine (rows_any A0 m0 c0 l0 _ r0 w0 ws0).mono ?_
  rintro e v1 ⟨A1, cap1, rfl, hr1, _, hb1⟩
  generalize rowsOf l0 = ls at *
  go_wp2_with fail
  refine (Hsh.out _).mono ?_
  rintro e v2 ⟨rfl, rfl⟩
  generalize cutS s1 = s at *
  go_wp2_with fail
  refine (key_any A1 _ cap1 ls _ hr1 Hrs.out).mono ?_
  rintro e v3 ⟨rfl, hb3⟩
  go_wp2_with fail
  refine (rkey_any A1 _ cap1 ls _ (hr1.below hb3) Hrs.out).mono ?_
  rintro e v4 ⟨rfl, hb4⟩
  go_wp2_with fail
  refine (parts_any s (by omega) _).mono ?_
  intro e v5 hg5
  obtain ⟨A5, cap5, rfl, hr5, hb5⟩ := hg5.uni
  clear hg5
  go_wp2_with fail
  refine (rparts_any s (by omega) _).mono ?_
  intro e v6 hg6
  obtain ⟨A6, cap6, rfl, hr6, hb6⟩ := hg6.uni
  clear hg6
  have hr56 := hr5.below hb6
  have hx : Below w.heap.size w v6 := below_next (below_next (below_next (below_next hb1 hb3) hb4) hb5) hb6
  clear hb1 hb3 hb4 hb5 hb6 hr5 hr1
  generalize partsL (Cd.parts (bs s)) = ps at *
  go_wp2_with (first | (go_at_call 31; refine (same_yes A5 A6 _ cap5 _ cap6 ps _ hr56 hr6 (by omega) (by omega)).mono ?_; rintro e v7 ⟨rfl, hb7⟩) | (go_at_call 16; refine (awake_any _).mono ?_; rintro e v8 ⟨rfl, hb8⟩))
  go_ret
  exact ⟨rfl, below_next (below_next hx hb7) hb8⟩
set_option maxRecDepth 100000 in
theorem lifted (os : Os) (started : os.Started) (H : Type) (enc : TypeId × Value → H) :
    ReturnsInHanded {} Try.checked os 6 .any (Rows.codeKeysSpec.pre6 enc Try.prog Try.f6 Rows.codeKeysRow.domain false) (Rows.codeKeysSpec.post enc Try.prog Try.f6 false true false false) := by
  refine returnsInHanded_of_change (C := Try.checked) own started (by kernel_rfl) Try.func6
    (ChangeSpec.witness6 (enc := enc) (C := Try.checked) false ⟨#[], #[.slice none 0 0, .string ⟨#[]⟩], []⟩ 8 (by kernel_rfl) (by kernel_rfl) (by kernel_rfl) (by kernel_rfl)) ?_
  intro W base args ds gs before hval0 hW hcnd _
  have hval : ∀ (j : Nat) t v, Try.f6.params[j]? = some t → args[j]? = some v → Value.okWide Try.prog W .any base t v := hval0
  have hW' := hW
  obtain ⟨p, q, hA0, hV, rfl, hfz, hnd⟩ := hW
  have hA : DataW.TrodAll enc Try.prog W 0 (fun _ => true) true Try.f6.params.toList args.toList ds p := hA0
  rw [Try.params6] at hA hval
  obtain ⟨v0, vs0, d0, ds0, p0, q0, hargs, rfl, rfl, h0, t0⟩ := trodAll_cons hA
  obtain ⟨v1, vs1, d1, ds1, p1, q1, rfl, rfl, rfl, h1, t1⟩ := trodAll_cons t0
  obtain ⟨rfl, rfl, rfl⟩ := trodAll_nil t1
  obtain rfl : args = #[v0, v1] := by cases args; simp_all
  obtain ⟨rfl, rfl⟩ := trodVars_none hV
  have k0 : Reads enc W 38 v0 d0 p0 := h0
  have lt0 : ∀ x ∈ p0, x.block < W.heap.size := by obtain ⟨m, hm⟩ := k0; exact DataW.trod_lt m _ _ _ hm
  obtain ⟨A0, m0, c0, l0, rfl, r0, wc0, w0, ws0⟩ := in_strs (hval 0 38 v0 rfl rfl) k0
  have k1 : Reads enc W 9 v1 d1 p1 := h1
  have lt1 : ∀ x ∈ p1, x.block < W.heap.size := by obtain ⟨m, hm⟩ := k1; exact DataW.trod_lt m _ _ _ hm
  obtain ⟨s1, rfl, w1⟩ := in_str (hval 1 9 v1 rfl rfl) k1
  clear hA0 hval0
  refine (walk A0 m0 c0 l0 s1 W r0 wc0 w0 ws0 w1).mono fun e W' ⟨he, bel⟩ => ?_
  subst he
  exact ⟨_, rfl, _, _, _, [], _, [], hW', trodAll_mk1 (shut_bool Try.underlying4 _), (trodAll_cons_mk (Below.trod laidOut (by kernel_rfl) (of_decide_eq_true (by kernel_rfl)) k0 bel lt0) (trodAll_cons_mk (Below.trod laidOut (by kernel_rfl) (of_decide_eq_true (by kernel_rfl)) k1 bel lt1) trodAll_mk0)), rfl, bel.frame _, fun h => by cases h⟩
theorem over : Rows.codeKeysRow.holds Try.pinned (OpenSpec.ofChange Rows.codeKeysSpec) :=
  OpenClaim.holds_of_wide 6 Try.f6 rfl rfl rfl rfl rfl rfl rfl ⟨rfl, rfl, rfl, rfl, rfl⟩ rfl rfl rfl rfl rfl (by kernel_rfl) Try.func6 (by kernel_rfl)
    (of_decide_eq_true (by kernel_rfl)) (by unfold Func.isWrapper; first | (rw [if_pos (by decide +kernel)]; kernel_rfl) | (rw [if_neg (by decide +kernel)]; exact ⟨rfl, rfl⟩))
    (fun os started H enc _ => lifted os started H enc)
theorem proved : Rows.CodeKeysSaid := over
end Go.Proofs.Ytejijhajgklmgaa.codeKeys
