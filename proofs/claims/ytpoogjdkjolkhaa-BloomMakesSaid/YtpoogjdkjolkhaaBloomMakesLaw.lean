/- For every slice of strings (the first 200, the first 80 bytes of each), every number of bits and every string: the filter that Make makes, its error, and the hash of the string are the document's (P11.1), and the example at the head holds; the arguments stay as they were. No condition. -/
import Derived.Test.YtpoogjdkjolkhaaInStrs
import Derived.Test.YtpoogjdkjolkhaaBloomFew
import Derived.Test.YtpoogjdkjolkhaaBloomRMake
import Derived.Test.YtpoogjdkjolkhaaBloomRHas
import Derived.Test.YtpoogjdkjolkhaaBloomRCount
import Derived.Test.YtpoogjdkjolkhaaBloomAwake
import Derived.WalkKit
import Derived.ProofKit
import Derived.OpenShut
import Derived.ShutString
import Derived.ChangeOld
import Derived.Below
import Derived.Deep.RegionHeld
namespace Go.Proofs.Ytpoogjdkjolkhaa.bloomMakes
open Go.ChangeShapes Go.WideShapes Go.ChangeAt Go.RowKit
set_option linter.unusedVariables false
theorem own : ownKnob Try.prog.godebug = none := by kernel_rfl
theorem laidOut : laidOutB Try.prog = true := by kernel_rfl
set_option maxRecDepth 100000 in
set_option maxHeartbeats 1000000 in
theorem walk (A0 : Option Addr) (m0 c0 : Nat) (l0 : List ByteArray) (n1 : Int) (s2 : ByteArray) (w : World) (r0 : RdS w A0 m0 l0) (wc0 : m0 ≤ c0) (w0 : m0 ≤ 9223372036854775807) (ws0 : ∀ s ∈ l0, s.size ≤ 9223372036854775807) (wl1 : -9223372036854775808 ≤ n1) (w1 : n1 ≤ 9223372036854775807) (w2 : s2.size ≤ 9223372036854775807) :
    Calls Try.prog 3 #[.slice A0 m0 c0, .int .i64 n1, .string s2] w fun e w' => e = .returned (.bool true) ∧ Below w.heap.size w w' := by
  -- heartbeats 1000000
  have hfs := fewS_size l0
  go_enter Try.func3, Try.ntmps3
  go_wp2_with fail
  refine (few_any A0 m0 c0 l0 w r0 w0 ws0).mono ?_
  rintro e v1 ⟨A1, cap1, rfl, ho1, hb1⟩
  have hr1 := ho1.rd.strs
  have hs1 : ∀ s ∈ fewS l0, s.size ≤ 9223372036854775807 := fun s hs => by have := hfs s hs; omega
  clear ho1 hfs
  generalize fewS l0 = ks at *
  have Hs1 := Lib.hid hs1
  have Hh := Lib.hid (hash_any s2 w2)
  have Hrh := Lib.hid (rhash_any s2 w2)
  clear hs1
  go_wp2_with fail
  refine (make_any A1 _ cap1 n1 ks v1 hr1 Hs1.out).mono ?_
  rintro e v2 ⟨A2, cap2, rfl, ho2, hb2⟩
  go_wp2_with fail
  refine (rmake_any A1 _ cap1 n1 ks v2 (hr1.below hb2) Hs1.out).mono ?_
  rintro e v3 ⟨A3, cap3, rfl, ho3, hb3⟩
  have hcv2 := run_str (cap := cap2) (ho2.rd.below hb3)
  have hcv3 := run_str (cap := cap3) ho3.rd
  have hx := below_next (below_next hb1 hb2) hb3
  have hlt : (makeF ks n1).1.length = (makeF ks n1).1.length := rfl
  clear ho2 ho3 hr1 hb1 hb2 hb3 hlt
  generalize makeF ks n1 = r at *
  have hss := str_same (a := r.1) rfl
  go_wp2_with (first | (go_at_call 12; refine (Hh.out _).mono ?_; rintro e v4 ⟨rfl, rfl⟩) | (go_at_call 13; refine (Hrh.out _).mono ?_; rintro e v4 ⟨rfl, rfl⟩) | (go_at_call 14; refine (awake_any _).mono ?_; rintro e v5 ⟨rfl, hb5⟩))
  go_ret
  exact ⟨rfl, below_next hx hb5⟩
set_option maxRecDepth 100000 in
theorem lifted (os : Os) (started : os.Started) (H : Type) (enc : TypeId × Value → H) :
    ReturnsInHanded {} Try.checked os 3 .any (Rows.bloomMakesSpec.pre6 enc Try.prog Try.f3 Rows.bloomMakesRow.domain false) (Rows.bloomMakesSpec.post enc Try.prog Try.f3 false true false false) := by
  refine returnsInHanded_of_change (C := Try.checked) own started (by kernel_rfl) Try.func3
    (ChangeSpec.witness6 (enc := enc) (C := Try.checked) false ⟨#[], #[.slice none 0 0, .int .i64 0, .string ⟨#[]⟩], []⟩ 8 (by kernel_rfl) (by kernel_rfl) (by kernel_rfl) (by kernel_rfl)) ?_
  intro W base args ds gs before hval0 hW hcnd _
  have hval : ∀ (j : Nat) t v, Try.f3.params[j]? = some t → args[j]? = some v → Value.okWide Try.prog W .any base t v := hval0
  have hW' := hW
  obtain ⟨p, q, hA0, hV, rfl, hfz, hnd⟩ := hW
  have hA : DataW.TrodAll enc Try.prog W 0 (fun _ => true) true Try.f3.params.toList args.toList ds p := hA0
  rw [Try.params3] at hA hval
  obtain ⟨v0, vs0, d0, ds0, p0, q0, hargs, rfl, rfl, h0, t0⟩ := trodAll_cons hA
  obtain ⟨v1, vs1, d1, ds1, p1, q1, rfl, rfl, rfl, h1, t1⟩ := trodAll_cons t0
  obtain ⟨v2, vs2, d2, ds2, p2, q2, rfl, rfl, rfl, h2, t2⟩ := trodAll_cons t1
  obtain ⟨rfl, rfl, rfl⟩ := trodAll_nil t2
  obtain rfl : args = #[v0, v1, v2] := by cases args; simp_all
  obtain ⟨rfl, rfl⟩ := trodVars_none hV
  have k0 : Reads enc W 22 v0 d0 p0 := h0
  have lt0 : ∀ x ∈ p0, x.block < W.heap.size := by obtain ⟨m, hm⟩ := k0; exact DataW.trod_lt m _ _ _ hm
  obtain ⟨A0, m0, c0, l0, rfl, r0, wc0, w0, ws0⟩ := in_strs (hval 0 22 v0 rfl rfl) k0
  have k1 : Reads enc W 3 v1 d1 p1 := h1
  have lt1 : ∀ x ∈ p1, x.block < W.heap.size := by obtain ⟨m, hm⟩ := k1; exact DataW.trod_lt m _ _ _ hm
  obtain ⟨n1, rfl, wl1, w1⟩ := in_int (hval 1 3 v1 rfl rfl) k1
  have k2 : Reads enc W 9 v2 d2 p2 := h2
  have lt2 : ∀ x ∈ p2, x.block < W.heap.size := by obtain ⟨m, hm⟩ := k2; exact DataW.trod_lt m _ _ _ hm
  obtain ⟨s2, rfl, w2⟩ := in_str (hval 2 9 v2 rfl rfl) k2
  clear hA0 hval0
  refine (walk A0 m0 c0 l0 n1 s2 W r0 wc0 w0 ws0 wl1 w1 w2).mono fun e W' ⟨he, bel⟩ => ?_
  subst he
  exact ⟨_, rfl, _, _, _, [], _, [], hW', trodAll_mk1 (shut_bool Try.underlying4 _), (trodAll_cons_mk (Below.trod laidOut (by kernel_rfl) (of_decide_eq_true (by kernel_rfl)) k0 bel lt0) (trodAll_cons_mk (Below.trod laidOut (by kernel_rfl) (of_decide_eq_true (by kernel_rfl)) k1 bel lt1) (trodAll_cons_mk (Below.trod laidOut (by kernel_rfl) (of_decide_eq_true (by kernel_rfl)) k2 bel lt2) trodAll_mk0))), rfl, bel.frame _, fun h => by cases h⟩
theorem over : Rows.bloomMakesRow.holds Try.pinned (OpenSpec.ofChange Rows.bloomMakesSpec) :=
  OpenClaim.holds_of_wide 3 Try.f3 rfl rfl rfl rfl rfl rfl rfl ⟨rfl, rfl, rfl, rfl, rfl⟩ rfl rfl rfl rfl rfl (by kernel_rfl) Try.func3 (by kernel_rfl)
    (of_decide_eq_true (by kernel_rfl)) (by unfold Func.isWrapper; first | (rw [if_pos (by decide +kernel)]; kernel_rfl) | (rw [if_neg (by decide +kernel)]; exact ⟨rfl, rfl⟩))
    (fun os started H enc _ => lifted os started H enc)
theorem proved : Rows.BloomMakesSaid := over
end Go.Proofs.Ytpoogjdkjolkhaa.bloomMakes
