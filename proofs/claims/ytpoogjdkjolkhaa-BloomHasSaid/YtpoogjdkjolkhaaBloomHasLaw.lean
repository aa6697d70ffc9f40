/- For every slice of bytes (of 301 to 8193 bytes the first 300) and every string: how many bits are set and how many there are, whether the bytes are a filter, and whether it has the string, are the document's (P11.2), and the example at the head holds; the arguments stay as they were. No condition. -/
import Derived.Test.YtpoogjdkjolkhaaInStrs
import Derived.Test.YtpoogjdkjolkhaaBloomFew
import Derived.Test.YtpoogjdkjolkhaaBloomRMake
import Derived.Test.YtpoogjdkjolkhaaBloomRHas
import Derived.Test.YtpoogjdkjolkhaaBloomRCount
import Derived.Test.YtpoogjdkjolkhaaBloomAwake
import Derived.WalkKit
import Derived.ProofKit
import Derived.OpenShut
import Derived.ShutString
import Derived.ChangeOld
import Derived.Below
import Derived.Deep.RegionHeld
namespace Go.Proofs.Ytpoogjdkjolkhaa.bloomHas
open Go.ChangeShapes Go.WideShapes Go.ChangeAt Go.RowKit
set_option linter.unusedVariables false
theorem own : ownKnob Try.prog.godebug = none := by kernel_rfl
theorem laidOut : laidOutB Try.prog = true := by kernel_rfl
set_option maxRecDepth 100000 in
set_option maxHeartbeats 2000000 in
theorem walk (A0 : Option Addr) (m0 c0 : Nat) (l0 : List Nat) (s1 : ByteArray) (w : World) (r0 : Rd w A0 m0 l0) (wc0 : m0 ≤ c0) (w0 : m0 ≤ 9223372036854775807) (w1 : s1.size ≤ 9223372036854775807) :
    Calls Try.prog 4 #[.slice A0 m0 c0, .string s1] w fun e w' => e = .returned (.bool true) ∧ Below w.heap.size w w' := by
  -- heartbeats 2000000
  by_cases hcut : 300 < m0 ∧ m0 ≤ 8193
  · obtain ⟨h300, h8193⟩ := hcut
    have hi300 : 300 < (m0 : Int) := by omega
    have hi8193 : (m0 : Int) ≤ 8193 := by omega
    have hr300 := r0.take (k := 300) (by omega)
    have hcap : (300 : Int) ≤ (c0 : Int) := by omega
    have hck := fun W hb => check_any A0 300 c0 (l0.take 300) W (hr300.below hb) (by omega)
    have his := fun W hb => is_any A0 300 c0 (l0.take 300) W (hr300.below hb) (by omega)
    have hco := fun W hb => count_any A0 300 c0 (l0.take 300) W (hr300.below hb) (by omega) (by omega)
    have hrc := fun W hb => rcount_any A0 300 c0 (l0.take 300) W (hr300.below hb) (by omega)
    have hha := fun W hb => has_any A0 300 c0 (l0.take 300) s1 W (hr300.below hb) (by omega) w1
    have hrh := fun W hb => rhas_any A0 300 c0 (l0.take 300) s1 W (hr300.below hb) (by omega) w1
    unfold GivesCount at hco hrc
    generalize hasF (l0.take 300) s1 = hb0 at *
    cases hI : isF (l0.take 300)
    all_goals
      rw [hI] at hck his hco hrc
      first | rw [show errOf true = 0 from rfl] at hck | rw [show errOf false = 110 from rfl] at hck
      first | rw [if_pos rfl] at hco hrc | rw [if_neg (by decide)] at hco hrc
      have Hck := Lib.hid hck
      have His := Lib.hid his
      have Hco := Lib.hid hco
      have Hrc := Lib.hid hrc
      have Hha := Lib.hid hha
      have Hrh := Lib.hid hrh
      clear hck his hco hrc hha hrh hI
      go_enter Try.func4, Try.ntmps4
      go_wp2_with (first | (go_at_call 15; refine (Hco.out _ (Below.refl _ _)).mono ?_; rintro e v1 ⟨rfl, rfl⟩) | (go_at_call 16; refine (Hrc.out _ (Below.refl _ _)).mono ?_; rintro e v1 ⟨rfl, rfl⟩) | (go_at_call 17; refine (Hha.out _ (Below.refl _ _)).mono ?_; rintro e v1 ⟨rfl, hb1⟩) | (go_at_call 18; refine (Hrh.out _ hb1).mono ?_; rintro e v2 ⟨rfl, hb2⟩; have hb12 := below_next hb1 hb2) | (go_at_call 19; refine (Hck.out _ hb12).mono ?_; rintro e v3 ⟨rfl, rfl⟩) | (go_at_call 20; refine (His.out _ hb12).mono ?_; rintro e v3 ⟨rfl, rfl⟩) | (go_at_call 14; refine (awake_any _).mono ?_; rintro e v5 ⟨rfl, hb5⟩))
      go_ret
      exact ⟨rfl, below_next hb12 hb5⟩
  · by_cases h300 : 300 < m0
    · have hi300 : 300 < (m0 : Int) := by omega
      have hi8193 : ¬ (m0 : Int) ≤ 8193 := by omega
      have hck := fun W hb => check_any A0 m0 c0 l0 W (r0.below hb) w0
      have his := fun W hb => is_any A0 m0 c0 l0 W (r0.below hb) w0
      have hco := fun W hb => count_any A0 m0 c0 l0 W (r0.below hb) wc0 w0
      have hrc := fun W hb => rcount_any A0 m0 c0 l0 W (r0.below hb) w0
      have hha := fun W hb => has_any A0 m0 c0 l0 s1 W (r0.below hb) w0 w1
      have hrh := fun W hb => rhas_any A0 m0 c0 l0 s1 W (r0.below hb) w0 w1
      unfold GivesCount at hco hrc
      generalize hasF l0 s1 = hb0 at *
      cases hI : isF l0
      all_goals
        rw [hI] at hck his hco hrc
        first | rw [show errOf true = 0 from rfl] at hck | rw [show errOf false = 110 from rfl] at hck
        first | rw [if_pos rfl] at hco hrc | rw [if_neg (by decide)] at hco hrc
        have Hck := Lib.hid hck
        have His := Lib.hid his
        have Hco := Lib.hid hco
        have Hrc := Lib.hid hrc
        have Hha := Lib.hid hha
        have Hrh := Lib.hid hrh
        clear hck his hco hrc hha hrh hI
        go_enter Try.func4, Try.ntmps4
        go_wp2_with (first | (go_at_call 15; refine (Hco.out _ (Below.refl _ _)).mono ?_; rintro e v1 ⟨rfl, rfl⟩) | (go_at_call 16; refine (Hrc.out _ (Below.refl _ _)).mono ?_; rintro e v1 ⟨rfl, rfl⟩) | (go_at_call 17; refine (Hha.out _ (Below.refl _ _)).mono ?_; rintro e v1 ⟨rfl, hb1⟩) | (go_at_call 18; refine (Hrh.out _ hb1).mono ?_; rintro e v2 ⟨rfl, hb2⟩; have hb12 := below_next hb1 hb2) | (go_at_call 19; refine (Hck.out _ hb12).mono ?_; rintro e v3 ⟨rfl, rfl⟩) | (go_at_call 20; refine (His.out _ hb12).mono ?_; rintro e v3 ⟨rfl, rfl⟩) | (go_at_call 14; refine (awake_any _).mono ?_; rintro e v5 ⟨rfl, hb5⟩))
        go_ret
        exact ⟨rfl, below_next hb12 hb5⟩
    · have hi300 : ¬ 300 < (m0 : Int) := by omega
      have hck := fun W hb => check_any A0 m0 c0 l0 W (r0.below hb) w0
      have his := fun W hb => is_any A0 m0 c0 l0 W (r0.below hb) w0
      have hco := fun W hb => count_any A0 m0 c0 l0 W (r0.below hb) wc0 w0
      have hrc := fun W hb => rcount_any A0 m0 c0 l0 W (r0.below hb) w0
      have hha := fun W hb => has_any A0 m0 c0 l0 s1 W (r0.below hb) w0 w1
      have hrh := fun W hb => rhas_any A0 m0 c0 l0 s1 W (r0.below hb) w0 w1
      unfold GivesCount at hco hrc
      generalize hasF l0 s1 = hb0 at *
      cases hI : isF l0
      all_goals
        rw [hI] at hck his hco hrc
        first | rw [show errOf true = 0 from rfl] at hck | rw [show errOf false = 110 from rfl] at hck
        first | rw [if_pos rfl] at hco hrc | rw [if_neg (by decide)] at hco hrc
        have Hck := Lib.hid hck
        have His := Lib.hid his
        have Hco := Lib.hid hco
        have Hrc := Lib.hid hrc
        have Hha := Lib.hid hha
        have Hrh := Lib.hid hrh
        clear hck his hco hrc hha hrh hI
        go_enter Try.func4, Try.ntmps4
        go_wp2_with (first | (go_at_call 15; refine (Hco.out _ (Below.refl _ _)).mono ?_; rintro e v1 ⟨rfl, rfl⟩) | (go_at_call 16; refine (Hrc.out _ (Below.refl _ _)).mono ?_; rintro e v1 ⟨rfl, rfl⟩) | (go_at_call 17; refine (Hha.out _ (Below.refl _ _)).mono ?_; rintro e v1 ⟨rfl, hb1⟩) | (go_at_call 18; refine (Hrh.out _ hb1).mono ?_; rintro e v2 ⟨rfl, hb2⟩; have hb12 := below_next hb1 hb2) | (go_at_call 19; refine (Hck.out _ hb12).mono ?_; rintro e v3 ⟨rfl, rfl⟩) | (go_at_call 20; refine (His.out _ hb12).mono ?_; rintro e v3 ⟨rfl, rfl⟩) | (go_at_call 14; refine (awake_any _).mono ?_; rintro e v5 ⟨rfl, hb5⟩))
        go_ret
        exact ⟨rfl, below_next hb12 hb5⟩
set_option maxRecDepth 100000 in
theorem lifted (os : Os) (started : os.Started) (H : Type) (enc : TypeId × Value → H) :
    ReturnsInHanded {} Try.checked os 4 .any (Rows.bloomHasSpec.pre6 enc Try.prog Try.f4 Rows.bloomHasRow.domain false) (Rows.bloomHasSpec.post enc Try.prog Try.f4 false true false false) := by
  refine returnsInHanded_of_change (C := Try.checked) own started (by kernel_rfl) Try.func4
    (ChangeSpec.witness6 (enc := enc) (C := Try.checked) false ⟨#[], #[.slice none 0 0, .string ⟨#[]⟩], []⟩ 8 (by kernel_rfl) (by kernel_rfl) (by kernel_rfl) (by kernel_rfl)) ?_
  intro W base args ds gs before hval0 hW hcnd _
  have hval : ∀ (j : Nat) t v, Try.f4.params[j]? = some t → args[j]? = some v → Value.okWide Try.prog W .any base t v := hval0
  have hW' := hW
  obtain ⟨p, q, hA0, hV, rfl, hfz, hnd⟩ := hW
  have hA : DataW.TrodAll enc Try.prog W 0 (fun _ => true) true Try.f4.params.toList args.toList ds p := hA0
  rw [Try.params4] at hA hval
  obtain ⟨v0, vs0, d0, ds0, p0, q0, hargs, rfl, rfl, h0, t0⟩ := trodAll_cons hA
  obtain ⟨v1, vs1, d1, ds1, p1, q1, rfl, rfl, rfl, h1, t1⟩ := trodAll_cons t0
  obtain ⟨rfl, rfl, rfl⟩ := trodAll_nil t1
  obtain rfl : args = #[v0, v1] := by cases args; simp_all
  obtain ⟨rfl, rfl⟩ := trodVars_none hV
  have k0 : Reads enc W 24 v0 d0 p0 := h0
  have lt0 : ∀ x ∈ p0, x.block < W.heap.size := by obtain ⟨m, hm⟩ := k0; exact DataW.trod_lt m _ _ _ hm
  obtain ⟨A0, m0, c0, l0, rfl, r0, wc0, w0⟩ := in_bytes (hval 0 24 v0 rfl rfl) k0
  have k1 : Reads enc W 9 v1 d1 p1 := h1
  have lt1 : ∀ x ∈ p1, x.block < W.heap.size := by obtain ⟨m, hm⟩ := k1; exact DataW.trod_lt m _ _ _ hm
  obtain ⟨s1, rfl, w1⟩ := in_str (hval 1 9 v1 rfl rfl) k1
  clear hA0 hval0
  refine (walk A0 m0 c0 l0 s1 W r0 wc0 w0 w1).mono fun e W' ⟨he, bel⟩ => ?_
  subst he
  exact ⟨_, rfl, _, _, _, [], _, [], hW', trodAll_mk1 (shut_bool Try.underlying4 _), (trodAll_cons_mk (Below.trod laidOut (by kernel_rfl) (of_decide_eq_true (by kernel_rfl)) k0 bel lt0) (trodAll_cons_mk (Below.trod laidOut (by kernel_rfl) (of_decide_eq_true (by kernel_rfl)) k1 bel lt1) trodAll_mk0)), rfl, bel.frame _, fun h => by cases h⟩
theorem over : Rows.bloomHasRow.holds Try.pinned (OpenSpec.ofChange Rows.bloomHasSpec) :=
  OpenClaim.holds_of_wide 4 Try.f4 rfl rfl rfl rfl rfl rfl rfl ⟨rfl, rfl, rfl, rfl, rfl⟩ rfl rfl rfl rfl rfl (by kernel_rfl) Try.func4 (by kernel_rfl)
    (of_decide_eq_true (by kernel_rfl)) (by unfold Func.isWrapper; first | (rw [if_pos (by decide +kernel)]; kernel_rfl) | (rw [if_neg (by decide +kernel)]; exact ⟨rfl, rfl⟩))
    (fun os started H enc _ => lifted os started H enc)
theorem proved : Rows.BloomHasSaid := over
end Go.Proofs.Ytpoogjdkjolkhaa.bloomHas
