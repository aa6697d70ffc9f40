/- For every string (the first 100 bytes): what a key is of is the document's (P21.3, and the example at the head holds; the arguments stay as they were. No condition. -/
import Derived.Test.YtaoiokilnmpniaaInBox
import Derived.Test.YtaoiokilnmpniaaBoxAwake
import Derived.WalkKit
import Derived.ProofKit
import Derived.OpenShut
import Derived.ShutString
import Derived.ChangeOld
import Derived.Below
import Derived.Deep.RegionHeld
namespace Go.Proofs.Ytaoiokilnmpniaa.outboxSplits
open Go.ChangeShapes Go.WideShapes Go.ChangeAt Go.RowKit
set_option linter.unusedVariables false
theorem own : ownKnob Try.prog.godebug = none := by kernel_rfl
theorem laidOut : laidOutB Try.prog = true := by kernel_rfl
set_option maxRecDepth 100000 in
set_option maxHeartbeats 1000000 in
theorem walk (s0 : ByteArray) (w : World) (w0 : s0.size ≤ 9223372036854775807) :
    Calls Try.prog 5 #[.string s0] w fun e w' => e = .returned (.bool true) ∧ Below w.heap.size w w' := by
  -- heartbeats 1000000
  have hcut : s0.size ≤ 100 ∨ 100 < s0.size := by omega
  obtain ⟨s, hs, hsz⟩ : ∃ s : ByteArray, (s0.size ≤ 100 ∧ s = s0 ∨ 100 < s0.size ∧ s = s0.extract 0 100) ∧ s.size ≤ 100 := by
    rcases hcut with h | h
    · exact ⟨s0, .inl ⟨h, rfl⟩, h⟩
    · exact ⟨s0.extract 0 100, .inr ⟨h, rfl⟩, by rw [ByteArray.size_extract]; omega⟩
  clear hcut
  have hA := fun W => split_any s W (by omega)
  have hB := fun W => rsplit_any s W (by omega)
  unfold GivesSplit at hA hB
  rcases hO : splitO s with _ | ⟨k, x, n⟩
  all_goals
    rw [hO] at hA hB
    unfold splitV at hA hB
    have HA := Lib.hid hA
    have HB := Lib.hid hB
    clear hA hB hO hsz
    rcases hs with ⟨hcut, hs⟩ | ⟨hcut, hs⟩
    all_goals
      rw [hs] at HA HB
      clear hs
      first | (have hc2 : ¬ (100 : Int) < (s0.size : Int) := by omega) | (have hc2 : (100 : Int) < (s0.size : Int) := by omega)
      go_enter Try.func5, Try.ntmps5
      go_wp2_with fail
      refine (HA.out _).mono ?_
      rintro e v1 ⟨rfl, hb1⟩
      go_wp2_with fail
      refine (HB.out _).mono ?_
      rintro e v2 ⟨rfl, hb2⟩
      go_wp2_with (first | (go_at_call 18; refine (awake_any _).mono ?_; rintro e v3 ⟨rfl, hb3⟩))
      go_ret
      exact ⟨rfl, below_next (below_next hb1 hb2) hb3⟩
set_option maxRecDepth 100000 in
theorem lifted (os : Os) (started : os.Started) (H : Type) (enc : TypeId × Value → H) :
    ReturnsInHanded {} Try.checked os 5 .any (Rows.outboxSplitsSpec.pre6 enc Try.prog Try.f5 Rows.outboxSplitsRow.domain false) (Rows.outboxSplitsSpec.post enc Try.prog Try.f5 false true false false) := by
  refine returnsInHanded_of_change (C := Try.checked) own started (by kernel_rfl) Try.func5
    (ChangeSpec.witness6 (enc := enc) (C := Try.checked) false ⟨#[], #[.string ⟨#[]⟩], []⟩ 8 (by kernel_rfl) (by kernel_rfl) (by kernel_rfl) (by kernel_rfl)) ?_
  intro W base args ds gs before hval0 hW hcnd _
  have hval : ∀ (j : Nat) t v, Try.f5.params[j]? = some t → args[j]? = some v → Value.okWide Try.prog W .any base t v := hval0
  have hW' := hW
  obtain ⟨p, q, hA0, hV, rfl, hfz, hnd⟩ := hW
  have hA : DataW.TrodAll enc Try.prog W 0 (fun _ => true) true Try.f5.params.toList args.toList ds p := hA0
  rw [Try.params5] at hA hval
  obtain ⟨v0, vs0, d0, ds0, p0, q0, hargs, rfl, rfl, h0, t0⟩ := trodAll_cons hA
  obtain ⟨rfl, rfl, rfl⟩ := trodAll_nil t0
  obtain rfl : args = #[v0] := by cases args; simp_all
  obtain ⟨rfl, rfl⟩ := trodVars_none hV
  have k0 : Reads enc W 9 v0 d0 p0 := h0
  have lt0 : ∀ x ∈ p0, x.block < W.heap.size := by obtain ⟨m, hm⟩ := k0; exact DataW.trod_lt m _ _ _ hm
  obtain ⟨s0, rfl, w0⟩ := in_str (hval 0 9 v0 rfl rfl) k0
  clear hA0 hval0
  refine (walk s0 W w0).mono fun e W' ⟨he, bel⟩ => ?_
  subst he
  exact ⟨_, rfl, _, _, _, [], _, [], hW', trodAll_mk1 (shut_bool Try.underlying4 _), (trodAll_cons_mk (Below.trod laidOut (by kernel_rfl) (of_decide_eq_true (by kernel_rfl)) k0 bel lt0) trodAll_mk0), rfl, bel.frame _, fun h => by cases h⟩
theorem over : Rows.outboxSplitsRow.holds Try.pinned (OpenSpec.ofChange Rows.outboxSplitsSpec) :=
  OpenClaim.holds_of_wide 5 Try.f5 rfl rfl rfl rfl rfl rfl rfl ⟨rfl, rfl, rfl, rfl, rfl⟩ rfl rfl rfl rfl rfl (by kernel_rfl) Try.func5 (by kernel_rfl)
    (of_decide_eq_true (by kernel_rfl)) (by unfold Func.isWrapper; first | (rw [if_pos (by decide +kernel)]; kernel_rfl) | (rw [if_neg (by decide +kernel)]; exact ⟨rfl, rfl⟩))
    (fun os started H enc _ => lifted os started H enc)
theorem proved : Rows.OutboxSplitsSaid := over
end Go.Proofs.Ytaoiokilnmpniaa.outboxSplits
