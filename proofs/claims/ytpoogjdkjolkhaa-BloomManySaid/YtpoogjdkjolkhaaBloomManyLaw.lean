/- For every number of keys from 3996 to 4251 (all of them empty): Make tells ErrMany above 4096, and makes a filter of so many bytes else (P11.1), and the example at the head holds. No condition. -/
import Derived.Test.YtpoogjdkjolkhaaInStrs
import Derived.Test.YtpoogjdkjolkhaaBloomFew
import Derived.Test.YtpoogjdkjolkhaaBloomRMake
import Derived.Test.YtpoogjdkjolkhaaBloomRHas
import Derived.Test.YtpoogjdkjolkhaaBloomRCount
import Derived.Test.YtpoogjdkjolkhaaBloomAwake
import Derived.WalkKit
import Derived.ProofKit
import Derived.OpenShut
import Derived.ShutString
import Derived.ChangeOld
import Derived.Below
import Derived.Deep.RegionHeld
namespace Go.Proofs.Ytpoogjdkjolkhaa.bloomMany
open Go.ChangeShapes Go.WideShapes Go.ChangeAt Go.RowKit
set_option linter.unusedVariables false
theorem own : ownKnob Try.prog.godebug = none := by kernel_rfl
theorem laidOut : laidOutB Try.prog = true := by kernel_rfl
set_option maxRecDepth 100000 in
set_option maxHeartbeats 1000000 in
theorem walk (n0 : Nat) (w : World) (w0 : n0 < 256) :
    Calls Try.prog 5 #[.int .u8 (n0 : Int)] w fun e w' => e = .returned (.bool true) ∧ Below w.heap.size w w' := by
  -- heartbeats 1000000
  obtain ⟨N, hN⟩ : ∃ N, N = 3996 + n0 := ⟨_, rfl⟩
  have hmk := make_row oneStr N (by omega)
  have hNi : (3996 : Int) + (n0 : Int) = (N : Int) := by omega
  have hz := (OwnV.zeros w 9 (.string ⟨#[]⟩) w.heap.size N (Nat.le_refl _) (by omega)).rd
  have hsv : List.replicate N (Value.string ⟨#[]⟩) = sv (List.replicate N ⟨#[]⟩) := by simp [sv]
  rw [hsv] at hz
  have hm := fun c => make_any (some ⟨w.heap.size, 0, none⟩) N c 1 (List.replicate N ⟨#[]⟩) _ hz.strs (by intro s hs; rw [List.eq_of_mem_replicate hs]; decide)
  have hx : Below w.heap.size w (w.alloc (.cells (madeCells #[.string ⟨#[]⟩] N) 9)) := (Below.refl _ _).alloc (Nat.le_refl _) _
  have hbig : 4096 < (N : Int) ↔ 4096 < N := by omega
  by_cases h : 4096 < N
  · have h' : 4096 < (N : Int) := by omega
    have e : makeF (List.replicate N ⟨#[]⟩) 1 = ([], 3) := by
      unfold makeF
      rw [if_neg (by omega), List.length_replicate, if_pos h]
    rw [e] at hm
    have Hm := Lib.hid hm
    clear hm hz hsv e hN hbig
    go_enter Try.func5, Try.ntmps5
    go_wp2_with fail
    refine (Hm.out _).mono ?_
    rintro e v1 ⟨A1, c1, rfl, ho1, hb1⟩
    have hx1 := below_next hx hb1
    go_wp2_with (first | (go_at_call 14; refine (awake_any _).mono ?_; rintro e v5 ⟨rfl, hb5⟩))
    go_ret
    exact ⟨rfl, below_next hx1 hb5⟩
  · have h' : ¬ 4096 < (N : Int) := by omega
    have e : ∃ l : List Nat, makeF (List.replicate N ⟨#[]⟩) 1 = (l, 0) ∧ l.length = 1 + (N + 7) / 8 := by
      refine ⟨Bl.filter ((List.replicate N ⟨#[]⟩).map hashN) (Bl.sizeOf N 1) (Bl.probesOf 1), ?_, ?_⟩
      · unfold makeF
        rw [if_neg (by omega), List.length_replicate, if_neg h]
        rfl
      · unfold Bl.filter
        rw [List.length_cons, Bl.field_length]
        unfold Bl.sizeOf
        rw [Nat.max_def, Nat.mul_one]
        split <;> omega
    obtain ⟨l, e, hl⟩ := e
    rw [e] at hm
    have Hm := Lib.hid hm
    have hl2 : ((l.length : Int) == 1 + ((N : Int) + 7) / 8) = true := by rw [beq_iff_eq]; omega
    clear hm hz hsv e hN hbig hl
    go_enter Try.func5, Try.ntmps5
    go_wp2_with fail
    refine (Hm.out _).mono ?_
    rintro e v1 ⟨A1, c1, rfl, ho1, hb1⟩
    have hx1 := below_next hx hb1
    go_wp2_with (first | (go_at_call 14; refine (awake_any _).mono ?_; rintro e v5 ⟨rfl, hb5⟩))
    go_ret
    exact ⟨rfl, below_next hx1 hb5⟩
set_option maxRecDepth 100000 in
theorem lifted (os : Os) (started : os.Started) (H : Type) (enc : TypeId × Value → H) :
    ReturnsInHanded {} Try.checked os 5 .any (Rows.bloomManySpec.pre6 enc Try.prog Try.f5 Rows.bloomManyRow.domain false) (Rows.bloomManySpec.post enc Try.prog Try.f5 false true false false) := by
  refine returnsInHanded_of_change (C := Try.checked) own started (by kernel_rfl) Try.func5
    (ChangeSpec.witness6 (enc := enc) (C := Try.checked) false ⟨#[], #[.int .u8 0], []⟩ 8 (by kernel_rfl) (by kernel_rfl) (by kernel_rfl) (by kernel_rfl)) ?_
  intro W base args ds gs before hval0 hW hcnd _
  have hval : ∀ (j : Nat) t v, Try.f5.params[j]? = some t → args[j]? = some v → Value.okWide Try.prog W .any base t v := hval0
  have hW' := hW
  obtain ⟨p, q, hA0, hV, rfl, hfz, hnd⟩ := hW
  have hA : DataW.TrodAll enc Try.prog W 0 (fun _ => true) true Try.f5.params.toList args.toList ds p := hA0
  rw [Try.params5] at hA hval
  obtain ⟨v0, vs0, d0, ds0, p0, q0, hargs, rfl, rfl, h0, t0⟩ := trodAll_cons hA
  obtain ⟨rfl, rfl, rfl⟩ := trodAll_nil t0
  obtain rfl : args = #[v0] := by cases args; simp_all
  obtain ⟨rfl, rfl⟩ := trodVars_none hV
  have k0 : Reads enc W 5 v0 d0 p0 := h0
  have lt0 : ∀ x ∈ p0, x.block < W.heap.size := by obtain ⟨m, hm⟩ := k0; exact DataW.trod_lt m _ _ _ hm
  obtain ⟨n0, rfl, w0⟩ := in_u8 (hval 0 5 v0 rfl rfl) k0
  clear hA0 hval0
  refine (walk n0 W w0).mono fun e W' ⟨he, bel⟩ => ?_
  subst he
  exact ⟨_, rfl, _, _, _, [], _, [], hW', trodAll_mk1 (shut_bool Try.underlying4 _), (trodAll_cons_mk (Below.trod laidOut (by kernel_rfl) (of_decide_eq_true (by kernel_rfl)) k0 bel lt0) trodAll_mk0), rfl, bel.frame _, fun h => by cases h⟩
theorem over : Rows.bloomManyRow.holds Try.pinned (OpenSpec.ofChange Rows.bloomManySpec) :=
  OpenClaim.holds_of_wide 5 Try.f5 rfl rfl rfl rfl rfl rfl rfl ⟨rfl, rfl, rfl, rfl, rfl⟩ rfl rfl rfl rfl rfl (by kernel_rfl) Try.func5 (by kernel_rfl)
    (of_decide_eq_true (by kernel_rfl)) (by unfold Func.isWrapper; first | (rw [if_pos (by decide +kernel)]; kernel_rfl) | (rw [if_neg (by decide +kernel)]; exact ⟨rfl, rfl⟩))
    (fun os started H enc _ => lifted os started H enc)
theorem proved : Rows.BloomManySaid := over
end Go.Proofs.Ytpoogjdkjolkhaa.bloomMany
