/- For any number and any pair: a map that New did not make answers as one that nobody made. -/
import Derived.Test.YtaaodhnenaoheaaSpAwake
import Derived.Test.YtaaodhnenaoheaaInPair
import Derived.WalkKit
import Derived.ProofKit
import Derived.OpenShut
import Derived.ShutString
import Derived.ChangeOld
import Derived.Below
import Derived.Deep.RegionHeld
namespace Go.Proofs.Ytaaodhnenaoheaa.spaceNobody
open Go.ChangeShapes Go.WideShapes Go.ChangeAt Go.RowKit
set_option linter.unusedVariables false
theorem own : ownKnob Try.prog.godebug = none := by kernel_rfl
theorem laidOut : laidOutB Try.prog = true := by kernel_rfl
/-- What three new blocks hold, in whatever world comes of them. -/
theorem three_mine (w : World) (a b c : Array Value) (s t u : TypeId) : ∀ w', Below (((w.alloc (.cells a s)).alloc (.cells b t)).alloc (.cells c u)).heap.size (((w.alloc (.cells a s)).alloc (.cells b t)).alloc (.cells c u)) w' → Holds w' w.heap.size a.toList ∧ Holds w' (w.heap.size + 1) b.toList ∧ Holds w' (w.heap.size + 1 + 1) c.toList := by
  intro w' hb
  have h1 := ((Holds.new w a s).alloc (.cells b t)).alloc (.cells c u)
  have h2 := (Holds.new (w.alloc (.cells a s)) b t).alloc (.cells c u)
  have h3 := Holds.new ((w.alloc (.cells a s)).alloc (.cells b t)) c u
  rw [show (w.alloc (.cells a s)).heap.size = w.heap.size + 1 by simp] at h2
  rw [show ((w.alloc (.cells a s)).alloc (.cells b t)).heap.size = w.heap.size + 1 + 1 by simp] at h3
  exact ⟨h1.below hb, h2.below hb, h3.below hb⟩
set_option maxRecDepth 100000 in
set_option maxHeartbeats 2000000 in
theorem walk (n0 : Int) (a1 b1 : Int) (w : World) (wl0 : -9223372036854775808 ≤ n0) (w0 : n0 ≤ 9223372036854775807) (wa1 : Small a1) (wb1 : Small b1) :
    Calls Try.prog 7 #[.int .i64 n0, pairV a1 b1] w fun e w' => e = .returned (.bool true) ∧ Below w.heap.size w w' := by
-- heartbeats 2000000
  have hA := fun W => awake_any W
  have HA := Lib.hid hA
  clear hA
  go_enter Try.func7, Try.ntmps7
  unfold pairV
  go_wp2
  have hw0 : Below w.heap.size w (((w.alloc (.cells #[.int .i64 a1, .int .i64 b1] 56)).alloc (.cells #[.bool false, .int .i64 0, .int .u64 0, .int .u64 0, .int .u64 0, .int .u64 0, .int .u64 0, .int .u64 0, .int .u64 0, .int .u64 0] 64)).alloc (.cells #[.pointer none, .pointer (some ⟨w.heap.size + 1, 0, none⟩)] 26)) := (((Below.refl _ _).alloc (Nat.le_refl _) _).alloc (by simp) _).alloc (by simp; omega) _
  have hcs := three_mine w #[.int .i64 a1, .int .i64 b1] #[.bool false, .int .i64 0, .int .u64 0, .int .u64 0, .int .u64 0, .int .u64 0, .int .u64 0, .int .u64 0, .int .u64 0, .int .u64 0] #[.pointer none, .pointer (some ⟨w.heap.size + 1, 0, none⟩)] 56 64 26
  generalize (((w.alloc (.cells #[.int .i64 a1, .int .i64 b1] 56)).alloc (.cells #[.bool false, .int .i64 0, .int .u64 0, .int .u64 0, .int .u64 0, .int .u64 0, .int .u64 0, .int .u64 0, .int .u64 0, .int .u64 0] 64)).alloc (.cells #[.pointer none, .pointer (some ⟨w.heap.size + 1, 0, none⟩)] 26)) = W at *
  have HC := Lib.hid hcs
  clear hcs
  go_loopw [7] (fun i wr => ∃ k : Nat, k ≤ 2 ∧ i = .int .i64 (k : Int) ∧ Below W.heap.size W wr) (fun i _ => 2 - (intOf i).toNat)
  case atStart => exact ⟨0, by omega, rfl, Below.refl _ _⟩
  case round =>
    obtain ⟨k, hk, rfl, hb⟩ := hrel
    obtain ⟨k0, k1, k2⟩ := HC.out wr hb
    have p0 := k0.at_ 0 rfl
    have p1 := k0.at_ 1 rfl
    have q0 := k2.at_ 0 rfl
    have q1 := k2.at_ 1 rfl
    by_cases hk0 : k = 0
    · subst hk0
      have hN : ∀ W', Below W.heap.size W W' → Nobody none W' := fun W' hW' => isMade_nil W'
      have HN := Lib.hid hN
      have hlt := k0.1
      clear hN k0 k1 k2
      go_wp2_with (first | (go_at_call 21; refine (nobody_take _ n0 _ (HN.out _ (by first | exact hb | exact hb.alloc hb.size _ | exact (hb.alloc hb.size _).alloc (hb.alloc hb.size _).size _))).mono ?_; rintro e v9 ⟨rfl, rfl⟩) | (go_at_call 17; refine (nobody_claim _ _ 1 1 _ (HN.out _ (by first | exact hb | exact hb.alloc hb.size _ | exact (hb.alloc hb.size _).alloc (hb.alloc hb.size _).size _))).mono ?_; rintro e v9 ⟨rfl, rfl⟩) | (go_at_call 19; refine (nobody_give _ _ 1 1 _ (HN.out _ (by first | exact hb | exact hb.alloc hb.size _ | exact (hb.alloc hb.size _).alloc (hb.alloc hb.size _).size _))).mono ?_; rintro e v9 ⟨rfl, rfl⟩) | (go_at_call 27; refine (nobody_free _ _ (HN.out _ (by first | exact hb | exact hb.alloc hb.size _ | exact (hb.alloc hb.size _).alloc (hb.alloc hb.size _).size _))).mono ?_; rintro e v9 ⟨rfl, rfl⟩) | (go_at_call 25; refine (nobody_len _ _ (HN.out _ (by first | exact hb | exact hb.alloc hb.size _ | exact (hb.alloc hb.size _).alloc (hb.alloc hb.size _).size _))).mono ?_; rintro e v9 ⟨rfl, rfl⟩) | (go_at_call 26; refine (nobody_taken _ _ (HN.out _ (by first | exact hb | exact hb.alloc hb.size _ | exact (hb.alloc hb.size _).alloc (hb.alloc hb.size _).size _))).mono ?_; rintro e v9 ⟨rfl, rfl⟩) | (go_at_call 24; refine (nobody_fork _ _ (HN.out _ (by first | exact hb | exact hb.alloc hb.size _ | exact (hb.alloc hb.size _).alloc (hb.alloc hb.size _).size _))).mono ?_; rintro e v9 ⟨rfl, rfl⟩))
      go_roundw
      case rel => exact ⟨1, by omega, by go_num, (hb.alloc hb.size _).alloc (hb.alloc hb.size _).size _⟩
      case measure => simp [intOf]
    · by_cases hk1 : k = 1
      · subst hk1
        have hN : ∀ W', Below W.heap.size W W' → Nobody (some ⟨w.heap.size + 1, 0, none⟩) W' := fun W' hW' => isMade_any _ false W' ((HC.out W' hW').2.1.at_ 0 rfl)
        have HN := Lib.hid hN
        have hlt := k0.1
        clear hN k0 k1 k2
        go_wp2_with (first | (go_at_call 21; refine (nobody_take _ n0 _ (HN.out _ (by first | exact hb | exact hb.alloc hb.size _ | exact (hb.alloc hb.size _).alloc (hb.alloc hb.size _).size _))).mono ?_; rintro e v9 ⟨rfl, rfl⟩) | (go_at_call 17; refine (nobody_claim _ _ 1 1 _ (HN.out _ (by first | exact hb | exact hb.alloc hb.size _ | exact (hb.alloc hb.size _).alloc (hb.alloc hb.size _).size _))).mono ?_; rintro e v9 ⟨rfl, rfl⟩) | (go_at_call 19; refine (nobody_give _ _ 1 1 _ (HN.out _ (by first | exact hb | exact hb.alloc hb.size _ | exact (hb.alloc hb.size _).alloc (hb.alloc hb.size _).size _))).mono ?_; rintro e v9 ⟨rfl, rfl⟩) | (go_at_call 27; refine (nobody_free _ _ (HN.out _ (by first | exact hb | exact hb.alloc hb.size _ | exact (hb.alloc hb.size _).alloc (hb.alloc hb.size _).size _))).mono ?_; rintro e v9 ⟨rfl, rfl⟩) | (go_at_call 25; refine (nobody_len _ _ (HN.out _ (by first | exact hb | exact hb.alloc hb.size _ | exact (hb.alloc hb.size _).alloc (hb.alloc hb.size _).size _))).mono ?_; rintro e v9 ⟨rfl, rfl⟩) | (go_at_call 26; refine (nobody_taken _ _ (HN.out _ (by first | exact hb | exact hb.alloc hb.size _ | exact (hb.alloc hb.size _).alloc (hb.alloc hb.size _).size _))).mono ?_; rintro e v9 ⟨rfl, rfl⟩) | (go_at_call 24; refine (nobody_fork _ _ (HN.out _ (by first | exact hb | exact hb.alloc hb.size _ | exact (hb.alloc hb.size _).alloc (hb.alloc hb.size _).size _))).mono ?_; rintro e v9 ⟨rfl, rfl⟩))
        go_roundw
        case rel => exact ⟨2, by omega, by go_num, (hb.alloc hb.size _).alloc (hb.alloc hb.size _).size _⟩
        case measure => simp [intOf]
      · have hk2 : k = 2 := by omega
        subst hk2
        clear k0 k1 k2
        go_wp2_with (go_at_call 15; refine (HA.out _).mono ?_; rintro e v4 ⟨rfl, hb4⟩)
        go_ret
        exact ⟨rfl, below_next (below_next hw0 hb) hb4⟩
set_option maxRecDepth 100000 in
theorem lifted (os : Os) (started : os.Started) (H : Type) (enc : TypeId × Value → H) :
    ReturnsInHanded {} Try.checked os 7 .any (Rows.spaceNobodySpec.pre6 enc Try.prog Try.f7 Rows.spaceNobodyRow.domain false) (Rows.spaceNobodySpec.post enc Try.prog Try.f7 false true false false) := by
  refine returnsInHanded_of_change (C := Try.checked) own started (by kernel_rfl) Try.func7
    (ChangeSpec.witness6 (enc := enc) (C := Try.checked) false ⟨#[], #[.int .i64 0, .agg #[.int .i64 0, .int .i64 0]], []⟩ 8 (by kernel_rfl) (by kernel_rfl) (by kernel_rfl) (by kernel_rfl)) ?_
  intro W base args ds gs before hval0 hW hcnd _
  have hval : ∀ (j : Nat) t v, Try.f7.params[j]? = some t → args[j]? = some v → Value.okWide Try.prog W .any base t v := hval0
  have hW' := hW
  obtain ⟨p, q, hA0, hV, rfl, hfz, hnd⟩ := hW
  have hA : DataW.TrodAll enc Try.prog W 0 (fun _ => true) true Try.f7.params.toList args.toList ds p := hA0
  rw [Try.params7] at hA hval
  obtain ⟨v0, vs0, d0, ds0, p0, q0, hargs, rfl, rfl, h0, t0⟩ := trodAll_cons hA
  obtain ⟨v1, vs1, d1, ds1, p1, q1, rfl, rfl, rfl, h1, t1⟩ := trodAll_cons t0
  obtain ⟨rfl, rfl, rfl⟩ := trodAll_nil t1
  obtain rfl : args = #[v0, v1] := by cases args; simp_all
  obtain ⟨rfl, rfl⟩ := trodVars_none hV
  have k0 : Reads enc W 3 v0 d0 p0 := h0
  have lt0 : ∀ x ∈ p0, x.block < W.heap.size := by obtain ⟨m, hm⟩ := k0; exact DataW.trod_lt m _ _ _ hm
  obtain ⟨n0, rfl, wl0, w0⟩ := in_int (hval 0 3 v0 rfl rfl) k0
  have k1 : Reads enc W 56 v1 d1 p1 := h1
  have lt1 : ∀ x ∈ p1, x.block < W.heap.size := by obtain ⟨m, hm⟩ := k1; exact DataW.trod_lt m _ _ _ hm
  obtain ⟨a1, b1, rfl, wa1, wb1⟩ := in_pair (hval 1 56 v1 rfl rfl) k1
  clear hA0 hval0
  refine (walk n0 a1 b1 W wl0 w0 wa1 wb1).mono fun e W' ⟨he, bel⟩ => ?_
  subst he
  exact ⟨_, rfl, _, _, _, [], _, [], hW', trodAll_mk1 (shut_bool Try.underlying4 _), (trodAll_cons_mk (Below.trod laidOut (by kernel_rfl) (of_decide_eq_true (by kernel_rfl)) k0 bel lt0) (trodAll_cons_mk (Below.trod laidOut (by kernel_rfl) (of_decide_eq_true (by kernel_rfl)) k1 bel lt1) trodAll_mk0)), rfl, bel.frame _, fun h => by cases h⟩
theorem over : Rows.spaceNobodyRow.holds Try.pinned (OpenSpec.ofChange Rows.spaceNobodySpec) :=
  OpenClaim.holds_of_wide 7 Try.f7 rfl rfl rfl rfl rfl rfl rfl ⟨rfl, rfl, rfl, rfl, rfl⟩ rfl rfl rfl rfl rfl (by kernel_rfl) Try.func7 (by kernel_rfl)
    (of_decide_eq_true (by kernel_rfl)) (by unfold Func.isWrapper; first | (rw [if_pos (by decide +kernel)]; kernel_rfl) | (rw [if_neg (by decide +kernel)]; exact ⟨rfl, rfl⟩))
    (fun os started H enc _ => lifted os started H enc)
theorem proved : Rows.SpaceNobodySaid := over
end Go.Proofs.Ytaaodhnenaoheaa.spaceNobody
