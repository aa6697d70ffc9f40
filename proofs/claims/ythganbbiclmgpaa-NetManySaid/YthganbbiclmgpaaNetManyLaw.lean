/- For every number of a mail and either choice: a new net takes 256 mails, refuses one more and a twin with the error of too many (P26.1, P26.2), gives the chosen mail as it was sent, and then has room for one again; the example at the head holds. No condition. -/
import Derived.Test.YthganbbiclmgpaaMlMany
import Derived.Test.YthganbbiclmgpaaIns
import Derived.Test.YthganbbiclmgpaaHolds
import Derived.WalkKit
import Derived.ProofKit
import Derived.OpenShut
import Derived.ShutString
import Derived.ChangeOld
import Derived.Below
import Derived.Deep.RegionHeld
namespace Go.Proofs.Ythganbbiclmgpaa.netMany
open Go.ChangeShapes Go.WideShapes Go.ChangeAt Go.RowKit
set_option linter.unusedVariables false
theorem own : ownKnob Try.prog.godebug = none := by kernel_rfl
theorem laidOut : laidOutB Try.prog = true := by kernel_rfl
set_option maxRecDepth 100000 in
set_option maxHeartbeats 8000000 in
theorem walk (n0 : Nat) (b1 : Bool) (w : World) (w0 : n0 < 256) :
    Calls Try.prog 4 #[.int .u8 (n0 : Int), .bool b1] w fun e w' => e = .returned (.bool true) ∧ Below w.heap.size w w' := by
  -- heartbeats 8000000
  have HS := Lib.hid (fun g cap A l m wx h hl => send_any g cap A l m wx h hl)
  have HT := Lib.hid (fun g cap A l i wx h hl => twin_any g cap A l i wx h hl)
  have HK := Lib.hid (fun g cap A l i wx h hl => take_any g cap A l i wx h hl)
  have HL := Lib.hid (fun g cap A l wx h => len_any g cap A l wx h)
  have HA := Lib.hid (fun wx => awake_any wx)
  go_enter Try.func4, Try.ntmps4
  go_wp2_with fail
  refine (new_any w).mono ?_
  rintro e w1 ⟨rfl, h1, hb1⟩
  have H1 := Lib.hid h1
  have HB1 := Lib.hid hb1
  have hg := h1.box.1
  clear h1 hb1
  go_wp2_with fail
  refine (HA.out w1).mono ?_
  rintro e w2 ⟨rfl, hb2⟩
  have M2 := Lib.hid (Moved.quiet H1.out hb2)
  clear hb2
  go_upto_region 5 with fail
  go_loopw [6] (fun i wr => ∃ (k : Nat) (A : Option Addr) (c : Nat), k ≤ 256 ∧ i = .int .i64 (k : Int) ∧ Hid (Moved w.heap.size none 0 [] w1 A c (Ml.many k) wr)) (fun i _ => 256 - (intOf i).toNat)
  case atStart => exact ⟨0, none, 0, by omega, rfl, M2⟩
  case round =>
    rename_i wr hrel
    obtain ⟨k, A, c, hk, rfl, HM⟩ := hrel
    by_cases hk2 : k = 256
    · subst hk2
      obtain ⟨L, hL⟩ : ∃ L, Ml.many 256 = L := ⟨_, rfl⟩
      have hlen : L.length = 256 := by rw [← hL, Ml.many_length]
      have hat : L[n0]? = some ⟨1, 2, str [n0]⟩ := by rw [← hL]; exact Ml.many_at w0
      rw [hL] at HM
      clear hL
      have hnl : n0 < L.length := by omega
      have hin : 0 ≤ (n0 : Int) ∧ (n0 : Int) < L.length := by omega
      have E1 := Lib.hid (show Ml.sendE L ⟨1, 2, ⟨#[]⟩⟩ = 3 by unfold Ml.sendE; rw [Ml.ok_none, if_pos rfl, if_pos (by omega)])
      have E2 := Lib.hid (show Ml.sendL L ⟨1, 2, ⟨#[]⟩⟩ = L by unfold Ml.sendL; rw [decide_eq_false (by omega)]; simp)
      have E3 := Lib.hid (show Ml.twinE L (n0 : Int) = 3 by unfold Ml.twinE; rw [if_pos hin, if_pos (by omega)])
      have E4 := Lib.hid (show Ml.twinL L (n0 : Int) = L by unfold Ml.twinL; rw [if_pos hin, if_pos (by omega)])
      have E5 := Lib.hid (show Ml.atM L (n0 : Int) = ⟨1, 2, str [n0]⟩ from Ml.at_in hat)
      have E6 := Lib.hid (show Ml.hasE L (n0 : Int) = 0 by unfold Ml.hasE; rw [if_pos hin])
      have E7 := Lib.hid (show Ml.takeL L (n0 : Int) = Ml.cut L n0 by unfold Ml.takeL; rw [if_pos hin, Int.toNat_natCast])
      have hcl : (Ml.cut L n0).length = 255 := by rw [Ml.cut_length hnl, hlen]
      have E8 := Lib.hid (show Ml.sendE (Ml.cut L n0) ⟨1, 2, ⟨#[]⟩⟩ = 0 by unfold Ml.sendE; rw [Ml.ok_none, if_pos rfl, if_neg (by omega)])
      have hcli : ((Ml.cut L n0).length : Int) = 255 := by omega
      have HC := Lib.hid hcli
      have hll : L.length ≤ 1000 := by omega
      have hcll : (Ml.cut L n0).length ≤ 1000 := by omega
      have HSt := Lib.hid (fun W : World => run_str (cap := 1) (rd_new W [n0] (by simp; omega) (0, 0)))
      clear hat hin hcl hcli hlen hnl
      have hwi : IntKind.i64.wrap (n0 : Int) = (n0 : Int) := by rw [IntKind.wrap_i64]; omega
      go_wp2_with fail
      refine (HS.out _ _ _ _ ⟨1, 2, ⟨#[]⟩⟩ _ HM.out.net hll).mono ?_
      rintro e w4 ⟨he, A4, c4, hm4⟩
      rw [E1.out] at he
      rw [E2.out] at hm4
      subst he
      have M4 := Lib.hid (HM.out.then hm4)
      clear hm4
      go_upto_region 12 with (first | (go_at_call 15; refine (HT.out _ _ _ _ (n0 : Int) _ M4.out.net hll).mono ?_; rintro e w5 ⟨he, A5, c5, hm5⟩; rw [E3.out] at he; rw [E4.out] at hm5; subst he; have M4 := Lib.hid (M4.out.then hm5); clear hm5))
      all_goals
        go_wp2_with fail
        refine (HK.out _ _ _ _ (n0 : Int) _ M4.out.net hll).mono ?_
        rintro e w6 ⟨he, A6, c6, hm6⟩
        rw [E5.out, E6.out] at he
        rw [E7.out] at hm6
        have HSt2 := Lib.hid HSt.out
        clear HSt
        generalize str [n0] = S at *
        have he : e = .returned (.tuple #[.agg #[.int .i64 1, .int .i64 2, .string S], .int .i64 0]) := he
        subst he
        have M6 := Lib.hid (M4.out.then hm6)
        clear hm6
        go_upto_region 13 with fail
        have hx := (Holds.new w6 #[.int .i64 1, .int .i64 2, .string S] 28).at_ 2 rfl
        have M7 := Lib.hid (M6.out.below ((Below.refl w6.heap.size w6).alloc (Nat.le_refl _) (.cells #[.int .i64 1, .int .i64 2, .string S] 28)))
        generalize (w6.alloc (.cells #[.int .i64 1, .int .i64 2, .string S] 28)) = w7 at *
        have hcv : (convert 44 9 (.slice (some ⟨w7.heap.size, 0, none⟩) 1 1)).run Try.prog (w7.alloc (.cells #[.int .u8 (n0 : Int)] 5)) = .ok (.string S) (w7.alloc (.cells #[.int .u8 (n0 : Int)] 5)) := HSt2.out w7
        have M8 := Lib.hid (M7.out.below ((Below.refl w7.heap.size w7).alloc (Nat.le_refl _) (.cells #[.int .u8 (n0 : Int)] 5)))
        go_wp2_with fail
        generalize (w7.alloc (.cells #[.int .u8 (n0 : Int)] 5)) = w8 at *
        refine (HL.out _ _ _ _ _ M8.out.net).mono ?_
        rintro e w9 ⟨he, rfl⟩
        rw [HC.out] at he
        subst he
        go_wp2_with fail
        refine (HS.out _ _ _ _ ⟨1, 2, ⟨#[]⟩⟩ _ M8.out.net hcll).mono ?_
        rintro e w10 ⟨he, A10, c10, hm10⟩
        rw [E8.out] at he
        subst he
        have M10 := Lib.hid (M8.out.then hm10)
        clear hm10
        go_wp2
        go_ret
        exact ⟨rfl, M10.out.low HB1.out (Nat.le_refl _) (fun _ h => by cases h) (by omega)⟩
    · have hki : (k : Int) < 256 := by omega
      have hwr : IntKind.u8.wrap (k : Int) = (k : Int) := by rw [IntKind.wrap_u8]; omega
      have hcv : (convert 44 9 (.slice (some ⟨wr.heap.size, 0, none⟩) 1 1)).run Try.prog (wr.alloc (.cells #[.int .u8 (k : Int)] 5)) = .ok (.string (str [k])) (wr.alloc (.cells #[.int .u8 (k : Int)] 5)) := run_str (cap := 1) (rd_new wr [k] (by simp; omega) (0, 0))
      have M3 := Lib.hid (HM.out.below ((Below.refl _ _).alloc (Nat.le_refl _) (.cells #[.int .u8 (k : Int)] 5)))
      have HE := Lib.hid (Ml.send_many (k := k) (by omega))
      generalize str [k] = S at *
      go_wp2_with fail
      generalize (wr.alloc (.cells #[.int .u8 (k : Int)] 5)) = w3 at *
      refine (HS.out _ _ _ _ ⟨1, 2, S⟩ _ M3.out.net (by rw [Ml.many_length]; omega)).mono ?_
      rintro e w4 ⟨he, A4, c4, hm4⟩
      rw [HE.out.1] at he
      rw [HE.out.2] at hm4
      subst he
      have M4 := Lib.hid (M3.out.then hm4)
      clear hm4
      have hadd : IntKind.i64.wrap ((k : Int) + 1) = (k : Int) + 1 := by rw [IntKind.wrap_i64]; omega
      go_wp2_with fail
      go_roundw
      case rel => exact ⟨k + 1, A4, c4, by omega, by go_num, M4⟩
      case measure => simp [intOf]; omega
set_option maxRecDepth 100000 in
theorem lifted (os : Os) (started : os.Started) (H : Type) (enc : TypeId × Value → H) :
    ReturnsInHanded {} Try.checked os 4 .any (Rows.netManySpec.pre6 enc Try.prog Try.f4 Rows.netManyRow.domain false) (Rows.netManySpec.post enc Try.prog Try.f4 false true false false) := by
  refine returnsInHanded_of_change (C := Try.checked) own started (by kernel_rfl) Try.func4
    (ChangeSpec.witness6 (enc := enc) (C := Try.checked) false ⟨#[], #[.int .u8 0, .bool false], []⟩ 8 (by kernel_rfl) (by kernel_rfl) (by kernel_rfl) (by kernel_rfl)) ?_
  intro W base args ds gs before hval0 hW hcnd _
  have hval : ∀ (j : Nat) t v, Try.f4.params[j]? = some t → args[j]? = some v → Value.okWide Try.prog W .any base t v := hval0
  have hW' := hW
  obtain ⟨p, q, hA0, hV, rfl, hfz, hnd⟩ := hW
  have hA : DataW.TrodAll enc Try.prog W 0 (fun _ => true) true Try.f4.params.toList args.toList ds p := hA0
  rw [Try.params4] at hA hval
  obtain ⟨v0, vs0, d0, ds0, p0, q0, hargs, rfl, rfl, h0, t0⟩ := trodAll_cons hA
  obtain ⟨v1, vs1, d1, ds1, p1, q1, rfl, rfl, rfl, h1, t1⟩ := trodAll_cons t0
  obtain ⟨rfl, rfl, rfl⟩ := trodAll_nil t1
  obtain rfl : args = #[v0, v1] := by cases args; simp_all
  obtain ⟨rfl, rfl⟩ := trodVars_none hV
  have k0 : Reads enc W 5 v0 d0 p0 := h0
  have lt0 : ∀ x ∈ p0, x.block < W.heap.size := by obtain ⟨m, hm⟩ := k0; exact DataW.trod_lt m _ _ _ hm
  obtain ⟨n0, rfl, w0⟩ := in_u8 (hval 0 5 v0 rfl rfl) k0
  have k1 : Reads enc W 4 v1 d1 p1 := h1
  have lt1 : ∀ x ∈ p1, x.block < W.heap.size := by obtain ⟨m, hm⟩ := k1; exact DataW.trod_lt m _ _ _ hm
  obtain ⟨b1, rfl⟩ := in_bool (hval 1 4 v1 rfl rfl) k1
  clear hA0 hval0
  refine (walk n0 b1 W w0).mono fun e W' ⟨he, bel⟩ => ?_
  subst he
  exact ⟨_, rfl, _, _, _, [], _, [], hW', trodAll_mk1 (shut_bool Try.underlying4 _), (trodAll_cons_mk (Below.trod laidOut (by kernel_rfl) (of_decide_eq_true (by kernel_rfl)) k0 bel lt0) (trodAll_cons_mk (Below.trod laidOut (by kernel_rfl) (of_decide_eq_true (by kernel_rfl)) k1 bel lt1) trodAll_mk0)), rfl, bel.frame _, fun h => by cases h⟩
theorem over : Rows.netManyRow.holds Try.pinned (OpenSpec.ofChange Rows.netManySpec) :=
  OpenClaim.holds_of_wide 4 Try.f4 rfl rfl rfl rfl rfl rfl rfl ⟨rfl, rfl, rfl, rfl, rfl⟩ rfl rfl rfl rfl rfl (by kernel_rfl) Try.func4 (by kernel_rfl)
    (of_decide_eq_true (by kernel_rfl)) (by unfold Func.isWrapper; first | (rw [if_pos (by decide +kernel)]; kernel_rfl) | (rw [if_neg (by decide +kernel)]; exact ⟨rfl, rfl⟩))
    (fun os started H enc _ => lifted os started H enc)
theorem proved : Rows.NetManySaid := over
end Go.Proofs.Ythganbbiclmgpaa.netMany
