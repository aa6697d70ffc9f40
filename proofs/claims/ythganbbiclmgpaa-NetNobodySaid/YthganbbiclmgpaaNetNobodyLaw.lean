/- For every mail, every number and every message: a net that nobody made, nil or zero, tells the error of nil of each call and has no mail (P26.2); a peer that nobody made tells it of Offer, answers nothing, and has nothing (P26.5); the example at the head holds. No condition. -/
import Derived.Test.YthganbbiclmgpaaMlNobody
import Derived.Test.YthganbbiclmgpaaMlIn
import Derived.Test.YthganbbiclmgpaaIns
import Derived.Test.YthganbbiclmgpaaHolds
import Derived.WalkKit
import Derived.ProofKit
import Derived.OpenShut
import Derived.ShutString
import Derived.ChangeOld
import Derived.Below
import Derived.Deep.RegionHeld
namespace Go.Proofs.Ythganbbiclmgpaa.netNobody
open Go.ChangeShapes Go.WideShapes Go.ChangeAt Go.RowKit
set_option linter.unusedVariables false
theorem own : ownKnob Try.prog.godebug = none := by kernel_rfl
theorem laidOut : laidOutB Try.prog = true := by kernel_rfl
theorem four_new (w : World) (a b c d : Array Value) (ta tb tc td : TypeId) : Holds ((((w.alloc (.cells a ta)).alloc (.cells b tb)).alloc (.cells c tc)).alloc (.cells d td)) w.heap.size a.toList ∧ Holds ((((w.alloc (.cells a ta)).alloc (.cells b tb)).alloc (.cells c tc)).alloc (.cells d td)) (w.heap.size + 1) b.toList ∧ Holds ((((w.alloc (.cells a ta)).alloc (.cells b tb)).alloc (.cells c tc)).alloc (.cells d td)) (w.heap.size + 1 + 1) c.toList ∧ Holds ((((w.alloc (.cells a ta)).alloc (.cells b tb)).alloc (.cells c tc)).alloc (.cells d td)) (w.heap.size + 1 + 1 + 1) d.toList ∧ Below w.heap.size w ((((w.alloc (.cells a ta)).alloc (.cells b tb)).alloc (.cells c tc)).alloc (.cells d td)) := by
  have e1 : (w.alloc (.cells a ta)).heap.size = w.heap.size + 1 := by simp
  have e2 : ((w.alloc (.cells a ta)).alloc (.cells b tb)).heap.size = w.heap.size + 1 + 1 := by simp
  have e3 : (((w.alloc (.cells a ta)).alloc (.cells b tb)).alloc (.cells c tc)).heap.size = w.heap.size + 1 + 1 + 1 := by simp
  refine ⟨(((Holds.new w a ta).alloc _).alloc _).alloc _, ?_, ?_, ?_, ((((Below.refl _ _).alloc (Nat.le_refl _) _).alloc (by omega) _).alloc (by omega) _).alloc (by omega) _⟩
  · have h := ((Holds.new (w.alloc (.cells a ta)) b tb).alloc (.cells c tc)).alloc (.cells d td)
    rw [e1] at h
    exact h
  · have h := (Holds.new ((w.alloc (.cells a ta)).alloc (.cells b tb)) c tc).alloc (.cells d td)
    rw [e2] at h
    exact h
  · have h := Holds.new (((w.alloc (.cells a ta)).alloc (.cells b tb)).alloc (.cells c tc)) d td
    rw [e3] at h
    exact h
theorem two_new (w : World) (a b : Array Value) (ta tb : TypeId) : Holds ((w.alloc (.cells a ta)).alloc (.cells b tb)) w.heap.size a.toList ∧ Holds ((w.alloc (.cells a ta)).alloc (.cells b tb)) (w.heap.size + 1) b.toList ∧ Below w.heap.size w ((w.alloc (.cells a ta)).alloc (.cells b tb)) := by
  have e1 : (w.alloc (.cells a ta)).heap.size = w.heap.size + 1 := by simp
  refine ⟨(Holds.new w a ta).alloc _, ?_, ((Below.refl _ _).alloc (Nat.le_refl _) _).alloc (by omega) _⟩
  have h := Holds.new (w.alloc (.cells a ta)) b tb
  rw [e1] at h
  exact h
set_option maxRecDepth 100000 in
set_option maxHeartbeats 8000000 in
theorem walk (m0 : Ml.M) (n1 : Int) (xa2 xb2 xc2 : Int) (xd2 : ByteArray) (xe2 : Int) (w : World) (w0 : m0.s.size ≤ 9223372036854775807) (wl1 : -9223372036854775808 ≤ n1) (w1 : n1 ≤ 9223372036854775807) (w2 : xd2.size ≤ 9223372036854775807) :
    Calls Try.prog 7 #[.agg (Ml.cells m0).toArray, .int .i64 n1, .agg #[.int .i64 xa2, .int .i64 xb2, .int .i64 xc2, .string xd2, .int .i64 xe2]] w fun e w' => e = .returned (.bool true) ∧ Below w.heap.size w w' := by
  -- heartbeats 8000000
  obtain ⟨f, t, s⟩ := m0
  have HA := Lib.hid (fun wx => awake_any wx)
  show Calls _ _ #[.agg #[.int .i64 f, .int .i64 t, .string s], .int .i64 n1, _] _ _
  obtain ⟨h1, h2, h3, h4, hb0⟩ := four_new w #[.int .i64 f, .int .i64 t, .string s] #[.int .i64 xa2, .int .i64 xb2, .int .i64 xc2, .string xd2, .int .i64 xe2] #[.bool false, .slice none 0 0] #[.pointer none, .pointer (some ⟨w.heap.size + 1 + 1, 0, none⟩)] 28 59 77 23
  have H1 := Lib.hid h1
  have H2 := Lib.hid h2
  have H3 := Lib.hid h3
  have H4 := Lib.hid h4
  have HB0 := Lib.hid hb0
  clear h1 h2 h3 h4 hb0
  go_enter Try.func7, Try.ntmps7
  go_upto_region 5 with fail
  generalize ((((w.alloc (Obj.cells #[Value.int IntKind.i64 f, Value.int IntKind.i64 t, Value.string s] 28)).alloc (Obj.cells #[.int .i64 xa2, .int .i64 xb2, .int .i64 xc2, .string xd2, .int .i64 xe2] 59)).alloc (Obj.cells #[Value.bool false, Value.slice none 0 0] 77)).alloc (Obj.cells #[Value.pointer none, Value.pointer (some { block := w.heap.size + 1 + 1, off := 0 })] 23)) = z0 at *
  go_loopw [10] (fun i wr => ∃ k : Nat, k ≤ 2 ∧ i = .int .i64 (k : Int) ∧ Hid (Below z0.heap.size z0 wr)) (fun i _ => 2 - (intOf i).toNat)
  case atStart => exact ⟨0, by omega, rfl, Lib.hid (Below.refl _ _)⟩
  case round =>
    obtain ⟨k, hk, rfl, HB⟩ := hrel
    by_cases hk2 : k < 2
    · have hki : (k : Int) < 2 := by omega
      obtain ⟨n, hn, hc⟩ : ∃ n, Nob z0 n ∧ z0.cell? ⟨w.heap.size + 1 + 1 + 1, k, none⟩ = some n := by
        rcases (show k = 0 ∨ k = 1 by omega) with rfl | rfl
        · exact ⟨_, .inl rfl, H4.out.at_ 0 rfl⟩
        · exact ⟨_, .inr ⟨_, rfl, H3.out⟩, H4.out.at_ 1 rfl⟩
      have hcr : wr.cell? ⟨w.heap.size + 1 + 1 + 1, k, none⟩ = some n := (HB.out.cell H4.out.1).trans hc
      have HN := Lib.hid hn
      clear hn hc
      go_wp2_with fail
      clear hcr
      refine (nob_at n n1 wr (HN.out.below HB.out)).mono ?_
      rintro e v1 ⟨rfl, hb1⟩
      have B2 := Lib.hid (below_next (below_next HB.out hb1) ((Below.refl v1.heap.size v1).alloc (Nat.le_refl _) (.cells #[.int .i64 0, .int .i64 0, .string ⟨#[]⟩] 28)))
      clear hb1
      go_upto_region 9 with fail
      generalize (v1.alloc (.cells #[.int .i64 0, .int .i64 0, .string ⟨#[]⟩] 28)) = v2 at *
      go_wp2_with fail
      refine (nob_take n n1 v2 (HN.out.below B2.out)).mono ?_
      rintro e v3 ⟨rfl, hb3⟩
      have B4 := Lib.hid (below_next (below_next B2.out hb3) ((Below.refl v3.heap.size v3).alloc (Nat.le_refl _) (.cells #[.int .i64 0, .int .i64 0, .string ⟨#[]⟩] 28)))
      clear hb3
      go_upto_region 10 with fail
      generalize (v3.alloc (.cells #[.int .i64 0, .int .i64 0, .string ⟨#[]⟩] 28)) = v4 at *
      obtain ⟨x0, x1, x2⟩ := results3 (H1.out.below B4.out)
      go_wp2_with fail
      refine (nob_send n ⟨f, t, s⟩ v4 (HN.out.below B4.out)).mono ?_
      rintro e v5 ⟨rfl, hb5⟩
      have B5 := Lib.hid (below_next B4.out hb5)
      clear hb5 x0 x1 x2
      go_wp2_with fail
      refine (nob_lose n n1 v5 (HN.out.below B5.out)).mono ?_
      rintro e v6 ⟨rfl, hb6⟩
      have B6 := Lib.hid (below_next B5.out hb6)
      clear hb6
      go_wp2_with fail
      refine (nob_twin n n1 v6 (HN.out.below B6.out)).mono ?_
      rintro e v7 ⟨rfl, rfl⟩
      go_wp2_with fail
      refine (nob_len n v6 (HN.out.below B6.out)).mono ?_
      rintro e v8 ⟨rfl, rfl⟩
      go_wp2_with fail
      go_roundw
      case rel => exact ⟨k + 1, by omega, by go_num, B6⟩
      case measure => simp [intOf]; omega
    · obtain rfl : k = 2 := by omega
      clear hk hk2
      have H2r := Lib.hid (H2.out.below HB.out)
      have HBr := Lib.hid (below_next HB0.out HB.out)
      obtain ⟨g1, g2, gb⟩ := two_new wr #[.int .i64 0, .map none, .map none, .map none] #[.pointer none, .pointer (some ⟨wr.heap.size, 0, none⟩)] 82 48
      have G1 := Lib.hid g1
      have G2 := Lib.hid g2
      have H2z := Lib.hid (H2r.out.below gb)
      have HBz := Lib.hid (below_next HBr.out gb)
      clear g1 g2 gb H1 H2 H3 H4 HB0 HB H2r HBr
      go_upto_region 14 with fail
      generalize hB : wr.heap.size = B at *
      generalize ((wr.alloc (Obj.cells #[Value.int IntKind.i64 0, Value.map none, Value.map none, Value.map none] 82)).alloc (Obj.cells #[Value.pointer none, Value.pointer (some { block := B, off := 0 })] 48)) = z1 at *
      clear hB
      go_loopw [17] (fun i wq => ∃ k : Nat, k ≤ 2 ∧ i = .int .i64 (k : Int) ∧ Hid (Below z1.heap.size z1 wq)) (fun i _ => 2 - (intOf i).toNat)
      case atStart => exact ⟨0, by omega, rfl, Lib.hid (Below.refl _ _)⟩
      case round =>
        obtain ⟨k, hk, rfl, HB⟩ := hrel
        by_cases hk2 : k < 2
        · have hki : (k : Int) < 2 := by omega
          obtain ⟨n, hn, hc⟩ : ∃ n, Nop z1 n ∧ z1.cell? ⟨B + 1, k, none⟩ = some n := by
            rcases (show k = 0 ∨ k = 1 by omega) with rfl | rfl
            · exact ⟨_, .inl rfl, G2.out.at_ 0 rfl⟩
            · exact ⟨_, .inr ⟨_, rfl, G1.out⟩, G2.out.at_ 1 rfl⟩
          have hcr : wr.cell? ⟨B + 1, k, none⟩ = some n := (HB.out.cell G2.out.1).trans hc
          have HN := Lib.hid hn
          clear hn hc
          go_wp2_with fail
          clear hcr
          refine (nop_offer n wr (HN.out.below HB.out)).mono ?_
          rintro e v1 ⟨rfl, hb1⟩
          have B2 := Lib.hid (below_next (below_next HB.out hb1) ((Below.refl v1.heap.size v1).alloc (Nat.le_refl _) (.cells #[.int .i64 0, .int .i64 0, .int .i64 0, .string ⟨#[]⟩, .int .i64 0] 59)))
          clear hb1
          go_upto_region 18 with fail
          generalize (v1.alloc (.cells #[.int .i64 0, .int .i64 0, .int .i64 0, .string ⟨#[]⟩, .int .i64 0] 59)) = v2 at *
          obtain ⟨y0, y1, y2, y3, y4⟩ := results5 (H2z.out.below B2.out)
          go_wp2_with fail
          refine (nop_hear n xa2 xb2 xc2 xe2 xd2 v2 (HN.out.below B2.out)).mono ?_
          rintro e v3 ⟨rfl, hb3⟩
          have B4 := Lib.hid (below_next (below_next B2.out hb3) ((Below.refl v3.heap.size v3).alloc (Nat.le_refl _) (.cells #[.int .i64 0, .int .i64 0, .int .i64 0, .string ⟨#[]⟩, .int .i64 0] 59)))
          clear hb3 y0 y1 y2 y3 y4
          go_upto_region 19 with fail
          generalize (v3.alloc (.cells #[.int .i64 0, .int .i64 0, .int .i64 0, .string ⟨#[]⟩, .int .i64 0] 59)) = v4 at *
          go_wp2_with fail
          refine (nop_again n v4 (HN.out.below B4.out)).mono ?_
          rintro e v5 ⟨rfl, rfl⟩
          go_wp2_with fail
          refine (nop_got n v4 (HN.out.below B4.out)).mono ?_
          rintro e v6 ⟨rfl, rfl⟩
          go_wp2_with fail
          refine (nop_sent n v4 (HN.out.below B4.out)).mono ?_
          rintro e v7 ⟨rfl, rfl⟩
          go_wp2_with fail
          go_roundw
          case rel => exact ⟨k + 1, by omega, by go_num, B4⟩
          case measure => simp [intOf]; omega
        · obtain rfl : k = 2 := by omega
          have HBf := Lib.hid (below_next HBz.out HB.out)
          clear hk hk2
          go_wp2_with fail
          refine (HA.out wr).mono ?_
          rintro e v8 ⟨rfl, hb8⟩
          have HBg := Lib.hid (below_next HBf.out hb8)
          clear hb8
          go_wp2
          go_ret
          exact ⟨rfl, HBg.out⟩
set_option maxRecDepth 100000 in
theorem lifted (os : Os) (started : os.Started) (H : Type) (enc : TypeId × Value → H) :
    ReturnsInHanded {} Try.checked os 7 .any (Rows.netNobodySpec.pre6 enc Try.prog Try.f7 Rows.netNobodyRow.domain false) (Rows.netNobodySpec.post enc Try.prog Try.f7 false true false false) := by
  refine returnsInHanded_of_change (C := Try.checked) own started (by kernel_rfl) Try.func7
    (ChangeSpec.witness6 (enc := enc) (C := Try.checked) false ⟨#[], #[.agg #[.int .i64 0, .int .i64 0, .string ⟨#[]⟩], .int .i64 0, .agg #[.int .i64 0, .int .i64 0, .int .i64 0, .string ⟨#[]⟩, .int .i64 0]], []⟩ 8 (by kernel_rfl) (by kernel_rfl) (by kernel_rfl) (by kernel_rfl)) ?_
  intro W base args ds gs before hval0 hW hcnd _
  have hval : ∀ (j : Nat) t v, Try.f7.params[j]? = some t → args[j]? = some v → Value.okWide Try.prog W .any base t v := hval0
  have hW' := hW
  obtain ⟨p, q, hA0, hV, rfl, hfz, hnd⟩ := hW
  have hA : DataW.TrodAll enc Try.prog W 0 (fun _ => true) true Try.f7.params.toList args.toList ds p := hA0
  rw [Try.params7] at hA hval
  obtain ⟨v0, vs0, d0, ds0, p0, q0, hargs, rfl, rfl, h0, t0⟩ := trodAll_cons hA
  obtain ⟨v1, vs1, d1, ds1, p1, q1, rfl, rfl, rfl, h1, t1⟩ := trodAll_cons t0
  obtain ⟨v2, vs2, d2, ds2, p2, q2, rfl, rfl, rfl, h2, t2⟩ := trodAll_cons t1
  obtain ⟨rfl, rfl, rfl⟩ := trodAll_nil t2
  obtain rfl : args = #[v0, v1, v2] := by cases args; simp_all
  obtain ⟨rfl, rfl⟩ := trodVars_none hV
  have k0 : Reads enc W 28 v0 d0 p0 := h0
  have lt0 : ∀ x ∈ p0, x.block < W.heap.size := by obtain ⟨m, hm⟩ := k0; exact DataW.trod_lt m _ _ _ hm
  obtain ⟨m0, rfl, w0⟩ := in_mail (hval 0 28 v0 rfl rfl) k0
  have k1 : Reads enc W 3 v1 d1 p1 := h1
  have lt1 : ∀ x ∈ p1, x.block < W.heap.size := by obtain ⟨m, hm⟩ := k1; exact DataW.trod_lt m _ _ _ hm
  obtain ⟨n1, rfl, wl1, w1⟩ := in_int (hval 1 3 v1 rfl rfl) k1
  have k2 : Reads enc W 59 v2 d2 p2 := h2
  have lt2 : ∀ x ∈ p2, x.block < W.heap.size := by obtain ⟨m, hm⟩ := k2; exact DataW.trod_lt m _ _ _ hm
  obtain ⟨xa2, xb2, xc2, xd2, xe2, rfl, w2⟩ := in_message (hval 2 59 v2 rfl rfl) k2
  clear hA0 hval0
  refine (walk m0 n1 xa2 xb2 xc2 xd2 xe2 W w0 wl1 w1 w2).mono fun e W' ⟨he, bel⟩ => ?_
  subst he
  exact ⟨_, rfl, _, _, _, [], _, [], hW', trodAll_mk1 (shut_bool Try.underlying4 _), (trodAll_cons_mk (Below.trod laidOut (by kernel_rfl) (of_decide_eq_true (by kernel_rfl)) k0 bel lt0) (trodAll_cons_mk (Below.trod laidOut (by kernel_rfl) (of_decide_eq_true (by kernel_rfl)) k1 bel lt1) (trodAll_cons_mk (Below.trod laidOut (by kernel_rfl) (of_decide_eq_true (by kernel_rfl)) k2 bel lt2) trodAll_mk0))), rfl, bel.frame _, fun h => by cases h⟩
theorem over : Rows.netNobodyRow.holds Try.pinned (OpenSpec.ofChange Rows.netNobodySpec) :=
  OpenClaim.holds_of_wide 7 Try.f7 rfl rfl rfl rfl rfl rfl rfl ⟨rfl, rfl, rfl, rfl, rfl⟩ rfl rfl rfl rfl rfl (by kernel_rfl) Try.func7 (by kernel_rfl)
    (of_decide_eq_true (by kernel_rfl)) (by unfold Func.isWrapper; first | (rw [if_pos (by decide +kernel)]; kernel_rfl) | (rw [if_neg (by decide +kernel)]; exact ⟨rfl, rfl⟩))
    (fun os started H enc _ => lifted os started H enc)
theorem proved : Rows.NetNobodySaid := over
end Go.Proofs.Ythganbbiclmgpaa.netNobody
