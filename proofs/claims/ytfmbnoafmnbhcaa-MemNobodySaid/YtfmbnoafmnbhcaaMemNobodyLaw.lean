/- MemNobody: a Mem that New did not make is nobody's -/
import Derived.Test.YtfmbnoafmnbhcaaMmNone
import Derived.Test.YtfmbnoafmnbhcaaMmLaw
import Derived.Test.YtfmbnoafmnbhcaaMmIn
import Derived.Test.YtfmbnoafmnbhcaaIns
import Derived.Test.YtfmbnoafmnbhcaaHolds
import Derived.WalkKit
import Derived.ProofKit
import Derived.OpenShut
import Derived.ShutString
import Derived.ChangeOld
import Derived.Below
import Derived.Deep.RegionHeld
namespace Go.Proofs.Ytfmbnoafmnbhcaa.memNobody
open Go.ChangeShapes Go.WideShapes Go.ChangeAt Go.RowKit
set_option linter.unusedVariables false
theorem own : ownKnob Try.prog.godebug = none := by kernel_rfl
theorem laidOut : laidOutB Try.prog = true := by kernel_rfl
set_option maxRecDepth 100000 in
set_option maxHeartbeats 8000000 in
theorem walk (x0 : Bk.En × Bk.Sl) (n1 : Int) (w : World) (r0 : Bk.AtI w x0) (wl1 : -9223372036854775808 ≤ n1) (w1 : n1 ≤ 9223372036854775807) :
    Calls Try.prog 9 #[.agg (Bk.cells x0).toArray, .int .i64 n1] w fun e w' => e = .returned (.bool true) ∧ Below w.heap.size w w' := by
-- heartbeats 8000000
  obtain ⟨⟨key0, seq0, del0, val0⟩, V0, n0, c0⟩ := x0
  have Gn := Lib.hid (fun (p : Option Addr) (u : World) (h : NoM u p) => get_no p key0 n1 u h)
  have Pn : Hid (∀ (p : Option Addr) (u : World), NoM u p → Calls Try.prog 29 #[.pointer p, .agg #[.string key0, .int .i64 seq0, .bool del0, .slice V0 n0 c0]] u fun e w' => e = .returned (.int .i64 4) ∧ Below u.heap.size u w') := Lib.hid (fun p u h => put_no p (⟨key0, seq0, del0, val0⟩, V0, n0, c0) u h)
  have Sm : Hid (∀ (u : World), Calls Try.prog 25 #[.agg #[.string ⟨#[]⟩, .int .i64 0, .bool false, .slice none 0 0], .agg #[.string ⟨#[]⟩, .int .i64 0, .bool false, .slice none 0 0]] u fun e w' => e = .returned (.bool true) ∧ Below u.heap.size u w') := Lib.hid (fun u => same_yes (p := Bk.zeroE) (q := Bk.zeroE) (Bk.zero_at u) (Bk.zero_at u) rfl)
  clear r0
  show Calls _ _ #[.agg #[.string key0, .int .i64 seq0, .bool del0, .slice V0 n0 c0], .int .i64 n1] _ _
  have HB := Lib.hid (show Below w.heap.size w (((w.alloc (.cells #[Value.string key0, .int .i64 seq0, .bool del0, .slice V0 n0 c0] 24)).alloc (.cells #[Value.bool false, .pointer none, .int .i64 0, .int .i64 0, .int .i64 0] 56)).alloc (.cells #[Value.pointer none, .pointer (some ⟨w.heap.size + 1, 0, none⟩)] 31)) from (((Below.refl _ _).alloc (Nat.le_refl _) _).alloc (by simp) _).alloc (by simp; omega) _)
  have HZ := Lib.hid (show Holds (((w.alloc (.cells #[Value.string key0, .int .i64 seq0, .bool del0, .slice V0 n0 c0] 24)).alloc (.cells #[Value.bool false, .pointer none, .int .i64 0, .int .i64 0, .int .i64 0] 56)).alloc (.cells #[Value.pointer none, .pointer (some ⟨w.heap.size + 1, 0, none⟩)] 31)) w.heap.size [.string key0, .int .i64 seq0, .bool del0, .slice V0 n0 c0] ∧ Holds (((w.alloc (.cells #[Value.string key0, .int .i64 seq0, .bool del0, .slice V0 n0 c0] 24)).alloc (.cells #[Value.bool false, .pointer none, .int .i64 0, .int .i64 0, .int .i64 0] 56)).alloc (.cells #[Value.pointer none, .pointer (some ⟨w.heap.size + 1, 0, none⟩)] 31)) (w.heap.size + 1) [.bool false, .pointer none, .int .i64 0, .int .i64 0, .int .i64 0] ∧ Holds (((w.alloc (.cells #[Value.string key0, .int .i64 seq0, .bool del0, .slice V0 n0 c0] 24)).alloc (.cells #[Value.bool false, .pointer none, .int .i64 0, .int .i64 0, .int .i64 0] 56)).alloc (.cells #[Value.pointer none, .pointer (some ⟨w.heap.size + 1, 0, none⟩)] 31)) (w.heap.size + 1 + 1) [.pointer none, .pointer (some ⟨w.heap.size + 1, 0, none⟩)] by
    have h1 := Holds.new w #[Value.string key0, .int .i64 seq0, .bool del0, .slice V0 n0 c0] 24
    have h2 := Holds.new (w.alloc (.cells #[Value.string key0, .int .i64 seq0, .bool del0, .slice V0 n0 c0] 24)) #[Value.bool false, .pointer none, .int .i64 0, .int .i64 0, .int .i64 0] 56
    have h3 := Holds.new ((w.alloc (.cells #[Value.string key0, .int .i64 seq0, .bool del0, .slice V0 n0 c0] 24)).alloc (.cells #[Value.bool false, .pointer none, .int .i64 0, .int .i64 0, .int .i64 0] 56)) #[Value.pointer none, .pointer (some ⟨w.heap.size + 1, 0, none⟩)] 31
    rw [World.size_alloc] at h2
    rw [World.size_alloc, World.size_alloc] at h3
    exact ⟨(h1.alloc _).alloc _, h2.alloc _, h3⟩)
  go_enter Try.func9, Try.ntmps9
  go_wp2
  generalize (((w.alloc (.cells #[Value.string key0, .int .i64 seq0, .bool del0, .slice V0 n0 c0] 24)).alloc (.cells #[Value.bool false, .pointer none, .int .i64 0, .int .i64 0, .int .i64 0] 56)).alloc (.cells #[Value.pointer none, .pointer (some ⟨w.heap.size + 1, 0, none⟩)] 31)) = v at HB HZ ⊢
  go_loopw [7] (fun ii wr => ∃ (k : Nat), k ≤ 2 ∧ ii = .int .i64 (k : Int) ∧ Hid (Below v.heap.size v wr)) (fun ii _ => 2 - (intOf ii).toNat)
  case atStart => exact ⟨0, by omega, rfl, Lib.hid (Below.refl _ _)⟩
  case round =>
    rename_i wr hrel
    obtain ⟨k, hk, rfl, HK⟩ := hrel
    by_cases hlt : k < 2
    · obtain ⟨p, hp, hc⟩ : ∃ p, (∀ u, Below v.heap.size v u → NoM u p) ∧ wr.cell? ⟨w.heap.size + 1 + 1, k, none⟩ = some (.pointer p) := by
        have h3 := HZ.out.2.2.below HK.out
        match k, hlt with
        | 0, _ => exact ⟨none, fun u _ => .inl rfl, h3.2.1 0 _ rfl⟩
        | 1, _ => exact ⟨some ⟨w.heap.size + 1, 0, none⟩, fun u hu => .inr ⟨_, _, rfl, HZ.out.2.1.below hu⟩, h3.2.1 1 _ rfl⟩
      have HNo := Lib.hid hp
      have HE := Lib.hid (fun (u : World) (hu : Below v.heap.size v u) => HZ.out.1.below hu)
      have q0 := (HE.out _ HK.out).2.1 0 _ rfl
      have hki : (k : Int) < 2 := by omega
      have hk0 : (0 : Int) ≤ (k : Int) := by omega
      clear hp
      go_wp2_with fail
      refine (Gn.out p _ (HNo.out _ HK.out)).mono ?_
      rintro e v1 ⟨rfl, hb1⟩
      have hk1 := (below_next HK.out hb1).alloc (Nat.le_trans HK.out.size hb1.size) (.cells #[.string ⟨#[]⟩, .int .i64 0, .bool false, .slice none 0 0] 24)
      have HX1 := Lib.hid (Holds.new v1 #[.string ⟨#[]⟩, .int .i64 0, .bool false, .slice none 0 0] 24)
      clear q0 hc
      obtain ⟨q0, q1, q2, q3⟩ := (show _ ∧ _ ∧ _ ∧ _ from ⟨(HE.out _ hk1).2.1 0 _ rfl, (HE.out _ hk1).2.1 1 _ rfl, (HE.out _ hk1).2.1 2 _ rfl, (HE.out _ hk1).2.1 3 _ rfl⟩)
      go_wp2_with fail
      refine (Pn.out p _ (HNo.out _ hk1)).mono ?_
      rintro e v2 ⟨rfl, hb2⟩
      have hk2 := below_next hk1 hb2
      have HX2 := Lib.hid (HX1.out.below hb2)
      clear q0 q1 q2 q3
      obtain ⟨q0, q1, q2, q3⟩ := (show _ ∧ _ ∧ _ ∧ _ from ⟨HX2.out.2.1 0 _ rfl, HX2.out.2.1 1 _ rfl, HX2.out.2.1 2 _ rfl, HX2.out.2.1 3 _ rfl⟩)
      go_wp2_with fail
      refine (Sm.out _).mono ?_
      rintro e v3 ⟨rfl, hb3⟩
      have hk3 := below_next hk2 hb3
      clear q0 q1 q2 q3
      go_wp2_with fail
      refine (all_no p _ (HNo.out _ hk3)).mono ?_
      rintro e v4 ⟨rfl, hb4⟩
      have hk4 := below_next hk3 hb4
      go_wp2_with fail
      refine (range_no p ⟨#[]⟩ ⟨#[]⟩ _ (HNo.out _ hk4)).mono ?_
      rintro e v5 ⟨rfl, hb5⟩
      have hk5 := below_next hk4 hb5
      go_wp2_with fail
      refine (len_no p _ (HNo.out _ hk5)).mono ?_
      rintro e v6 ⟨rfl, rfl⟩
      go_wp2_with fail
      refine (bytes_no p _ (HNo.out _ hk5)).mono ?_
      rintro e v7 ⟨rfl, rfl⟩
      go_wp2_with fail
      refine (fork_no p _ (HNo.out _ hk5)).mono ?_
      rintro e v8 ⟨rfl, rfl⟩
      go_wp2_with fail
      go_roundw
      case rel => exact ⟨k + 1, by omega, by go_num, Lib.hid hk5⟩
      case measure => simp [intOf]; omega
    · have hk2 : k = 2 := by omega
      subst hk2
      clear hlt
      go_wp2_with fail
      refine (awake_any wr).mono ?_
      rintro e v9 ⟨rfl, hb9⟩
      have hk9 := below_next HK.out hb9
      go_wp2
      go_ret
      exact ⟨rfl, HB.out.trans (hk9.mono HB.out.size)⟩
set_option maxRecDepth 100000 in
theorem lifted (os : Os) (started : os.Started) (H : Type) (enc : TypeId × Value → H) :
    ReturnsInHanded {} Try.checked os 9 .any (Rows.memNobodySpec.pre6 enc Try.prog Try.f9 Rows.memNobodyRow.domain false) (Rows.memNobodySpec.post enc Try.prog Try.f9 false true false false) := by
  refine returnsInHanded_of_change (C := Try.checked) own started (by kernel_rfl) Try.func9
    (ChangeSpec.witness6 (enc := enc) (C := Try.checked) false ⟨#[], #[.agg #[.string ⟨#[]⟩, .int .i64 0, .bool false, .slice none 0 0], .int .i64 0], []⟩ 8 (by kernel_rfl) (by kernel_rfl) (by kernel_rfl) (by kernel_rfl)) ?_
  intro W base args ds gs before hval0 hW hcnd _
  have hval : ∀ (j : Nat) t v, Try.f9.params[j]? = some t → args[j]? = some v → Value.okWide Try.prog W .any base t v := hval0
  have hW' := hW
  obtain ⟨p, q, hA0, hV, rfl, hfz, hnd⟩ := hW
  have hA : DataW.TrodAll enc Try.prog W 0 (fun _ => true) true Try.f9.params.toList args.toList ds p := hA0
  rw [Try.params9] at hA hval
  obtain ⟨v0, vs0, d0, ds0, p0, q0, hargs, rfl, rfl, h0, t0⟩ := trodAll_cons hA
  obtain ⟨v1, vs1, d1, ds1, p1, q1, rfl, rfl, rfl, h1, t1⟩ := trodAll_cons t0
  obtain ⟨rfl, rfl, rfl⟩ := trodAll_nil t1
  obtain rfl : args = #[v0, v1] := by cases args; simp_all
  obtain ⟨rfl, rfl⟩ := trodVars_none hV
  have k0 : Reads enc W 24 v0 d0 p0 := h0
  have lt0 : ∀ x ∈ p0, x.block < W.heap.size := by obtain ⟨m, hm⟩ := k0; exact DataW.trod_lt m _ _ _ hm
  obtain ⟨x0, rfl, r0⟩ := in_entry (hval 0 24 v0 rfl rfl) k0
  have k1 : Reads enc W 3 v1 d1 p1 := h1
  have lt1 : ∀ x ∈ p1, x.block < W.heap.size := by obtain ⟨m, hm⟩ := k1; exact DataW.trod_lt m _ _ _ hm
  obtain ⟨n1, rfl, wl1, w1⟩ := in_int (hval 1 3 v1 rfl rfl) k1
  clear hA0 hval0
  refine (walk x0 n1 W r0 wl1 w1).mono fun e W' ⟨he, bel⟩ => ?_
  subst he
  exact ⟨_, rfl, _, _, _, [], _, [], hW', trodAll_mk1 (shut_bool Try.underlying4 _), (trodAll_cons_mk (Below.trod laidOut (by kernel_rfl) (of_decide_eq_true (by kernel_rfl)) k0 bel lt0) (trodAll_cons_mk (Below.trod laidOut (by kernel_rfl) (of_decide_eq_true (by kernel_rfl)) k1 bel lt1) trodAll_mk0)), rfl, bel.frame _, fun h => by cases h⟩
theorem over : Rows.memNobodyRow.holds Try.pinned (OpenSpec.ofChange Rows.memNobodySpec) :=
  OpenClaim.holds_of_wide 9 Try.f9 rfl rfl rfl rfl rfl rfl rfl ⟨rfl, rfl, rfl, rfl, rfl⟩ rfl rfl rfl rfl rfl (by kernel_rfl) Try.func9 (by kernel_rfl)
    (of_decide_eq_true (by kernel_rfl)) (by unfold Func.isWrapper; first | (rw [if_pos (by decide +kernel)]; kernel_rfl) | (rw [if_neg (by decide +kernel)]; exact ⟨rfl, rfl⟩))
    (fun os started H enc _ => lifted os started H enc)
theorem proved : Rows.MemNobodySaid := over
end Go.Proofs.Ytfmbnoafmnbhcaa.memNobody
