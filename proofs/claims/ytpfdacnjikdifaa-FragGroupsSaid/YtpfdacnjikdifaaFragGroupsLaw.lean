/- For every two slices of byte slices and every number: Join of the first payloads of a Cut and all of another gives the records of both, but for those of the first that lack (P8.6), and the example at the head holds; the arguments stay as they were. No condition. -/
import Derived.Test.YtpfdacnjikdifaaFgAwake
import Derived.Test.YtpfdacnjikdifaaFgRNeed
import Derived.Test.YtpfdacnjikdifaaFgLens
import Derived.Test.YtpfdacnjikdifaaFgBack
import Derived.Test.YtpfdacnjikdifaaFgFit
import Derived.Test.YtpfdacnjikdifaaInRows
import Derived.Test.YtpfdacnjikdifaaIns
import Derived.Test.YtpfdacnjikdifaaHolds
import Derived.WalkKit
import Derived.ProofKit
import Derived.OpenShut
import Derived.ShutString
import Derived.ChangeOld
import Derived.Below
import Derived.Deep.RegionHeld
namespace Go.Proofs.Ytpfdacnjikdifaa.fragGroups
open Go.ChangeShapes Go.WideShapes Go.ChangeAt Go.RowKit
set_option linter.unusedVariables false
theorem own : ownKnob Try.prog.godebug = none := by kernel_rfl
theorem laidOut : laidOutB Try.prog = true := by kernel_rfl
theorem run_toB (A : Option Addr) (n c t : Nat) (ht : t ≤ n) (hc : n ≤ c) (w : World) : (Instr.slice 22 (.slice A n c) none (some (.int .i64 (t : Int))) none).run Try.prog w = .ok (.slice A t c) w := by
  have h2 : t ≤ c := by omega
  simp [Instr.slice, run_underlying Try.underlying22, Instr.sliceBounds, Instr.sliceBound, asIntOf, go_sem, h2]
theorem items_app {w : World} {X : Nat → Prop} {vs us : List Value} {L M : List (List Nat)} (h : Items w X vs L) (k : Items w X us M) : Items w X (vs ++ us) (L ++ M) := by
  refine ⟨by simp [h.1, k.1], fun j v l e1 e2 => ?_⟩
  by_cases hj : j < vs.length
  · rw [List.getElem?_append_left hj] at e1
    rw [List.getElem?_append_left (by rw [← h.1]; exact hj)] at e2
    exact h.2 j _ _ e1 e2
  · rw [List.getElem?_append_right (by omega)] at e1
    rw [List.getElem?_append_right (by rw [← h.1]; omega), ← h.1] at e2
    exact k.2 _ _ _ e1 e2
/-- A row of byte slices, as values. -/
theorem rdb_vals {w : World} {A : Option Addr} {n : Nat} {L : List (List Nat)} (h : RdB w A n L) : ∃ vs, RdV w A n vs ∧ Items w (fun _ => True) vs L ∧ ∀ u ∈ vs, u.oneCell' = true := by
  obtain ⟨vs, h1, h2⟩ := h
  refine ⟨vs, h1, h2, fun u hu => ?_⟩
  obtain ⟨j, hj⟩ := List.getElem?_of_mem hu
  have hl : j < L.length := by rw [← h2.1]; exact (List.getElem?_eq_some_iff.1 hj).1
  obtain ⟨B, c, rfl, _⟩ := h2.2 j u _ hj (List.getElem?_eq_getElem hl)
  rfl
/-- What two appends onto nothing leave. -/
theorem two_rows {v v1 v2 : World} {A1 A2 : Option Addr} {k m c1 c2 : Nat} {vs us : List Value} {L M : List (List Nat)} (hL : Items v (fun _ => True) vs L) (hM : Items v (fun _ => True) us M)
    (hb1 : Below v.heap.size v v1) (hg2 : GrewV v1 v2 v.heap.size 29 A1 A2 k c1 (k + m) c2 (vs ++ us)) (ho : OwnV v1 v.heap.size 29 A1 k c1 vs) : RdB v2 A2 (k + m) (L ++ M) ∧ Below v.heap.size v v2 := by
  have hb2 := hg2.below hb1 hb1.size (fun g e => (ho.blk g e).1)
  exact ⟨⟨vs ++ us, hg2.own.rd, items_app (hL.below hb2) (hM.below hb2)⟩, hb2⟩
set_option maxRecDepth 100000 in
set_option maxHeartbeats 8000000 in
theorem walk (A0 : Option Addr) (m0 c0 : Nat) (l0 : List (List Nat)) (A1 : Option Addr) (m1 c1 : Nat) (l1 : List (List Nat)) (n2 : Nat) (w : World) (r0 : RdB w A0 m0 l0) (wc0 : m0 ≤ c0) (w0 : m0 ≤ 9223372036854775807) (r1 : RdB w A1 m1 l1) (wc1 : m1 ≤ c1) (w1 : m1 ≤ 9223372036854775807) (w2 : n2 < 65536) :
    Calls Try.prog 8 #[.slice A0 m0 c0, .slice A1 m1 c1, .int .u16 (n2 : Int)] w fun e w' => e = .returned (.bool true) ∧ Below w.heap.size w w' := by
  -- heartbeats 8000000
  have hf1 := fit_any A0 m0 c0 l0 w r0 w0
  have hf2 := fun (W : World) (hW : Below w.heap.size w W) => fit_any A1 m1 c1 l1 W (r1.below hW) w1
  have hle1 := Fg.fit_le l0
  have h401 := Fg.fit_len l0
  have hle2 := Fg.fit_le l1
  have h402 := Fg.fit_len l1
  generalize Fg.fit l0 = L at *
  generalize Fg.fit l1 = K at *
  have hco1 := Fg.cutOut_fit hle1 (by omega)
  have hco2 := Fg.cutOut_fit hle2 (by omega)
  have hP := Fg.cut_some hle1 (by omega)
  have hQ := Fg.cut_some hle2 (by omega)
  obtain ⟨k, hk⟩ : ∃ k, k = n2 % ((Fg.cut L).length + 1) := ⟨_, rfl⟩
  have hkP : k ≤ (Fg.cut L).length := by have := Nat.mod_lt n2 (show 0 < (Fg.cut L).length + 1 by omega); omega
  have hkI : (n2 : Int) % (((Fg.cut L).length : Int) + 1) = (k : Int) := by rw [hk, Int.natCast_emod]; rfl
  obtain ⟨s, t, hps, hLs, _⟩ := Fg.torn hle1 k hkP
  have hjk := Fg.joinL_all hps
  rw [List.length_take, Nat.min_eq_left hkP] at hjk
  have hpq : Fg.pall ((Fg.cut L).take k ++ Fg.cut K) ([], none) = some (s.1 ++ K, if K = [] then s.2 else none) := by
    rw [Fg.pall_append, hps]
    exact Fg.pall_cut hle2 s
  have hjq := Fg.joinL_all hpq
  rw [List.length_append, List.length_take, Nat.min_eq_left hkP] at hjq
  have hsl : s.1.length ≤ 40 := by have := congrArg List.length hLs; rw [List.length_append] at this; omega
  generalize Fg.cut L = P at *
  generalize Fg.cut K = Q at *
  obtain ⟨S, so⟩ := s
  change S.length ≤ 40 at hsl
  change Fg.joinL (P.take k) ([], none) = (S, k) at hjk
  change Fg.joinL (P.take k ++ Q) ([], none) = (S ++ K, k + Q.length) at hjq
  have HF1 := Lib.hid hf1
  have HF2 := Lib.hid hf2
  have HC1 := Lib.hid hco1
  have HC2 := Lib.hid hco2
  have HJk := Lib.hid hjk
  have HJq := Lib.hid hjq
  have HkI := Lib.hid hkI
  clear hf1 hf2 hco1 hco2 hk hkI hps hLs hjk hpq hjq hle1 hle2 r0 r1
  go_enter Try.func8, Try.ntmps8
  go_wp2_with fail
  refine HF1.out.mono ?_
  rintro e v0 ⟨B1, d1, rfl, hr1, hd1, _, hb1⟩
  go_wp2_with fail
  refine (HF2.out _ hb1).mono ?_
  rintro e v1 ⟨B2, d2, rfl, hr2, hd2, _, hb2⟩
  have hx1 := below_next hb1 hb2
  have h1 := cut_any B1 L.length d1 L v1 (hr1.below hb2) (by omega)
  rw [HC1.out] at h1
  have H1 := Lib.hid h1
  clear h1 hr1 hb1 hb2
  go_wp2_with fail
  refine H1.out.mono ?_
  rintro e v2 ⟨B3, d3, rfl, hr3, hd3, hb3⟩
  change RdB v2 B3 P.length P at hr3
  change P.length ≤ d3 at hd3
  have hx2 := below_next hx1 hb3
  have hr2b := hr2.below hb3
  have h2 := cut_any B2 K.length d2 K v2 hr2b (by omega)
  rw [HC2.out] at h2
  have H2 := Lib.hid h2
  clear h2 hr2 hb3 hx1
  go_wp2_with fail
  refine H2.out.mono ?_
  rintro e v3 ⟨B4, d4, rfl, hr4, hd4, hb4⟩
  change RdB v3 B4 Q.length Q at hr4
  have hx3 := below_next hx2 hb4
  have hr2c := hr2b.below hb4
  have hr3c := hr3.below hb4
  clear hb4 hx2 hr2b hr3
  go_wp2_with fail
  refine (awake_any _).mono ?_
  rintro e v4 ⟨rfl, hb5⟩
  have hx4 := below_next hx3 hb5
  have hr2d := hr2c.below hb5
  have hr3d := hr3c.below hb5
  have hr4d := hr4.below hb5
  clear hb5 hx3 hr2c hr3c hr4
  go_upto_region 7 with fail
  rw [HkI.out]
  have hki : (k : Int) ≤ (P.length : Int) := by omega
  have hr3k := hr3d.take hkP
  have h4 := join_any B3 k d3 (P.take k) v4 hr3k (by omega)
  rw [HJk.out] at h4
  have H4 := Lib.hid h4
  have hsk := fun W => run_toB B3 P.length d3 k hkP hd3 W
  clear h4 hr3d
  go_wp2_with fail
  refine H4.out.mono ?_
  rintro e v5 ⟨B5, d5, rfl, hr5, hd5, _, hb6⟩
  change RdB v5 B5 S.length S at hr5
  have hx5 := below_next hx4 hb6
  obtain ⟨us, hus1, hus2, hus3⟩ := rdb_vals (hr3k.below hb6)
  obtain ⟨xs, hxs1, hxs2, hxs3⟩ := rdb_vals (hr4d.below hb6)
  have hr2e := hr2d.below hb6
  have hown0 : OwnV v5 v5.heap.size 29 none 0 0 [] := OwnV.none_ _ _ _
  have hl0 : 0 + k ≤ 1000000 := by omega
  have hl1 : k + Q.length ≤ 1000000 := by omega
  have HXs := Lib.hid hxs1
  clear hb6 hx4 hr2d hr3k hr4d hd5 hxs1
  go_upto_region 10 with (first | (at_builtin; refine wpList_appV oneB rfl (.tmp 55) (.tmp 58) rfl rfl hown0 B3 k d3 us hus3 rfl hus1 hl0 (Nat.le_refl _) ?_; intro A6 c6 v6 hg6))
  have hb6 : Below v5.heap.size v5 v6 := hg6.below (Below.refl _ _) (Nat.le_refl _) (fun g e => by cases e)
  have ho6 : OwnV v6 v5.heap.size 29 A6 k c6 us := by have := hg6.own; rwa [Nat.zero_add, List.nil_append] at this
  have hxs6 := HXs.out.below hb6
  have hba6 := hb6.size
  have HB6 := Lib.hid hb6
  clear hg6 hown0 hus1 hb6
  go_upto_region 11 with (first | (at_builtin; refine wpList_appV oneB rfl (.tmp 60) (.tmp 61) rfl rfl ho6 B4 Q.length d4 xs hxs3 rfl hxs6 hl1 hba6 ?_; intro A7 c7 v7 hg7))
  obtain ⟨hr7, hb7⟩ := two_rows hus2 hxs2 HB6.out hg7 ho6
  have h5 := join_any A7 (k + Q.length) c7 (P.take k ++ Q) v7 hr7 (by omega)
  rw [HJq.out] at h5
  have H5 := Lib.hid h5
  have hr5b := hr5.below hb7
  have hr2f := hr2e.below hb7
  have hx7 := below_next hx5 hb7
  clear hg7 ho6 hxs6 hus2 hus3 hxs2 hxs3 HXs HB6 h5 hr7 hr5 hr2e hx5 hb7
  go_wp2_with fail
  refine H5.out.mono ?_
  rintro e v8 ⟨A8, c8, rfl, hr8, hc8, _, hb8⟩
  change RdB v8 A8 (S ++ K).length (S ++ K) at hr8
  rw [List.length_append] at hr8
  have hx8 := below_next hx7 hb8
  obtain ⟨ys, hys1, hys2, hys3⟩ := rdb_vals (hr5b.below hb8)
  obtain ⟨zs, hzs1, hzs2, hzs3⟩ := rdb_vals (hr2f.below hb8)
  have hown8 : OwnV v8 v8.heap.size 29 none 0 0 [] := OwnV.none_ _ _ _
  have hl8 : 0 + S.length ≤ 1000000 := by omega
  have hl9 : S.length + K.length ≤ 1000000 := by omega
  have HZs := Lib.hid hzs1
  clear hb8 hx7 hr5b hr2f hc8 hzs1
  go_upto_region 14 with (first | (at_builtin; refine wpList_appV oneB rfl (.tmp 68) (.tmp 69) rfl rfl hown8 B5 S.length d5 ys hys3 rfl hys1 hl8 (Nat.le_refl _) ?_; intro A9 c9 v9 hg9))
  have hb9 : Below v8.heap.size v8 v9 := hg9.below (Below.refl _ _) (Nat.le_refl _) (fun g e => by cases e)
  have ho9 : OwnV v9 v8.heap.size 29 A9 S.length c9 ys := by have := hg9.own; rwa [Nat.zero_add, List.nil_append] at this
  have hzs9 := HZs.out.below hb9
  have hba9 := hb9.size
  have HB9 := Lib.hid hb9
  clear hg9 hown8 hys1 hb9
  go_upto_region 15 with (first | (at_builtin; refine wpList_appV oneB rfl (.tmp 71) (.tmp 72) rfl rfl ho9 B2 K.length d2 zs hzs3 rfl hzs9 hl9 hba9 ?_; intro A10 c10 v10 hg10))
  obtain ⟨hr10, hb10⟩ := two_rows hys2 hzs2 HB9.out hg10 ho9
  have h6 := same_any A8 A10 (S.length + K.length) (S.length + K.length) c8 c10 (S ++ K) (S ++ K) v10 (hr8.below hb10) hr10 (by omega) (by omega)
  rw [show decide (S ++ K = S ++ K) = true by simp] at h6
  have H6 := Lib.hid h6
  have hx10 := below_next hx8 hb10
  have hkb : ((k : Int) + (Q.length : Int) == (k : Int) + (Q.length : Int)) = true := by simp
  clear hg10 ho9 hzs9 hys2 hys3 hzs2 hzs3 HZs HB9 h6 hr8 hr10 hx8 hb10
  go_wp2_with fail
  refine H6.out.mono ?_
  rintro e v11 ⟨rfl, hb11⟩
  have hx11 := below_next hx10 hb11
  go_wp2_with fail
  go_ret
  exact ⟨rfl, hx11⟩
set_option maxRecDepth 100000 in
theorem lifted (os : Os) (started : os.Started) (H : Type) (enc : TypeId × Value → H) :
    ReturnsInHanded {} Try.checked os 8 .any (Rows.fragGroupsSpec.pre6 enc Try.prog Try.f8 Rows.fragGroupsRow.domain false) (Rows.fragGroupsSpec.post enc Try.prog Try.f8 false true false false) := by
  refine returnsInHanded_of_change (C := Try.checked) own started (by kernel_rfl) Try.func8
    (ChangeSpec.witness6 (enc := enc) (C := Try.checked) false ⟨#[], #[.slice none 0 0, .slice none 0 0, .int .u16 0], []⟩ 8 (by kernel_rfl) (by kernel_rfl) (by kernel_rfl) (by kernel_rfl)) ?_
  intro W base args ds gs before hval0 hW hcnd _
  have hval : ∀ (j : Nat) t v, Try.f8.params[j]? = some t → args[j]? = some v → Value.okWide Try.prog W .any base t v := hval0
  have hW' := hW
  obtain ⟨p, q, hA0, hV, rfl, hfz, hnd⟩ := hW
  have hA : DataW.TrodAll enc Try.prog W 0 (fun _ => true) true Try.f8.params.toList args.toList ds p := hA0
  rw [Try.params8] at hA hval
  obtain ⟨v0, vs0, d0, ds0, p0, q0, hargs, rfl, rfl, h0, t0⟩ := trodAll_cons hA
  obtain ⟨v1, vs1, d1, ds1, p1, q1, rfl, rfl, rfl, h1, t1⟩ := trodAll_cons t0
  obtain ⟨v2, vs2, d2, ds2, p2, q2, rfl, rfl, rfl, h2, t2⟩ := trodAll_cons t1
  obtain ⟨rfl, rfl, rfl⟩ := trodAll_nil t2
  obtain rfl : args = #[v0, v1, v2] := by cases args; simp_all
  obtain ⟨rfl, rfl⟩ := trodVars_none hV
  have k0 : Reads enc W 22 v0 d0 p0 := h0
  have lt0 : ∀ x ∈ p0, x.block < W.heap.size := by obtain ⟨m, hm⟩ := k0; exact DataW.trod_lt m _ _ _ hm
  obtain ⟨A0, m0, c0, l0, rfl, r0, wc0, w0⟩ := in_rows (hval 0 22 v0 rfl rfl) k0
  have k1 : Reads enc W 22 v1 d1 p1 := h1
  have lt1 : ∀ x ∈ p1, x.block < W.heap.size := by obtain ⟨m, hm⟩ := k1; exact DataW.trod_lt m _ _ _ hm
  obtain ⟨A1, m1, c1, l1, rfl, r1, wc1, w1⟩ := in_rows (hval 1 22 v1 rfl rfl) k1
  have k2 : Reads enc W 41 v2 d2 p2 := h2
  have lt2 : ∀ x ∈ p2, x.block < W.heap.size := by obtain ⟨m, hm⟩ := k2; exact DataW.trod_lt m _ _ _ hm
  obtain ⟨n2, rfl, w2⟩ := in_u16 (hval 2 41 v2 rfl rfl) k2
  clear hA0 hval0
  refine (walk A0 m0 c0 l0 A1 m1 c1 l1 n2 W r0 wc0 w0 r1 wc1 w1 w2).mono fun e W' ⟨he, bel⟩ => ?_
  subst he
  exact ⟨_, rfl, _, _, _, [], _, [], hW', trodAll_mk1 (shut_bool Try.underlying4 _), (trodAll_cons_mk (Below.trod laidOut (by kernel_rfl) (of_decide_eq_true (by kernel_rfl)) k0 bel lt0) (trodAll_cons_mk (Below.trod laidOut (by kernel_rfl) (of_decide_eq_true (by kernel_rfl)) k1 bel lt1) (trodAll_cons_mk (Below.trod laidOut (by kernel_rfl) (of_decide_eq_true (by kernel_rfl)) k2 bel lt2) trodAll_mk0))), rfl, bel.frame _, fun h => by cases h⟩
theorem over : Rows.fragGroupsRow.holds Try.pinned (OpenSpec.ofChange Rows.fragGroupsSpec) :=
  OpenClaim.holds_of_wide 8 Try.f8 rfl rfl rfl rfl rfl rfl rfl ⟨rfl, rfl, rfl, rfl, rfl⟩ rfl rfl rfl rfl rfl (by kernel_rfl) Try.func8 (by kernel_rfl)
    (of_decide_eq_true (by kernel_rfl)) (by unfold Func.isWrapper; first | (rw [if_pos (by decide +kernel)]; kernel_rfl) | (rw [if_neg (by decide +kernel)]; exact ⟨rfl, rfl⟩))
    (fun os started H enc _ => lifted os started H enc)
theorem proved : Rows.FragGroupsSaid := over
end Go.Proofs.Ytpfdacnjikdifaa.fragGroups
