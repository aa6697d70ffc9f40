/- For every two slices of bytes (of the first one the first 300) and every string: with more bits set a filter has what it had, and the first slice reads as it did (P11.5), and the example at the head holds; the arguments stay as they were. No condition. -/
import Derived.Test.YtpoogjdkjolkhaaBloomMoreM
import Derived.WalkKit
import Derived.ProofKit
import Derived.OpenShut
import Derived.ShutString
import Derived.ChangeOld
import Derived.Below
import Derived.Deep.RegionHeld
namespace Go.Proofs.Ytpoogjdkjolkhaa.bloomMore
open Go.ChangeShapes Go.WideShapes Go.ChangeAt Go.RowKit
set_option linter.unusedVariables false
theorem own : ownKnob Try.prog.godebug = none := by kernel_rfl
theorem laidOut : laidOutB Try.prog = true := by kernel_rfl
set_option maxRecDepth 100000 in
set_option maxHeartbeats 2000000 in
theorem walk (A0 : Option Addr) (m0 c0 : Nat) (l0 : List Nat) (A1 : Option Addr) (m1 c1 : Nat) (l1 : List Nat) (s2 : ByteArray) (w : World) (r0 : Rd w A0 m0 l0) (wc0 : m0 ≤ c0) (w0 : m0 ≤ 9223372036854775807) (r1 : Rd w A1 m1 l1) (wc1 : m1 ≤ c1) (w1 : m1 ≤ 9223372036854775807) (w2 : s2.size ≤ 9223372036854775807) :
    Calls Try.prog 8 #[.slice A0 m0 c0, .slice A1 m1 c1, .string s2] w fun e w' => e = .returned (.bool true) ∧ Below w.heap.size w w' := by
  -- heartbeats 2000000
  by_cases hcut : 300 < m0
  · have hi300 : 300 < (m0 : Int) := by omega
    have hr300 := r0.take (k := 300) (by omega)
    have hcap : (300 : Int) ≤ (c0 : Int) := by omega
    go_enter Try.func8, Try.ntmps8
    go_wp2_with (first | (at_builtin; refine wpList_appB rfl (.tmp 15) (.tmp 16) rfl rfl (Own.empty w) A0 300 c0 (l0.take 300) rfl (hr300.alloc _) (by omega) (size_alloc_le _ _) ?_; intro A3 cap3 w3 hg3; have hz := hg3.fresh; have hb1 := hz.1; have ho1 := hz.2; clear hg3 hz))
    go_loopw [8] (fun i wr => ∃ (k : Nat) (g : List Nat), 1 ≤ k ∧ k ≤ 301 ∧ i = .int .i64 (k : Int) ∧ Own wr w.heap.size A3 300 cap3 g ∧ Below w.heap.size w wr ∧ Hid (More (l0.take 300) g)) (fun i _ => 301 - (intOf i).toNat)
    case atStart => exact ⟨1, (l0.take 300), by omega, by omega, rfl, ho1, hb1, Lib.hid (More.refl _)⟩
    case round =>
      clear ho1 hb1
      obtain ⟨k, g, hk1, hk2, rfl, ho, hb, hM⟩ := hrel
      have hk1i : (1 : Int) ≤ (k : Int) := by omega
      by_cases hkn : k < 300 ∧ k < m1
      · obtain ⟨h1, h2⟩ := hkn
        have h1i : (k : Int) < 300 := by omega
        have h2i : (k : Int) < (m1 : Int) := by omega
        obtain ⟨b, rfl, hb0, hbl⟩ := ho.form (by omega)
        have hgk : ∃ x, g[k]? = some x := ⟨_, List.getElem?_eq_getElem (by rw [ho.1]; exact h1)⟩
        obtain ⟨x, hx⟩ := hgk
        have hx2 := ho.rd.lt' hx
        have hc := ho.cell hx
        have hfz := ho.free k
        obtain ⟨b2, o2, y, rfl, hbl2, hy, hy2, hcell⟩ := r1.at_ h2
        have hcell1 := (hb.cell (p := ⟨b2, o2 + k, none⟩) hbl2).trans hcell
        have Hx := Lib.hid hx
        clear hx hy hcell
        go_wp2
        go_region
        go_wp2
        go_roundw
        case rel =>
          rw [u8_or2 x y hx2 hy2]
          exact ⟨k + 1, _, by omega, by omega, by go_num, (ho.set k (x ||| y) (or_lt2 x y hx2 hy2)).drew, (hb.setCell hb0 _).drew, Lib.hid (hM.out.set k x y hk1 Hx.out)⟩
        case measure => simp [intOf]; omega
      · have hrd := hr300.below hb
        have hcv := run_str (cap := c0) hrd
        have hlg := ho.rd
        have hss := str_same (a := (l0.take 300)) rfl
        cases hF : hasF (l0.take 300) s2
        · have hh := fun W h => has_any A0 300 c0 (l0.take 300) s2 W h (by omega) w2
          rw [hF] at hh
          have Hh := Lib.hid hh
          clear hh hF hM
          by_cases h1 : k < 300
          · have h1i : (k : Int) < 300 := by omega
            have h2i : ¬ (k : Int) < (m1 : Int) := by omega
            clear hkn
            go_wp2_with (first | (go_at_call 17; refine (Hh.out _ hrd).mono ?_; rintro e v1 ⟨rfl, hb1⟩; have hcv2 := run_str (cap := c0) (hrd.below hb1)) | (go_at_call 14; refine (awake_any _).mono ?_; rintro e v5 ⟨rfl, hb5⟩))
            go_ret
            exact ⟨rfl, below_next (below_next hb hb1) hb5⟩
          · have h1i : ¬ (k : Int) < 300 := by omega
            clear hkn
            go_wp2_with (first | (go_at_call 17; refine (Hh.out _ hrd).mono ?_; rintro e v1 ⟨rfl, hb1⟩; have hcv2 := run_str (cap := c0) (hrd.below hb1)) | (go_at_call 14; refine (awake_any _).mono ?_; rintro e v5 ⟨rfl, hb5⟩))
            go_ret
            exact ⟨rfl, below_next (below_next hb hb1) hb5⟩
        · have hh := fun W h => has_any A0 300 c0 (l0.take 300) s2 W h (by omega) w2
          rw [hF] at hh
          have hg := hM.out.hasF s2 hF
          have hh3 := fun W h => has_any A3 300 cap3 g s2 W h (by omega) w2
          rw [hg] at hh3
          have Hh := Lib.hid hh
          have Hh3 := Lib.hid hh3
          clear hh hh3 hF hM hg
          by_cases h1 : k < 300
          · have h1i : (k : Int) < 300 := by omega
            have h2i : ¬ (k : Int) < (m1 : Int) := by omega
            clear hkn
            go_wp2_with fail
            refine (Hh.out _ hrd).mono ?_
            rintro e v1 ⟨rfl, hb1⟩
            go_wp2_with fail
            refine (Hh3.out _ (hlg.below hb1)).mono ?_
            rintro e v2 ⟨rfl, hb2⟩
            have hcv2 := run_str (cap := c0) ((hrd.below hb1).below hb2)
            go_wp2_with (first | (go_at_call 14; refine (awake_any _).mono ?_; rintro e v5 ⟨rfl, hb5⟩))
            go_ret
            exact ⟨rfl, below_next (below_next (below_next hb hb1) hb2) hb5⟩
          · have h1i : ¬ (k : Int) < 300 := by omega
            clear hkn
            go_wp2_with fail
            refine (Hh.out _ hrd).mono ?_
            rintro e v1 ⟨rfl, hb1⟩
            go_wp2_with fail
            refine (Hh3.out _ (hlg.below hb1)).mono ?_
            rintro e v2 ⟨rfl, hb2⟩
            have hcv2 := run_str (cap := c0) ((hrd.below hb1).below hb2)
            go_wp2_with (first | (go_at_call 14; refine (awake_any _).mono ?_; rintro e v5 ⟨rfl, hb5⟩))
            go_ret
            exact ⟨rfl, below_next (below_next (below_next hb hb1) hb2) hb5⟩
  · have hi300 : ¬ 300 < (m0 : Int) := by omega
    go_enter Try.func8, Try.ntmps8
    go_wp2_with (first | (at_builtin; refine wpList_appB rfl (.tmp 15) (.tmp 16) rfl rfl (Own.empty w) A0 m0 c0 l0 rfl (r0.alloc _) (by omega) (size_alloc_le _ _) ?_; intro A3 cap3 w3 hg3; have hz := hg3.fresh; have hb1 := hz.1; have ho1 := hz.2; clear hg3 hz))
    go_loopw [8] (fun i wr => ∃ (k : Nat) (g : List Nat), 1 ≤ k ∧ k ≤ 301 ∧ i = .int .i64 (k : Int) ∧ Own wr w.heap.size A3 m0 cap3 g ∧ Below w.heap.size w wr ∧ Hid (More l0 g)) (fun i _ => 301 - (intOf i).toNat)
    case atStart => exact ⟨1, l0, by omega, by omega, rfl, ho1, hb1, Lib.hid (More.refl _)⟩
    case round =>
      clear ho1 hb1
      obtain ⟨k, g, hk1, hk2, rfl, ho, hb, hM⟩ := hrel
      have hk1i : (1 : Int) ≤ (k : Int) := by omega
      by_cases hkn : k < m0 ∧ k < m1
      · obtain ⟨h1, h2⟩ := hkn
        have h1i : (k : Int) < (m0 : Int) := by omega
        have h2i : (k : Int) < (m1 : Int) := by omega
        obtain ⟨b, rfl, hb0, hbl⟩ := ho.form (by omega)
        have hgk : ∃ x, g[k]? = some x := ⟨_, List.getElem?_eq_getElem (by rw [ho.1]; exact h1)⟩
        obtain ⟨x, hx⟩ := hgk
        have hx2 := ho.rd.lt' hx
        have hc := ho.cell hx
        have hfz := ho.free k
        obtain ⟨b2, o2, y, rfl, hbl2, hy, hy2, hcell⟩ := r1.at_ h2
        have hcell1 := (hb.cell (p := ⟨b2, o2 + k, none⟩) hbl2).trans hcell
        have Hx := Lib.hid hx
        clear hx hy hcell
        go_wp2
        go_region
        go_wp2
        go_roundw
        case rel =>
          rw [u8_or2 x y hx2 hy2]
          exact ⟨k + 1, _, by omega, by omega, by go_num, (ho.set k (x ||| y) (or_lt2 x y hx2 hy2)).drew, (hb.setCell hb0 _).drew, Lib.hid (hM.out.set k x y hk1 Hx.out)⟩
        case measure => simp [intOf]; omega
      · have hrd := r0.below hb
        have hcv := run_str (cap := c0) hrd
        have hlg := ho.rd
        have hss := str_same (a := l0) rfl
        cases hF : hasF l0 s2
        · have hh := fun W h => has_any A0 m0 c0 l0 s2 W h (by omega) w2
          rw [hF] at hh
          have Hh := Lib.hid hh
          clear hh hF hM
          by_cases h1 : k < m0
          · have h1i : (k : Int) < (m0 : Int) := by omega
            have h2i : ¬ (k : Int) < (m1 : Int) := by omega
            clear hkn
            go_wp2_with (first | (go_at_call 17; refine (Hh.out _ hrd).mono ?_; rintro e v1 ⟨rfl, hb1⟩; have hcv2 := run_str (cap := c0) (hrd.below hb1)) | (go_at_call 14; refine (awake_any _).mono ?_; rintro e v5 ⟨rfl, hb5⟩))
            go_ret
            exact ⟨rfl, below_next (below_next hb hb1) hb5⟩
          · have h1i : ¬ (k : Int) < (m0 : Int) := by omega
            clear hkn
            go_wp2_with (first | (go_at_call 17; refine (Hh.out _ hrd).mono ?_; rintro e v1 ⟨rfl, hb1⟩; have hcv2 := run_str (cap := c0) (hrd.below hb1)) | (go_at_call 14; refine (awake_any _).mono ?_; rintro e v5 ⟨rfl, hb5⟩))
            go_ret
            exact ⟨rfl, below_next (below_next hb hb1) hb5⟩
        · have hh := fun W h => has_any A0 m0 c0 l0 s2 W h (by omega) w2
          rw [hF] at hh
          have hg := hM.out.hasF s2 hF
          have hh3 := fun W h => has_any A3 m0 cap3 g s2 W h (by omega) w2
          rw [hg] at hh3
          have Hh := Lib.hid hh
          have Hh3 := Lib.hid hh3
          clear hh hh3 hF hM hg
          by_cases h1 : k < m0
          · have h1i : (k : Int) < (m0 : Int) := by omega
            have h2i : ¬ (k : Int) < (m1 : Int) := by omega
            clear hkn
            go_wp2_with fail
            refine (Hh.out _ hrd).mono ?_
            rintro e v1 ⟨rfl, hb1⟩
            go_wp2_with fail
            refine (Hh3.out _ (hlg.below hb1)).mono ?_
            rintro e v2 ⟨rfl, hb2⟩
            have hcv2 := run_str (cap := c0) ((hrd.below hb1).below hb2)
            go_wp2_with (first | (go_at_call 14; refine (awake_any _).mono ?_; rintro e v5 ⟨rfl, hb5⟩))
            go_ret
            exact ⟨rfl, below_next (below_next (below_next hb hb1) hb2) hb5⟩
          · have h1i : ¬ (k : Int) < (m0 : Int) := by omega
            clear hkn
            go_wp2_with fail
            refine (Hh.out _ hrd).mono ?_
            rintro e v1 ⟨rfl, hb1⟩
            go_wp2_with fail
            refine (Hh3.out _ (hlg.below hb1)).mono ?_
            rintro e v2 ⟨rfl, hb2⟩
            have hcv2 := run_str (cap := c0) ((hrd.below hb1).below hb2)
            go_wp2_with (first | (go_at_call 14; refine (awake_any _).mono ?_; rintro e v5 ⟨rfl, hb5⟩))
            go_ret
            exact ⟨rfl, below_next (below_next (below_next hb hb1) hb2) hb5⟩
set_option maxRecDepth 100000 in
theorem lifted (os : Os) (started : os.Started) (H : Type) (enc : TypeId × Value → H) :
    ReturnsInHanded {} Try.checked os 8 .any (Rows.bloomMoreSpec.pre6 enc Try.prog Try.f8 Rows.bloomMoreRow.domain false) (Rows.bloomMoreSpec.post enc Try.prog Try.f8 false true false false) := by
  refine returnsInHanded_of_change (C := Try.checked) own started (by kernel_rfl) Try.func8
    (ChangeSpec.witness6 (enc := enc) (C := Try.checked) false ⟨#[], #[.slice none 0 0, .slice none 0 0, .string ⟨#[]⟩], []⟩ 8 (by kernel_rfl) (by kernel_rfl) (by kernel_rfl) (by kernel_rfl)) ?_
  intro W base args ds gs before hval0 hW hcnd _
  have hval : ∀ (j : Nat) t v, Try.f8.params[j]? = some t → args[j]? = some v → Value.okWide Try.prog W .any base t v := hval0
  have hW' := hW
  obtain ⟨p, q, hA0, hV, rfl, hfz, hnd⟩ := hW
  have hA : DataW.TrodAll enc Try.prog W 0 (fun _ => true) true Try.f8.params.toList args.toList ds p := hA0
  rw [Try.params8] at hA hval
  obtain ⟨v0, vs0, d0, ds0, p0, q0, hargs, rfl, rfl, h0, t0⟩ := trodAll_cons hA
  obtain ⟨v1, vs1, d1, ds1, p1, q1, rfl, rfl, rfl, h1, t1⟩ := trodAll_cons t0
  obtain ⟨v2, vs2, d2, ds2, p2, q2, rfl, rfl, rfl, h2, t2⟩ := trodAll_cons t1
  obtain ⟨rfl, rfl, rfl⟩ := trodAll_nil t2
  obtain rfl : args = #[v0, v1, v2] := by cases args; simp_all
  obtain ⟨rfl, rfl⟩ := trodVars_none hV
  have k0 : Reads enc W 24 v0 d0 p0 := h0
  have lt0 : ∀ x ∈ p0, x.block < W.heap.size := by obtain ⟨m, hm⟩ := k0; exact DataW.trod_lt m _ _ _ hm
  obtain ⟨A0, m0, c0, l0, rfl, r0, wc0, w0⟩ := in_bytes (hval 0 24 v0 rfl rfl) k0
  have k1 : Reads enc W 24 v1 d1 p1 := h1
  have lt1 : ∀ x ∈ p1, x.block < W.heap.size := by obtain ⟨m, hm⟩ := k1; exact DataW.trod_lt m _ _ _ hm
  obtain ⟨A1, m1, c1, l1, rfl, r1, wc1, w1⟩ := in_bytes (hval 1 24 v1 rfl rfl) k1
  have k2 : Reads enc W 9 v2 d2 p2 := h2
  have lt2 : ∀ x ∈ p2, x.block < W.heap.size := by obtain ⟨m, hm⟩ := k2; exact DataW.trod_lt m _ _ _ hm
  obtain ⟨s2, rfl, w2⟩ := in_str (hval 2 9 v2 rfl rfl) k2
  clear hA0 hval0
  refine (walk A0 m0 c0 l0 A1 m1 c1 l1 s2 W r0 wc0 w0 r1 wc1 w1 w2).mono fun e W' ⟨he, bel⟩ => ?_
  subst he
  exact ⟨_, rfl, _, _, _, [], _, [], hW', trodAll_mk1 (shut_bool Try.underlying4 _), (trodAll_cons_mk (Below.trod laidOut (by kernel_rfl) (of_decide_eq_true (by kernel_rfl)) k0 bel lt0) (trodAll_cons_mk (Below.trod laidOut (by kernel_rfl) (of_decide_eq_true (by kernel_rfl)) k1 bel lt1) (trodAll_cons_mk (Below.trod laidOut (by kernel_rfl) (of_decide_eq_true (by kernel_rfl)) k2 bel lt2) trodAll_mk0))), rfl, bel.frame _, fun h => by cases h⟩
theorem over : Rows.bloomMoreRow.holds Try.pinned (OpenSpec.ofChange Rows.bloomMoreSpec) :=
  OpenClaim.holds_of_wide 8 Try.f8 rfl rfl rfl rfl rfl rfl rfl ⟨rfl, rfl, rfl, rfl, rfl⟩ rfl rfl rfl rfl rfl (by kernel_rfl) Try.func8 (by kernel_rfl)
    (of_decide_eq_true (by kernel_rfl)) (by unfold Func.isWrapper; first | (rw [if_pos (by decide +kernel)]; kernel_rfl) | (rw [if_neg (by decide +kernel)]; exact ⟨rfl, rfl⟩))
    (fun os started H enc _ => lifted os started H enc)
theorem proved : Rows.BloomMoreSaid := over
end Go.Proofs.Ytpoogjdkjolkhaa.bloomMore
