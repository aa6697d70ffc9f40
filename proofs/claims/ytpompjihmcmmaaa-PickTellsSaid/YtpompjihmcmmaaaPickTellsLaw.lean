/- P17.1: the limits, the full levels, what overlaps. -/
import Derived.Test.YtpompjihmcmmaaaPkAwake
import Derived.Test.YtpompjihmcmmaaaPkFew
import Derived.Test.YtpompjihmcmmaaaPkIn
import Derived.Test.YtpompjihmcmmaaaIns
import Derived.Test.YtpompjihmcmmaaaHolds
import Derived.WalkKit
import Derived.ProofKit
import Derived.OpenShut
import Derived.ShutString
import Derived.ChangeOld
import Derived.Below
import Derived.Deep.RegionHeld
namespace Go.Proofs.Ytpompjihmcmmaaa.pickTells
open Go.ChangeShapes Go.WideShapes Go.ChangeAt Go.RowKit
set_option linter.unusedVariables false
theorem own : ownKnob Try.prog.godebug = none := by kernel_rfl
theorem laidOut : laidOutB Try.prog = true := by kernel_rfl
set_option maxRecDepth 100000 in
set_option maxHeartbeats 16000000 in
theorem walk (va0 vb0 : Int) (vL0 : Option Addr) (vn0 vc0 : Nat) (A0 : Option Addr) (m0 c0 : Nat) (l0 : List Pk.Tb) (n1 : Int) (s2 : ByteArray) (s3 : ByteArray) (w : World) (r0 : RdTb w A0 m0 l0) (w0 : m0 ≤ 9223372036854775807) (wl1 : -9223372036854775808 ≤ n1) (w1 : n1 ≤ 9223372036854775807) (w2 : s2.size ≤ 9223372036854775807) (w3 : s3.size ≤ 9223372036854775807) :
    Calls Try.prog 3 #[.agg #[.int .i64 va0, .int .i64 vb0, .slice vL0 vn0 vc0, .slice A0 m0 c0], .int .i64 n1, .string s2, .string s3] w fun e w' => e = .returned (.bool true) ∧ Below w.heap.size w w' := by
-- heartbeats 16000000
  have HR := Lib.hid r0
  have HFw := Lib.hid (fun (u : World) (hb : Below w.heap.size w u) => few_any va0 vb0 vL0 vn0 vc0 A0 m0 c0 l0 u (HR.out.below hb) w0)
  have HBa := Lib.hid (show Below w.heap.size w (w.alloc (.cells #[.int .i64 va0, .int .i64 vb0, .slice vL0 vn0 vc0, .slice A0 m0 c0] 25)) from (Below.refl _ _).alloc (Nat.le_refl _) _)
  have HZ := Lib.hid (Holds.new w #[.int .i64 va0, .int .i64 vb0, .slice vL0 vn0 vc0, .slice A0 m0 c0] 25)
  go_enter Try.func3, Try.ntmps3
  go_upto_region 1 with fail
  have HSz := Lib.hid (show w.heap.size < (w.alloc (.cells #[.int .i64 va0, .int .i64 vb0, .slice vL0 vn0 vc0, .slice A0 m0 c0] 25)).heap.size by simp)
  generalize (w.alloc (.cells #[.int .i64 va0, .int .i64 vb0, .slice vL0 vn0 vc0, .slice A0 m0 c0] 25)) = u at *
  replace HZ : Hid (Holds u w.heap.size [.int .i64 va0, .int .i64 vb0, .slice vL0 vn0 vc0, .slice A0 m0 c0]) := HZ
  have z0 := HZ.out.at_ 0 rfl
  have z1 := HZ.out.at_ 1 rfl
  have z2 := HZ.out.at_ 2 rfl
  have z3 := HZ.out.at_ 3 rfl
  have HFx := Lib.hid (HFw.out u HBa.out)
  replace HFx : Hid (Calls Try.prog 6 #[.agg #[.int .i64 va0, .int .i64 vb0, .slice vL0 vn0 vc0, .slice A0 m0 c0]] u (GivesFew u l0)) := HFx
  go_wp2_with fail
  refine HFx.out.mono ?_
  rintro e v1 ⟨B, n, c, he, hnc, hr1, ho1, hb1⟩
  have he : e = .returned (.agg #[.int .i64 0, .int .i64 0, .slice none 0 0, .slice B n c]) := he
  subst he
  have HZ1 := Lib.hid (HZ.out.below hb1)
  have HB1 := Lib.hid (below_next HBa.out hb1)
  have hn130 : n ≤ 130 := by have h := Pk.few_len l0; rw [hr1.1] at h; exact h
  have HFit := Lib.hid (show (Pk.few l0).length = n ∧ ∀ x ∈ Pk.few l0, x.fits from ⟨hr1.1, hr1.2.2⟩)
  have HO1 := Lib.hid ho1
  clear z0 z1 z2 z3 hb1 hr1 ho1 HFx HFw HR r0 HZ
  generalize Pk.few l0 = L at *
  have z0 := HZ1.out.at_ 0 rfl
  have z1 := HZ1.out.at_ 1 rfl
  have z2 := HZ1.out.at_ 2 rfl
  have z3 := HZ1.out.at_ 3 rfl
  have f0 := HZ1.out.2.2 0
  have f1 := HZ1.out.2.2 1
  have f2 := HZ1.out.2.2 2
  have f3 := HZ1.out.2.2 3
  go_upto_region 2 with fail
  have hnb : ∀ g, (Value.slice B n c).ownBlock = some g → g ≠ w.heap.size := fun g hg => by have h1 := (HO1.out.blk g hg).1; have h2 := HSz.out; omega
  have HZ2 := Lib.hid ((((HZ1.out.set 0 (.int .i64 0) (by simp)).set 1 (.int .i64 0) (by simp)).set 2 (.slice none 0 0) (by simp)).set 3 (.slice B n c) (by simp))
  have HR2 := Lib.hid (show RdTb ((((v1.setCell ⟨w.heap.size, 0, none⟩ (.int .i64 0)).setCell ⟨w.heap.size, 1, none⟩ (.int .i64 0)).setCell ⟨w.heap.size, 2, none⟩ (.slice none 0 0)).setCell ⟨w.heap.size, 3, none⟩ (.slice B n c)) B n L from ⟨HFit.out.1, ((((HO1.out.other hnb 0 (.int .i64 0)).other hnb 1 (.int .i64 0)).other hnb 2 (.slice none 0 0)).other hnb 3 (.slice B n c)).rd, HFit.out.2⟩)
  have HB2 := Lib.hid (show Below w.heap.size w ((((v1.setCell ⟨w.heap.size, 0, none⟩ (.int .i64 0)).setCell ⟨w.heap.size, 1, none⟩ (.int .i64 0)).setCell ⟨w.heap.size, 2, none⟩ (.slice none 0 0)).setCell ⟨w.heap.size, 3, none⟩ (.slice B n c)) from (((HB1.out.setCell (p := ⟨w.heap.size, 0, none⟩) (Nat.le_refl _) _).setCell (p := ⟨w.heap.size, 1, none⟩) (Nat.le_refl _) _).setCell (p := ⟨w.heap.size, 2, none⟩) (Nat.le_refl _) _).setCell (p := ⟨w.heap.size, 3, none⟩) (Nat.le_refl _) _)
  clear z0 z1 z2 z3 f0 f1 f2 f3 hnb
  generalize ((((v1.setCell ⟨w.heap.size, 0, none⟩ (.int .i64 0)).setCell ⟨w.heap.size, 1, none⟩ (.int .i64 0)).setCell ⟨w.heap.size, 2, none⟩ (.slice none 0 0)).setCell ⟨w.heap.size, 3, none⟩ (.slice B n c)) = v2 at *
  replace HZ2 : Hid (Holds v2 w.heap.size [.int .i64 0, .int .i64 0, .slice none 0 0, .slice B n c]) := HZ2
  have HE := Lib.hid (show ∀ W, Below v2.heap.size v2 W → (W.cell? ⟨w.heap.size, 0, none⟩ = some (.int .i64 0) ∧ W.cell? ⟨w.heap.size, 1, none⟩ = some (.int .i64 0) ∧ W.cell? ⟨w.heap.size, 2, none⟩ = some (.slice none 0 0) ∧ W.cell? ⟨w.heap.size, 3, none⟩ = some (.slice B n c)) from fun W hW => by
    have h := HZ2.out.below hW
    exact ⟨h.at_ 0 rfl, h.at_ 1 rfl, h.at_ 2 rfl, h.at_ 3 rfl⟩)
  have HPf := Lib.hid (show ∀ W, Below v2.heap.size v2 W → Calls Try.prog 10 #[.agg #[.int .i64 0, .int .i64 0, .slice none 0 0, .slice B n c]] W (GivesInts W (Pk.full L)) from fun W hW => pfull_any 0 0 none 0 0 B n c L W (HR2.out.below hW) (by omega))
  have HRf := Lib.hid (show ∀ W, Below v2.heap.size v2 W → Calls Try.prog 11 #[.agg #[.int .i64 0, .int .i64 0, .slice none 0 0, .slice B n c]] W (GivesInts W (Pk.full L)) from fun W hW => rfull_any 0 0 none 0 0 B n c L W (HR2.out.below hW) (by omega))
  have HPo := Lib.hid (show ∀ W, Below v2.heap.size v2 W → Calls Try.prog 12 #[.agg #[.int .i64 0, .int .i64 0, .slice none 0 0, .slice B n c], .int .i64 n1, .string s2, .string s3] W (GivesIdsO W (Pk.over L n1 s2 s3)) from fun W hW => overlap_any 0 0 none 0 0 B n c L n1 s2 s3 W (HR2.out.below hW) (by omega))
  have HRo := Lib.hid (show ∀ W, Below v2.heap.size v2 W → Calls Try.prog 13 #[.agg #[.int .i64 0, .int .i64 0, .slice none 0 0, .slice B n c], .int .i64 n1, .string s2, .string s3] W (GivesIds W (Pk.over L n1 s2 s3)) from fun W hW => roverlap_any 0 0 none 0 0 B n c L n1 s2 s3 W (HR2.out.below hW) (by omega))
  have hF3 : (Pk.full L).length ≤ 1000000 := by
    unfold Pk.full
    rw [List.length_map]
    exact Nat.le_trans (List.length_filter_le _ _) (by decide)
  have hO3 : (Pk.over L n1 s2 s3).length ≤ 1000000 := by
    unfold Pk.over
    rw [Pk.idl_len]
    exact Nat.le_trans (List.length_filter_le _ _) (by rw [HFit.out.1]; omega)
  have HLm := Lib.hid (fun (W : World) => limit_any n1 W)
  have HLr := Lib.hid (fun (W : World) => rlimit_any n1 W)
  generalize Pk.full L = FL at *
  generalize Pk.over L n1 s2 s3 = OL at *
  generalize Pk.lim n1 = q at *
  have e0 : (q == q) = true := by simp
  have hd : Below v2.heap.size v2 v2.drew := (Below.refl _ _).drew
  clear HFit HO1 HB1 HR2 HZ1 HZ2 HSz HBa hnc w0 wl1 w1 w2 w3
  go_region_held3 (fun wx => wx.cell? ⟨w.heap.size, 0, none⟩ = some (.int .i64 0) ∧ wx.cell? ⟨w.heap.size, 1, none⟩ = some (.int .i64 0) ∧ wx.cell? ⟨w.heap.size, 2, none⟩ = some (.slice none 0 0) ∧ wx.cell? ⟨w.heap.size, 3, none⟩ = some (.slice B n c)) (exact HE.out _ (by assumption)) (first
    | (go_at_call 7; refine (HLm.out _).mono ?_; rintro e vl ⟨rfl, rfl⟩)
    | (go_at_call 8; refine (HLr.out _).mono ?_; rintro e vl ⟨rfl, rfl⟩)
    | (go_at_call 10; (first
      | (refine (HPf.out _ hkr).mono ?_; rintro e vp ⟨Bp, cp, rfl, hop, hbp⟩; have hkb : Below v2.heap.size v2 vp := below_next hkr hbp; have hp := hop.ints; have hr := hor.below hbp)
      | (refine (HPf.out _ hd).mono ?_; rintro e vp ⟨Bp, cp, rfl, hop0, hbp⟩; have hop := hop0.ints; have hkp : Below v2.heap.size v2 vp := below_next hd hbp)))
    | (go_at_call 11; (first
      | (refine (HRf.out _ hkp).mono ?_; rintro e vr ⟨Br, cr, rfl, hor, hbr⟩; have hkb : Below v2.heap.size v2 vr := below_next hkp hbr; have hr := hor.ints; have hp := hop.below hbr)
      | (refine (HRf.out _ hd).mono ?_; rintro e vr ⟨Br, cr, rfl, hor0, hbr⟩; have hor := hor0.ints; have hkr : Below v2.heap.size v2 vr := below_next hd hbr)))
    | (go_at_call 12; (first
      | (refine (HPo.out _ hlr).mono ?_; rintro e xp ⟨Cp, dp, rfl, _, hup, hcp, _⟩; have hlb : Below v2.heap.size v2 xp := below_next hlr hcp; have gp := hup; have gr := hur.below hcp)
      | (refine (HPo.out _ hks).mono ?_; rintro e xp ⟨Cp, dp, rfl, _, hup, hcp, _⟩; have hlp : Below v2.heap.size v2 xp := below_next hks hcp)))
    | (go_at_call 13; (first
      | (refine (HRo.out _ hlp).mono ?_; rintro e xr ⟨Cr, dr, rfl, _, hur, hcr⟩; have hlb : Below v2.heap.size v2 xr := below_next hlp hcr; have gr := hur; have gp := hup.below hcr)
      | (refine (HRo.out _ hks).mono ?_; rintro e xr ⟨Cr, dr, rfl, _, hur, hcr⟩; have hlr : Below v2.heap.size v2 xr := below_next hks hcr)))
    | (go_at_call 9; (first
      | (refine (same_self Cp Cr _ _ dp dr OL _ gp gr hO3).mono ?_; rintro e xs ⟨rfl, hcs⟩; have hls : Below v2.heap.size v2 xs := below_next hlb hcs)
      | (refine (same_self Bp Br _ _ cp cr FL _ hp hr hF3).mono ?_; rintro e vs ⟨rfl, hbs⟩; have hks : Below v2.heap.size v2 vs := below_next hkb hbs)))
    | (go_at_call 14; refine (awake_any _).mono ?_; rintro e va ⟨rfl, hba⟩; have hka : Below v2.heap.size v2 va := below_next hls hba))
  all_goals
    go_wp2
    go_ret
    exact ⟨rfl, below_next HB2.out hka⟩
set_option maxRecDepth 100000 in
theorem lifted (os : Os) (started : os.Started) (H : Type) (enc : TypeId × Value → H) :
    ReturnsInHanded {} Try.checked os 3 .any (Rows.pickTellsSpec.pre6 enc Try.prog Try.f3 Rows.pickTellsRow.domain false) (Rows.pickTellsSpec.post enc Try.prog Try.f3 false true false false) := by
  refine returnsInHanded_of_change (C := Try.checked) own started (by kernel_rfl) Try.func3
    (ChangeSpec.witness6 (enc := enc) (C := Try.checked) false ⟨#[], #[.agg #[.int .i64 0, .int .i64 0, .slice none 0 0, .slice none 0 0], .int .i64 0, .string ⟨#[]⟩, .string ⟨#[]⟩], []⟩ 8 (by kernel_rfl) (by kernel_rfl) (by kernel_rfl) (by kernel_rfl)) ?_
  intro W base args ds gs before hval0 hW hcnd _
  have hval : ∀ (j : Nat) t v, Try.f3.params[j]? = some t → args[j]? = some v → Value.okWide Try.prog W .any base t v := hval0
  have hW' := hW
  obtain ⟨p, q, hA0, hV, rfl, hfz, hnd⟩ := hW
  have hA : DataW.TrodAll enc Try.prog W 0 (fun _ => true) true Try.f3.params.toList args.toList ds p := hA0
  rw [Try.params3] at hA hval
  obtain ⟨v0, vs0, d0, ds0, p0, q0, hargs, rfl, rfl, h0, t0⟩ := trodAll_cons hA
  obtain ⟨v1, vs1, d1, ds1, p1, q1, rfl, rfl, rfl, h1, t1⟩ := trodAll_cons t0
  obtain ⟨v2, vs2, d2, ds2, p2, q2, rfl, rfl, rfl, h2, t2⟩ := trodAll_cons t1
  obtain ⟨v3, vs3, d3, ds3, p3, q3, rfl, rfl, rfl, h3, t3⟩ := trodAll_cons t2
  obtain ⟨rfl, rfl, rfl⟩ := trodAll_nil t3
  obtain rfl : args = #[v0, v1, v2, v3] := by cases args; simp_all
  obtain ⟨rfl, rfl⟩ := trodVars_none hV
  have k0 : Reads enc W 25 v0 d0 p0 := h0
  have lt0 : ∀ x ∈ p0, x.block < W.heap.size := by obtain ⟨m, hm⟩ := k0; exact DataW.trod_lt m _ _ _ hm
  obtain ⟨va0, vb0, vL0, vn0, vc0, A0, m0, c0, l0, rfl, r0, w0⟩ := in_version (hval 0 25 v0 rfl rfl) k0
  have k1 : Reads enc W 3 v1 d1 p1 := h1
  have lt1 : ∀ x ∈ p1, x.block < W.heap.size := by obtain ⟨m, hm⟩ := k1; exact DataW.trod_lt m _ _ _ hm
  obtain ⟨n1, rfl, wl1, w1⟩ := in_int (hval 1 3 v1 rfl rfl) k1
  have k2 : Reads enc W 9 v2 d2 p2 := h2
  have lt2 : ∀ x ∈ p2, x.block < W.heap.size := by obtain ⟨m, hm⟩ := k2; exact DataW.trod_lt m _ _ _ hm
  obtain ⟨s2, rfl, w2⟩ := in_str (hval 2 9 v2 rfl rfl) k2
  have k3 : Reads enc W 9 v3 d3 p3 := h3
  have lt3 : ∀ x ∈ p3, x.block < W.heap.size := by obtain ⟨m, hm⟩ := k3; exact DataW.trod_lt m _ _ _ hm
  obtain ⟨s3, rfl, w3⟩ := in_str (hval 3 9 v3 rfl rfl) k3
  clear hA0 hval0
  refine (walk va0 vb0 vL0 vn0 vc0 A0 m0 c0 l0 n1 s2 s3 W r0 w0 wl1 w1 w2 w3).mono fun e W' ⟨he, bel⟩ => ?_
  subst he
  exact ⟨_, rfl, _, _, _, [], _, [], hW', trodAll_mk1 (shut_bool Try.underlying4 _), (trodAll_cons_mk (Below.trod laidOut (by kernel_rfl) (of_decide_eq_true (by kernel_rfl)) k0 bel lt0) (trodAll_cons_mk (Below.trod laidOut (by kernel_rfl) (of_decide_eq_true (by kernel_rfl)) k1 bel lt1) (trodAll_cons_mk (Below.trod laidOut (by kernel_rfl) (of_decide_eq_true (by kernel_rfl)) k2 bel lt2) (trodAll_cons_mk (Below.trod laidOut (by kernel_rfl) (of_decide_eq_true (by kernel_rfl)) k3 bel lt3) trodAll_mk0)))), rfl, bel.frame _, fun h => by cases h⟩
theorem over : Rows.pickTellsRow.holds Try.pinned (OpenSpec.ofChange Rows.pickTellsSpec) :=
  OpenClaim.holds_of_wide 3 Try.f3 rfl rfl rfl rfl rfl rfl rfl ⟨rfl, rfl, rfl, rfl, rfl⟩ rfl rfl rfl rfl rfl (by kernel_rfl) Try.func3 (by kernel_rfl)
    (of_decide_eq_true (by kernel_rfl)) (by unfold Func.isWrapper; first | (rw [if_pos (by decide +kernel)]; kernel_rfl) | (rw [if_neg (by decide +kernel)]; exact ⟨rfl, rfl⟩))
    (fun os started H enc _ => lifted os started H enc)
theorem proved : Rows.PickTellsSaid := over
end Go.Proofs.Ytpompjihmcmmaaa.pickTells
