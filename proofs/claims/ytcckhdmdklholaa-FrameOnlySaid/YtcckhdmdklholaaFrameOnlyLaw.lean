/- For every slice of bytes: what Decode gives of its first 300 bytes, encoded again, is these bytes, and of what is no frame Decode gives ErrFrame and zero values (P4.5), and the example at the head holds; the arguments stay as they were. No condition. -/
import Derived.Test.YtcckhdmdklholaaFrTwo
import Derived.Test.YtcckhdmdklholaaFrBoth
import Derived.Test.YtcckhdmdklholaaFrAwake
import Derived.Test.YtcckhdmdklholaaIns
import Derived.Test.YtcckhdmdklholaaHolds
import Derived.WalkKit
import Derived.ProofKit
import Derived.OpenShut
import Derived.ShutString
import Derived.ChangeOld
import Derived.Below
import Derived.Deep.RegionHeld
namespace Go.Proofs.Ytcckhdmdklholaa.frameOnly
open Go.ChangeShapes Go.WideShapes Go.ChangeAt Go.RowKit
set_option linter.unusedVariables false
theorem own : ownKnob Try.prog.godebug = none := by kernel_rfl
theorem laidOut : laidOutB Try.prog = true := by kernel_rfl
set_option maxRecDepth 100000 in
set_option maxHeartbeats 4000000 in
theorem walk (A0 : Option Addr) (m0 c0 : Nat) (l0 : List Nat) (w : World) (r0 : Rd w A0 m0 l0) (wc0 : m0 ≤ c0) (w0 : m0 ≤ 9223372036854775807) :
    Calls Try.prog 7 #[.slice A0 m0 c0] w fun e w' => e = .returned (.bool true) ∧ Below w.heap.size w w' := by
  -- heartbeats 4000000
  have hm := r0.1
  subst hm
  have hcut := fun W => cut_any A0 l0.length c0 l0 W rfl wc0 w0
  have HCut := Lib.hid hcut
  have hpl := fun (W : World) (hW : Below w.heap.size w W) => (r0.take (k := min 300 l0.length) (Nat.min_le_right _ _)).below hW
  have hpe : (l0.take (min 300 l0.length)) = l0.take 300 := by rw [← List.take_take]; simp
  have hpn : (l0.take 300).length = min 300 l0.length := List.length_take
  rw [hpe, ← hpn] at hpl
  have hb256 : ∀ x ∈ l0.take 300, x < 256 := fun x hx => r0.2.1 x (List.mem_of_mem_take hx)
  have hbig : (l0.take 300).length ≤ 9223372036854775807 := by rw [hpn]; omega
  have hcc : (l0.take 300).length ≤ c0 := by rw [hpn]; omega
  clear hpe hpn hcut
  generalize l0.take 300 = pl at *
  have HP := Lib.hid hpl
  clear hpl
  by_cases hF : Fr.isF pl = true
  · have hd := fun (W : World) (hW : Below w.heap.size w W) => decode_any A0 pl.length c0 pl W (HP.out W hW) hcc hF
    have hfo := Fr.frame_of hb256 hF
    obtain ⟨hl, h1, hk, hn, hs, h5, h6⟩ := Fr.isF_iff.1 hF
    have hpl : ((pl.drop 16).take (Fr.F pl 2 2)).length = Fr.F pl 2 2 := by rw [List.length_take, List.length_drop]; omega
    have he := fun (A : Option Addr) (c : Nat) (W : World) (hr : Rd W A ((pl.drop 16).take (Fr.F pl 2 2)).length ((pl.drop 16).take (Fr.F pl 2 2))) => encode_row (Fr.F pl 4 4) (Fr.F pl 8 4) (Fr.F pl 12 4) (Fr.F pl 1 1) A c ((pl.drop 16).take (Fr.F pl 2 2)) W hs hk hr (by omega)
    rw [hfo] at he
    clear hfo h1 hk hn hs h5 h6 hpl hF hb256 hcc hbig
    generalize (pl.drop 16).take (Fr.F pl 2 2) = p at *
    generalize Fr.F pl 4 4 = f at *
    generalize Fr.F pl 8 4 = e at *
    generalize Fr.F pl 12 4 = i at *
    generalize Fr.F pl 1 1 = k at *
    have HD := Lib.hid hd
    have HE := Lib.hid he
    have HL := Lib.hid hl
    clear hd he hl
    unfold GivesDec at HD
    go_enter Try.func7, Try.ntmps7
    go_wp2_with fail
    refine (HCut.out _).mono ?_
    rintro e9 v0 ⟨rfl, rfl⟩
    go_wp2_with fail
    refine (HD.out _ (Below.refl _ _)).mono ?_
    rintro e9 v1 ⟨B, d, rfl, hr1, hb1⟩
    have k1 := Holds.new v1 #[.int .i64 (f : Int), .int .i64 (e : Int), .int .i64 (i : Int)] 23
    have hx1 := hb1.alloc hb1.size (.cells #[.int .i64 (f : Int), .int .i64 (e : Int), .int .i64 (i : Int)] 23)
    have hr1b := hr1.alloc (.cells #[.int .i64 (f : Int), .int .i64 (e : Int), .int .i64 (i : Int)] 23)
    have a0 := k1.at_ 0 rfl
    have a1 := k1.at_ 1 rfl
    have a2 := k1.at_ 2 rfl
    clear hr1 hb1 k1
    go_wp2_with fail
    refine (HE.out B d _ hr1b).mono ?_
    rintro e9 v2 ⟨B2, d2, rfl, hr2, hd2, hb2⟩
    have hx2 := below_next hx1 hb2
    have s1 := run_str (cap := d2) hr2
    have s2 := run_str (cap := c0) (HP.out _ hx2)
    clear hr2 hb2 hr1b a0 a1 a2 hx1
    go_wp2_with fail
    refine (awake_any _).mono ?_
    rintro e9 v4 ⟨rfl, hb4⟩
    have hx4 := below_next hx2 hb4
    go_wp2_with fail
    go_ret
    exact ⟨rfl, hx4⟩
  · have hF2 : Fr.isF pl = false := by simpa using hF
    have hd := fun (W : World) (hW : Below w.heap.size w W) => decode_no A0 pl.length c0 pl W (HP.out W hW) hcc hbig hF2
    have HD := Lib.hid hd
    clear hF hF2 hd hb256 hcc hbig
    unfold GivesDec at HD
    go_enter Try.func7, Try.ntmps7
    go_wp2_with fail
    refine (HCut.out _).mono ?_
    rintro e9 v0 ⟨rfl, rfl⟩
    go_wp2_with fail
    refine (HD.out _ (Below.refl _ _)).mono ?_
    rintro e9 v1 ⟨B, d, rfl, hr1, hb1⟩
    have hx1 := hb1.alloc hb1.size (.cells #[.int .i64 0, .int .i64 0, .int .i64 0] 23)
    clear hr1 hb1
    go_wp2_with fail
    refine (awake_any _).mono ?_
    rintro e9 v4 ⟨rfl, hb4⟩
    have hx4 := below_next hx1 hb4
    go_wp2_with fail
    go_ret
    exact ⟨rfl, hx4⟩
set_option maxRecDepth 100000 in
theorem lifted (os : Os) (started : os.Started) (H : Type) (enc : TypeId × Value → H) :
    ReturnsInHanded {} Try.checked os 7 .any (Rows.frameOnlySpec.pre6 enc Try.prog Try.f7 Rows.frameOnlyRow.domain false) (Rows.frameOnlySpec.post enc Try.prog Try.f7 false true false false) := by
  refine returnsInHanded_of_change (C := Try.checked) own started (by kernel_rfl) Try.func7
    (ChangeSpec.witness6 (enc := enc) (C := Try.checked) false ⟨#[], #[.slice none 0 0], []⟩ 8 (by kernel_rfl) (by kernel_rfl) (by kernel_rfl) (by kernel_rfl)) ?_
  intro W base args ds gs before hval0 hW hcnd _
  have hval : ∀ (j : Nat) t v, Try.f7.params[j]? = some t → args[j]? = some v → Value.okWide Try.prog W .any base t v := hval0
  have hW' := hW
  obtain ⟨p, q, hA0, hV, rfl, hfz, hnd⟩ := hW
  have hA : DataW.TrodAll enc Try.prog W 0 (fun _ => true) true Try.f7.params.toList args.toList ds p := hA0
  rw [Try.params7] at hA hval
  obtain ⟨v0, vs0, d0, ds0, p0, q0, hargs, rfl, rfl, h0, t0⟩ := trodAll_cons hA
  obtain ⟨rfl, rfl, rfl⟩ := trodAll_nil t0
  obtain rfl : args = #[v0] := by cases args; simp_all
  obtain ⟨rfl, rfl⟩ := trodVars_none hV
  have k0 : Reads enc W 24 v0 d0 p0 := h0
  have lt0 : ∀ x ∈ p0, x.block < W.heap.size := by obtain ⟨m, hm⟩ := k0; exact DataW.trod_lt m _ _ _ hm
  obtain ⟨A0, m0, c0, l0, rfl, r0, wc0, w0⟩ := in_bytes (hval 0 24 v0 rfl rfl) k0
  clear hA0 hval0
  refine (walk A0 m0 c0 l0 W r0 wc0 w0).mono fun e W' ⟨he, bel⟩ => ?_
  subst he
  exact ⟨_, rfl, _, _, _, [], _, [], hW', trodAll_mk1 (shut_bool Try.underlying4 _), (trodAll_cons_mk (Below.trod laidOut (by kernel_rfl) (of_decide_eq_true (by kernel_rfl)) k0 bel lt0) trodAll_mk0), rfl, bel.frame _, fun h => by cases h⟩
theorem over : Rows.frameOnlyRow.holds Try.pinned (OpenSpec.ofChange Rows.frameOnlySpec) :=
  OpenClaim.holds_of_wide 7 Try.f7 rfl rfl rfl rfl rfl rfl rfl ⟨rfl, rfl, rfl, rfl, rfl⟩ rfl rfl rfl rfl rfl (by kernel_rfl) Try.func7 (by kernel_rfl)
    (of_decide_eq_true (by kernel_rfl)) (by unfold Func.isWrapper; first | (rw [if_pos (by decide +kernel)]; kernel_rfl) | (rw [if_neg (by decide +kernel)]; exact ⟨rfl, rfl⟩))
    (fun os started H enc _ => lifted os started H enc)
theorem proved : Rows.FrameOnlySaid := over
end Go.Proofs.Ytcckhdmdklholaa.frameOnly
