/- What Encode gives, Decode gives back, and Is says so with any elder epoch. -/
import Derived.Test.YtcckhdmdklholaaFrIs
import Derived.Test.YtcckhdmdklholaaFrBoth
import Derived.Test.YtcckhdmdklholaaFrAwake
import Derived.Test.YtcckhdmdklholaaIns
import Derived.Test.YtcckhdmdklholaaHolds
import Derived.WalkKit
import Derived.ProofKit
import Derived.OpenShut
import Derived.ShutString
import Derived.ChangeOld
import Derived.Below
import Derived.Deep.RegionHeld
namespace Go.Proofs.Ytcckhdmdklholaa.frameBack
open Go.ChangeShapes Go.WideShapes Go.ChangeAt Go.RowKit
set_option linter.unusedVariables false
theorem own : ownKnob Try.prog.godebug = none := by kernel_rfl
theorem laidOut : laidOutB Try.prog = true := by kernel_rfl
set_option maxRecDepth 100000 in
set_option maxHeartbeats 4000000 in
theorem walk (f0 e0 i0 : Int) (n1 : Int) (A2 : Option Addr) (m2 c2 : Nat) (l2 : List Nat) (n3 : Int) (w : World) (wl1 : -9223372036854775808 ≤ n1) (w1 : n1 ≤ 9223372036854775807) (r2 : Rd w A2 m2 l2) (wc2 : m2 ≤ c2) (w2 : m2 ≤ 9223372036854775807) (wl3 : -9223372036854775808 ≤ n3) (w3 : n3 ≤ 9223372036854775807) :
    Calls Try.prog 6 #[.agg #[.int .i64 f0, .int .i64 e0, .int .i64 i0], .int .i64 n1, .slice A2 m2 c2, .int .i64 n3] w fun e w' => e = .returned (.bool true) ∧ Below w.heap.size w w' := by
  -- heartbeats 4000000
  have hm := r2.1
  subst hm
  have hcut := fun W => cut_any A2 l2.length c2 l2 W rfl wc2 w2
  have HCut := Lib.hid hcut
  have hpl := fun (W : World) (hW : Below w.heap.size w W) => (r2.take (k := min 300 l2.length) (Nat.min_le_right _ _)).below hW
  have hpe : (l2.take (min 300 l2.length)) = l2.take 300 := by rw [← List.take_take]; simp
  have hpn : (l2.take 300).length = min 300 l2.length := List.length_take
  rw [hpe, ← hpn] at hpl
  have hb256 : ∀ x ∈ l2.take 300, x < 256 := fun x hx => r2.2.1 x (List.mem_of_mem_take hx)
  have hbig : (l2.take 300).length ≤ 9223372036854775807 := by rw [hpn]; omega
  have hcs := enc_cases f0 e0 i0 n1 A2 c2 (l2.take 300) hbig
  clear hpe hpn hbig hcut
  generalize l2.take 300 = pl at *
  have HP := Lib.hid hpl
  clear hpl
  rcases hcs with ⟨r, hr, he⟩ | ⟨f, e, i, k, rfl, rfl, rfl, rfl, hs, hk, hn⟩
  · have HE := Lib.hid he
    clear he hb256
    go_enter Try.func6, Try.ntmps6
    go_wp2_with fail
    refine (HCut.out _).mono ?_
    rintro e v0 ⟨rfl, rfl⟩
    have k0 := Holds.new w #[.int .i64 f0, .int .i64 e0, .int .i64 i0] 23
    have hx0 : Below w.heap.size w (w.alloc (.cells #[.int .i64 f0, .int .i64 e0, .int .i64 i0] 23)) := (Below.refl _ _).alloc (Nat.le_refl _) _
    have c30 := k0.at_ 0 rfl
    have c31 := k0.at_ 1 rfl
    have c32 := k0.at_ 2 rfl
    have hlt := k0.1
    go_wp2_with fail
    refine (HE.out _ (HP.out _ hx0)).mono ?_
    rintro e v1 ⟨B, d, rfl, hr1, hd1, hb1⟩
    have hx1 := below_next hx0 hb1
    clear c30 c31 c32 hlt k0 hb1
    go_wp2_with fail
    refine (awake_any _).mono ?_
    rintro e v2 ⟨rfl, hb2⟩
    have hx2 := below_next hx1 hb2
    clear hr1 hd1
    go_wp2_with fail
    go_ret
    exact ⟨rfl, hx2⟩
  · have he := fun (W : World) (hW : Rd W A2 pl.length pl) => encode_row f e i k A2 c2 pl W hs hk hW hn
    have hd := fun (A : Option Addr) (c : Nat) (W : World) h hc => decode_row f e i k A c pl W hs hk hb256 h hc hn
    have hi := fun (z : Int) (A : Option Addr) (c : Nat) (W : World) h hc hz => is_row f e i k z A c pl W hs hk hb256 h hc hn hz
    have hie : (e : Int) ≤ 2147483647 := (Fr.okS_iff.1 hs).2.1.2
    generalize Fr.frame k f e i pl = L at *
    have HE := Lib.hid he
    have HD := Lib.hid hd
    have HI := Lib.hid hi
    have HL := Lib.hid hie
    clear he hd hi hie hb256 hs hk hn
    unfold GivesDec at HD
    go_enter Try.func6, Try.ntmps6
    go_wp2_with fail
    refine (HCut.out _).mono ?_
    rintro e9 v0 ⟨rfl, rfl⟩
    have k0 := Holds.new w #[.int .i64 (f : Int), .int .i64 (e : Int), .int .i64 (i : Int)] 23
    have hx0 : Below w.heap.size w (w.alloc (.cells #[.int .i64 (f : Int), .int .i64 (e : Int), .int .i64 (i : Int)] 23)) := (Below.refl _ _).alloc (Nat.le_refl _) _
    have c30 := k0.at_ 0 rfl
    have c31 := k0.at_ 1 rfl
    have c32 := k0.at_ 2 rfl
    have hlt := k0.1
    go_wp2_with fail
    refine (HE.out _ (HP.out _ hx0)).mono ?_
    rintro e9 v1 ⟨B, d, rfl, hr1, hd1, hb1⟩
    have k1 := k0.below hb1
    have hx1 := below_next hx0 hb1
    clear c30 c31 c32 hlt k0 hb1
    go_wp2_with fail
    refine (awake_any _).mono ?_
    rintro e9 v2 ⟨rfl, hb2⟩
    have k2 := k1.below hb2
    have hr2 := hr1.below hb2
    have hx2 := below_next hx1 hb2
    clear hb2 k1 hr1
    go_wp2_with fail
    refine (HD.out B d v2 hr2 hd1).mono ?_
    rintro e9 v3 ⟨P, c3, rfl, hr3, hb3⟩
    have k3 := k2.below hb3
    have hrb := hr2.below hb3
    have hx3 := below_next hx2 hb3
    have hlt := k3.1
    clear hb3 k2 hr2 hx2
    go_upto_region 8 with fail
    have k3n := k3.alloc (.cells #[.int .i64 (f : Int), .int .i64 (e : Int), .int .i64 (i : Int)] 23)
    have k11 := Holds.new v3 #[.int .i64 (f : Int), .int .i64 (e : Int), .int .i64 (i : Int)] 23
    have hx4 := hx3.alloc hx3.size (.cells #[.int .i64 (f : Int), .int .i64 (e : Int), .int .i64 (i : Int)] 23)
    have hrb4 := hrb.below ((Below.refl _ _).alloc (Nat.le_refl _) (.cells #[.int .i64 (f : Int), .int .i64 (e : Int), .int .i64 (i : Int)] 23))
    have hr34 := hr3.below ((Below.refl _ _).alloc (Nat.le_refl _) (.cells #[.int .i64 (f : Int), .int .i64 (e : Int), .int .i64 (i : Int)] 23))
    clear k3 hx3 hrb hr3 hlt
    generalize (v3.alloc (.cells #[.int .i64 (f : Int), .int .i64 (e : Int), .int .i64 (i : Int)] 23)) = W at *
    have hcv1 := run_str (cap := c3) hr34
    have hcv2 := run_str (cap := c2) (HP.out W hx4)
    have c30 := k3n.at_ 0 rfl
    have c31 := k3n.at_ 1 rfl
    have c32 := k3n.at_ 2 rfl
    have d30 := k11.at_ 0 rfl
    have d31 := k11.at_ 1 rfl
    have d32 := k11.at_ 2 rfl
    have hlt9 := k3n.1
    go_upto_region 10 with fail
    clear d30 d31 d32 hcv1 hcv2 hr34 k11 HP k3n
    have hL := HL.out
    by_cases hz : 0 ≤ n3 ∧ n3 ≤ (e : Int)
    · obtain ⟨z1, z2⟩ := hz
      have hw : IntKind.i64.wrap ((e : Int) - n3) = (e : Int) - n3 := by rw [IntKind.wrap_i64]; omega
      go_wp2_with fail
      refine (HI.out ((e : Int) - n3) B d _ ?hh hd1 (by omega)).mono ?_
      case hh => exact hrb4.below ((Below.refl _ _).alloc (Nat.le_refl _) _)
      rintro e9 v10 ⟨rfl, hb⟩
      have hx10 := (hx4.alloc hx4.size _).trans (hb.mono (hx4.alloc hx4.size _).size)
      go_wp2_with fail
      go_ret
      exact ⟨rfl, hx10⟩
    · by_cases z1 : 0 ≤ n3
      · have z2 : ¬ n3 ≤ (e : Int) := fun h => hz ⟨z1, h⟩
        clear hz
        go_wp2_with fail
        refine (HI.out (e : Int) B d _ ?hh hd1 (Int.le_refl _)).mono ?_
        case hh => exact hrb4.below ((Below.refl _ _).alloc (Nat.le_refl _) _)
        rintro e9 v10 ⟨rfl, hb⟩
        have hx10 := (hx4.alloc hx4.size _).trans (hb.mono (hx4.alloc hx4.size _).size)
        go_wp2_with fail
        go_ret
        exact ⟨rfl, hx10⟩
      · clear hz
        go_wp2_with fail
        refine (HI.out (e : Int) B d _ ?hh hd1 (Int.le_refl _)).mono ?_
        case hh => exact hrb4.below ((Below.refl _ _).alloc (Nat.le_refl _) _)
        rintro e9 v10 ⟨rfl, hb⟩
        have hx10 := (hx4.alloc hx4.size _).trans (hb.mono (hx4.alloc hx4.size _).size)
        go_wp2_with fail
        go_ret
        exact ⟨rfl, hx10⟩
set_option maxRecDepth 100000 in
theorem lifted (os : Os) (started : os.Started) (H : Type) (enc : TypeId × Value → H) :
    ReturnsInHanded {} Try.checked os 6 .any (Rows.frameBackSpec.pre6 enc Try.prog Try.f6 Rows.frameBackRow.domain false) (Rows.frameBackSpec.post enc Try.prog Try.f6 false true false false) := by
  refine returnsInHanded_of_change (C := Try.checked) own started (by kernel_rfl) Try.func6
    (ChangeSpec.witness6 (enc := enc) (C := Try.checked) false ⟨#[], #[.agg #[.int .i64 0, .int .i64 0, .int .i64 0], .int .i64 0, .slice none 0 0, .int .i64 0], []⟩ 8 (by kernel_rfl) (by kernel_rfl) (by kernel_rfl) (by kernel_rfl)) ?_
  intro W base args ds gs before hval0 hW hcnd _
  have hval : ∀ (j : Nat) t v, Try.f6.params[j]? = some t → args[j]? = some v → Value.okWide Try.prog W .any base t v := hval0
  have hW' := hW
  obtain ⟨p, q, hA0, hV, rfl, hfz, hnd⟩ := hW
  have hA : DataW.TrodAll enc Try.prog W 0 (fun _ => true) true Try.f6.params.toList args.toList ds p := hA0
  rw [Try.params6] at hA hval
  obtain ⟨v0, vs0, d0, ds0, p0, q0, hargs, rfl, rfl, h0, t0⟩ := trodAll_cons hA
  obtain ⟨v1, vs1, d1, ds1, p1, q1, rfl, rfl, rfl, h1, t1⟩ := trodAll_cons t0
  obtain ⟨v2, vs2, d2, ds2, p2, q2, rfl, rfl, rfl, h2, t2⟩ := trodAll_cons t1
  obtain ⟨v3, vs3, d3, ds3, p3, q3, rfl, rfl, rfl, h3, t3⟩ := trodAll_cons t2
  obtain ⟨rfl, rfl, rfl⟩ := trodAll_nil t3
  obtain rfl : args = #[v0, v1, v2, v3] := by cases args; simp_all
  obtain ⟨rfl, rfl⟩ := trodVars_none hV
  have k0 : Reads enc W 23 v0 d0 p0 := h0
  have lt0 : ∀ x ∈ p0, x.block < W.heap.size := by obtain ⟨m, hm⟩ := k0; exact DataW.trod_lt m _ _ _ hm
  obtain ⟨f0, e0, i0, rfl⟩ := in_stamp (hval 0 23 v0 rfl rfl) k0
  have k1 : Reads enc W 3 v1 d1 p1 := h1
  have lt1 : ∀ x ∈ p1, x.block < W.heap.size := by obtain ⟨m, hm⟩ := k1; exact DataW.trod_lt m _ _ _ hm
  obtain ⟨n1, rfl, wl1, w1⟩ := in_int (hval 1 3 v1 rfl rfl) k1
  have k2 : Reads enc W 24 v2 d2 p2 := h2
  have lt2 : ∀ x ∈ p2, x.block < W.heap.size := by obtain ⟨m, hm⟩ := k2; exact DataW.trod_lt m _ _ _ hm
  obtain ⟨A2, m2, c2, l2, rfl, r2, wc2, w2⟩ := in_bytes (hval 2 24 v2 rfl rfl) k2
  have k3 : Reads enc W 3 v3 d3 p3 := h3
  have lt3 : ∀ x ∈ p3, x.block < W.heap.size := by obtain ⟨m, hm⟩ := k3; exact DataW.trod_lt m _ _ _ hm
  obtain ⟨n3, rfl, wl3, w3⟩ := in_int (hval 3 3 v3 rfl rfl) k3
  clear hA0 hval0
  refine (walk f0 e0 i0 n1 A2 m2 c2 l2 n3 W wl1 w1 r2 wc2 w2 wl3 w3).mono fun e W' ⟨he, bel⟩ => ?_
  subst he
  exact ⟨_, rfl, _, _, _, [], _, [], hW', trodAll_mk1 (shut_bool Try.underlying4 _), (trodAll_cons_mk (Below.trod laidOut (by kernel_rfl) (of_decide_eq_true (by kernel_rfl)) k0 bel lt0) (trodAll_cons_mk (Below.trod laidOut (by kernel_rfl) (of_decide_eq_true (by kernel_rfl)) k1 bel lt1) (trodAll_cons_mk (Below.trod laidOut (by kernel_rfl) (of_decide_eq_true (by kernel_rfl)) k2 bel lt2) (trodAll_cons_mk (Below.trod laidOut (by kernel_rfl) (of_decide_eq_true (by kernel_rfl)) k3 bel lt3) trodAll_mk0)))), rfl, bel.frame _, fun h => by cases h⟩
theorem over : Rows.frameBackRow.holds Try.pinned (OpenSpec.ofChange Rows.frameBackSpec) :=
  OpenClaim.holds_of_wide 6 Try.f6 rfl rfl rfl rfl rfl rfl rfl ⟨rfl, rfl, rfl, rfl, rfl⟩ rfl rfl rfl rfl rfl (by kernel_rfl) Try.func6 (by kernel_rfl)
    (of_decide_eq_true (by kernel_rfl)) (by unfold Func.isWrapper; first | (rw [if_pos (by decide +kernel)]; kernel_rfl) | (rw [if_neg (by decide +kernel)]; exact ⟨rfl, rfl⟩))
    (fun os started H enc _ => lifted os started H enc)
theorem proved : Rows.FrameBackSaid := over
end Go.Proofs.Ytcckhdmdklholaa.frameBack
