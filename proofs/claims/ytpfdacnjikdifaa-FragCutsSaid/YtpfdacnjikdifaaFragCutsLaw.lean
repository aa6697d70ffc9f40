/- For every slice of byte slices: Cut of its first 40 (of each the first 9000 bytes) gives the payloads and the error that the document gives, and Need of their lengths how many these are (P8.1, P8.2), and the example at the head holds; the arguments stay as they were. No condition. -/
import Derived.Test.YtpfdacnjikdifaaFgAwake
import Derived.Test.YtpfdacnjikdifaaFgRNeed
import Derived.Test.YtpfdacnjikdifaaFgLens
import Derived.Test.YtpfdacnjikdifaaInRows
import Derived.Test.YtpfdacnjikdifaaIns
import Derived.Test.YtpfdacnjikdifaaHolds
import Derived.WalkKit
import Derived.ProofKit
import Derived.OpenShut
import Derived.ShutString
import Derived.ChangeOld
import Derived.Below
import Derived.Deep.RegionHeld
namespace Go.Proofs.Ytpfdacnjikdifaa.fragCuts
open Go.ChangeShapes Go.WideShapes Go.ChangeAt Go.RowKit
set_option linter.unusedVariables false
theorem own : ownKnob Try.prog.godebug = none := by kernel_rfl
theorem laidOut : laidOutB Try.prog = true := by kernel_rfl
set_option maxRecDepth 100000 in
set_option maxHeartbeats 4000000 in
theorem walk (A0 : Option Addr) (m0 c0 : Nat) (l0 : List (List Nat)) (w : World) (r0 : RdB w A0 m0 l0) (wc0 : m0 ≤ c0) (w0 : m0 ≤ 9223372036854775807) :
    Calls Try.prog 3 #[.slice A0 m0 c0] w fun e w' => e = .returned (.bool true) ∧ Below w.heap.size w w' := by
  -- heartbeats 4000000
  have hfw := few_any A0 m0 c0 l0 w r0 w0
  have hf40 : (Fg.few l0).length ≤ 40 := by unfold Fg.few; rw [List.length_map, List.length_take]; omega
  have hf90 : ∀ r ∈ Fg.few l0, r.length ≤ 9000 := by
    intro r hr
    obtain ⟨x, _, rfl⟩ := List.mem_map.1 hr
    rw [List.length_take]; omega
  generalize Fg.few l0 = L at *
  have hnd := Fg.need_lens L
  have hco := Fg.cutOut_many L
  have hz := Fg.lens_le hf90
  generalize hO : Fg.cutOut L = O at *
  obtain ⟨P, e0⟩ := O
  have HFw := Lib.hid hfw
  have HO := Lib.hid hO
  have HNd := Lib.hid hnd
  have HZ := Lib.hid hz
  clear hfw hO hnd hz r0 hf90
  go_enter Try.func3, Try.ntmps3
  go_wp2_with fail
  refine HFw.out.mono ?_
  rintro e v0 ⟨A1, c1, rfl, hr1, hc1, _, hb1⟩
  have h1 := cut_any A1 L.length c1 L v0 hr1 (by omega)
  rw [HO.out] at h1
  have H1 := Lib.hid h1
  clear h1
  go_wp2_with fail
  refine H1.out.mono ?_
  rintro e v1 ⟨A2, c2, rfl, hr2, hc2, hb2⟩
  have hx1 := below_next hb1 hb2
  have h2 := rcut_any A1 L.length c1 L v1 (hr1.below hb2)
  rw [HO.out] at h2
  have H2 := Lib.hid h2
  clear h2
  go_wp2_with fail
  refine H2.out.mono ?_
  rintro e v2 ⟨A3, c3, rfl, hr3, hc3, hb3⟩
  have hx2 := below_next hx1 hb3
  have hrl := (hr1.below hb2).below hb3
  have hra := hr2.below hb3
  have HRl := Lib.hid hrl
  have HRa := Lib.hid hra
  have HR3 := Lib.hid hr3
  have HX2 := Lib.hid hx2
  clear hr1 hr2 hr3 hrl hra hx1 hx2 hb1 hb2 hb3 hc2 hc3
  change P.length ≤ 100001 at hco
  go_wp2_with fail
  go_loopw [7, 8] (fun s ii v => ∃ (k : Nat) (B : Option Addr) (d : Nat), k ≤ L.length ∧ ii = .int .i64 (k : Int) ∧ s = .slice B k d ∧ OwnI v v2.heap.size B k d (lens (L.take k)) ∧ Below v2.heap.size v2 v) (fun _ ii _ => L.length - (intOf ii).toNat)
  case atStart => exact ⟨0, none, 0, Nat.zero_le _, rfl, rfl, by exact ⟨rfl, World.ownsRow_nil _ _ _ _⟩, Below.refl _ _⟩
  case round =>
    obtain ⟨k, B, d, hk, rfl, rfl, hI, hBl⟩ := hrel
    by_cases hkn : k < L.length
    · obtain ⟨b, o, RB, cc, r, rfl, hb1, hrk, hcell, hrd, hrc, hrm⟩ := (HRl.out.below hBl).at_ hkn
      have hki : (k : Int) < (L.length : Int) := by omega
      have hOa := hI.alloc (.cells #[.int .i64 (r.length : Int)] 3)
      have hca := (Holds.new wr #[.int .i64 (r.length : Int)] 3).at_ 0 rfl
      have hba : v2.heap.size ≤ (wr.alloc (.cells #[.int .i64 (r.length : Int)] 3)).heap.size := by have := hBl.size; simp; omega
      have hbb := hBl.alloc hBl.size (.cells #[.int .i64 (r.length : Int)] 3)
      have hblk := hI.blk
      have hle9 : k + 1 ≤ 1000000 := by omega
      have hsn := lens_snoc hrk
      have HSn := Lib.hid hsn
      have HBb := Lib.hid hbb
      have HBlk := Lib.hid hblk
      have HCa := Lib.hid hca
      clear hrk hrd hI hBl hsn hbb hblk hca
      go_wp2_with (first | (at_builtin; refine wpList_appI rfl (.tmp 29) (.tmp 35) rfl rfl hOa ⟨wr.heap.size, 0, none⟩ (r.length : Int) 1 rfl HCa.out hle9 hba ?_; intro A7 c7 v7 hO7 hg7))
      have hB7 := HBb.out.grown hg7 hba (fun g h => (HBlk.out g h).1)
      rw [← HSn.out] at hO7
      clear hg7
      go_roundw
      case rel => exact ⟨k + 1, A7, c7, by omega, by go_num, rfl, hO7, hB7⟩
      case measure => simp [intOf]; omega
    · have hkn2 : k = L.length := by omega
      rw [hkn2] at hI
      rw [List.take_length] at hI
      have hnn := need_any B L.length d (lens L) wr hI.rd (by omega) HZ.out
      rw [HNd.out] at hnn
      subst hkn2
      have hsm := fun (W : World) (hW : Below wr.heap.size wr W) => same_any A2 A3 P.length P.length c2 c3 P P W ((HRa.out.below hBl).below hW) ((HR3.out.below hBl).below hW) (by omega) (by omega)
      rw [show decide (P = P) = true by simp] at hsm
      have HSm := Lib.hid hsm
      have HNn := Lib.hid hnn
      have hx := below_next HX2.out hBl
      have HX := Lib.hid hx
      clear hI hBl hnn hsm hx hkn hk
      go_wp2_with fail
      refine HNn.out.mono ?_
      rintro e v4 ⟨rfl, hb4⟩
      have hx4 := below_next HX.out hb4
      go_wp2_with fail
      refine (HSm.out _ hb4).mono ?_
      rintro e v5 ⟨rfl, hb5⟩
      have hx5 := below_next hx4 hb5
      clear hb4 hb5 hx4
      go_wp2_with fail
      refine (awake_any _).mono ?_
      rintro e v6 ⟨rfl, hb6⟩
      have hx6 := below_next hx5 hb6
      go_wp2_with fail
      go_ret
      exact ⟨rfl, hx6⟩
set_option maxRecDepth 100000 in
theorem lifted (os : Os) (started : os.Started) (H : Type) (enc : TypeId × Value → H) :
    ReturnsInHanded {} Try.checked os 3 .any (Rows.fragCutsSpec.pre6 enc Try.prog Try.f3 Rows.fragCutsRow.domain false) (Rows.fragCutsSpec.post enc Try.prog Try.f3 false true false false) := by
  refine returnsInHanded_of_change (C := Try.checked) own started (by kernel_rfl) Try.func3
    (ChangeSpec.witness6 (enc := enc) (C := Try.checked) false ⟨#[], #[.slice none 0 0], []⟩ 8 (by kernel_rfl) (by kernel_rfl) (by kernel_rfl) (by kernel_rfl)) ?_
  intro W base args ds gs before hval0 hW hcnd _
  have hval : ∀ (j : Nat) t v, Try.f3.params[j]? = some t → args[j]? = some v → Value.okWide Try.prog W .any base t v := hval0
  have hW' := hW
  obtain ⟨p, q, hA0, hV, rfl, hfz, hnd⟩ := hW
  have hA : DataW.TrodAll enc Try.prog W 0 (fun _ => true) true Try.f3.params.toList args.toList ds p := hA0
  rw [Try.params3] at hA hval
  obtain ⟨v0, vs0, d0, ds0, p0, q0, hargs, rfl, rfl, h0, t0⟩ := trodAll_cons hA
  obtain ⟨rfl, rfl, rfl⟩ := trodAll_nil t0
  obtain rfl : args = #[v0] := by cases args; simp_all
  obtain ⟨rfl, rfl⟩ := trodVars_none hV
  have k0 : Reads enc W 22 v0 d0 p0 := h0
  have lt0 : ∀ x ∈ p0, x.block < W.heap.size := by obtain ⟨m, hm⟩ := k0; exact DataW.trod_lt m _ _ _ hm
  obtain ⟨A0, m0, c0, l0, rfl, r0, wc0, w0⟩ := in_rows (hval 0 22 v0 rfl rfl) k0
  clear hA0 hval0
  refine (walk A0 m0 c0 l0 W r0 wc0 w0).mono fun e W' ⟨he, bel⟩ => ?_
  subst he
  exact ⟨_, rfl, _, _, _, [], _, [], hW', trodAll_mk1 (shut_bool Try.underlying4 _), (trodAll_cons_mk (Below.trod laidOut (by kernel_rfl) (of_decide_eq_true (by kernel_rfl)) k0 bel lt0) trodAll_mk0), rfl, bel.frame _, fun h => by cases h⟩
theorem over : Rows.fragCutsRow.holds Try.pinned (OpenSpec.ofChange Rows.fragCutsSpec) :=
  OpenClaim.holds_of_wide 3 Try.f3 rfl rfl rfl rfl rfl rfl rfl ⟨rfl, rfl, rfl, rfl, rfl⟩ rfl rfl rfl rfl rfl (by kernel_rfl) Try.func3 (by kernel_rfl)
    (of_decide_eq_true (by kernel_rfl)) (by unfold Func.isWrapper; first | (rw [if_pos (by decide +kernel)]; kernel_rfl) | (rw [if_neg (by decide +kernel)]; exact ⟨rfl, rfl⟩))
    (fun os started H enc _ => lifted os started H enc)
theorem proved : Rows.FragCutsSaid := over
end Go.Proofs.Ytpfdacnjikdifaa.fragCuts
