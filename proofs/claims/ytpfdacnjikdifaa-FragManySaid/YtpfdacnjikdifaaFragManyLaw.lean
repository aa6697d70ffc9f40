/- A group of 255 and of 256 records is cut and one of 257 gives ErrMany and nothing; a record of 8191 and of 8192 bytes is cut and one of 8193 gives ErrLong and nothing (P8.1), and the example at the head holds; the arguments stay as they were. No condition. -/
import Derived.Test.YtpfdacnjikdifaaFgAwake
import Derived.Test.YtpfdacnjikdifaaFgRNeed
import Derived.Test.YtpfdacnjikdifaaInRows
import Derived.Test.YtpfdacnjikdifaaIns
import Derived.Test.YtpfdacnjikdifaaHolds
import Derived.WalkKit
import Derived.ProofKit
import Derived.OpenShut
import Derived.ShutString
import Derived.ChangeOld
import Derived.Below
import Derived.Deep.RegionHeld
namespace Go.Proofs.Ytpfdacnjikdifaa.fragMany
open Go.ChangeShapes Go.WideShapes Go.ChangeAt Go.RowKit
set_option linter.unusedVariables false
theorem own : ownKnob Try.prog.godebug = none := by kernel_rfl
theorem laidOut : laidOutB Try.prog = true := by kernel_rfl
theorem cut_one_ok (N : Nat) (h : N ≤ 8192) : Fg.cutOut [List.replicate N 0] = (Fg.cut [List.replicate N 0], 0) := by
  unfold Fg.cutOut
  rw [if_neg (by simp)]
  have : Fg.long [List.replicate N 0] = false := by simp [Fg.long, h]
  rw [this]; rfl
theorem cut_one_no (N : Nat) (h : 8192 < N) : Fg.cutOut [List.replicate N 0] = ([], 2) := by
  unfold Fg.cutOut
  rw [if_neg (by simp)]
  have : Fg.long [List.replicate N 0] = true := by simp [Fg.long, h]
  rw [this]; rfl
theorem cut_nils_ok (N : Nat) (h : N ≤ 256) : Fg.cutOut (List.replicate N []) = (Fg.cut (List.replicate N []), 0) := by
  unfold Fg.cutOut
  rw [if_neg (by simp; omega)]
  have : Fg.long (List.replicate N []) = false := by simp [Fg.long]
  rw [this]; rfl
theorem cut_nils_no (N : Nat) (h : 256 < N) : Fg.cutOut (List.replicate N []) = ([], 3) := by
  unfold Fg.cutOut
  rw [if_pos (by simpa using h)]
theorem nils_rd (w : World) (N : Nat) (hN : N ≤ 1000) : RdB (w.alloc (.cells (madeCells #[.slice none 0 0] N) 29)) (some ⟨w.heap.size, 0, none⟩) N (List.replicate N []) := by
  have h := OwnV.zeros w 29 (.slice none 0 0) w.heap.size N (Nat.le_refl _) (by omega)
  refine ⟨_, h.rd, by simp, fun j v l hv hl => ?_⟩
  have e1 := List.eq_of_mem_replicate (List.mem_of_getElem? hv)
  have e2 := List.eq_of_mem_replicate (List.mem_of_getElem? hl)
  subst e1 e2
  exact ⟨none, 0, rfl, Rd.nil _ _, Nat.le_refl _, by simp, fun b o e => by cases e⟩
theorem zeros_rd (w : World) (N : Nat) (hN : N ≤ 10000) : RdB ((w.alloc (.cells (madeCells #[.int .u8 0] N) 5)).alloc (.cells #[.slice (some ⟨w.heap.size, 0, none⟩) N N] 29)) (some ⟨w.heap.size + 1, 0, none⟩) 1 [List.replicate N 0] ∧ Below w.heap.size w ((w.alloc (.cells (madeCells #[.int .u8 0] N) 5)).alloc (.cells #[.slice (some ⟨w.heap.size, 0, none⟩) N N] 29)) := by
  have hz := Own.zeros w w.heap.size N (Nat.le_refl _) (by omega)
  have hB1 : Below w.heap.size w (w.alloc (.cells (madeCells #[.int .u8 0] N) 5)) := (Below.refl _ _).alloc (Nat.le_refl _) _
  have hrb := rdb_one (w.alloc (.cells (madeCells #[.int .u8 0] N) 5)) (some ⟨w.heap.size, 0, none⟩) N (List.replicate N 0) (by rw [List.length_replicate]; exact hz.rd) (by rw [List.length_replicate]; exact Nat.le_refl _) (by rw [List.length_replicate]; omega)
  rw [List.length_replicate] at hrb
  have hsz : (w.alloc (.cells (madeCells #[.int .u8 0] N) 5)).heap.size = w.heap.size + 1 := by simp
  rw [hsz] at hrb
  exact ⟨hrb, hB1.alloc hB1.size _⟩
set_option maxRecDepth 100000 in
set_option maxHeartbeats 8000000 in
theorem walk (n0 : Nat) (b1 : Bool) (w : World) (w0 : n0 < 256) :
    Calls Try.prog 5 #[.int .u8 (n0 : Int), .bool b1] w fun e w' => e = .returned (.bool true) ∧ Below w.heap.size w w' := by
  -- heartbeats 8000000
  have hways : (n0 : Int) % 3 = 0 ∨ (n0 : Int) % 3 = 1 ∨ (n0 : Int) % 3 = 2 := by omega
  cases b1 with
  | true =>
    rcases hways with hk | hk | hk
    · have hmk : ∀ w : World, (Instr.makeSlice 29 (.int .i64 8191) (.int .i64 8191)).run Try.prog w = .ok (.slice (some ⟨w.heap.size, 0, none⟩) 8191 8191) (w.alloc (.cells (madeCells #[.int .u8 0] 8191) 5)) := make_all 8191 (by omega)
      obtain ⟨hrb, hB2⟩ := zeros_rd w 8191 (by omega)
      have hc := cut_any (some ⟨w.heap.size + 1, 0, none⟩) 1 1 [List.replicate 8191 0] _ hrb (by omega)
      rw [cut_one_ok 8191 (by omega)] at hc
      generalize Fg.cut [List.replicate 8191 0] = P at *
      have HC := Lib.hid hc
      have HB2 := Lib.hid hB2
      clear hrb hc hB2
      go_enter Try.func5, Try.ntmps5
      go_upto_region 2 with fail
      rw [hk]
      clear hk
      go_wp2_with fail
      refine HC.out.mono ?_
      rintro e v1 ⟨A1, c1, rfl, _, _, hb1⟩
      have hx1 := HB2.out.trans (hb1.mono HB2.out.size)
      go_wp2_with fail
      refine (awake_any _).mono ?_
      rintro e v3 ⟨rfl, hb3⟩
      have hx3 := below_next hx1 hb3
      go_wp2_with fail
      go_ret
      exact ⟨rfl, hx3⟩
    · have hmk : ∀ w : World, (Instr.makeSlice 29 (.int .i64 8192) (.int .i64 8192)).run Try.prog w = .ok (.slice (some ⟨w.heap.size, 0, none⟩) 8192 8192) (w.alloc (.cells (madeCells #[.int .u8 0] 8192) 5)) := make_all 8192 (by omega)
      obtain ⟨hrb, hB2⟩ := zeros_rd w 8192 (by omega)
      have hc := cut_any (some ⟨w.heap.size + 1, 0, none⟩) 1 1 [List.replicate 8192 0] _ hrb (by omega)
      rw [cut_one_ok 8192 (by omega)] at hc
      generalize Fg.cut [List.replicate 8192 0] = P at *
      have HC := Lib.hid hc
      have HB2 := Lib.hid hB2
      clear hrb hc hB2
      go_enter Try.func5, Try.ntmps5
      go_upto_region 2 with fail
      rw [hk]
      clear hk
      go_wp2_with fail
      refine HC.out.mono ?_
      rintro e v1 ⟨A1, c1, rfl, _, _, hb1⟩
      have hx1 := HB2.out.trans (hb1.mono HB2.out.size)
      go_wp2_with fail
      refine (awake_any _).mono ?_
      rintro e v3 ⟨rfl, hb3⟩
      have hx3 := below_next hx1 hb3
      go_wp2_with fail
      go_ret
      exact ⟨rfl, hx3⟩
    · have hmk : ∀ w : World, (Instr.makeSlice 29 (.int .i64 8193) (.int .i64 8193)).run Try.prog w = .ok (.slice (some ⟨w.heap.size, 0, none⟩) 8193 8193) (w.alloc (.cells (madeCells #[.int .u8 0] 8193) 5)) := make_all 8193 (by omega)
      obtain ⟨hrb, hB2⟩ := zeros_rd w 8193 (by omega)
      have hc := cut_any (some ⟨w.heap.size + 1, 0, none⟩) 1 1 [List.replicate 8193 0] _ hrb (by omega)
      rw [cut_one_no 8193 (by omega)] at hc
      have HC := Lib.hid hc
      have HB2 := Lib.hid hB2
      clear hrb hc hB2
      go_enter Try.func5, Try.ntmps5
      go_upto_region 2 with fail
      rw [hk]
      clear hk
      go_wp2_with fail
      refine HC.out.mono ?_
      rintro e v1 ⟨A1, c1, rfl, _, _, hb1⟩
      have hx1 := HB2.out.trans (hb1.mono HB2.out.size)
      go_wp2_with fail
      refine (awake_any _).mono ?_
      rintro e v3 ⟨rfl, hb3⟩
      have hx3 := below_next hx1 hb3
      go_wp2_with fail
      go_ret
      exact ⟨rfl, hx3⟩
  | false =>
    rcases hways with hk | hk | hk
    · have hmk : ∀ w : World, (Instr.makeSlice 22 (.int .i64 255) (.int .i64 255)).run Try.prog w = .ok (.slice (some ⟨w.heap.size, 0, none⟩) 255 255) (w.alloc (.cells (madeCells #[.slice none 0 0] 255) 29)) := make_row oneB 255 (by omega)
      have hrb := nils_rd w 255 (by omega)
      have hB2 : Below w.heap.size w (w.alloc (.cells (madeCells #[.slice none 0 0] 255) 29)) := (Below.refl _ _).alloc (Nat.le_refl _) _
      have hc := cut_any (some ⟨w.heap.size, 0, none⟩) 255 255 (List.replicate 255 []) _ hrb (by omega)
      rw [cut_nils_ok 255 (by omega)] at hc
      generalize Fg.cut (List.replicate 255 []) = P at *
      have HC := Lib.hid hc
      have HB2 := Lib.hid hB2
      clear hrb hc hB2
      go_enter Try.func5, Try.ntmps5
      go_upto_region 2 with fail
      rw [hk]
      clear hk
      go_wp2_with fail
      refine HC.out.mono ?_
      rintro e v1 ⟨A1, c1, rfl, _, _, hb1⟩
      have hx1 := HB2.out.trans (hb1.mono HB2.out.size)
      go_wp2_with fail
      refine (awake_any _).mono ?_
      rintro e v3 ⟨rfl, hb3⟩
      have hx3 := below_next hx1 hb3
      go_wp2_with fail
      go_ret
      exact ⟨rfl, hx3⟩
    · have hmk : ∀ w : World, (Instr.makeSlice 22 (.int .i64 256) (.int .i64 256)).run Try.prog w = .ok (.slice (some ⟨w.heap.size, 0, none⟩) 256 256) (w.alloc (.cells (madeCells #[.slice none 0 0] 256) 29)) := make_row oneB 256 (by omega)
      have hrb := nils_rd w 256 (by omega)
      have hB2 : Below w.heap.size w (w.alloc (.cells (madeCells #[.slice none 0 0] 256) 29)) := (Below.refl _ _).alloc (Nat.le_refl _) _
      have hc := cut_any (some ⟨w.heap.size, 0, none⟩) 256 256 (List.replicate 256 []) _ hrb (by omega)
      rw [cut_nils_ok 256 (by omega)] at hc
      generalize Fg.cut (List.replicate 256 []) = P at *
      have HC := Lib.hid hc
      have HB2 := Lib.hid hB2
      clear hrb hc hB2
      go_enter Try.func5, Try.ntmps5
      go_upto_region 2 with fail
      rw [hk]
      clear hk
      go_wp2_with fail
      refine HC.out.mono ?_
      rintro e v1 ⟨A1, c1, rfl, _, _, hb1⟩
      have hx1 := HB2.out.trans (hb1.mono HB2.out.size)
      go_wp2_with fail
      refine (awake_any _).mono ?_
      rintro e v3 ⟨rfl, hb3⟩
      have hx3 := below_next hx1 hb3
      go_wp2_with fail
      go_ret
      exact ⟨rfl, hx3⟩
    · have hmk : ∀ w : World, (Instr.makeSlice 22 (.int .i64 257) (.int .i64 257)).run Try.prog w = .ok (.slice (some ⟨w.heap.size, 0, none⟩) 257 257) (w.alloc (.cells (madeCells #[.slice none 0 0] 257) 29)) := make_row oneB 257 (by omega)
      have hrb := nils_rd w 257 (by omega)
      have hB2 : Below w.heap.size w (w.alloc (.cells (madeCells #[.slice none 0 0] 257) 29)) := (Below.refl _ _).alloc (Nat.le_refl _) _
      have hc := cut_any (some ⟨w.heap.size, 0, none⟩) 257 257 (List.replicate 257 []) _ hrb (by omega)
      rw [cut_nils_no 257 (by omega)] at hc
      have HC := Lib.hid hc
      have HB2 := Lib.hid hB2
      clear hrb hc hB2
      go_enter Try.func5, Try.ntmps5
      go_upto_region 2 with fail
      rw [hk]
      clear hk
      go_wp2_with fail
      refine HC.out.mono ?_
      rintro e v1 ⟨A1, c1, rfl, _, _, hb1⟩
      have hx1 := HB2.out.trans (hb1.mono HB2.out.size)
      go_wp2_with fail
      refine (awake_any _).mono ?_
      rintro e v3 ⟨rfl, hb3⟩
      have hx3 := below_next hx1 hb3
      go_wp2_with fail
      go_ret
      exact ⟨rfl, hx3⟩
set_option maxRecDepth 100000 in
theorem lifted (os : Os) (started : os.Started) (H : Type) (enc : TypeId × Value → H) :
    ReturnsInHanded {} Try.checked os 5 .any (Rows.fragManySpec.pre6 enc Try.prog Try.f5 Rows.fragManyRow.domain false) (Rows.fragManySpec.post enc Try.prog Try.f5 false true false false) := by
  refine returnsInHanded_of_change (C := Try.checked) own started (by kernel_rfl) Try.func5
    (ChangeSpec.witness6 (enc := enc) (C := Try.checked) false ⟨#[], #[.int .u8 0, .bool false], []⟩ 8 (by kernel_rfl) (by kernel_rfl) (by kernel_rfl) (by kernel_rfl)) ?_
  intro W base args ds gs before hval0 hW hcnd _
  have hval : ∀ (j : Nat) t v, Try.f5.params[j]? = some t → args[j]? = some v → Value.okWide Try.prog W .any base t v := hval0
  have hW' := hW
  obtain ⟨p, q, hA0, hV, rfl, hfz, hnd⟩ := hW
  have hA : DataW.TrodAll enc Try.prog W 0 (fun _ => true) true Try.f5.params.toList args.toList ds p := hA0
  rw [Try.params5] at hA hval
  obtain ⟨v0, vs0, d0, ds0, p0, q0, hargs, rfl, rfl, h0, t0⟩ := trodAll_cons hA
  obtain ⟨v1, vs1, d1, ds1, p1, q1, rfl, rfl, rfl, h1, t1⟩ := trodAll_cons t0
  obtain ⟨rfl, rfl, rfl⟩ := trodAll_nil t1
  obtain rfl : args = #[v0, v1] := by cases args; simp_all
  obtain ⟨rfl, rfl⟩ := trodVars_none hV
  have k0 : Reads enc W 5 v0 d0 p0 := h0
  have lt0 : ∀ x ∈ p0, x.block < W.heap.size := by obtain ⟨m, hm⟩ := k0; exact DataW.trod_lt m _ _ _ hm
  obtain ⟨n0, rfl, w0⟩ := in_u8 (hval 0 5 v0 rfl rfl) k0
  have k1 : Reads enc W 4 v1 d1 p1 := h1
  have lt1 : ∀ x ∈ p1, x.block < W.heap.size := by obtain ⟨m, hm⟩ := k1; exact DataW.trod_lt m _ _ _ hm
  obtain ⟨b1, rfl⟩ := in_bool (hval 1 4 v1 rfl rfl) k1
  clear hA0 hval0
  refine (walk n0 b1 W w0).mono fun e W' ⟨he, bel⟩ => ?_
  subst he
  exact ⟨_, rfl, _, _, _, [], _, [], hW', trodAll_mk1 (shut_bool Try.underlying4 _), (trodAll_cons_mk (Below.trod laidOut (by kernel_rfl) (of_decide_eq_true (by kernel_rfl)) k0 bel lt0) (trodAll_cons_mk (Below.trod laidOut (by kernel_rfl) (of_decide_eq_true (by kernel_rfl)) k1 bel lt1) trodAll_mk0)), rfl, bel.frame _, fun h => by cases h⟩
theorem over : Rows.fragManyRow.holds Try.pinned (OpenSpec.ofChange Rows.fragManySpec) :=
  OpenClaim.holds_of_wide 5 Try.f5 rfl rfl rfl rfl rfl rfl rfl ⟨rfl, rfl, rfl, rfl, rfl⟩ rfl rfl rfl rfl rfl (by kernel_rfl) Try.func5 (by kernel_rfl)
    (of_decide_eq_true (by kernel_rfl)) (by unfold Func.isWrapper; first | (rw [if_pos (by decide +kernel)]; kernel_rfl) | (rw [if_neg (by decide +kernel)]; exact ⟨rfl, rfl⟩))
    (fun os started H enc _ => lifted os started H enc)
theorem proved : Rows.FragManySaid := over
end Go.Proofs.Ytpfdacnjikdifaa.fragMany
