/- For every op: a disk that nobody made refuses every call, answers zero of all it counts, and the example at the head holds; the arguments stay as they were. No condition. -/
import Derived.Test.YtamdihodconjiaaDkOpen
import Derived.Test.YtamdihodconjiaaIns
import Derived.Test.YtamdihodconjiaaHolds
import Derived.WalkKit
import Derived.ProofKit
import Derived.OpenShut
import Derived.ShutString
import Derived.ChangeOld
import Derived.Below
import Derived.Deep.RegionHeld
namespace Go.Proofs.Ytamdihodconjiaa.diskNobody
open Go.ChangeShapes Go.WideShapes Go.ChangeAt Go.RowKit
set_option linter.unusedVariables false
theorem own : ownKnob Try.prog.godebug = none := by kernel_rfl
theorem laidOut : laidOutB Try.prog = true := by kernel_rfl
set_option maxRecDepth 100000 in
set_option maxHeartbeats 8000000 in
theorem walk {H : Type} {enc : TypeId × Value → H} {base : Nat} {d0 : DataW H} {p0 : List MemPlace} (x0 : Value) (w : World)  (okx0 : Value.okWide Try.prog w .any base 38 x0) (rx0 : Reads enc w 38 x0 d0 p0) :
    Calls Try.prog 9 #[x0] w fun e w' => e = .returned (.bool true) ∧ Below w.heap.size w w' := by
  -- heartbeats 8000000
  obtain ⟨y0, y1, y2, y3, y4, y5, y6, y7, rfl⟩ := in_op okx0 rx0
  have HA := Lib.hid (fun wx => awake_any wx)
  obtain ⟨h1, h2, h3, hb0⟩ := three_new w #[y0, .int .i64 y1, y2, y3, .int .i64 y4, .int .i64 y5, .int .u8 y6, y7] #[.slice none 0 0, .map none, .int .i64 0, .bool false, .int .i64 0] #[.pointer none, .pointer (some ⟨w.heap.size + 1, 0, none⟩)] 38 73 24
  have H1 := Lib.hid h1
  have H2 := Lib.hid h2
  have H3 := Lib.hid h3
  have HB0 := Lib.hid hb0
  clear h1 h2 h3 hb0 okx0 rx0
  go_enter Try.func9, Try.ntmps9
  go_upto_region 3 with fail
  generalize (((w.alloc (Obj.cells #[y0, Value.int IntKind.i64 y1, y2, y3, Value.int IntKind.i64 y4, Value.int IntKind.i64 y5, Value.int IntKind.u8 y6, y7] 38)).alloc (Obj.cells #[Value.slice none 0 0, Value.map none, Value.int IntKind.i64 0, Value.bool false, Value.int IntKind.i64 0] 73)).alloc (Obj.cells #[Value.pointer none, Value.pointer (some { block := w.heap.size + 1, off := 0 })] 24)) = z0 at *
  go_loopw [15] (fun i wr => ∃ k : Nat, k ≤ 2 ∧ i = .int .i64 (k : Int) ∧ Hid (Below z0.heap.size z0 wr)) (fun i _ => 2 - (intOf i).toNat)
  case atStart => exact ⟨0, by omega, rfl, Lib.hid (Below.refl _ _)⟩
  case round =>
    obtain ⟨k, hk, rfl, HB⟩ := hrel
    by_cases hk2 : k < 2
    · have hki : (k : Int) < 2 := by omega
      obtain ⟨n, hn, hc⟩ : ∃ n, Nod z0 n ∧ z0.cell? ⟨w.heap.size + 1 + 1, k, none⟩ = some n := by
        rcases (show k = 0 ∨ k = 1 by omega) with rfl | rfl
        · exact ⟨_, .inl rfl, H3.out.at_ 0 rfl⟩
        · exact ⟨_, .inr ⟨_, rfl, H2.out⟩, H3.out.at_ 1 rfl⟩
      have hcr : wr.cell? ⟨w.heap.size + 1 + 1, k, none⟩ = some n := (HB.out.cell H3.out.1).trans hc
      have HN := Lib.hid (hn.below HB.out)
      have x1 : wr.cell? ⟨w.heap.size, 1, none⟩ = some (.int .i64 y1) := (H1.out.below HB.out).at_ 1 rfl
      have x2 : wr.cell? ⟨w.heap.size, 2, none⟩ = some y2 := (H1.out.below HB.out).at_ 2 rfl
      have x4 : wr.cell? ⟨w.heap.size, 4, none⟩ = some (.int .i64 y4) := (H1.out.below HB.out).at_ 4 rfl
      have x5 : wr.cell? ⟨w.heap.size, 5, none⟩ = some (.int .i64 y5) := (H1.out.below HB.out).at_ 5 rfl
      have x6 : wr.cell? ⟨w.heap.size, 6, none⟩ = some (.int .u8 y6) := (H1.out.below HB.out).at_ 6 rfl
      have x7 : wr.cell? ⟨w.heap.size, 7, none⟩ = some y7 := (H1.out.below HB.out).at_ 7 rfl
      clear hn hc
      go_wp2_with fail
      clear hcr
      refine (nod_read n y1 wr HN.out).mono ?_
      rintro e v1 ⟨rfl, rfl⟩
      go_wp2_with fail
      refine (nod_crash n y7 wr HN.out).mono ?_
      rintro e v1 ⟨rfl, rfl⟩
      go_wp2_with fail
      refine (nod_write n y1 y2 wr HN.out).mono ?_
      rintro e v1 ⟨rfl, rfl⟩
      go_wp2_with fail
      refine (nod_flush n wr HN.out).mono ?_
      rintro e v1 ⟨rfl, rfl⟩
      go_wp2_with fail
      refine (nod_fuse n y4 wr HN.out).mono ?_
      rintro e v1 ⟨rfl, rfl⟩
      go_wp2_with fail
      refine (nod_rot n y1 y5 y6 wr HN.out).mono ?_
      rintro e v1 ⟨rfl, rfl⟩
      go_wp2_with fail
      refine (nod_size n wr HN.out).mono ?_
      rintro e v1 ⟨rfl, rfl⟩
      go_wp2_with fail
      refine (nod_done n wr HN.out).mono ?_
      rintro e v1 ⟨rfl, rfl⟩
      go_wp2_with fail
      refine (nod_loose n wr HN.out).mono ?_
      rintro e v1 ⟨A9, c9, rfl, hb9⟩
      have B9 := Lib.hid (below_next HB.out hb9)
      have HN9 := Lib.hid (HN.out.below hb9)
      clear x1 x2 x4 x5 x6 x7 hb9
      go_wp2_with fail
      refine (nod_down n v1 HN9.out).mono ?_
      rintro e v2 ⟨rfl, rfl⟩
      go_wp2_with fail
      go_roundw
      case rel => exact ⟨k + 1, by omega, by go_num, B9⟩
      case measure => simp [intOf]; omega
    · have hki : ¬ (k : Int) < 2 := by omega
      have HBr := Lib.hid (below_next HB0.out HB.out)
      go_wp2_with fail
      refine (HA.out wr).mono ?_
      rintro e v1 ⟨rfl, hb1⟩
      have HBf := Lib.hid (below_next HBr.out hb1)
      clear hb1
      go_wp2
      go_ret
      exact ⟨rfl, HBf.out⟩
set_option maxRecDepth 100000 in
theorem lifted (os : Os) (started : os.Started) (H : Type) (enc : TypeId × Value → H) :
    ReturnsInHanded {} Try.checked os 9 .any (Rows.diskNobodySpec.pre6 enc Try.prog Try.f9 Rows.diskNobodyRow.domain false) (Rows.diskNobodySpec.post enc Try.prog Try.f9 false true false false) := by
  refine returnsInHanded_of_change (C := Try.checked) own started (by kernel_rfl) Try.func9
    (ChangeSpec.witness6 (enc := enc) (C := Try.checked) false ⟨#[], #[.agg #[.int .i64 0, .int .i64 0, .slice none 0 0, .bool false, .int .i64 0, .int .i64 0, .int .u8 0, .slice none 0 0]], []⟩ 8 (by kernel_rfl) (by kernel_rfl) (by kernel_rfl) (by kernel_rfl)) ?_
  intro W base args ds gs before hval0 hW hcnd _
  have hval : ∀ (j : Nat) t v, Try.f9.params[j]? = some t → args[j]? = some v → Value.okWide Try.prog W .any base t v := hval0
  have hW' := hW
  obtain ⟨p, q, hA0, hV, rfl, hfz, hnd⟩ := hW
  have hA : DataW.TrodAll enc Try.prog W 0 (fun _ => true) true Try.f9.params.toList args.toList ds p := hA0
  rw [Try.params9] at hA hval
  obtain ⟨v0, vs0, d0, ds0, p0, q0, hargs, rfl, rfl, h0, t0⟩ := trodAll_cons hA
  obtain ⟨rfl, rfl, rfl⟩ := trodAll_nil t0
  obtain rfl : args = #[v0] := by cases args; simp_all
  obtain ⟨rfl, rfl⟩ := trodVars_none hV
  have k0 : Reads enc W 38 v0 d0 p0 := h0
  have lt0 : ∀ x ∈ p0, x.block < W.heap.size := by obtain ⟨m, hm⟩ := k0; exact DataW.trod_lt m _ _ _ hm
  have okv0 := hval 0 38 v0 rfl rfl
  clear hA0 hval0
  refine (walk v0 W  okv0 k0).mono fun e W' ⟨he, bel⟩ => ?_
  subst he
  exact ⟨_, rfl, _, _, _, [], _, [], hW', trodAll_mk1 (shut_bool Try.underlying4 _), (trodAll_cons_mk (Below.trod laidOut (by kernel_rfl) (of_decide_eq_true (by kernel_rfl)) k0 bel lt0) trodAll_mk0), rfl, bel.frame _, fun h => by cases h⟩
theorem over : Rows.diskNobodyRow.holds Try.pinned (OpenSpec.ofChange Rows.diskNobodySpec) :=
  OpenClaim.holds_of_wide 9 Try.f9 rfl rfl rfl rfl rfl rfl rfl ⟨rfl, rfl, rfl, rfl, rfl⟩ rfl rfl rfl rfl rfl (by kernel_rfl) Try.func9 (by kernel_rfl)
    (of_decide_eq_true (by kernel_rfl)) (by unfold Func.isWrapper; first | (rw [if_pos (by decide +kernel)]; kernel_rfl) | (rw [if_neg (by decide +kernel)]; exact ⟨rfl, rfl⟩))
    (fun os started H enc _ => lifted os started H enc)
theorem proved : Rows.DiskNobodySaid := over
end Go.Proofs.Ytamdihodconjiaa.diskNobody
