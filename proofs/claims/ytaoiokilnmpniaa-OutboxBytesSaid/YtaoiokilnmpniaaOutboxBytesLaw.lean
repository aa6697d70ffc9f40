/- Bytes of numbers, inboxes and intents are the document's, and so is what is read from bytes (P21.4). -/
import Derived.Test.YtaoiokilnmpniaaInBox
import Derived.Test.YtaoiokilnmpniaaBoxReads
import Derived.Test.YtaoiokilnmpniaaIns
import Derived.WalkKit
import Derived.ProofKit
import Derived.OpenShut
import Derived.ShutString
import Derived.ChangeOld
import Derived.Below
import Derived.Deep.RegionHeld
namespace Go.Proofs.Ytaoiokilnmpniaa.outboxBytes
open Go.ChangeShapes Go.WideShapes Go.ChangeAt Go.RowKit
set_option linter.unusedVariables false
theorem own : ownKnob Try.prog.godebug = none := by kernel_rfl
theorem laidOut : laidOutB Try.prog = true := by kernel_rfl
set_option maxRecDepth 100000 in
set_option maxHeartbeats 8000000 in
theorem walk (n0 : Int) (f1 : Int) (x1 : Nat) (y2 : ByteArray) (n2 : Int) (A3 : Option Addr) (m3 c3 : Nat) (l3 : List Nat) (w : World) (wl0 : -9223372036854775808 ≤ n0) (w0 : n0 ≤ 9223372036854775807) (wl1 : -9223372036854775808 ≤ f1) (wh1 : f1 ≤ 9223372036854775807) (w1 : x1 < 18446744073709551616) (ws2 : y2.size ≤ 9223372036854775807) (wl2 : -9223372036854775808 ≤ n2) (w2 : n2 ≤ 9223372036854775807) (r3 : Rd w A3 m3 l3) (wc3 : m3 ≤ c3) (w3 : m3 ≤ 9223372036854775807) :
    Calls Try.prog 6 #[.int .i64 n0, boxV f1 x1, intentV y2 n2, .slice A3 m3 c3] w fun e w' => e = .returned (.bool true) ∧ Below w.heap.size w w' := by
  -- heartbeats 8000000
  obtain ⟨m, hm⟩ : ∃ m, m = if 60 < m3 then 60 else m3 := ⟨_, rfl⟩
  have hm1 : (if (60 : Int) < (m3 : Int) then (60 : Int) else (m3 : Int)) = (m : Int) := by
    rw [hm]; split <;> split <;> omega
  have hm2 : (m : Int) ≤ (c3 : Int) := by rw [← hm1]; split <;> omega
  have hm3 : m ≤ 60 ∧ m ≤ m3 := by rw [hm]; split <;> omega
  clear hm
  have hl : Rd w A3 m (l3.take m) := r3.take hm3.2
  generalize l3.take m = l at *
  obtain ⟨u, hu⟩ : ∃ u, u = if 20 < y2.size then 20 else y2.size := ⟨_, rfl⟩
  have hu1 : (if (20 : Int) < (y2.size : Int) then (20 : Int) else (y2.size : Int)) = (u : Int) := by
    rw [hu]; split <;> split <;> omega
  have hu2 : (u : Int) ≤ (y2.size : Int) := by rw [← hu1]; split <;> omega
  obtain ⟨s, hs⟩ : ∃ s, y2.extract 0 u = s := ⟨_, rfl⟩
  have hss : s.size ≤ 20 := by rw [← hs, ByteArray.size_extract, hu]; split <;> omega
  clear hu
  have hmc : m ≤ c3 := by omega
  have hmm : m ≤ 1000000 := by omega
  clear hm3 r3
  have g1 := fun (W : World) => numbytes_any n0 W
  have g2 := fun (W : World) => rnumbytes_any n0 W
  have g3 := fun (W : World) => inboxbytes_any f1 x1 W w1
  have g4 := fun (W : World) => rinboxbytes_any f1 x1 W w1
  have g5 := fun (W : World) => intentbytes_any s n2 W (by omega)
  have g6 := fun (W : World) => rintentbytes_any s n2 W (by omega)
  have g7 := fun (W : World) (h : Below w.heap.size w W) => readnum_any A3 m c3 l W (hl.below h) hmc hmm
  have g8 := fun (W : World) (h : Below w.heap.size w W) => rreadnum_any A3 m c3 l W (hl.below h) hmc hmm
  have g9 := fun (W : World) (h : Below w.heap.size w W) => readbox_any A3 m c3 l W (hl.below h) hmc hmm
  have g10 := fun (W : World) (h : Below w.heap.size w W) => rreadbox_any A3 m c3 l W (hl.below h) hmc hmm
  have g11 := fun (W : World) (h : Below w.heap.size w W) => readintent_any A3 m c3 l W (hl.below h) hmc hmm
  have g12 := fun (W : World) (h : Below w.heap.size w W) => rreadintent_any A3 m c3 l W (hl.below h) hmc hmm
  generalize Ob.numBs n0 = LN at g1 g2
  generalize Ob.bad (withinB n0 0 1099511627776) = eN at g1 g2
  generalize Ob.boxBs f1 x1 = LB at g3 g4
  generalize chkB f1 x1 = eB at g3 g4
  generalize Ob.intentBs s n2 = LI at g5 g6
  generalize Ob.bad (Ob.isI s n2) = eI at g5 g6
  generalize Ob.readN l = p at g7 g8
  generalize Ob.readB l = q at g9 g10
  generalize Ob.readI l = r at g11 g12
  obtain ⟨p1, p2⟩ := p
  obtain ⟨q1, q2, q3⟩ := q
  obtain ⟨i1, i2, i3⟩ := r
  unfold GivesNum2 at g7 g8
  unfold GivesBox at g9 g10
  unfold GivesIntent at g11 g12
  unfold boxV at g3 g4 g9 g10 ⊢
  unfold intentV at g5 g6 g11 g12 ⊢
  have G1 := Lib.hid g1
  have G2 := Lib.hid g2
  have G3 := Lib.hid g3
  have G4 := Lib.hid g4
  have G5 := Lib.hid g5
  have G6 := Lib.hid g6
  have G7 := Lib.hid g7
  have G8 := Lib.hid g8
  have G9 := Lib.hid g9
  have G10 := Lib.hid g10
  have G11 := Lib.hid g11
  have G12 := Lib.hid g12
  clear g1 g2 g3 g4 g5 g6 g7 g8 g9 g10 g11 g12 hl hmc hmm hss
  have hU0 : Holds ((w.alloc (.cells #[.int .i64 f1, .int .u64 (x1 : Int)] 24)).alloc (.cells #[.string s, .int .i64 n2] 58)) (w.heap.size + 1) [.string s, .int .i64 n2] := by simpa using Holds.new (w.alloc (.cells #[.int .i64 f1, .int .u64 (x1 : Int)] 24)) #[.string s, .int .i64 n2] 58
  have hB0 : Holds ((w.alloc (.cells #[.int .i64 f1, .int .u64 (x1 : Int)] 24)).alloc (.cells #[.string s, .int .i64 n2] 58)) w.heap.size [.int .i64 f1, .int .u64 (x1 : Int)] := (Holds.new w #[.int .i64 f1, .int .u64 (x1 : Int)] 24).alloc (.cells #[.string s, .int .i64 n2] 58)
  have hx0 : Below w.heap.size w ((w.alloc (.cells #[.int .i64 f1, .int .u64 (x1 : Int)] 24)).alloc (.cells #[.string s, .int .i64 n2] 58)) := ((Below.refl _ _).alloc (Nat.le_refl _) _).alloc (by simp) _
  go_enter Try.func6, Try.ntmps6
  go_wp2_with fail
  refine (G1.out _).mono ?_
  rintro e v1 ⟨X1, k1, rfl, hr1, _, hb⟩
  have hU : Holds v1 (w.heap.size + 1) [.string s, .int .i64 n2] := hU0.below hb
  have hB : Holds v1 w.heap.size [.int .i64 f1, .int .u64 (x1 : Int)] := hB0.below hb
  have hx : Below w.heap.size w v1 := below_next hx0 hb
  clear hb hU0 hB0 hx0
  have lB := hB.1
  have zB := hB.2.2
  have cB0 := hB.at_ 0 rfl
  have cB1 := hB.at_ 1 rfl
  have lU := hU.1
  have zU := hU.2.2
  have cU0 := hU.at_ 0 rfl
  have cU1 := hU.at_ 1 rfl
  go_wp2_with fail
  refine (G2.out _).mono ?_
  rintro e v2 ⟨X2, k2, rfl, hr2, _, hb⟩
  replace hx := below_next (show Below w.heap.size w _ from (by repeat (first | exact hx | refine Below.alloc ?_ (Below.size ‹Below w.heap.size w _›) _))) hb
  replace hB := Holds.below (b := w.heap.size) (cs := [.int .i64 f1, .int .u64 (x1 : Int)]) (by repeat (first | exact hB | refine Holds.alloc ?_ _)) hb
  replace hU := Holds.below (b := w.heap.size + 1) (cs := [.string s, .int .i64 n2]) (by repeat (first | exact hU | refine Holds.alloc ?_ _)) hb
  have hq1 := run_str (cap := k1) (hr1.below hb)
  have hq2 := run_str (cap := k2) hr2
  clear hb hr1 hr2
  have lB := hB.1
  have zB := hB.2.2
  have cB0 := hB.at_ 0 rfl
  have cB1 := hB.at_ 1 rfl
  have lU := hU.1
  have zU := hU.2.2
  have cU0 := hU.at_ 0 rfl
  have cU1 := hU.at_ 1 rfl
  go_wp2_with fail
  refine (G3.out _).mono ?_
  rintro e v3 ⟨X3, k3, rfl, hr3, _, hb⟩
  replace hx := below_next (show Below w.heap.size w _ from (by repeat (first | exact hx | refine Below.alloc ?_ (Below.size ‹Below w.heap.size w _›) _))) hb
  replace hB := Holds.below (b := w.heap.size) (cs := [.int .i64 f1, .int .u64 (x1 : Int)]) (by repeat (first | exact hB | refine Holds.alloc ?_ _)) hb
  replace hU := Holds.below (b := w.heap.size + 1) (cs := [.string s, .int .i64 n2]) (by repeat (first | exact hU | refine Holds.alloc ?_ _)) hb
  clear hb
  clear hq1 hq2
  have lB := hB.1
  have zB := hB.2.2
  have cB0 := hB.at_ 0 rfl
  have cB1 := hB.at_ 1 rfl
  have lU := hU.1
  have zU := hU.2.2
  have cU0 := hU.at_ 0 rfl
  have cU1 := hU.at_ 1 rfl
  go_wp2_with fail
  refine (G4.out _).mono ?_
  rintro e v4 ⟨X4, k4, rfl, hr4, _, hb⟩
  replace hx := below_next (show Below w.heap.size w _ from (by repeat (first | exact hx | refine Below.alloc ?_ (Below.size ‹Below w.heap.size w _›) _))) hb
  replace hB := Holds.below (b := w.heap.size) (cs := [.int .i64 f1, .int .u64 (x1 : Int)]) (by repeat (first | exact hB | refine Holds.alloc ?_ _)) hb
  replace hU := Holds.below (b := w.heap.size + 1) (cs := [.string s, .int .i64 n2]) (by repeat (first | exact hU | refine Holds.alloc ?_ _)) hb
  have hq1 := run_str (cap := k3) (hr3.below hb)
  have hq2 := run_str (cap := k4) hr4
  clear hb hr3 hr4
  have lB := hB.1
  have zB := hB.2.2
  have cB0 := hB.at_ 0 rfl
  have cB1 := hB.at_ 1 rfl
  have lU := hU.1
  have zU := hU.2.2
  have cU0 := hU.at_ 0 rfl
  have cU1 := hU.at_ 1 rfl
  go_wp2_with fail
  refine (G5.out _).mono ?_
  rintro e v5 ⟨X5, k5, rfl, hr5, _, hb⟩
  replace hx := below_next (show Below w.heap.size w _ from (by repeat (first | exact hx | refine Below.alloc ?_ (Below.size ‹Below w.heap.size w _›) _))) hb
  replace hB := Holds.below (b := w.heap.size) (cs := [.int .i64 f1, .int .u64 (x1 : Int)]) (by repeat (first | exact hB | refine Holds.alloc ?_ _)) hb
  replace hU := Holds.below (b := w.heap.size + 1) (cs := [.string s, .int .i64 n2]) (by repeat (first | exact hU | refine Holds.alloc ?_ _)) hb
  clear hb
  clear hq1 hq2
  have lB := hB.1
  have zB := hB.2.2
  have cB0 := hB.at_ 0 rfl
  have cB1 := hB.at_ 1 rfl
  have lU := hU.1
  have zU := hU.2.2
  have cU0 := hU.at_ 0 rfl
  have cU1 := hU.at_ 1 rfl
  go_wp2_with fail
  refine (G6.out _).mono ?_
  rintro e v6 ⟨X6, k6, rfl, hr6, _, hb⟩
  replace hx := below_next (show Below w.heap.size w _ from (by repeat (first | exact hx | refine Below.alloc ?_ (Below.size ‹Below w.heap.size w _›) _))) hb
  replace hB := Holds.below (b := w.heap.size) (cs := [.int .i64 f1, .int .u64 (x1 : Int)]) (by repeat (first | exact hB | refine Holds.alloc ?_ _)) hb
  replace hU := Holds.below (b := w.heap.size + 1) (cs := [.string s, .int .i64 n2]) (by repeat (first | exact hU | refine Holds.alloc ?_ _)) hb
  have hq1 := run_str (cap := k5) (hr5.below hb)
  have hq2 := run_str (cap := k6) hr6
  clear hb hr5 hr6
  have lB := hB.1
  have zB := hB.2.2
  have cB0 := hB.at_ 0 rfl
  have cB1 := hB.at_ 1 rfl
  have lU := hU.1
  have zU := hU.2.2
  have cU0 := hU.at_ 0 rfl
  have cU1 := hU.at_ 1 rfl
  go_wp2_with fail
  refine (G7.out _ (by repeat (first | exact hx | refine Below.alloc ?_ (Below.size ‹Below w.heap.size w _›) _))).mono ?_
  rintro e v7 ⟨rfl, hb⟩
  replace hx := below_next (show Below w.heap.size w _ from (by repeat (first | exact hx | refine Below.alloc ?_ (Below.size ‹Below w.heap.size w _›) _))) hb
  clear hq1 hq2 hB hU lB zB cB0 cB1 lU zU cU0 cU1
  clear hb
  go_wp2_with fail
  refine (G8.out _ (by repeat (first | exact hx | refine Below.alloc ?_ (Below.size ‹Below w.heap.size w _›) _))).mono ?_
  rintro e v8 ⟨rfl, hb⟩
  replace hx := below_next (show Below w.heap.size w _ from (by repeat (first | exact hx | refine Below.alloc ?_ (Below.size ‹Below w.heap.size w _›) _))) hb
  clear hb
  go_wp2_with fail
  refine (G9.out _ (by repeat (first | exact hx | refine Below.alloc ?_ (Below.size ‹Below w.heap.size w _›) _))).mono ?_
  rintro e v9 ⟨rfl, hb⟩
  replace hx := below_next (show Below w.heap.size w _ from (by repeat (first | exact hx | refine Below.alloc ?_ (Below.size ‹Below w.heap.size w _›) _))) hb
  clear hb
  go_wp2_with fail
  refine (G10.out _ (by repeat (first | exact hx | refine Below.alloc ?_ (Below.size ‹Below w.heap.size w _›) _))).mono ?_
  rintro e v10 ⟨rfl, hb⟩
  have hD : Holds v10 _ [.int .i64 q1, .int .u64 (q2 : Int)] := (Holds.new v9 #[.int .i64 q1, .int .u64 (q2 : Int)] _).below hb
  replace hx := below_next (show Below w.heap.size w _ from (by repeat (first | exact hx | refine Below.alloc ?_ (Below.size ‹Below w.heap.size w _›) _))) hb
  clear hb
  have lD := hD.1
  have hD0 := hD.at_ 0 rfl
  have hD1 := hD.at_ 1 rfl
  go_wp2_with fail
  refine (G11.out _ (by repeat (first | exact hx | refine Below.alloc ?_ (Below.size ‹Below w.heap.size w _›) _))).mono ?_
  rintro e v11 ⟨rfl, hb⟩
  replace hx := below_next (show Below w.heap.size w _ from (by repeat (first | exact hx | refine Below.alloc ?_ (Below.size ‹Below w.heap.size w _›) _))) hb
  clear hb
  clear hD lD hD0 hD1
  go_wp2_with fail
  refine (G12.out _ (by repeat (first | exact hx | refine Below.alloc ?_ (Below.size ‹Below w.heap.size w _›) _))).mono ?_
  rintro e v12 ⟨rfl, hb⟩
  have hF : Holds v12 _ [.string i1, .int .i64 i2] := (Holds.new v11 #[.string i1, .int .i64 i2] _).below hb
  replace hx := below_next (show Below w.heap.size w _ from (by repeat (first | exact hx | refine Below.alloc ?_ (Below.size ‹Below w.heap.size w _›) _))) hb
  clear hb
  have lF := hF.1
  have hF0 := hF.at_ 0 rfl
  have hF1 := hF.at_ 1 rfl
  go_wp2_with fail
  refine (awake_any _).mono ?_
  rintro e v13 ⟨rfl, hb⟩
  go_wp2_with fail
  go_ret
  exact ⟨rfl, below_next (show Below w.heap.size w _ from by repeat (first | exact hx | refine Below.alloc ?_ (Below.size ‹Below w.heap.size w _›) _)) hb⟩
set_option maxRecDepth 100000 in
theorem lifted (os : Os) (started : os.Started) (H : Type) (enc : TypeId × Value → H) :
    ReturnsInHanded {} Try.checked os 6 .any (Rows.outboxBytesSpec.pre6 enc Try.prog Try.f6 Rows.outboxBytesRow.domain false) (Rows.outboxBytesSpec.post enc Try.prog Try.f6 false true false false) := by
  refine returnsInHanded_of_change (C := Try.checked) own started (by kernel_rfl) Try.func6
    (ChangeSpec.witness6 (enc := enc) (C := Try.checked) false ⟨#[], #[.int .i64 0, .agg #[.int .i64 0, .int .u64 0], .agg #[.string ⟨#[]⟩, .int .i64 0], .slice none 0 0], []⟩ 8 (by kernel_rfl) (by kernel_rfl) (by kernel_rfl) (by kernel_rfl)) ?_
  intro W base args ds gs before hval0 hW hcnd _
  have hval : ∀ (j : Nat) t v, Try.f6.params[j]? = some t → args[j]? = some v → Value.okWide Try.prog W .any base t v := hval0
  have hW' := hW
  obtain ⟨p, q, hA0, hV, rfl, hfz, hnd⟩ := hW
  have hA : DataW.TrodAll enc Try.prog W 0 (fun _ => true) true Try.f6.params.toList args.toList ds p := hA0
  rw [Try.params6] at hA hval
  obtain ⟨v0, vs0, d0, ds0, p0, q0, hargs, rfl, rfl, h0, t0⟩ := trodAll_cons hA
  obtain ⟨v1, vs1, d1, ds1, p1, q1, rfl, rfl, rfl, h1, t1⟩ := trodAll_cons t0
  obtain ⟨v2, vs2, d2, ds2, p2, q2, rfl, rfl, rfl, h2, t2⟩ := trodAll_cons t1
  obtain ⟨v3, vs3, d3, ds3, p3, q3, rfl, rfl, rfl, h3, t3⟩ := trodAll_cons t2
  obtain ⟨rfl, rfl, rfl⟩ := trodAll_nil t3
  obtain rfl : args = #[v0, v1, v2, v3] := by cases args; simp_all
  obtain ⟨rfl, rfl⟩ := trodVars_none hV
  have k0 : Reads enc W 3 v0 d0 p0 := h0
  have lt0 : ∀ x ∈ p0, x.block < W.heap.size := by obtain ⟨m, hm⟩ := k0; exact DataW.trod_lt m _ _ _ hm
  obtain ⟨n0, rfl, wl0, w0⟩ := in_int (hval 0 3 v0 rfl rfl) k0
  have k1 : Reads enc W 24 v1 d1 p1 := h1
  have lt1 : ∀ x ∈ p1, x.block < W.heap.size := by obtain ⟨m, hm⟩ := k1; exact DataW.trod_lt m _ _ _ hm
  obtain ⟨f1, x1, rfl, wl1, wh1, w1⟩ := in_inbox (hval 1 24 v1 rfl rfl) k1
  have k2 : Reads enc W 58 v2 d2 p2 := h2
  have lt2 : ∀ x ∈ p2, x.block < W.heap.size := by obtain ⟨m, hm⟩ := k2; exact DataW.trod_lt m _ _ _ hm
  obtain ⟨y2, n2, rfl, ws2, wl2, w2⟩ := in_intent (hval 2 58 v2 rfl rfl) k2
  have k3 : Reads enc W 59 v3 d3 p3 := h3
  have lt3 : ∀ x ∈ p3, x.block < W.heap.size := by obtain ⟨m, hm⟩ := k3; exact DataW.trod_lt m _ _ _ hm
  obtain ⟨A3, m3, c3, l3, rfl, r3, wc3, w3⟩ := in_bytes (hval 3 59 v3 rfl rfl) k3
  clear hA0 hval0
  refine (walk n0 f1 x1 y2 n2 A3 m3 c3 l3 W wl0 w0 wl1 wh1 w1 ws2 wl2 w2 r3 wc3 w3).mono fun e W' ⟨he, bel⟩ => ?_
  subst he
  exact ⟨_, rfl, _, _, _, [], _, [], hW', trodAll_mk1 (shut_bool Try.underlying4 _), (trodAll_cons_mk (Below.trod laidOut (by kernel_rfl) (of_decide_eq_true (by kernel_rfl)) k0 bel lt0) (trodAll_cons_mk (Below.trod laidOut (by kernel_rfl) (of_decide_eq_true (by kernel_rfl)) k1 bel lt1) (trodAll_cons_mk (Below.trod laidOut (by kernel_rfl) (of_decide_eq_true (by kernel_rfl)) k2 bel lt2) (trodAll_cons_mk (Below.trod laidOut (by kernel_rfl) (of_decide_eq_true (by kernel_rfl)) k3 bel lt3) trodAll_mk0)))), rfl, bel.frame _, fun h => by cases h⟩
theorem over : Rows.outboxBytesRow.holds Try.pinned (OpenSpec.ofChange Rows.outboxBytesSpec) :=
  OpenClaim.holds_of_wide 6 Try.f6 rfl rfl rfl rfl rfl rfl rfl ⟨rfl, rfl, rfl, rfl, rfl⟩ rfl rfl rfl rfl rfl (by kernel_rfl) Try.func6 (by kernel_rfl)
    (of_decide_eq_true (by kernel_rfl)) (by unfold Func.isWrapper; first | (rw [if_pos (by decide +kernel)]; kernel_rfl) | (rw [if_neg (by decide +kernel)]; exact ⟨rfl, rfl⟩))
    (fun os started H enc _ => lifted os started H enc)
theorem proved : Rows.OutboxBytesSaid := over
end Go.Proofs.Ytaoiokilnmpniaa.outboxBytes
