/- Whatever request and bytes: which bytes the request is, and which request the bytes are, is as the document says. -/
import Derived.Test.YtonjjihbpeblkaaRfRAsk
import Derived.Test.YtonjjihbpeblkaaIns
import Derived.Test.YtonjjihbpeblkaaHolds
import Derived.WalkKit
import Derived.ProofKit
import Derived.OpenShut
import Derived.ShutString
import Derived.ChangeOld
import Derived.Below
import Derived.Deep.RegionHeld
namespace Go.Proofs.Ytonjjihbpeblkaa.wireAsks
open Go.ChangeShapes Go.WideShapes Go.ChangeAt Go.RowKit
set_option linter.unusedVariables false
theorem own : ownKnob Try.prog.godebug = none := by kernel_rfl
theorem laidOut : laidOutB Try.prog = true := by kernel_rfl
set_option maxRecDepth 100000 in
set_option maxHeartbeats 16000000 in
theorem walk (R0 : Wr.Rq) (A1 : Option Addr) (m1 c1 : Nat) (l1 : List Nat) (w : World) (wr0 : R0.small) (w0 : R0.s.size ≤ 9223372036854775807) (r1 : Rd w A1 m1 l1) (wc1 : m1 ≤ c1) (w1 : m1 ≤ 9223372036854775807) :
    Calls Try.prog 3 #[.agg R0.cells.toArray, .slice A1 m1 c1] w fun e w' => e = .returned (.bool true) ∧ Below w.heap.size w w' := by
  -- heartbeats 16000000
  have hcut := fun (wx : World) => cut_any A1 m1 c1 l1 wx r1.1 wc1 w1
  have hlen : (l1.take 5000).length ≤ c1 := by rw [List.length_take, r1.1]; omega
  have h5 : (l1.take 5000).length ≤ 5000 := by rw [List.length_take]; omega
  have hl : Rd w A1 (l1.take 5000).length (l1.take 5000) := by
    have h := r1.take (k := (l1.take 5000).length) (by rw [List.length_take, r1.1]; omega)
    rw [List.length_take] at h ⊢
    rw [show l1.take (min 5000 l1.length) = l1.take 5000 by rw [← List.take_take, List.take_length]] at h
    exact h
  generalize l1.take 5000 = l at *
  have g3 := fun (wx : World) (hb : Below w.heap.size w wx) => wread_any A1 l.length c1 l wx (hl.below hb) hlen (by omega)
  have g4 := fun (wx : World) (hb : Below w.heap.size w wx) => rread_any A1 l.length c1 l wx (hl.below hb) hlen (by omega)
  obtain ⟨k, s0, d, n1, u, p, q⟩ := R0
  have hsh := fun (wx : World) => short_any s0 w0 wx
  have g1 := fun (wx : World) => wbytes_any ⟨k, cutS s0, d, n1, u, p, q⟩ wr0 wx
  have g2 := fun (wx : World) => raskbytes_any ⟨k, cutS s0, d, n1, u, p, q⟩ wr0 (by have := cutS_size s0; simp only; omega) wx
  have HSh := Lib.hid hsh
  have k0 := Holds.new w #[.int .i64 k, .string s0, .int .i64 d, .int .i64 n1, .int .i64 u, .int .i64 p, .int .i64 q] 24
  have hb0 : Below w.heap.size w (w.alloc (.cells #[.int .i64 k, .string s0, .int .i64 d, .int .i64 n1, .int .i64 u, .int .i64 p, .int .i64 q] 24)) := (Below.refl _ _).alloc (Nat.le_refl _) _
  have HCut := Lib.hid hcut
  have G1 := Lib.hid g1
  have G2 := Lib.hid g2
  have G3 := Lib.hid g3
  have G4 := Lib.hid g4
  have K := Lib.hid k0
  have HB := Lib.hid hb0
  clear hcut g1 g2 g3 g4 k0 hb0 r1 hl wr0 hsh
  show Calls _ _ #[.agg #[.int .i64 k, .string s0, .int .i64 d, .int .i64 n1, .int .i64 u, .int .i64 p, .int .i64 q], .slice A1 m1 c1] _ _
  go_enter Try.func3, Try.ntmps3
  go_wp2_with fail
  generalize w.alloc (.cells #[.int .i64 k, .string s0, .int .i64 d, .int .i64 n1, .int .i64 u, .int .i64 p, .int .i64 q] 24) = wa at *
  have e0 := K.out.at_ 1 rfl
  have e1 := K.out.2.2 1
  refine (HSh.out _).mono ?_
  rintro e v0 ⟨rfl, rfl⟩
  go_wp2_with fail
  refine (HCut.out _).mono ?_
  rintro e v1 ⟨rfl, rfl⟩
  have kS : Holds (wa.setCell ⟨w.heap.size, 1, none⟩ (.string (cutS s0))) w.heap.size [.int .i64 k, .string (cutS s0), .int .i64 d, .int .i64 n1, .int .i64 u, .int .i64 p, .int .i64 q] := K.out.set 1 (.string (cutS s0)) (by simp)
  have hS := below_set HB.out ⟨w.heap.size, 1, none⟩ (.string (cutS s0)) (Nat.le_refl _)
  replace K := Lib.hid kS
  replace HB := Lib.hid hS
  clear kS hS
  have c0 := K.out.at_ 0 rfl
  have c1 := K.out.at_ 1 rfl
  have c2 := K.out.at_ 2 rfl
  have c3 := K.out.at_ 3 rfl
  have c4 := K.out.at_ 4 rfl
  have c5 := K.out.at_ 5 rfl
  have c6 := K.out.at_ 6 rfl
  go_wp2_with fail
  refine (G1.out _).mono ?_
  intro e v2 h
  obtain ⟨B1, d1, L1, E1, rfl, ho1, hb1, hE1⟩ := bs_uni h
  replace K := Lib.hid (K.out.below hb1)
  replace HB := Lib.hid (below_next HB.out hb1)
  clear h
  clear c0 c1 c2 c3 c4 c5 c6
  have c0 := K.out.at_ 0 rfl
  have c1 := K.out.at_ 1 rfl
  have c2 := K.out.at_ 2 rfl
  have c3 := K.out.at_ 3 rfl
  have c4 := K.out.at_ 4 rfl
  have c5 := K.out.at_ 5 rfl
  have c6 := K.out.at_ 6 rfl
  go_wp2_with fail
  refine (G2.out _).mono ?_
  intro e v3 h
  obtain ⟨B2, d2, L2, E2, rfl, ho2, hb2, hE2⟩ := bs_uni h
  replace HB := Lib.hid (below_next HB.out hb2)
  have ho1 := ho1.rd.below hb2
  have ho2 := ho2.rd
  obtain ⟨rfl, rfl⟩ : E2 = E1 ∧ L2 = L1 := by
    rcases hE1 with ⟨a1, a2, a3⟩ | ⟨a1, a3⟩ <;> rcases hE2 with ⟨b1, b2, b3⟩ | ⟨b1, b3⟩
    · exact ⟨by rw [a1, b1], by rw [a2, b2]⟩
    · rw [a3] at b3; cases b3
    · rw [a3] at b3; cases b3
    · rw [a3] at b3; injection b3 with b3; exact ⟨by rw [a1, b1], b3.symm⟩
  have O1 := Lib.hid ho1
  have O2 := Lib.hid ho2
  clear h hb1 hb2 hE1 hE2 ho1 ho2
  clear c0 c1 c2 c3 c4 c5 c6
  go_wp2_with fail
  refine (G3.out _ HB.out).mono ?_
  intro e v4 h
  obtain ⟨X, E3, rfl, hb3, hX⟩ := ask_uni h
  replace HB := Lib.hid (below_next HB.out hb3)
  replace O1 := Lib.hid (O1.out.below hb3)
  replace O2 := Lib.hid (O2.out.below hb3)
  obtain ⟨zk, zs, zd, zn, zu, zp, zq⟩ := X
  have hN := Holds.new v4 #[.int .i64 zk, .string zs, .int .i64 zd, .int .i64 zn, .int .i64 zu, .int .i64 zp, .int .i64 zq] 24
  have hba : Below v4.heap.size v4 (v4.alloc (.cells #[.int .i64 zk, .string zs, .int .i64 zd, .int .i64 zn, .int .i64 zu, .int .i64 zp, .int .i64 zq] 24)) := (Below.refl _ _).alloc (Nat.le_refl _) _
  have HN := Lib.hid hN
  have HX := Lib.hid hX
  replace HB := Lib.hid (below_next HB.out hba)
  replace O1 := Lib.hid (O1.out.below hba)
  replace O2 := Lib.hid (O2.out.below hba)
  clear h hb3 hba hN hX
  simp only [Wr.Rq.cells]
  go_wp2_with fail
  generalize v4.alloc (.cells #[.int .i64 zk, .string zs, .int .i64 zd, .int .i64 zn, .int .i64 zu, .int .i64 zp, .int .i64 zq] 24) = v5 at *
  refine (G4.out _ HB.out).mono ?_
  intro e v6 h
  obtain ⟨Y, E4, rfl, hb6, hY⟩ := ask_uni h
  obtain ⟨rfl, rfl⟩ : E4 = E3 ∧ Y = ⟨zk, zs, zd, zn, zu, zp, zq⟩ := by
    have hX := HX.out
    rcases hX with ⟨a1, a2, a3⟩ | ⟨a1, a3⟩ <;> rcases hY with ⟨b1, b2, b3⟩ | ⟨b1, b3⟩
    · exact ⟨by rw [a1, b1], by rw [b2]; exact a2.symm⟩
    · rw [a3] at b3; cases b3
    · rw [a3] at b3; cases b3
    · rw [a3] at b3; injection b3 with b3; exact ⟨by rw [a1, b1], b3.symm⟩
  have hbq : Below v6.heap.size v6 (v6.alloc (.cells #[.int .i64 zk, .string zs, .int .i64 zd, .int .i64 zn, .int .i64 zu, .int .i64 zp, .int .i64 zq] 24)) := (Below.refl _ _).alloc (Nat.le_refl _) _
  have hb7 := below_next HB.out (hb6.trans (hbq.mono hb6.size))
  have o1 := (O1.out.below hb6).below hbq
  have o2 := (O2.out.below hb6).below hbq
  have hN7 := (HN.out.below hb6).below hbq
  have hM7 := Holds.new v6 #[.int .i64 zk, .string zs, .int .i64 zd, .int .i64 zn, .int .i64 zu, .int .i64 zp, .int .i64 zq] 24
  have HB7 := Lib.hid hb7
  have c0 := hN7.at_ 0 rfl
  have c1 := hN7.at_ 1 rfl
  have c2 := hN7.at_ 2 rfl
  have c3 := hN7.at_ 3 rfl
  have c4 := hN7.at_ 4 rfl
  have c5 := hN7.at_ 5 rfl
  have c6 := hN7.at_ 6 rfl
  have hcv1 : (convert 25 9 (.slice B1 L2.length d1)).run Try.prog (v6.alloc (.cells #[.int .i64 zk, .string zs, .int .i64 zd, .int .i64 zn, .int .i64 zu, .int .i64 zp, .int .i64 zq] 24)) = .ok (.string (str L2)) (v6.alloc (.cells #[.int .i64 zk, .string zs, .int .i64 zd, .int .i64 zn, .int .i64 zu, .int .i64 zp, .int .i64 zq] 24)) := run_str o1
  have hcv2 : (convert 25 9 (.slice B2 L2.length d2)).run Try.prog (v6.alloc (.cells #[.int .i64 zk, .string zs, .int .i64 zd, .int .i64 zn, .int .i64 zu, .int .i64 zp, .int .i64 zq] 24)) = .ok (.string (str L2)) (v6.alloc (.cells #[.int .i64 zk, .string zs, .int .i64 zd, .int .i64 zn, .int .i64 zu, .int .i64 zp, .int .i64 zq] 24)) := run_str o2
  clear h hb6 hbq hb7 o1 o2 hN7 hM7 hY HX HN
  simp only [Wr.Rq.cells]
  go_wp2_with fail
  refine (awake_any _).mono ?_
  rintro e v8 ⟨rfl, hb8⟩
  have HB8 := Lib.hid (below_next HB7.out hb8)
  clear hb8
  go_wp2_with fail
  go_ret
  exact ⟨rfl, HB8.out⟩
set_option maxRecDepth 100000 in
theorem lifted (os : Os) (started : os.Started) (H : Type) (enc : TypeId × Value → H) :
    ReturnsInHanded {} Try.checked os 3 .any (Rows.wireAsksSpec.pre6 enc Try.prog Try.f3 Rows.wireAsksRow.domain false) (Rows.wireAsksSpec.post enc Try.prog Try.f3 false true false false) := by
  refine returnsInHanded_of_change (C := Try.checked) own started (by kernel_rfl) Try.func3
    (ChangeSpec.witness6 (enc := enc) (C := Try.checked) false ⟨#[], #[.agg #[.int .i64 0, .string ⟨#[]⟩, .int .i64 0, .int .i64 0, .int .i64 0, .int .i64 0, .int .i64 0], .slice none 0 0], []⟩ 8 (by kernel_rfl) (by kernel_rfl) (by kernel_rfl) (by kernel_rfl)) ?_
  intro W base args ds gs before hval0 hW hcnd _
  have hval : ∀ (j : Nat) t v, Try.f3.params[j]? = some t → args[j]? = some v → Value.okWide Try.prog W .any base t v := hval0
  have hW' := hW
  obtain ⟨p, q, hA0, hV, rfl, hfz, hnd⟩ := hW
  have hA : DataW.TrodAll enc Try.prog W 0 (fun _ => true) true Try.f3.params.toList args.toList ds p := hA0
  rw [Try.params3] at hA hval
  obtain ⟨v0, vs0, d0, ds0, p0, q0, hargs, rfl, rfl, h0, t0⟩ := trodAll_cons hA
  obtain ⟨v1, vs1, d1, ds1, p1, q1, rfl, rfl, rfl, h1, t1⟩ := trodAll_cons t0
  obtain ⟨rfl, rfl, rfl⟩ := trodAll_nil t1
  obtain rfl : args = #[v0, v1] := by cases args; simp_all
  obtain ⟨rfl, rfl⟩ := trodVars_none hV
  have k0 : Reads enc W 24 v0 d0 p0 := h0
  have lt0 : ∀ x ∈ p0, x.block < W.heap.size := by obtain ⟨m, hm⟩ := k0; exact DataW.trod_lt m _ _ _ hm
  obtain ⟨R0, rfl, wr0, w0⟩ := in_ask (hval 0 24 v0 rfl rfl) k0
  have k1 : Reads enc W 25 v1 d1 p1 := h1
  have lt1 : ∀ x ∈ p1, x.block < W.heap.size := by obtain ⟨m, hm⟩ := k1; exact DataW.trod_lt m _ _ _ hm
  obtain ⟨A1, m1, c1, l1, rfl, r1, wc1, w1⟩ := in_bytes (hval 1 25 v1 rfl rfl) k1
  clear hA0 hval0
  refine (walk R0 A1 m1 c1 l1 W wr0 w0 r1 wc1 w1).mono fun e W' ⟨he, bel⟩ => ?_
  subst he
  exact ⟨_, rfl, _, _, _, [], _, [], hW', trodAll_mk1 (shut_bool Try.underlying4 _), (trodAll_cons_mk (Below.trod laidOut (by kernel_rfl) (of_decide_eq_true (by kernel_rfl)) k0 bel lt0) (trodAll_cons_mk (Below.trod laidOut (by kernel_rfl) (of_decide_eq_true (by kernel_rfl)) k1 bel lt1) trodAll_mk0)), rfl, bel.frame _, fun h => by cases h⟩
theorem over : Rows.wireAsksRow.holds Try.pinned (OpenSpec.ofChange Rows.wireAsksSpec) :=
  OpenClaim.holds_of_wide 3 Try.f3 rfl rfl rfl rfl rfl rfl rfl ⟨rfl, rfl, rfl, rfl, rfl⟩ rfl rfl rfl rfl rfl (by kernel_rfl) Try.func3 (by kernel_rfl)
    (of_decide_eq_true (by kernel_rfl)) (by unfold Func.isWrapper; first | (rw [if_pos (by decide +kernel)]; kernel_rfl) | (rw [if_neg (by decide +kernel)]; exact ⟨rfl, rfl⟩))
    (fun os started H enc _ => lifted os started H enc)
theorem proved : Rows.WireAsksSaid := over
end Go.Proofs.Ytonjjihbpeblkaa.wireAsks
