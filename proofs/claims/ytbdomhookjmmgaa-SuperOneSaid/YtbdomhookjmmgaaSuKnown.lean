/- known: what a sector was, and two superblocks' sectors. -/
import Derived.Test.YtbdomhookjmmgaaRkA
import Derived.Test.YtbdomhookjmmgaaSuR
namespace Go.Proofs.Ytbdomhookjmmgaa
open Go.RowKit Fr Su
set_option linter.unusedVariables false
theorem rdv_three (w : World) (E : TypeId) (x y z : Value) : RdV (w.alloc (.cells #[x, y, z] E)) (some ⟨w.heap.size, 0, none⟩) 3 [x, y, z] := by
  refine ⟨rfl, fun _ => ⟨w.heap.size, 0, rfl, by simp, fun j v hv => ?_⟩⟩
  rw [Nat.zero_add, World.cell?_alloc_mark]
  simpa using hv
set_option maxRecDepth 100000 in
set_option maxHeartbeats 4000000 in
theorem known_any (w : World) (g : Nat) (lab : Nat → Tag) (st : Dk.St) (at_ : Int) (a b : S) (A B : Option Addr) (ca cb : Nat) (h : IsRef w g lab st) (ha : RdC 2 w A a.ps.length (pv a.ps)) (hb : RdC 2 w B b.ps.length (pv b.ps)) :
    Calls Try.prog 46 #[.pointer (some ⟨g, 0, none⟩), .int .i64 at_, Su.val a A ca, Su.val b B cb] w fun e w' => ∃ kb, e = .returned (.slice (some ⟨kb, 0, none⟩) 3 3) ∧ RdV w' (some ⟨kb, 0, none⟩) 3 [.string (str (st.readB at_)), .string (str (encL a)), .string (str (encL b))] ∧ Below w.heap.size w w' := by
  have HD := Lib.hid (fun v (hv : Below w.heap.size w v) => rread_any at_ v g lab st (h.below hv))
  have HA := Lib.hid (fun v (hv : Below w.heap.size w v) => srenc_any a A ca v (ha.below hv))
  have HB := Lib.hid (fun v (hv : Below w.heap.size w v) => srenc_any b B cb v (hb.below hv))
  unfold Su.val at HA HB ⊢
  generalize encL a = la at *
  generalize encL b = lb at *
  generalize encR a = ra at *
  generalize encR b = rb at *
  generalize a.ps.length = na at *
  generalize b.ps.length = nb at *
  have hk0 := (Holds.new w #[.int .i64 a.g, .int .i64 a.e, .int .i64 a.i, .int .i64 a.m, .slice A na ca] 26).alloc (.cells #[.int .i64 b.g, .int .i64 b.e, .int .i64 b.i, .int .i64 b.m, .slice B nb cb] 26)
  have hk1 := Holds.new (w.alloc (.cells #[.int .i64 a.g, .int .i64 a.e, .int .i64 a.i, .int .i64 a.m, .slice A na ca] 26)) #[.int .i64 b.g, .int .i64 b.e, .int .i64 b.i, .int .i64 b.m, .slice B nb cb] 26
  have hB0 : Below w.heap.size w ((w.alloc (.cells #[.int .i64 a.g, .int .i64 a.e, .int .i64 a.i, .int .i64 a.m, .slice A na ca] 26)).alloc (.cells #[.int .i64 b.g, .int .i64 b.e, .int .i64 b.i, .int .i64 b.m, .slice B nb cb] 26)) := by repeat (first | exact Below.refl _ _ | refine Below.alloc ?_ (by simp <;> omega) _)
  rw [show (w.alloc (.cells #[.int .i64 a.g, .int .i64 a.e, .int .i64 a.i, .int .i64 a.m, .slice A na ca] 26)).heap.size = w.heap.size + 1 by simp] at hk1
  have HK0 := Lib.hid hk0
  have HK1 := Lib.hid hk1
  have HB0 := Lib.hid hB0
  clear hk0 hk1 hB0 h ha hb
  go_enter Try.func46, Try.ntmps46
  go_wp2_with fail
  refine (HD.out _ HB0.out).mono ?_
  rintro e' v1 ⟨A1, n1, c1, rfl, hR1, hb1⟩
  have HR1 := Lib.hid hR1
  have HB1 := Lib.hid (HB0.out.trans (hb1.mono HB0.out.size))
  have hk0 := HK0.out.below hb1
  have HK1' := Lib.hid (HK1.out.below hb1)
  have t0 := hk0.at_ 0 rfl
  have t1 := hk0.at_ 1 rfl
  have t2 := hk0.at_ 2 rfl
  have t3 := hk0.at_ 3 rfl
  have t4 := hk0.at_ 4 rfl
  clear hb1 hR1 hk0 HB0 HK0 HK1
  go_wp2_with fail
  refine (HA.out _ HB1.out).mono ?_
  rintro e' v2 ⟨A2, c2, rfl, hR2, hc2, hb2⟩
  have HR12 := Lib.hid (HR1.out.below hb2)
  have HR2 := Lib.hid hR2
  have HB2 := Lib.hid (HB1.out.trans (hb2.mono HB1.out.size))
  have hk1 := HK1'.out.below hb2
  clear t0 t1 t2 t3 t4
  have t0 := hk1.at_ 0 rfl
  have t1 := hk1.at_ 1 rfl
  have t2 := hk1.at_ 2 rfl
  have t3 := hk1.at_ 3 rfl
  have t4 := hk1.at_ 4 rfl
  clear hb2 hR2 hk1 HB1 HR1 HK1'
  go_wp2_with fail
  refine (HB.out _ HB2.out).mono ?_
  rintro e' v3 ⟨A3, c3, rfl, hR3, hc3, hb3⟩
  have HB3 := Lib.hid (HB2.out.trans (hb3.mono HB2.out.size))
  have hs1 := run_str (cap := c1) (HR12.out.below hb3)
  have hs2 := run_str (cap := c2) (HR2.out.below hb3)
  have hs3 := run_str (cap := c3) hR3
  clear t0 t1 t2 t3 t4 hb3 hR3
  go_wp2_with fail
  go_ret
  exact ⟨v3.heap.size, rfl, rdv_three _ _ _ _ _, HB3.out.alloc HB3.out.size _⟩
end Go.Proofs.Ytbdomhookjmmgaa
