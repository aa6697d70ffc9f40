/- file.Whole: which copies are. -/
import Derived.Test.YtakocojbpdpflaaFiRd
import Derived.Test.YtakocojbpdpflaaFiWr
namespace Go.Proofs.Ytakocojbpdpflaa
open Go.RowKit Fi Fr
set_option linter.unusedVariables false
set_option maxRecDepth 100000 in
theorem equal_yes (A B : Option Addr) (n c m d : Nat) (x : List Nat) (w : World) (hx : Rd w A n x) (hy : Rd w B m x) :
    Calls Try.prog 50 #[.slice A n c, .slice B m d] w fun e w' => e = .returned (.bool true) ∧ Below w.heap.size w w' := by
  have h1 := run_str (cap := c) hx
  have h2 := run_str (cap := d) hy
  have h3 := str_same (a := x) rfl
  go_enter Try.func50, Try.ntmps50
  go_wp2
  go_ret
  exact ⟨rfl, Below.refl _ _⟩
set_option maxRecDepth 100000 in
theorem equal_no (A B : Option Addr) (n c m d : Nat) (x y : List Nat) (w : World) (hx : Rd w A n x) (hy : Rd w B m y) (hne : x ≠ y) :
    Calls Try.prog 50 #[.slice A n c, .slice B m d] w fun e w' => e = .returned (.bool false) ∧ Below w.heap.size w w' := by
  have h1 := run_str (cap := c) hx
  have h2 := run_str (cap := d) hy
  have h3 := str_other hx.2.1 hy.2.1 hne
  go_enter Try.func50, Try.ntmps50
  go_wp2
  go_ret
  exact ⟨rfl, Below.refl _ _⟩
set_option maxRecDepth 100000 in
set_option maxHeartbeats 4000000 in
theorem fwhole_any (P : Pl) (A : Option Addr) (c : Nat) (kind : Int) (i : Nat) (x y : Int) (w : World) (d : Nat) (lab : Nat → Tag) (st : Dk.St) (h : IsDisk w d lab st) (hr : RdC 2 w A P.ps.length (pv P.ps)) (hok : ok P (Sp.plots st.s.length) = true)
    (hk : 1 ≤ kind ∧ kind ≤ 4) (hf : fr P (i : Int) = (x, y, 0)) (hs : st.s.length ≤ 4096 ∧ 0 < st.s.length) (hx : st.ready x = 0) (hy : st.ready y = 0) :
    Calls Try.prog 25 #[.pointer (some ⟨d, 0, none⟩), Fi.val P A c, .int .i64 kind, .int .i64 (i : Int)] w fun e w' => e = .returned (.tuple #[.bool (isB (st.readB x) P.i P.e i kind), .bool (isB (st.readB y) P.i P.e i kind), .int .i64 0]) ∧ Below w.heap.size w w' := by
  have HBo := Lib.hid (fun v (hb : Below w.heap.size w v) => both_any P A c kind i x y v d lab st (h.below hb) (hr.below hb) hok hk hf hs hx hy)
  generalize isB (st.readB x) P.i P.e i kind = b0 at *
  generalize isB (st.readB y) P.i P.e i kind = b1 at *
  generalize st.readB x = l0 at *
  generalize st.readB y = l1 at *
  have z2 := zero_one2
  unfold Fi.val at HBo ⊢
  clear h hr hok hk hf hs hx hy
  have HB0 := Lib.hid (show Below w.heap.size w ((w.alloc (.cells #[.int .i64 P.i, .int .i64 P.e, .slice A P.ps.length c] 24)).alloc (.cells #[.int .i64 0] 26)) by repeat (first | exact Below.refl _ _ | refine Below.alloc ?_ (by simp <;> omega) _))
  have HE0 := Lib.hid (show Holds ((w.alloc (.cells #[.int .i64 P.i, .int .i64 P.e, .slice A P.ps.length c] 24)).alloc (.cells #[.int .i64 0] 26)) (w.heap.size + 1) [.int .i64 0] by have := Holds.new (w.alloc (.cells #[.int .i64 P.i, .int .i64 P.e, .slice A P.ps.length c] 24)) #[.int .i64 0] 26; simpa using this)
  go_enter_defers Try.func25, Try.ntmps25
  go_wp2_with fail
  refine (HBo.out _ HB0.out).mono ?_
  rintro e v1 ⟨B0, B1, Q0, Q1, c0, c1, rfl, hr0, hr1, hq0, hq1, hnw, hb⟩
  have hX := Holds.new v1 #[.int .i64 x, .slice B0 128 128, .bool b0, .int .i64 (ep l0 b0), .slice Q0 (bd l0 b0).length c0, .int .i64 y, .slice B1 128 128, .bool b1, .int .i64 (ep l1 b1), .slice Q1 (bd l1 b1).length c1] 85
  have hb1 := hb.alloc hb.size (.cells #[.int .i64 x, .slice B0 128 128, .bool b0, .int .i64 (ep l0 b0), .slice Q0 (bd l0 b0).length c0, .int .i64 y, .slice B1 128 128, .bool b1, .int .i64 (ep l1 b1), .slice Q1 (bd l1 b1).length c1] 85)
  have hE3 := HE0.out.below hb1
  have HB3 := Lib.hid (HB0.out.trans (hb1.mono HB0.out.size))
  have f0 := hE3.2.2 0
  have e0 := hE3.at_ 0 rfl
  have x2 := hX.at_ 2 rfl
  have x7 := hX.at_ 7 rfl
  have hne : v1.heap.size ≠ w.heap.size + 1 := by have := (HE0.out.below hb).1; omega
  have HE4 := Lib.hid (hE3.set 0 (.int .i64 0) (by simp))
  clear hr0 hr1 hq0 hq1 hnw hb hb1 hX hE3 HB0 HE0 HBo
  go_upto_region 3 with fail
  generalize (v1.alloc (.cells #[.int .i64 x, .slice B0 128 128, .bool b0, .int .i64 (ep l0 b0), .slice Q0 (bd l0 b0).length c0, .int .i64 y, .slice B1 128 128, .bool b1, .int .i64 (ep l1 b1), .slice Q1 (bd l1 b1).length c1] 85)) = v3 at *
  generalize v1.heap.size = sx at *
  go_region
  all_goals (go_wp2_with fail)
  all_goals (refine leaves_cons (f := 48) (args := #[.pointer (some ⟨w.heap.size + 1, 0, none⟩)]) (by simp) (by simp [go_sem]) ?_)
  all_goals (refine (idle_whole _ _).mono ?_)
  all_goals (rintro e u' w6 ⟨rfl, rfl, rfl⟩)
  all_goals (have r0 := HE4.out.at_ 0 rfl)
  all_goals (simp only [settle])
  all_goals (refine ⟨.tuple #[.bool b0, .bool b1, .int .i64 0], ?_, ?_⟩)
  any_goals (first | (simp [results, Try.results25, go_sem, r0]; done) | skip)
  all_goals (exact ⟨rfl, (below_set HB3.out _ _ (by show w.heap.size ≤ w.heap.size + 1; omega)).drew⟩)
end Go.Proofs.Ytakocojbpdpflaa
