/- file.Read: a frame's payload and epoch. -/
import Derived.Test.YtpggomekbahddaaFiCnt
namespace Go.Proofs.Ytpggomekbahddaa
open Go.RowKit Fi Fr
set_option linter.unusedVariables false
/-- What Read gives of two copies. -/
def GivesRd (w : World) (l0 l1 : List Nat) (b0 b1 : Bool) (e : Ending) (w' : World) : Prop :=
  Below w.heap.size w w' ∧
  ((b0 || b1) = false ∧ e = .returned (.tuple #[.slice none 0 0, .int .i64 0, .int .i64 72]) ∨
   (b0 || b1) = true ∧ ∃ (Q : Option Addr) (cq : Nat) (l : List Nat), l = (if sec b0 b1 (ep l0 b0) (ep l1 b1) then l1 else l0) ∧ e = .returned (.tuple #[.slice Q (bd l true).length cq, .int .i64 (ep l true), .int .i64 0]) ∧ Rd w' Q (bd l true).length (bd l true) ∧ (∀ b o, Q = some ⟨b, o, none⟩ → w.heap.size ≤ b) ∧ (bd l true).length ≤ cq)
theorem sec_on {b0 b1 : Bool} {e0 e1 : Int} (h : (b0 || b1) = true) : (if sec b0 b1 e0 e1 then b1 else b0) = true := by
  unfold sec
  cases b0 <;> cases b1 <;> simp_all
set_option maxRecDepth 100000 in
set_option maxHeartbeats 4000000 in
theorem fread_any (P : Pl) (A : Option Addr) (c : Nat) (kind : Int) (i : Nat) (x y : Int) (w : World) (d : Nat) (lab : Nat → Tag) (st : Dk.St) (h : IsDisk w d lab st) (hr : RdC 2 w A P.ps.length (pv P.ps)) (hok : ok P (Sp.plots st.s.length) = true)
    (hk : 1 ≤ kind ∧ kind ≤ 4) (hf : fr P (i : Int) = (x, y, 0)) (hs : st.s.length ≤ 4096 ∧ 0 < st.s.length) (hx : st.ready x = 0) (hy : st.ready y = 0) :
    Calls Try.prog 35 #[.pointer (some ⟨d, 0, none⟩), Fi.val P A c, .int .i64 kind, .int .i64 (i : Int)] w (GivesRd w (st.readB x) (st.readB y) (isB (st.readB x) P.i P.e i kind) (isB (st.readB y) P.i P.e i kind)) := by
  have HBo := Lib.hid (fun v (hb : Below w.heap.size w v) => both_any P A c kind i x y v d lab st (h.below hb) (hr.below hb) hok hk hf hs hx hy)
  generalize isB (st.readB x) P.i P.e i kind = b0 at *
  generalize isB (st.readB y) P.i P.e i kind = b1 at *
  generalize st.readB x = l0 at *
  generalize st.readB y = l1 at *
  have z1 := zero_one1
  unfold Fi.val at HBo ⊢
  clear h hr hok hk hf hs hx hy
  have HB0 := Lib.hid (show Below w.heap.size w ((w.alloc (.cells #[.int .i64 P.i, .int .i64 P.e, .slice A P.ps.length c] 31)).alloc (.cells #[.int .i64 0] 26)) by repeat (first | exact Below.refl _ _ | refine Below.alloc ?_ (by simp <;> omega) _))
  have HE0 := Lib.hid (show Holds ((w.alloc (.cells #[.int .i64 P.i, .int .i64 P.e, .slice A P.ps.length c] 31)).alloc (.cells #[.int .i64 0] 26)) (w.heap.size + 1) [.int .i64 0] by have := Holds.new (w.alloc (.cells #[.int .i64 P.i, .int .i64 P.e, .slice A P.ps.length c] 31)) #[.int .i64 0] 26; simpa using this)
  go_enter_defers Try.func35, Try.ntmps35
  go_wp2_with fail
  refine (HBo.out _ HB0.out).mono ?_
  rintro e v1 ⟨B0, B1, Q0, Q1, c0, c1, rfl, hr0, hr1, hq0, hq1, hnw, hb, hc0, hc1⟩
  have HC0 := Lib.hid hc0
  have HC1 := Lib.hid hc1
  clear hc0 hc1
  have HN0 := Lib.hid (show ∀ b o, Q0 = some ⟨b, o, none⟩ → w.heap.size + 1 < b from fun b o e => by have := hnw Q0 (by simp) b o e; simp at this; omega)
  have HN1 := Lib.hid (show ∀ b o, Q1 = some ⟨b, o, none⟩ → w.heap.size + 1 < b from fun b o e => by have := hnw Q1 (by simp) b o e; simp at this; omega)
  have HB1 := Lib.hid (HB0.out.trans (hb.mono HB0.out.size))
  have HE1 := Lib.hid (HE0.out.below hb)
  have HQ0 := Lib.hid hq0
  have HQ1 := Lib.hid hq1
  clear hr0 hr1 hq0 hq1 hb hnw HB0 HE0 HBo
  go_wp2_with fail
  cases hbb : (b0 || b1) with
  | false =>
    have hn0 : b0 = false := by cases b0 <;> simp_all
    have hn1 : b1 = false := by cases b1 <;> simp_all
    subst hn0 hn1
    refine (counts_no _ _ _ _ _ _ _ _ _ _ _ _ v1).mono ?_
    rintro e v2 ⟨rfl, hb⟩
    have hE := HE1.out.below hb
    have hB := HB1.out.trans (hb.mono HB1.out.size)
    show Leaves _ _ _ _ _ _ _
    refine leaves_cons (f := 45) (args := #[.pointer (some ⟨w.heap.size + 1, 0, none⟩)]) (by simp) (by simp [go_sem]) ?_
    refine (catch_read _ _ 72 _ hE).mono ?_
    rintro e u' w5 ⟨rfl, rfl, i0, rfl⟩
    have r0 := i0.at_ 0 rfl
    simp only [settle, Fi.panned]
    refine ⟨.tuple #[.slice none 0 0, .int .i64 0, .int .i64 72], ?_, ?_⟩
    · simp [results, Try.results35, go_sem, r0]
    · exact ⟨below_set hB _ _ (by show w.heap.size ≤ w.heap.size + 1; omega), .inl ⟨rfl, rfl⟩⟩
  | true =>
    have HOr := Lib.hid hbb
    have HOn := Lib.hid (sec_on (e0 := ep l0 b0) (e1 := ep l1 b1) hbb)
    refine (counts_yes _ _ _ _ _ _ _ _ _ _ _ _ _ _ v1 hbb).mono ?_
    rintro e v2 ⟨rfl, hb⟩
    have HE2 := Lib.hid (HE1.out.below hb)
    have HB2 := Lib.hid (HB1.out.trans (hb.mono HB1.out.size))
    have HQ02 := Lib.hid (HQ0.out.below hb)
    have HQ12 := Lib.hid (HQ1.out.below hb)
    clear hb HE1 HB1 HQ0 HQ1
    cases hsc : sec b0 b1 (ep l0 b0) (ep l1 b1) with
    | true =>
      have hbk : b1 = true := by have := HOn.out; rw [hsc] at this; exact this
      have HSel := Lib.hid (show l1 = (if sec b0 b1 (ep l0 b0) (ep l1 b1) then l1 else l0) by rw [hsc]; rfl)
      rw [if_pos rfl]
      rw [hbk] at HQ12 HC1 ⊢
      have hX := Holds.new v2 #[.int .i64 y, .slice B1 128 128, .bool true, .int .i64 (ep l1 true), .slice Q1 (bd l1 true).length c1] 92
      have hE3 := HE2.out.alloc (.cells #[.int .i64 y, .slice B1 128 128, .bool true, .int .i64 (ep l1 true), .slice Q1 (bd l1 true).length c1] 92)
      have HB3 := Lib.hid (HB2.out.alloc HB2.out.size (.cells #[.int .i64 y, .slice B1 128 128, .bool true, .int .i64 (ep l1 true), .slice Q1 (bd l1 true).length c1] 92))
      have HQ3 := Lib.hid (HQ12.out.alloc (.cells #[.int .i64 y, .slice B1 128 128, .bool true, .int .i64 (ep l1 true), .slice Q1 (bd l1 true).length c1] 92))
      have f0 := hE3.2.2 0
      have e0 := hE3.at_ 0 rfl
      have x3 := hX.at_ 3 rfl
      have x4 := hX.at_ 4 rfl
      have hne : v2.heap.size ≠ w.heap.size + 1 := by have := HE2.out.1; omega
      have HE4 := Lib.hid (hE3.set 0 (.int .i64 0) (by simp))
      have HLt := Lib.hid HE2.out.1
      clear hX hE3 hbk hsc HE2 HB2 HQ02 HQ12 HOn
      go_upto_region 3 with fail
      generalize (v2.alloc (.cells #[.int .i64 y, .slice B1 128 128, .bool true, .int .i64 (ep l1 true), .slice Q1 (bd l1 true).length c1] 92)) = v3 at *
      generalize v2.heap.size = sx at *
      go_region
      all_goals (go_wp2_with fail)
      all_goals (refine leaves_cons (f := 45) (args := #[.pointer (some ⟨w.heap.size + 1, 0, none⟩)]) (by simp) (by simp [go_sem]) ?_)
      all_goals (refine (idle_read _ _).mono ?_)
      all_goals (rintro e u' w6 ⟨rfl, rfl, rfl⟩)
      all_goals (have r0 := HE4.out.at_ 0 rfl)
      all_goals (simp only [settle])
      all_goals (refine ⟨.tuple #[.slice Q1 (bd l1 true).length c1, .int .i64 (ep l1 true), .int .i64 0], ?_, ?_⟩)
      any_goals (first | (simp [results, Try.results35, go_sem, r0]; done) | skip)
      all_goals (exact ⟨(below_set HB3.out _ _ (by show w.heap.size ≤ w.heap.size + 1; omega)).drew, .inr ⟨HOr.out, Q1, c1, l1, HSel.out, rfl, (HQ3.out.far HN1.out (.int .i64 0)).drew, fun b o e => (by have := HN1.out b o e; omega), HC1.out⟩⟩)
    | false =>
      have hbk : b0 = true := by have := HOn.out; rw [hsc] at this; exact this
      have HSel := Lib.hid (show l0 = (if sec b0 b1 (ep l0 b0) (ep l1 b1) then l1 else l0) by rw [hsc]; rfl)
      rw [if_neg (by simp)]
      rw [hbk] at HQ02 HC0 ⊢
      have hX := Holds.new v2 #[.int .i64 x, .slice B0 128 128, .bool true, .int .i64 (ep l0 true), .slice Q0 (bd l0 true).length c0] 92
      have hE3 := HE2.out.alloc (.cells #[.int .i64 x, .slice B0 128 128, .bool true, .int .i64 (ep l0 true), .slice Q0 (bd l0 true).length c0] 92)
      have HB3 := Lib.hid (HB2.out.alloc HB2.out.size (.cells #[.int .i64 x, .slice B0 128 128, .bool true, .int .i64 (ep l0 true), .slice Q0 (bd l0 true).length c0] 92))
      have HQ3 := Lib.hid (HQ02.out.alloc (.cells #[.int .i64 x, .slice B0 128 128, .bool true, .int .i64 (ep l0 true), .slice Q0 (bd l0 true).length c0] 92))
      have f0 := hE3.2.2 0
      have e0 := hE3.at_ 0 rfl
      have x3 := hX.at_ 3 rfl
      have x4 := hX.at_ 4 rfl
      have hne : v2.heap.size ≠ w.heap.size + 1 := by have := HE2.out.1; omega
      have HE4 := Lib.hid (hE3.set 0 (.int .i64 0) (by simp))
      have HLt := Lib.hid HE2.out.1
      clear hX hE3 hbk hsc HE2 HB2 HQ02 HQ12 HOn
      go_upto_region 3 with fail
      generalize (v2.alloc (.cells #[.int .i64 x, .slice B0 128 128, .bool true, .int .i64 (ep l0 true), .slice Q0 (bd l0 true).length c0] 92)) = v3 at *
      generalize v2.heap.size = sx at *
      go_region
      all_goals (go_wp2_with fail)
      all_goals (refine leaves_cons (f := 45) (args := #[.pointer (some ⟨w.heap.size + 1, 0, none⟩)]) (by simp) (by simp [go_sem]) ?_)
      all_goals (refine (idle_read _ _).mono ?_)
      all_goals (rintro e u' w6 ⟨rfl, rfl, rfl⟩)
      all_goals (have r0 := HE4.out.at_ 0 rfl)
      all_goals (simp only [settle])
      all_goals (refine ⟨.tuple #[.slice Q0 (bd l0 true).length c0, .int .i64 (ep l0 true), .int .i64 0], ?_, ?_⟩)
      any_goals (first | (simp [results, Try.results35, go_sem, r0]; done) | skip)
      all_goals (exact ⟨(below_set HB3.out _ _ (by show w.heap.size ≤ w.heap.size + 1; omega)).drew, .inr ⟨HOr.out, Q0, c0, l0, HSel.out, rfl, (HQ3.out.far HN0.out (.int .i64 0)).drew, fun b o e => (by have := HN0.out b o e; omega), HC0.out⟩⟩)
end Go.Proofs.Ytpggomekbahddaa
