/- file.Mend, where one copy of two is whole. -/
import Derived.Test.YtakocojbpdpflaaFiWh
import Derived.Test.YtakocojbpdpflaaFiNil
namespace Go.Proofs.Ytakocojbpdpflaa
open Go.RowKit Fi Fr
set_option linter.unusedVariables false
/-- A disk within a call: from w on; blocks of the call's own. -/
structure La (lab : Nat → Tag) (d : Nat) (st : Dk.St) (w : World) (lab' : Nat → Tag) (v : World) (U : List Nat) : Prop where
  disk : IsDisk v d lab' st
  chg : Chg lab w v
  lab : Lab w lab lab'
  un : ∀ u ∈ U, lab' u = .no ∧ w.heap.size ≤ u ∧ u < v.heap.size
section
variable {lab lab' : Nat → Tag} {d : Nat} {st st' : Dk.St} {w v v' : World} {U : List Nat}
theorem La.start (h : IsDisk w d lab st) (hb : Below w.heap.size w v) (hu : ∀ u ∈ U, w.heap.size ≤ u ∧ u < v.heap.size) : La lab d st w lab v U :=
  ⟨h.below hb, (Chg.of_below hb), Lab.refl _ _, fun u hm => ⟨h.new_ (hu u hm).1, (hu u hm).1, (hu u hm).2⟩⟩
theorem La.next (h : La lab d st w lab' v U) (hb : Below v.heap.size v v') : La lab d st w lab' v' U :=
  ⟨h.disk.below hb, h.chg.trans h.lab (Chg.of_below hb), h.lab, fun u hm => ⟨(h.un u hm).1, (h.un u hm).2.1, Nat.lt_of_lt_of_le (h.un u hm).2.2 hb.size⟩⟩
theorem La.set (h : La lab d st w lab' v U) {u : Nat} (hu : u ∈ U) (j : Nat) (x : Value) : La lab d st w lab' (v.setCell ⟨u, j, none⟩ x) U := by
  obtain ⟨h1, h2, h3⟩ := h.un u hu
  refine ⟨h.disk.keep (by simp [World.setCell]) fun k hk => Below.heap_setCell _ _ _ _ (fun e => hk (by rw [show k = u from e]; exact h1)), ⟨h.chg.os, h.chg.tape, h.chg.output, by simpa [World.setCell] using h.chg.size, fun k hk e => (Below.heap_setCell _ _ _ _ (fun e2 => by have e2 : k = u := e2; omega)).trans (h.chg.block k hk e)⟩, h.lab, fun a ha => ⟨(h.un a ha).1, (h.un a ha).2.1, by simpa [World.setCell] using (h.un a ha).2.2⟩⟩
theorem La.left (h : La lab d st w lab' v U) (hl : Left lab' d st' v v') : ∃ lab2, La lab d st' w lab2 v' U ∧ Chg lab' v v' := by
  obtain ⟨lab2, h1, h2, h3⟩ := hl
  exact ⟨lab2, ⟨h1, h.chg.trans h.lab h2, h.lab.trans h3 h.chg.size, fun u hm => ⟨(h3 u (h.un u hm).2.2).trans (h.un u hm).1, (h.un u hm).2.1, Nat.lt_of_lt_of_le (h.un u hm).2.2 h2.size⟩⟩, h2⟩
theorem La.out (h : La lab d st w lab' v U) : Left lab d st w v := ⟨lab', h.disk, h.chg, h.lab⟩
end
set_option maxRecDepth 100000 in
theorem idle_mend (p r : Addr) (w : World) :
    CallsD Try.prog 49 #[.pointer (some p), .pointer (some r)] .returning w fun e u' w' => e = .returned (.tuple #[]) ∧ u' = .returning ∧ w' = w := by
  refine callsD_of_wpS Try.func49 rfl fun c₀ cs hu => ?_
  apply wpS_seq
  apply wpS_region
  simp [wpOpsS, go_sem, recoverD, hu, Try.ntmps49, Exit.thenS]
  apply wpS_seq
  apply wpS_region
  simp [wpOpsS, go_sem, Exit.thenS]
  refine wpS_cond (t := false) (by simp [Act.eval, Array.replicate]) ?_
  simp only [Bool.false_eq_true, if_false]
  refine wpS_of_wp (wp_skip ?_)
  cases c₀
  simp_all [bodyPostS, results, Try.results49]
set_option maxRecDepth 100000 in
set_option maxHeartbeats 4000000 in
theorem fmend_a (P : Pl) (A : Option Addr) (c : Nat) (kind : Int) (i : Nat) (x y : Int) (w : World) (d : Nat) (lab : Nat → Tag) (st : Dk.St) (k : Nat) (hlow : st.low k) (hk9 : k ≤ 900) (h : IsDisk w d lab st) (hr : RdC 2 w A P.ps.length (pv P.ps)) (hok : ok P (Sp.plots st.s.length) = true)
    (hk : 1 ≤ kind ∧ kind ≤ 4) (hf : fr P (i : Int) = (x, y, 0)) (hs : st.s.length ≤ 4096 ∧ 0 < st.s.length) (hx : st.ready x = 0) (hy : st.ready y = 0) (hne : st.readB x ≠ st.readB y)
    (h0 : isB (st.readB x) P.i P.e i kind = false) (h1 : isB (st.readB y) P.i P.e i kind = true) (hl8 : (st.readB y).length = 128) :
    Calls Try.prog 26 #[.pointer (some ⟨d, 0, none⟩), Fi.val P A c, .int .i64 kind, .int .i64 (i : Int)] w fun e w' => e = .returned (.tuple #[.int .i64 1, .int .i64 0]) ∧ Left lab d (st.write x (st.readB y)) w w' := by
  have HBo := Lib.hid (fun v (hb : Below w.heap.size w v) => both_any P A c kind i x y v d lab st (h.below hb) (hr.below hb) hok hk hf hs hx hy)
  rw [h0, h1] at HBo
  have HWr := Lib.hid (show st.writeE x (st.readB y).length = 0 by unfold Dk.St.writeE; rw [if_pos hx, if_pos hl8])
  have HD := Lib.hid h
  have HLow := Lib.hid hlow
  have HNe := Lib.hid hne
  obtain ⟨l0, hl0⟩ : ∃ l, l = st.readB x := ⟨_, rfl⟩
  obtain ⟨l1, hl1⟩ : ∃ l, l = st.readB y := ⟨_, rfl⟩
  rw [← hl0, ← hl1] at HBo
  rw [← hl0, ← hl1] at HNe
  rw [← hl1] at HWr hl8 ⊢
  have HL8 := Lib.hid hl8
  have z2 := zero_one2
  have z1 := zero_one1
  unfold Fi.val at HBo ⊢
  clear h hr hok hk hf hs hx hy h0 h1 hl0 hl1 hne hl8 hlow
  have HB0 := Lib.hid (show Below w.heap.size w (((w.alloc (.cells #[.int .i64 P.i, .int .i64 P.e, .slice A P.ps.length c] 24)).alloc (.cells #[.int .i64 0] 3)).alloc (.cells #[.int .i64 0] 26)) by repeat (first | exact Below.refl _ _ | refine Below.alloc ?_ (by simp <;> omega) _))
  have HM0 := Lib.hid (show Holds (((w.alloc (.cells #[.int .i64 P.i, .int .i64 P.e, .slice A P.ps.length c] 24)).alloc (.cells #[.int .i64 0] 3)).alloc (.cells #[.int .i64 0] 26)) (w.heap.size + 1) [.int .i64 0] by have := (Holds.new (w.alloc (.cells #[.int .i64 P.i, .int .i64 P.e, .slice A P.ps.length c] 24)) #[.int .i64 0] 3).alloc (.cells #[.int .i64 0] 26); simpa using this)
  have HE0 := Lib.hid (show Holds (((w.alloc (.cells #[.int .i64 P.i, .int .i64 P.e, .slice A P.ps.length c] 24)).alloc (.cells #[.int .i64 0] 3)).alloc (.cells #[.int .i64 0] 26)) (w.heap.size + 1 + 1) [.int .i64 0] by have := Holds.new ((w.alloc (.cells #[.int .i64 P.i, .int .i64 P.e, .slice A P.ps.length c] 24)).alloc (.cells #[.int .i64 0] 3)) #[.int .i64 0] 26; simpa using this)
  go_enter_defers Try.func26, Try.ntmps26
  go_wp2_with fail
  refine (HBo.out _ HB0.out).mono ?_
  rintro e v1 ⟨B0, B1, Q0, Q1, c0, c1, rfl, hr0, hr1, hq0, hq1, hnw, hb⟩
  have hX := Holds.new v1 #[.int .i64 x, .slice B0 128 128, .bool false, .int .i64 (ep l0 false), .slice Q0 (bd l0 false).length c0, .int .i64 y, .slice B1 128 128, .bool true, .int .i64 (ep l1 true), .slice Q1 (bd l1 true).length c1] 85
  have hb1 := hb.alloc hb.size (.cells #[.int .i64 x, .slice B0 128 128, .bool false, .int .i64 (ep l0 false), .slice Q0 (bd l0 false).length c0, .int .i64 y, .slice B1 128 128, .bool true, .int .i64 (ep l1 true), .slice Q1 (bd l1 true).length c1] 85)
  have HLa := Lib.hid (La.start (U := [w.heap.size + 1, w.heap.size + 1 + 1]) HD.out (HB0.out.trans (hb1.mono HB0.out.size)) (fun u hu => by have h1 := (HM0.out.below hb1).1; have h2 := (HE0.out.below hb1).1; simp at hu; rcases hu with rfl | rfl <;> omega))
  have HM1 := Lib.hid (HM0.out.below hb1)
  have HE1 := Lib.hid (HE0.out.below hb1)
  have HR0 := Lib.hid (hr0.alloc (.cells #[.int .i64 x, .slice B0 128 128, .bool false, .int .i64 (ep l0 false), .slice Q0 (bd l0 false).length c0, .int .i64 y, .slice B1 128 128, .bool true, .int .i64 (ep l1 true), .slice Q1 (bd l1 true).length c1] 85))
  have HR1 := Lib.hid (hr1.alloc (.cells #[.int .i64 x, .slice B0 128 128, .bool false, .int .i64 (ep l0 false), .slice Q0 (bd l0 false).length c0, .int .i64 y, .slice B1 128 128, .bool true, .int .i64 (ep l1 true), .slice Q1 (bd l1 true).length c1] 85))
  have HNw := Lib.hid (show ∀ b o, B1 = some ⟨b, o, none⟩ → w.heap.size + 1 + 1 < b from fun b o e => by have := hnw B1 (by simp) b o e; simp at this; omega)
  have x0 := hX.at_ 0 rfl
  have x1 := hX.at_ 1 rfl
  have x2 := hX.at_ 2 rfl
  have x3 := hX.at_ 3 rfl
  have x4 := hX.at_ 4 rfl
  have x5 := hX.at_ 5 rfl
  have x6 := hX.at_ 6 rfl
  have x7 := hX.at_ 7 rfl
  have x8 := hX.at_ 8 rfl
  have x9 := hX.at_ 9 rfl
  clear hr0 hr1 hq0 hq1 hnw hb hb1 HB0 HM0 HE0 HBo hX
  go_wp2_with fail
  refine (counts_yes _ _ _ _ _ _ _ _ _ _ _ _ _ _ _ (by rfl)).mono ?_
  generalize hv2 : (v1.alloc (.cells #[.int .i64 x, .slice B0 128 128, .bool false, .int .i64 (ep l0 false), .slice Q0 (bd l0 false).length c0, .int .i64 y, .slice B1 128 128, .bool true, .int .i64 (ep l1 true), .slice Q1 (bd l1 true).length c1] 85)) = v2 at *
  generalize v1.heap.size = gx at *
  clear hv2
  rintro e v3 ⟨rfl, hb⟩
  rw [if_pos (by rfl)]
  have HL3 := Lib.hid (HLa.out.next hb)
  have HM3 := Lib.hid (HM1.out.below hb)
  have HE3 := Lib.hid (HE1.out.below hb)
  have HR03 := Lib.hid (HR0.out.below hb)
  have HR13 := Lib.hid (HR1.out.below hb)
  replace x0 := (hb.cell (p := ⟨gx, 0, none⟩) (block_lt_of_cell x0)).trans x0
  replace x1 := (hb.cell (p := ⟨gx, 1, none⟩) (block_lt_of_cell x1)).trans x1
  replace x2 := (hb.cell (p := ⟨gx, 2, none⟩) (block_lt_of_cell x2)).trans x2
  replace x3 := (hb.cell (p := ⟨gx, 3, none⟩) (block_lt_of_cell x3)).trans x3
  replace x4 := (hb.cell (p := ⟨gx, 4, none⟩) (block_lt_of_cell x4)).trans x4
  replace x5 := (hb.cell (p := ⟨gx, 5, none⟩) (block_lt_of_cell x5)).trans x5
  replace x6 := (hb.cell (p := ⟨gx, 6, none⟩) (block_lt_of_cell x6)).trans x6
  replace x7 := (hb.cell (p := ⟨gx, 7, none⟩) (block_lt_of_cell x7)).trans x7
  replace x8 := (hb.cell (p := ⟨gx, 8, none⟩) (block_lt_of_cell x8)).trans x8
  replace x9 := (hb.cell (p := ⟨gx, 9, none⟩) (block_lt_of_cell x9)).trans x9
  clear hb HLa HM1 HE1 HR0 HR1
  have i0 : ∀ v, (Instr.index 85 (.agg #[.int .i64 x, .slice B0 128 128, .bool false, .int .i64 (ep l0 false), .slice Q0 (bd l0 false).length c0, .int .i64 y, .slice B1 128 128, .bool true, .int .i64 (ep l1 true), .slice Q1 (bd l1 true).length c1]) (.int .i64 0)).run Try.prog v = .ok (.agg #[.int .i64 x, .slice B0 128 128, .bool false, .int .i64 (ep l0 false), .slice Q0 (bd l0 false).length c0]) v := fun _ => by kernel_rfl
  have i1 : ∀ v, (Instr.index 85 (.agg #[.int .i64 x, .slice B0 128 128, .bool false, .int .i64 (ep l0 false), .slice Q0 (bd l0 false).length c0, .int .i64 y, .slice B1 128 128, .bool true, .int .i64 (ep l1 true), .slice Q1 (bd l1 true).length c1]) (.int .i64 1)).run Try.prog v = .ok (.agg #[.int .i64 y, .slice B1 128 128, .bool true, .int .i64 (ep l1 true), .slice Q1 (bd l1 true).length c1]) v := fun _ => by kernel_rfl
  have hfl : ∀ v, (Instr.field 83 (.agg #[.int .i64 y, .slice B1 128 128, .bool true, .int .i64 (ep l1 true), .slice Q1 (bd l1 true).length c1]) 1).run Try.prog v = .ok (.slice B1 128 128) v := fun _ => by kernel_rfl
  go_wp2_with fail
  clear x0 x1 x2 x3 x4 x5 x6 x7 x8 x9
  refine wp_loop_rounds 3 ?_
  rw [rounds_succ]
  have hO := Holds.new v3 #[.int .i64 x, .slice B0 128 128, .bool false, .int .i64 (ep l0 false), .slice Q0 (bd l0 false).length c0] 83
  have y0 := hO.at_ 0 rfl
  have y1 := hO.at_ 1 rfl
  have hbo : Below v3.heap.size v3 (v3.alloc (.cells #[.int .i64 x, .slice B0 128 128, .bool false, .int .i64 (ep l0 false), .slice Q0 (bd l0 false).length c0] 83)) := (Below.refl _ _).alloc (Nat.le_refl _) _
  have HLb := Lib.hid (HL3.out.next hbo)
  have HMb := Lib.hid (HM3.out.below hbo)
  have HEb := Lib.hid (HE3.out.below hbo)
  have HR0b := Lib.hid (HR03.out.below hbo)
  have HR1b := Lib.hid (HR13.out.below hbo)
  clear hbo HL3 HM3 HE3 HR03 HR13
  go_wp2_with fail
  refine (equal_no _ _ _ _ _ _ l0 l1 _ HR0b.out HR1b.out HNe.out).mono ?_
  generalize hvv : (v3.alloc (.cells #[.int .i64 x, .slice B0 128 128, .bool false, .int .i64 (ep l0 false), .slice Q0 (bd l0 false).length c0] 83)) = wv0 at *
  generalize v3.heap.size = gy0 at *
  rintro e va0 ⟨rfl, hb⟩
  have y0 := (hb.cell (p := ⟨gy0, 0, none⟩) (block_lt_of_cell y0)).trans y0
  have HLc := Lib.hid (HLb.out.next hb)
  have HMc := Lib.hid (HMb.out.below hb)
  have HEc := Lib.hid (HEb.out.below hb)
  have HR0c := Lib.hid (HR0b.out.below hb)
  have HR1c := Lib.hid (HR1b.out.below hb)
  clear hb hvv hO HLb HMb HEb HR0b HR1b y1
  go_wp2_with fail
  refine (write_any x B1 128 128 k l1 _ d _ st HLc.out.disk HR1c.out HLow.out (by omega) (by omega)).mono ?_
  rintro e vb ⟨rfl, hL⟩
  rw [HWr.out]
  obtain ⟨lab2, h2, hc2⟩ := HLc.out.left hL
  have hM := hc2.holds HMc.out (HLc.out.un (w.heap.size + 1) (by simp)).1
  have HEd := Lib.hid (hc2.holds HEc.out (HLc.out.un (w.heap.size + 1 + 1) (by simp)).1)
  have hlo : ∀ b o, B1 = some ⟨b, o, none⟩ → lab b = .no := fun b o e => HD.out.new_ (by have := HNw.out b o e; omega)
  have HRw := Lib.hid (hc2.rd HR1c.out hlo)
  have m0 := hM.at_ 0 rfl
  have g0 := hM.2.2 0
  have HMe := Lib.hid (hM.set 0 (.int .i64 1) (by simp))
  have HEe := Lib.hid (HEd.out.other (b := w.heap.size + 1) (i := 0) (v := .int .i64 1) (by omega))
  have HLe := Lib.hid (h2.set (u := w.heap.size + 1) (by simp) 0 (.int .i64 1))
  have HRe := Lib.hid (HRw.out.low (g := w.heap.size + 1 + 1) (g' := w.heap.size + 1) (k := 0) HNw.out (by omega) (.int .i64 1))
  clear hL h2 hc2 hM HEd hlo HRw HLc HMc HEc HR0c HR1c y0
  go_wp2_with fail
  refine (must_ok _).mono ?_
  rintro e v' ⟨rfl, rfl⟩
  go_wp2_with fail
  clear m0 g0
  generalize (vb.setCell ⟨w.heap.size + 1, 0, none⟩ (.int .i64 1)) = ve0 at *
  have HL4 := HLe
  have HM4 := HMe
  have HE4 := HEe
  have HR04 := HRe
  have HR14 := HRe
  clear HLe HMe HEe HRe
  rw [rounds_succ]
  have hO := Holds.new ve0 #[.int .i64 y, .slice B1 128 128, .bool true, .int .i64 (ep l1 true), .slice Q1 (bd l1 true).length c1] 83
  have y0 := hO.at_ 0 rfl
  have y1 := hO.at_ 1 rfl
  have hbo : Below ve0.heap.size ve0 (ve0.alloc (.cells #[.int .i64 y, .slice B1 128 128, .bool true, .int .i64 (ep l1 true), .slice Q1 (bd l1 true).length c1] 83)) := (Below.refl _ _).alloc (Nat.le_refl _) _
  have HLb := Lib.hid (HL4.out.next hbo)
  have HMb := Lib.hid (HM4.out.below hbo)
  have HEb := Lib.hid (HE4.out.below hbo)
  have HR0b := Lib.hid (HR04.out.below hbo)
  have HR1b := Lib.hid (HR14.out.below hbo)
  clear hbo HL4 HM4 HE4 HR04 HR14
  go_wp2_with fail
  refine (equal_yes _ _ _ _ _ _ l1 _ HR1b.out HR1b.out).mono ?_
  generalize hvv : (ve0.alloc (.cells #[.int .i64 y, .slice B1 128 128, .bool true, .int .i64 (ep l1 true), .slice Q1 (bd l1 true).length c1] 83)) = wv1 at *
  generalize ve0.heap.size = gy1 at *
  rintro e va1 ⟨rfl, hb⟩
  have y0 := (hb.cell (p := ⟨gy1, 0, none⟩) (block_lt_of_cell y0)).trans y0
  have HLc := Lib.hid (HLb.out.next hb)
  have HMc := Lib.hid (HMb.out.below hb)
  have HEc := Lib.hid (HEb.out.below hb)
  have HR0c := Lib.hid (HR0b.out.below hb)
  have HR1c := Lib.hid (HR1b.out.below hb)
  clear hb hvv hO HLb HMb HEb HR0b HR1b y1
  go_wp2_with fail
  clear y0
  have HL5 := HLc
  have HM5 := HMc
  have HE5 := HEc
  clear HLc HMc HEc HR0c HR1c
  rw [rounds_succ]
  have m0 := HM5.out.at_ 0 rfl
  have g0 := HM5.out.2.2 0
  have n0 := HE5.out.at_ 0 rfl
  have p0 := HE5.out.2.2 0
  have HMf := Lib.hid ((HM5.out.set 0 (.int .i64 1) (by simp)).other (b := w.heap.size + 1 + 1) (i := 0) (v := .int .i64 0) (by omega))
  have HEf := Lib.hid ((HE5.out.other (b := w.heap.size + 1) (i := 0) (v := .int .i64 1) (by omega)).set 0 (.int .i64 0) (by simp))
  have HLf := Lib.hid ((HL5.out.set (u := w.heap.size + 1) (by simp) 0 (.int .i64 1)).set (u := w.heap.size + 1 + 1) (by simp) 0 (.int .i64 0))
  go_wp2_with fail
  refine leaves_cons (f := 49) (args := #[.pointer (some ⟨w.heap.size + 1, 0, none⟩), .pointer (some ⟨w.heap.size + 1 + 1, 0, none⟩)]) (by simp) (by simp [go_sem]) ?_
  refine (idle_mend _ _ _).mono ?_
  rintro e u' w6 ⟨rfl, rfl, rfl⟩
  have r0 := HMf.out.at_ 0 rfl
  have r1 := HEf.out.at_ 0 rfl
  simp only [settle]
  refine ⟨.tuple #[.int .i64 1, .int .i64 0], ?_, ?_⟩
  · simp [results, Try.results26, go_sem, r0, r1]
  · exact ⟨rfl, HLf.out.out⟩
set_option maxRecDepth 100000 in
set_option maxHeartbeats 4000000 in
theorem fmend_b (P : Pl) (A : Option Addr) (c : Nat) (kind : Int) (i : Nat) (x y : Int) (w : World) (d : Nat) (lab : Nat → Tag) (st : Dk.St) (k : Nat) (hlow : st.low k) (hk9 : k ≤ 900) (h : IsDisk w d lab st) (hr : RdC 2 w A P.ps.length (pv P.ps)) (hok : ok P (Sp.plots st.s.length) = true)
    (hk : 1 ≤ kind ∧ kind ≤ 4) (hf : fr P (i : Int) = (x, y, 0)) (hs : st.s.length ≤ 4096 ∧ 0 < st.s.length) (hx : st.ready x = 0) (hy : st.ready y = 0) (hne : st.readB x ≠ st.readB y)
    (h0 : isB (st.readB x) P.i P.e i kind = true) (h1 : isB (st.readB y) P.i P.e i kind = false) (hl8 : (st.readB x).length = 128) :
    Calls Try.prog 26 #[.pointer (some ⟨d, 0, none⟩), Fi.val P A c, .int .i64 kind, .int .i64 (i : Int)] w fun e w' => e = .returned (.tuple #[.int .i64 1, .int .i64 0]) ∧ Left lab d (st.write y (st.readB x)) w w' := by
  have HBo := Lib.hid (fun v (hb : Below w.heap.size w v) => both_any P A c kind i x y v d lab st (h.below hb) (hr.below hb) hok hk hf hs hx hy)
  rw [h0, h1] at HBo
  have HWr := Lib.hid (show st.writeE y (st.readB x).length = 0 by unfold Dk.St.writeE; rw [if_pos hy, if_pos hl8])
  have HD := Lib.hid h
  have HLow := Lib.hid hlow
  have HNe := Lib.hid hne
  obtain ⟨l0, hl0⟩ : ∃ l, l = st.readB x := ⟨_, rfl⟩
  obtain ⟨l1, hl1⟩ : ∃ l, l = st.readB y := ⟨_, rfl⟩
  rw [← hl0, ← hl1] at HBo
  rw [← hl0, ← hl1] at HNe
  rw [← hl0] at HWr hl8 ⊢
  have HL8 := Lib.hid hl8
  have z2 := zero_one2
  have z1 := zero_one1
  unfold Fi.val at HBo ⊢
  clear h hr hok hk hf hs hx hy h0 h1 hl0 hl1 hne hl8 hlow
  have HB0 := Lib.hid (show Below w.heap.size w (((w.alloc (.cells #[.int .i64 P.i, .int .i64 P.e, .slice A P.ps.length c] 24)).alloc (.cells #[.int .i64 0] 3)).alloc (.cells #[.int .i64 0] 26)) by repeat (first | exact Below.refl _ _ | refine Below.alloc ?_ (by simp <;> omega) _))
  have HM0 := Lib.hid (show Holds (((w.alloc (.cells #[.int .i64 P.i, .int .i64 P.e, .slice A P.ps.length c] 24)).alloc (.cells #[.int .i64 0] 3)).alloc (.cells #[.int .i64 0] 26)) (w.heap.size + 1) [.int .i64 0] by have := (Holds.new (w.alloc (.cells #[.int .i64 P.i, .int .i64 P.e, .slice A P.ps.length c] 24)) #[.int .i64 0] 3).alloc (.cells #[.int .i64 0] 26); simpa using this)
  have HE0 := Lib.hid (show Holds (((w.alloc (.cells #[.int .i64 P.i, .int .i64 P.e, .slice A P.ps.length c] 24)).alloc (.cells #[.int .i64 0] 3)).alloc (.cells #[.int .i64 0] 26)) (w.heap.size + 1 + 1) [.int .i64 0] by have := Holds.new ((w.alloc (.cells #[.int .i64 P.i, .int .i64 P.e, .slice A P.ps.length c] 24)).alloc (.cells #[.int .i64 0] 3)) #[.int .i64 0] 26; simpa using this)
  go_enter_defers Try.func26, Try.ntmps26
  go_wp2_with fail
  refine (HBo.out _ HB0.out).mono ?_
  rintro e v1 ⟨B0, B1, Q0, Q1, c0, c1, rfl, hr0, hr1, hq0, hq1, hnw, hb⟩
  have hX := Holds.new v1 #[.int .i64 x, .slice B0 128 128, .bool true, .int .i64 (ep l0 true), .slice Q0 (bd l0 true).length c0, .int .i64 y, .slice B1 128 128, .bool false, .int .i64 (ep l1 false), .slice Q1 (bd l1 false).length c1] 85
  have hb1 := hb.alloc hb.size (.cells #[.int .i64 x, .slice B0 128 128, .bool true, .int .i64 (ep l0 true), .slice Q0 (bd l0 true).length c0, .int .i64 y, .slice B1 128 128, .bool false, .int .i64 (ep l1 false), .slice Q1 (bd l1 false).length c1] 85)
  have HLa := Lib.hid (La.start (U := [w.heap.size + 1, w.heap.size + 1 + 1]) HD.out (HB0.out.trans (hb1.mono HB0.out.size)) (fun u hu => by have h1 := (HM0.out.below hb1).1; have h2 := (HE0.out.below hb1).1; simp at hu; rcases hu with rfl | rfl <;> omega))
  have HM1 := Lib.hid (HM0.out.below hb1)
  have HE1 := Lib.hid (HE0.out.below hb1)
  have HR0 := Lib.hid (hr0.alloc (.cells #[.int .i64 x, .slice B0 128 128, .bool true, .int .i64 (ep l0 true), .slice Q0 (bd l0 true).length c0, .int .i64 y, .slice B1 128 128, .bool false, .int .i64 (ep l1 false), .slice Q1 (bd l1 false).length c1] 85))
  have HR1 := Lib.hid (hr1.alloc (.cells #[.int .i64 x, .slice B0 128 128, .bool true, .int .i64 (ep l0 true), .slice Q0 (bd l0 true).length c0, .int .i64 y, .slice B1 128 128, .bool false, .int .i64 (ep l1 false), .slice Q1 (bd l1 false).length c1] 85))
  have HNw := Lib.hid (show ∀ b o, B0 = some ⟨b, o, none⟩ → w.heap.size + 1 + 1 < b from fun b o e => by have := hnw B0 (by simp) b o e; simp at this; omega)
  have x0 := hX.at_ 0 rfl
  have x1 := hX.at_ 1 rfl
  have x2 := hX.at_ 2 rfl
  have x3 := hX.at_ 3 rfl
  have x4 := hX.at_ 4 rfl
  have x5 := hX.at_ 5 rfl
  have x6 := hX.at_ 6 rfl
  have x7 := hX.at_ 7 rfl
  have x8 := hX.at_ 8 rfl
  have x9 := hX.at_ 9 rfl
  clear hr0 hr1 hq0 hq1 hnw hb hb1 HB0 HM0 HE0 HBo hX
  go_wp2_with fail
  refine (counts_yes _ _ _ _ _ _ _ _ _ _ _ _ _ _ _ (by rfl)).mono ?_
  generalize hv2 : (v1.alloc (.cells #[.int .i64 x, .slice B0 128 128, .bool true, .int .i64 (ep l0 true), .slice Q0 (bd l0 true).length c0, .int .i64 y, .slice B1 128 128, .bool false, .int .i64 (ep l1 false), .slice Q1 (bd l1 false).length c1] 85)) = v2 at *
  generalize v1.heap.size = gx at *
  clear hv2
  rintro e v3 ⟨rfl, hb⟩
  rw [if_neg (by simp [sec])]
  have HL3 := Lib.hid (HLa.out.next hb)
  have HM3 := Lib.hid (HM1.out.below hb)
  have HE3 := Lib.hid (HE1.out.below hb)
  have HR03 := Lib.hid (HR0.out.below hb)
  have HR13 := Lib.hid (HR1.out.below hb)
  replace x0 := (hb.cell (p := ⟨gx, 0, none⟩) (block_lt_of_cell x0)).trans x0
  replace x1 := (hb.cell (p := ⟨gx, 1, none⟩) (block_lt_of_cell x1)).trans x1
  replace x2 := (hb.cell (p := ⟨gx, 2, none⟩) (block_lt_of_cell x2)).trans x2
  replace x3 := (hb.cell (p := ⟨gx, 3, none⟩) (block_lt_of_cell x3)).trans x3
  replace x4 := (hb.cell (p := ⟨gx, 4, none⟩) (block_lt_of_cell x4)).trans x4
  replace x5 := (hb.cell (p := ⟨gx, 5, none⟩) (block_lt_of_cell x5)).trans x5
  replace x6 := (hb.cell (p := ⟨gx, 6, none⟩) (block_lt_of_cell x6)).trans x6
  replace x7 := (hb.cell (p := ⟨gx, 7, none⟩) (block_lt_of_cell x7)).trans x7
  replace x8 := (hb.cell (p := ⟨gx, 8, none⟩) (block_lt_of_cell x8)).trans x8
  replace x9 := (hb.cell (p := ⟨gx, 9, none⟩) (block_lt_of_cell x9)).trans x9
  clear hb HLa HM1 HE1 HR0 HR1
  have i0 : ∀ v, (Instr.index 85 (.agg #[.int .i64 x, .slice B0 128 128, .bool true, .int .i64 (ep l0 true), .slice Q0 (bd l0 true).length c0, .int .i64 y, .slice B1 128 128, .bool false, .int .i64 (ep l1 false), .slice Q1 (bd l1 false).length c1]) (.int .i64 0)).run Try.prog v = .ok (.agg #[.int .i64 x, .slice B0 128 128, .bool true, .int .i64 (ep l0 true), .slice Q0 (bd l0 true).length c0]) v := fun _ => by kernel_rfl
  have i1 : ∀ v, (Instr.index 85 (.agg #[.int .i64 x, .slice B0 128 128, .bool true, .int .i64 (ep l0 true), .slice Q0 (bd l0 true).length c0, .int .i64 y, .slice B1 128 128, .bool false, .int .i64 (ep l1 false), .slice Q1 (bd l1 false).length c1]) (.int .i64 1)).run Try.prog v = .ok (.agg #[.int .i64 y, .slice B1 128 128, .bool false, .int .i64 (ep l1 false), .slice Q1 (bd l1 false).length c1]) v := fun _ => by kernel_rfl
  have hfl : ∀ v, (Instr.field 83 (.agg #[.int .i64 x, .slice B0 128 128, .bool true, .int .i64 (ep l0 true), .slice Q0 (bd l0 true).length c0]) 1).run Try.prog v = .ok (.slice B0 128 128) v := fun _ => by kernel_rfl
  go_wp2_with fail
  clear x0 x1 x2 x3 x4 x5 x6 x7 x8 x9
  refine wp_loop_rounds 3 ?_
  rw [rounds_succ]
  have hO := Holds.new v3 #[.int .i64 x, .slice B0 128 128, .bool true, .int .i64 (ep l0 true), .slice Q0 (bd l0 true).length c0] 83
  have y0 := hO.at_ 0 rfl
  have y1 := hO.at_ 1 rfl
  have hbo : Below v3.heap.size v3 (v3.alloc (.cells #[.int .i64 x, .slice B0 128 128, .bool true, .int .i64 (ep l0 true), .slice Q0 (bd l0 true).length c0] 83)) := (Below.refl _ _).alloc (Nat.le_refl _) _
  have HLb := Lib.hid (HL3.out.next hbo)
  have HMb := Lib.hid (HM3.out.below hbo)
  have HEb := Lib.hid (HE3.out.below hbo)
  have HR0b := Lib.hid (HR03.out.below hbo)
  have HR1b := Lib.hid (HR13.out.below hbo)
  clear hbo HL3 HM3 HE3 HR03 HR13
  go_wp2_with fail
  refine (equal_yes _ _ _ _ _ _ l0 _ HR0b.out HR0b.out).mono ?_
  generalize hvv : (v3.alloc (.cells #[.int .i64 x, .slice B0 128 128, .bool true, .int .i64 (ep l0 true), .slice Q0 (bd l0 true).length c0] 83)) = wv0 at *
  generalize v3.heap.size = gy0 at *
  rintro e va0 ⟨rfl, hb⟩
  have y0 := (hb.cell (p := ⟨gy0, 0, none⟩) (block_lt_of_cell y0)).trans y0
  have HLc := Lib.hid (HLb.out.next hb)
  have HMc := Lib.hid (HMb.out.below hb)
  have HEc := Lib.hid (HEb.out.below hb)
  have HR0c := Lib.hid (HR0b.out.below hb)
  have HR1c := Lib.hid (HR1b.out.below hb)
  clear hb hvv hO HLb HMb HEb HR0b HR1b y1
  go_wp2_with fail
  clear y0
  have HL4 := HLc
  have HM4 := HMc
  have HE4 := HEc
  have HR04 := HR0c
  have HR14 := HR1c
  clear HLc HMc HEc HR0c HR1c
  rw [rounds_succ]
  have hO := Holds.new va0 #[.int .i64 y, .slice B1 128 128, .bool false, .int .i64 (ep l1 false), .slice Q1 (bd l1 false).length c1] 83
  have y0 := hO.at_ 0 rfl
  have y1 := hO.at_ 1 rfl
  have hbo : Below va0.heap.size va0 (va0.alloc (.cells #[.int .i64 y, .slice B1 128 128, .bool false, .int .i64 (ep l1 false), .slice Q1 (bd l1 false).length c1] 83)) := (Below.refl _ _).alloc (Nat.le_refl _) _
  have HLb := Lib.hid (HL4.out.next hbo)
  have HMb := Lib.hid (HM4.out.below hbo)
  have HEb := Lib.hid (HE4.out.below hbo)
  have HR0b := Lib.hid (HR04.out.below hbo)
  have HR1b := Lib.hid (HR14.out.below hbo)
  clear hbo HL4 HM4 HE4 HR04 HR14
  go_wp2_with fail
  refine (equal_no _ _ _ _ _ _ l1 l0 _ HR1b.out HR0b.out (fun e => HNe.out e.symm)).mono ?_
  generalize hvv : (va0.alloc (.cells #[.int .i64 y, .slice B1 128 128, .bool false, .int .i64 (ep l1 false), .slice Q1 (bd l1 false).length c1] 83)) = wv1 at *
  generalize va0.heap.size = gy1 at *
  rintro e va1 ⟨rfl, hb⟩
  have y0 := (hb.cell (p := ⟨gy1, 0, none⟩) (block_lt_of_cell y0)).trans y0
  have HLc := Lib.hid (HLb.out.next hb)
  have HMc := Lib.hid (HMb.out.below hb)
  have HEc := Lib.hid (HEb.out.below hb)
  have HR0c := Lib.hid (HR0b.out.below hb)
  have HR1c := Lib.hid (HR1b.out.below hb)
  clear hb hvv hO HLb HMb HEb HR0b HR1b y1
  go_wp2_with fail
  refine (write_any y B0 128 128 k l0 _ d _ st HLc.out.disk HR0c.out HLow.out (by omega) (by omega)).mono ?_
  rintro e vb ⟨rfl, hL⟩
  rw [HWr.out]
  obtain ⟨lab2, h2, hc2⟩ := HLc.out.left hL
  have hM := hc2.holds HMc.out (HLc.out.un (w.heap.size + 1) (by simp)).1
  have HEd := Lib.hid (hc2.holds HEc.out (HLc.out.un (w.heap.size + 1 + 1) (by simp)).1)
  have hlo : ∀ b o, B0 = some ⟨b, o, none⟩ → lab b = .no := fun b o e => HD.out.new_ (by have := HNw.out b o e; omega)
  have HRw := Lib.hid (hc2.rd HR0c.out hlo)
  have m0 := hM.at_ 0 rfl
  have g0 := hM.2.2 0
  have HMe := Lib.hid (hM.set 0 (.int .i64 1) (by simp))
  have HEe := Lib.hid (HEd.out.other (b := w.heap.size + 1) (i := 0) (v := .int .i64 1) (by omega))
  have HLe := Lib.hid (h2.set (u := w.heap.size + 1) (by simp) 0 (.int .i64 1))
  have HRe := Lib.hid (HRw.out.low (g := w.heap.size + 1 + 1) (g' := w.heap.size + 1) (k := 0) HNw.out (by omega) (.int .i64 1))
  clear hL h2 hc2 hM HEd hlo HRw HLc HMc HEc HR0c HR1c y0
  go_wp2_with fail
  refine (must_ok _).mono ?_
  rintro e v' ⟨rfl, rfl⟩
  go_wp2_with fail
  clear m0 g0
  generalize (vb.setCell ⟨w.heap.size + 1, 0, none⟩ (.int .i64 1)) = ve1 at *
  have HL5 := HLe
  have HM5 := HMe
  have HE5 := HEe
  clear HLe HMe HEe HRe
  rw [rounds_succ]
  have m0 := HM5.out.at_ 0 rfl
  have g0 := HM5.out.2.2 0
  have n0 := HE5.out.at_ 0 rfl
  have p0 := HE5.out.2.2 0
  have HMf := Lib.hid ((HM5.out.set 0 (.int .i64 1) (by simp)).other (b := w.heap.size + 1 + 1) (i := 0) (v := .int .i64 0) (by omega))
  have HEf := Lib.hid ((HE5.out.other (b := w.heap.size + 1) (i := 0) (v := .int .i64 1) (by omega)).set 0 (.int .i64 0) (by simp))
  have HLf := Lib.hid ((HL5.out.set (u := w.heap.size + 1) (by simp) 0 (.int .i64 1)).set (u := w.heap.size + 1 + 1) (by simp) 0 (.int .i64 0))
  go_wp2_with fail
  refine leaves_cons (f := 49) (args := #[.pointer (some ⟨w.heap.size + 1, 0, none⟩), .pointer (some ⟨w.heap.size + 1 + 1, 0, none⟩)]) (by simp) (by simp [go_sem]) ?_
  refine (idle_mend _ _ _).mono ?_
  rintro e u' w6 ⟨rfl, rfl, rfl⟩
  have r0 := HMf.out.at_ 0 rfl
  have r1 := HEf.out.at_ 0 rfl
  simp only [settle]
  refine ⟨.tuple #[.int .i64 1, .int .i64 0], ?_, ?_⟩
  · simp [results, Try.results26, go_sem, r0, r1]
  · exact ⟨rfl, HLf.out.out⟩
end Go.Proofs.Ytakocojbpdpflaa
