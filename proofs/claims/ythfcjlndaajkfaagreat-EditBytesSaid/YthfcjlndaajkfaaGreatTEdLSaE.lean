/- The document's SameEdits of edits that are the same. -/
import Derived.Test.YthfcjlndaajkfaaGreatTEdLSaV
import Derived.Test.YthfcjlndaajkfaaGreatG12
import Derived.Test.YthfcjlndaajkfaaGreatTHeldS
namespace Go.Proofs.YthfcjlndaajkfaaGreat
open Go.RowKit
set_option linter.unusedVariables false
set_option linter.unusedSimpArgs false
set_option maxRecDepth 100000 in
set_option maxHeartbeats 16000000 in
theorem rsameedits_yes (A : Option Addr) (n c : Nat) (B : Option Addr) (m d : Nat) (E F : List Ed.Ex) (w : World) (h1 : RdEs w A n E) (h2 : RdEs w B m F) (heq : E.map Ed.etOf = F.map Ed.etOf) (hn : n ≤ 1000000) :
    Calls Tryz.prog 10 #[.slice A n c, .slice B m d] w fun e w' => e = .returned (.bool true) ∧ Below w.heap.size w w' := by
  have hnm : n = m := by rw [← h1.1, ← h2.1]; have := congrArg List.length heq; rwa [List.length_map, List.length_map] at this
  subst hnm
  have ee : ((n : Int) != (n : Int)) = false := by simp
  have H1 := Lib.hid h1
  have H2 := Lib.hid h2
  have HE := Lib.hid heq
  have HB0 := Lib.hid (Below.refl w.heap.size w)
  clear h1 h2 heq
  go_enter Tryz.func10, Tryz.ntmps10
  go_wp2_with fail
  clear ee
  go_loopw [5] (fun ii wr => ∃ (k : Nat), k ≤ n ∧ ii = .int .i64 (k : Int) ∧ Hid (Below w.heap.size w wr)) (fun ii _ => n - (intOf ii).toNat)
  case atStart => exact ⟨0, by omega, rfl, HB0⟩
  case round =>
    clear HB0
    obtain ⟨k, hk, rfl, HB⟩ := hrel
    by_cases hlt : k < n
    · have hki : (k : Int) < (n : Int) := by omega
      have hk0 : (0 : Int) ≤ (k : Int) := by omega
      obtain ⟨x, hx⟩ : ∃ x, E[k]? = some x := ⟨_, List.getElem?_eq_getElem (by rw [H1.out.1]; exact hlt)⟩
      obtain ⟨y, hy⟩ : ∃ y, F[k]? = some y := ⟨_, List.getElem?_eq_getElem (by rw [H2.out.1]; exact hlt)⟩
      have hxy : Ed.etOf x = Ed.etOf y := by
        have e1 : (E.map Ed.etOf)[k]? = some (Ed.etOf x) := by rw [List.getElem?_map, hx]; rfl
        have e2 : (F.map Ed.etOf)[k]? = some (Ed.etOf y) := by rw [List.getElem?_map, hy]; rfl
        rw [HE.out, e2] at e1
        injection e1 with e1
        exact e1.symm
      obtain ⟨b, o, hAb, hxo, hc1⟩ := H1.out.at_ hx
      obtain ⟨b2, o2, hBb, hyo, hc21⟩ := H2.out.at_ hy
      subst hAb
      subst hBb
      clear hx hy
      obtain ⟨⟨kd, id, nn, pid, pep, P, pn, pc, ⟨tid, tep, Q, qn, qc, sz, lv, ct, lo, hi, tp⟩⟩, ps, qs⟩ := x
      obtain ⟨⟨kd2, id2, nn2, pid2, pep2, P2, pn2, pc2, ⟨tid2, tep2, Q2, qn2, qc2, sz2, lv2, ct2, lo2, hi2, tp2⟩⟩, ps2, qs2⟩ := y
      simp only [Ed.etOf, Ed.taOf, Ed.Et.mk.injEq, Ed.Pl.mk.injEq, Ed.Ta.mk.injEq] at hxy
      obtain ⟨rfl, rfl, rfl, ⟨rfl, rfl, rfl⟩, ⟨rfl, rfl, rfl⟩, rfl, rfl, rfl, rfl, rfl, rfl⟩ := hxy
      have hbd : Below wr.heap.size wr wr.drew := (Below.refl _ _).drew
      have HBd := Lib.hid (below_next HB.out hbd)
      have hc := Lib.hid (fun (W : World) (hW : Below w.heap.size w W) (j : Nat) (q : Value) (hq : ([.int .i64 kd, .int .i64 id, .int .i64 nn, .int .i64 pid, .int .i64 pep, .slice P pn pc, .int .i64 tid, .int .i64 tep, .slice Q qn qc, .int .i64 sz, .int .i64 lv, .int .i64 ct, .string lo, .string hi, .int .i64 tp] : List Value)[j]? = some q) => show W.cell? ⟨b, o + k * 15 + j, none⟩ = some q from by
        have h3 := hc1 W hW j q hq
        rwa [← Nat.add_assoc] at h3)
      have hc2 := Lib.hid (fun (W : World) (hW : Below w.heap.size w W) (j : Nat) (q : Value) (hq : ([.int .i64 kd, .int .i64 id, .int .i64 nn, .int .i64 pid, .int .i64 pep, .slice P2 pn2 pc2, .int .i64 tid, .int .i64 tep, .slice Q2 qn2 qc2, .int .i64 sz, .int .i64 lv, .int .i64 ct, .string lo, .string hi, .int .i64 tp] : List Value)[j]? = some q) => show W.cell? ⟨b2, o2 + k * 15 + j, none⟩ = some q from by
        have h3 := hc21 W hW j q hq
        rwa [← Nat.add_assoc] at h3)
      have HXO := Lib.hid (And.intro hxo hyo)
      clear hc1 hc21 hxo hyo hbd
      have hc0 := Lib.hid (And.intro (hc.out _ HBd.out) (hc2.out _ HBd.out))
      have hS0 := Lib.hid (show wr.drew.cell? ⟨b, o + k * 15, none⟩ = some (.int .i64 kd) ∧ wr.drew.cell? ⟨b, o + k * 15 + 1, none⟩ = some (.int .i64 id) ∧ wr.drew.cell? ⟨b, o + k * 15 + 2, none⟩ = some (.int .i64 nn) ∧ wr.drew.cell? ⟨b, o + k * 15 + 3, none⟩ = some (.int .i64 pid) ∧ wr.drew.cell? ⟨b, o + k * 15 + 4, none⟩ = some (.int .i64 pep) ∧ wr.drew.cell? ⟨b, o + k * 15 + 5, none⟩ = some (.slice P pn pc) ∧ wr.drew.cell? ⟨b, o + k * 15 + 6, none⟩ = some (.int .i64 tid) ∧ wr.drew.cell? ⟨b, o + k * 15 + 7, none⟩ = some (.int .i64 tep) ∧ wr.drew.cell? ⟨b, o + k * 15 + 8, none⟩ = some (.slice Q qn qc) ∧ wr.drew.cell? ⟨b, o + k * 15 + 9, none⟩ = some (.int .i64 sz) ∧ wr.drew.cell? ⟨b, o + k * 15 + 10, none⟩ = some (.int .i64 lv) ∧ wr.drew.cell? ⟨b, o + k * 15 + 11, none⟩ = some (.int .i64 ct) ∧ wr.drew.cell? ⟨b, o + k * 15 + 12, none⟩ = some (.string lo) ∧ wr.drew.cell? ⟨b, o + k * 15 + 13, none⟩ = some (.string hi) ∧ wr.drew.cell? ⟨b, o + k * 15 + 14, none⟩ = some (.int .i64 tp) ∧ wr.drew.cell? ⟨b2, o2 + k * 15, none⟩ = some (.int .i64 kd) ∧ wr.drew.cell? ⟨b2, o2 + k * 15 + 1, none⟩ = some (.int .i64 id) ∧ wr.drew.cell? ⟨b2, o2 + k * 15 + 2, none⟩ = some (.int .i64 nn) ∧ wr.drew.cell? ⟨b2, o2 + k * 15 + 3, none⟩ = some (.int .i64 pid) ∧ wr.drew.cell? ⟨b2, o2 + k * 15 + 4, none⟩ = some (.int .i64 pep) ∧ wr.drew.cell? ⟨b2, o2 + k * 15 + 5, none⟩ = some (.slice P2 pn2 pc2) ∧ wr.drew.cell? ⟨b2, o2 + k * 15 + 6, none⟩ = some (.int .i64 tid) ∧ wr.drew.cell? ⟨b2, o2 + k * 15 + 7, none⟩ = some (.int .i64 tep) ∧ wr.drew.cell? ⟨b2, o2 + k * 15 + 8, none⟩ = some (.slice Q2 qn2 qc2) ∧ wr.drew.cell? ⟨b2, o2 + k * 15 + 9, none⟩ = some (.int .i64 sz) ∧ wr.drew.cell? ⟨b2, o2 + k * 15 + 10, none⟩ = some (.int .i64 lv) ∧ wr.drew.cell? ⟨b2, o2 + k * 15 + 11, none⟩ = some (.int .i64 ct) ∧ wr.drew.cell? ⟨b2, o2 + k * 15 + 12, none⟩ = some (.string lo) ∧ wr.drew.cell? ⟨b2, o2 + k * 15 + 13, none⟩ = some (.string hi) ∧ wr.drew.cell? ⟨b2, o2 + k * 15 + 14, none⟩ = some (.int .i64 tp) from ⟨hc0.out.1 0 _ rfl, hc0.out.1 1 _ rfl, hc0.out.1 2 _ rfl, hc0.out.1 3 _ rfl, hc0.out.1 4 _ rfl, hc0.out.1 5 _ rfl, hc0.out.1 6 _ rfl, hc0.out.1 7 _ rfl, hc0.out.1 8 _ rfl, hc0.out.1 9 _ rfl, hc0.out.1 10 _ rfl, hc0.out.1 11 _ rfl, hc0.out.1 12 _ rfl, hc0.out.1 13 _ rfl, hc0.out.1 14 _ rfl, hc0.out.2 0 _ rfl, hc0.out.2 1 _ rfl, hc0.out.2 2 _ rfl, hc0.out.2 3 _ rfl, hc0.out.2 4 _ rfl, hc0.out.2 5 _ rfl, hc0.out.2 6 _ rfl, hc0.out.2 7 _ rfl, hc0.out.2 8 _ rfl, hc0.out.2 9 _ rfl, hc0.out.2 10 _ rfl, hc0.out.2 11 _ rfl, hc0.out.2 12 _ rfl, hc0.out.2 13 _ rfl, hc0.out.2 14 _ rfl⟩)
      have HP1 := Lib.hid (And.intro (HXO.out.1.below HBd.out) (HXO.out.2.below HBd.out))
      have HQ1 := Lib.hid (show Calls Tryz.prog 29 #[.agg #[.int .i64 pid, .int .i64 pep, .slice P pn pc], .agg #[.int .i64 pid, .int .i64 pep, .slice P2 pn2 pc2]] wr.drew (fun e w' => e = .returned (.bool true) ∧ Below wr.drew.heap.size wr.drew w') from by
        have h3 := rsameplace_any pid pep P pn pc ps pid pep P2 pn2 pc2 ps wr.drew HP1.out.1.1.1 HP1.out.2.1.1 HP1.out.1.1.2.2 HP1.out.2.1.2.2
        rwa [Ed.Pl.eq_iff.2 rfl] at h3)
      have HT2 := Lib.hid (fun (W : World) (hW : Below w.heap.size w W) => show Calls Tryz.prog 30 #[.agg #[.int .i64 tid, .int .i64 tep, .slice Q qn qc, .int .i64 sz, .int .i64 lv, .int .i64 ct, .string lo, .string hi, .int .i64 tp], .agg #[.int .i64 tid, .int .i64 tep, .slice Q2 qn2 qc2, .int .i64 sz, .int .i64 lv, .int .i64 ct, .string lo, .string hi, .int .i64 tp]] W (fun e w' => e = .returned (.bool true) ∧ Below W.heap.size W w') from by
        have h4 := HXO.out.1.below hW
        have h5 := HXO.out.2.below hW
        have h3 := rsametable_any tid tep Q qn qc sz lv ct lo hi tp qs tid tep Q2 qn2 qc2 sz lv ct lo hi tp qs W h4.2.1.1 h5.2.1.1 h4.2.1.2.2 h5.2.1.2.2
        rwa [Ed.Ta.eq_iff.2 rfl] at h3)
      clear hc0 HP1
      go_upto_region 6 with fail
      simp only [List.append_eq, List.cons_append, List.nil_append]
      refine wp_region_T (fun W => W.cell? ⟨b, o + k * 15, none⟩ = some (.int .i64 kd) ∧ W.cell? ⟨b, o + k * 15 + 1, none⟩ = some (.int .i64 id) ∧ W.cell? ⟨b, o + k * 15 + 2, none⟩ = some (.int .i64 nn) ∧ W.cell? ⟨b, o + k * 15 + 3, none⟩ = some (.int .i64 pid) ∧ W.cell? ⟨b, o + k * 15 + 4, none⟩ = some (.int .i64 pep) ∧ W.cell? ⟨b, o + k * 15 + 5, none⟩ = some (.slice P pn pc) ∧ W.cell? ⟨b, o + k * 15 + 6, none⟩ = some (.int .i64 tid) ∧ W.cell? ⟨b, o + k * 15 + 7, none⟩ = some (.int .i64 tep) ∧ W.cell? ⟨b, o + k * 15 + 8, none⟩ = some (.slice Q qn qc) ∧ W.cell? ⟨b, o + k * 15 + 9, none⟩ = some (.int .i64 sz) ∧ W.cell? ⟨b, o + k * 15 + 10, none⟩ = some (.int .i64 lv) ∧ W.cell? ⟨b, o + k * 15 + 11, none⟩ = some (.int .i64 ct) ∧ W.cell? ⟨b, o + k * 15 + 12, none⟩ = some (.string lo) ∧ W.cell? ⟨b, o + k * 15 + 13, none⟩ = some (.string hi) ∧ W.cell? ⟨b, o + k * 15 + 14, none⟩ = some (.int .i64 tp) ∧ W.cell? ⟨b2, o2 + k * 15, none⟩ = some (.int .i64 kd) ∧ W.cell? ⟨b2, o2 + k * 15 + 1, none⟩ = some (.int .i64 id) ∧ W.cell? ⟨b2, o2 + k * 15 + 2, none⟩ = some (.int .i64 nn) ∧ W.cell? ⟨b2, o2 + k * 15 + 3, none⟩ = some (.int .i64 pid) ∧ W.cell? ⟨b2, o2 + k * 15 + 4, none⟩ = some (.int .i64 pep) ∧ W.cell? ⟨b2, o2 + k * 15 + 5, none⟩ = some (.slice P2 pn2 pc2) ∧ W.cell? ⟨b2, o2 + k * 15 + 6, none⟩ = some (.int .i64 tid) ∧ W.cell? ⟨b2, o2 + k * 15 + 7, none⟩ = some (.int .i64 tep) ∧ W.cell? ⟨b2, o2 + k * 15 + 8, none⟩ = some (.slice Q2 qn2 qc2) ∧ W.cell? ⟨b2, o2 + k * 15 + 9, none⟩ = some (.int .i64 sz) ∧ W.cell? ⟨b2, o2 + k * 15 + 10, none⟩ = some (.int .i64 lv) ∧ W.cell? ⟨b2, o2 + k * 15 + 11, none⟩ = some (.int .i64 ct) ∧ W.cell? ⟨b2, o2 + k * 15 + 12, none⟩ = some (.string lo) ∧ W.cell? ⟨b2, o2 + k * 15 + 13, none⟩ = some (.string hi) ∧ W.cell? ⟨b2, o2 + k * 15 + 14, none⟩ = some (.int .i64 tp)) (fun W => True) 99 (by kernel_rfl) ?_
      refine tkS (i := 0) hS0.out ?_; try walk_nrm
      refine tkS (i := 1) hS0.out ?_; try walk_nrm
      refine tkS (i := 2) hS0.out ?_; try walk_nrm
      refine tkS (i := 3) hS0.out ?_; try walk_nrm
      refine tkS (i := 4) hS0.out ?_; try walk_nrm
      refine tkS (i := 5) hS0.out ?_; try walk_nrm
      refine tkS (i := 6) hS0.out ?_; try walk_nrm
      refine tkS (i := 7) hS0.out ?_; try walk_nrm
      refine tkS (i := 8) hS0.out ?_; try walk_nrm
      refine tkS (i := 9) hS0.out ?_; try walk_nrm
      refine tkS (i := 10) hS0.out ?_; try walk_nrm
      refine tkS (i := 11) hS0.out ?_; try walk_nrm
      refine tkS (i := 12) hS0.out ?_; try walk_nrm
      refine tkS (i := 13) hS0.out ?_; try walk_nrm
      refine tkS (i := 14) hS0.out ?_; try walk_nrm
      refine tkS (i := 15) hS0.out ?_; try walk_nrm
      refine tkS (i := 16) hS0.out ?_; try walk_nrm
      refine tkS (i := 17) hS0.out ?_; try walk_nrm
      refine tkS (i := 18) hS0.out ?_; try walk_nrm
      refine tkS (i := 19) hS0.out ?_; try walk_nrm
      refine tkS (i := 20) hS0.out ?_; try walk_nrm
      refine tkS (i := 21) hS0.out ?_; try walk_nrm
      refine tkS (i := 22) hS0.out ?_; try walk_nrm
      refine tkS (i := 23) hS0.out ?_; try walk_nrm
      refine tkS (i := 24) hS0.out ?_; try walk_nrm
      refine tkS (i := 25) hS0.out ?_; try walk_nrm
      refine tkS (i := 26) hS0.out ?_; try walk_nrm
      refine tkS (i := 27) hS0.out ?_; try walk_nrm
      refine tkS (i := 28) hS0.out ?_; try walk_nrm
      refine tkS (i := 29) hS0.out ?_; try walk_nrm
      refine tkS (i := 30) hS0.out ?_; try walk_nrm
      refine tkS (i := 31) hS0.out ?_; try walk_nrm
      refine tkS (i := 32) hS0.out ?_; try walk_nrm
      refine tkS (i := 33) hS0.out ?_; try walk_nrm
      refine tkS (i := 34) hS0.out ?_; try walk_nrm
      refine tkS (i := 35) hS0.out ?_; try walk_nrm
      refine tkS (i := 36) hS0.out ?_; try walk_nrm
      refine tkS (i := 37) hS0.out ?_; try walk_nrm
      refine tkS (i := 38) hS0.out ?_; try walk_nrm
      refine tkS (i := 39) hS0.out ?_; try walk_nrm
      refine tkS (i := 40) hS0.out ?_; try walk_nrm
      refine tkS (i := 41) hS0.out ?_; try walk_nrm
      refine tkS (i := 42) hS0.out ?_; try walk_nrm
      refine tkS (i := 43) hS0.out ?_; try walk_nrm
      refine tkS (i := 44) hS0.out ?_; try walk_nrm
      refine tkS (i := 45) hS0.out ?_; try walk_nrm
      refine tkS (i := 46) hS0.out ?_; try walk_nrm
      refine tkS (i := 47) hS0.out ?_; try walk_nrm
      refine wpAnyT_one (i := 48) (by kernel_rfl) rfl (fun K hK => ?_)
      try walk_nrm
      rw [if_pos (by rfl)]
      go_simp
      refine HQ1.out.mono ?_
      rintro e v5 ⟨rfl, hb5⟩
      have HB5 := Lib.hid (below_next HBd.out hb5)
      have hc5 := Lib.hid (And.intro (hc.out v5 HB5.out) (hc2.out v5 HB5.out))
      have hS5 := Lib.hid (show v5.cell? ⟨b, o + k * 15, none⟩ = some (.int .i64 kd) ∧ v5.cell? ⟨b, o + k * 15 + 1, none⟩ = some (.int .i64 id) ∧ v5.cell? ⟨b, o + k * 15 + 2, none⟩ = some (.int .i64 nn) ∧ v5.cell? ⟨b, o + k * 15 + 3, none⟩ = some (.int .i64 pid) ∧ v5.cell? ⟨b, o + k * 15 + 4, none⟩ = some (.int .i64 pep) ∧ v5.cell? ⟨b, o + k * 15 + 5, none⟩ = some (.slice P pn pc) ∧ v5.cell? ⟨b, o + k * 15 + 6, none⟩ = some (.int .i64 tid) ∧ v5.cell? ⟨b, o + k * 15 + 7, none⟩ = some (.int .i64 tep) ∧ v5.cell? ⟨b, o + k * 15 + 8, none⟩ = some (.slice Q qn qc) ∧ v5.cell? ⟨b, o + k * 15 + 9, none⟩ = some (.int .i64 sz) ∧ v5.cell? ⟨b, o + k * 15 + 10, none⟩ = some (.int .i64 lv) ∧ v5.cell? ⟨b, o + k * 15 + 11, none⟩ = some (.int .i64 ct) ∧ v5.cell? ⟨b, o + k * 15 + 12, none⟩ = some (.string lo) ∧ v5.cell? ⟨b, o + k * 15 + 13, none⟩ = some (.string hi) ∧ v5.cell? ⟨b, o + k * 15 + 14, none⟩ = some (.int .i64 tp) ∧ v5.cell? ⟨b2, o2 + k * 15, none⟩ = some (.int .i64 kd) ∧ v5.cell? ⟨b2, o2 + k * 15 + 1, none⟩ = some (.int .i64 id) ∧ v5.cell? ⟨b2, o2 + k * 15 + 2, none⟩ = some (.int .i64 nn) ∧ v5.cell? ⟨b2, o2 + k * 15 + 3, none⟩ = some (.int .i64 pid) ∧ v5.cell? ⟨b2, o2 + k * 15 + 4, none⟩ = some (.int .i64 pep) ∧ v5.cell? ⟨b2, o2 + k * 15 + 5, none⟩ = some (.slice P2 pn2 pc2) ∧ v5.cell? ⟨b2, o2 + k * 15 + 6, none⟩ = some (.int .i64 tid) ∧ v5.cell? ⟨b2, o2 + k * 15 + 7, none⟩ = some (.int .i64 tep) ∧ v5.cell? ⟨b2, o2 + k * 15 + 8, none⟩ = some (.slice Q2 qn2 qc2) ∧ v5.cell? ⟨b2, o2 + k * 15 + 9, none⟩ = some (.int .i64 sz) ∧ v5.cell? ⟨b2, o2 + k * 15 + 10, none⟩ = some (.int .i64 lv) ∧ v5.cell? ⟨b2, o2 + k * 15 + 11, none⟩ = some (.int .i64 ct) ∧ v5.cell? ⟨b2, o2 + k * 15 + 12, none⟩ = some (.string lo) ∧ v5.cell? ⟨b2, o2 + k * 15 + 13, none⟩ = some (.string hi) ∧ v5.cell? ⟨b2, o2 + k * 15 + 14, none⟩ = some (.int .i64 tp) from ⟨hc5.out.1 0 _ rfl, hc5.out.1 1 _ rfl, hc5.out.1 2 _ rfl, hc5.out.1 3 _ rfl, hc5.out.1 4 _ rfl, hc5.out.1 5 _ rfl, hc5.out.1 6 _ rfl, hc5.out.1 7 _ rfl, hc5.out.1 8 _ rfl, hc5.out.1 9 _ rfl, hc5.out.1 10 _ rfl, hc5.out.1 11 _ rfl, hc5.out.1 12 _ rfl, hc5.out.1 13 _ rfl, hc5.out.1 14 _ rfl, hc5.out.2 0 _ rfl, hc5.out.2 1 _ rfl, hc5.out.2 2 _ rfl, hc5.out.2 3 _ rfl, hc5.out.2 4 _ rfl, hc5.out.2 5 _ rfl, hc5.out.2 6 _ rfl, hc5.out.2 7 _ rfl, hc5.out.2 8 _ rfl, hc5.out.2 9 _ rfl, hc5.out.2 10 _ rfl, hc5.out.2 11 _ rfl, hc5.out.2 12 _ rfl, hc5.out.2 13 _ rfl, hc5.out.2 14 _ rfl⟩)
      have HQ2 := Lib.hid (HT2.out v5 HB5.out)
      clear hc5
      refine hK.out _ _ hS5.out (fun _ => trivial) ?_
      clear hK
      try walk_nrm
      refine tkS (i := 49) hS5.out ?_; try walk_nrm
      refine tkS (i := 50) hS5.out ?_; try walk_nrm
      refine tkS (i := 51) hS5.out ?_; try walk_nrm
      refine tkS (i := 52) hS5.out ?_; try walk_nrm
      refine tkS (i := 53) hS5.out ?_; try walk_nrm
      refine tkS (i := 54) hS5.out ?_; try walk_nrm
      refine tkS (i := 55) hS5.out ?_; try walk_nrm
      refine tkS (i := 56) hS5.out ?_; try walk_nrm
      refine tkS (i := 57) hS5.out ?_; try walk_nrm
      refine tkS (i := 58) hS5.out ?_; try walk_nrm
      refine tkS (i := 59) hS5.out ?_; try walk_nrm
      refine tkS (i := 60) hS5.out ?_; try walk_nrm
      refine tkS (i := 61) hS5.out ?_; try walk_nrm
      refine wpAnyT_one (i := 62) (by kernel_rfl) rfl (fun K hK => ?_)
      try walk_nrm
      rw [if_pos (by rfl)]
      go_simp
      refine HQ2.out.mono ?_
      rintro e v6 ⟨rfl, hb6⟩
      have HB6 := Lib.hid (below_next HB5.out hb6)
      have hc6 := Lib.hid (And.intro (hc.out v6 HB6.out) (hc2.out v6 HB6.out))
      have hS6 := Lib.hid (show v6.cell? ⟨b, o + k * 15, none⟩ = some (.int .i64 kd) ∧ v6.cell? ⟨b, o + k * 15 + 1, none⟩ = some (.int .i64 id) ∧ v6.cell? ⟨b, o + k * 15 + 2, none⟩ = some (.int .i64 nn) ∧ v6.cell? ⟨b, o + k * 15 + 3, none⟩ = some (.int .i64 pid) ∧ v6.cell? ⟨b, o + k * 15 + 4, none⟩ = some (.int .i64 pep) ∧ v6.cell? ⟨b, o + k * 15 + 5, none⟩ = some (.slice P pn pc) ∧ v6.cell? ⟨b, o + k * 15 + 6, none⟩ = some (.int .i64 tid) ∧ v6.cell? ⟨b, o + k * 15 + 7, none⟩ = some (.int .i64 tep) ∧ v6.cell? ⟨b, o + k * 15 + 8, none⟩ = some (.slice Q qn qc) ∧ v6.cell? ⟨b, o + k * 15 + 9, none⟩ = some (.int .i64 sz) ∧ v6.cell? ⟨b, o + k * 15 + 10, none⟩ = some (.int .i64 lv) ∧ v6.cell? ⟨b, o + k * 15 + 11, none⟩ = some (.int .i64 ct) ∧ v6.cell? ⟨b, o + k * 15 + 12, none⟩ = some (.string lo) ∧ v6.cell? ⟨b, o + k * 15 + 13, none⟩ = some (.string hi) ∧ v6.cell? ⟨b, o + k * 15 + 14, none⟩ = some (.int .i64 tp) ∧ v6.cell? ⟨b2, o2 + k * 15, none⟩ = some (.int .i64 kd) ∧ v6.cell? ⟨b2, o2 + k * 15 + 1, none⟩ = some (.int .i64 id) ∧ v6.cell? ⟨b2, o2 + k * 15 + 2, none⟩ = some (.int .i64 nn) ∧ v6.cell? ⟨b2, o2 + k * 15 + 3, none⟩ = some (.int .i64 pid) ∧ v6.cell? ⟨b2, o2 + k * 15 + 4, none⟩ = some (.int .i64 pep) ∧ v6.cell? ⟨b2, o2 + k * 15 + 5, none⟩ = some (.slice P2 pn2 pc2) ∧ v6.cell? ⟨b2, o2 + k * 15 + 6, none⟩ = some (.int .i64 tid) ∧ v6.cell? ⟨b2, o2 + k * 15 + 7, none⟩ = some (.int .i64 tep) ∧ v6.cell? ⟨b2, o2 + k * 15 + 8, none⟩ = some (.slice Q2 qn2 qc2) ∧ v6.cell? ⟨b2, o2 + k * 15 + 9, none⟩ = some (.int .i64 sz) ∧ v6.cell? ⟨b2, o2 + k * 15 + 10, none⟩ = some (.int .i64 lv) ∧ v6.cell? ⟨b2, o2 + k * 15 + 11, none⟩ = some (.int .i64 ct) ∧ v6.cell? ⟨b2, o2 + k * 15 + 12, none⟩ = some (.string lo) ∧ v6.cell? ⟨b2, o2 + k * 15 + 13, none⟩ = some (.string hi) ∧ v6.cell? ⟨b2, o2 + k * 15 + 14, none⟩ = some (.int .i64 tp) from ⟨hc6.out.1 0 _ rfl, hc6.out.1 1 _ rfl, hc6.out.1 2 _ rfl, hc6.out.1 3 _ rfl, hc6.out.1 4 _ rfl, hc6.out.1 5 _ rfl, hc6.out.1 6 _ rfl, hc6.out.1 7 _ rfl, hc6.out.1 8 _ rfl, hc6.out.1 9 _ rfl, hc6.out.1 10 _ rfl, hc6.out.1 11 _ rfl, hc6.out.1 12 _ rfl, hc6.out.1 13 _ rfl, hc6.out.1 14 _ rfl, hc6.out.2 0 _ rfl, hc6.out.2 1 _ rfl, hc6.out.2 2 _ rfl, hc6.out.2 3 _ rfl, hc6.out.2 4 _ rfl, hc6.out.2 5 _ rfl, hc6.out.2 6 _ rfl, hc6.out.2 7 _ rfl, hc6.out.2 8 _ rfl, hc6.out.2 9 _ rfl, hc6.out.2 10 _ rfl, hc6.out.2 11 _ rfl, hc6.out.2 12 _ rfl, hc6.out.2 13 _ rfl, hc6.out.2 14 _ rfl⟩)
      clear hc6
      refine hK.out _ _ hS6.out (fun _ => trivial) ?_
      clear hK
      try walk_nrm
      refine tkS (i := 63) hS6.out ?_; try walk_nrm
      refine tkS (i := 64) hS6.out ?_; try walk_nrm
      refine wpAnyT_done (by kernel_rfl) ?_ _
      clear hS0 hS5 hS6 HQ1 HQ2 HT2 hc hc2 hb5 hb6
      go_wp2
      go_roundw
      case rel => exact ⟨k + 1, by omega, by go_num, HB6⟩
      case measure => simp [intOf]; omega
    · have hki : ¬ (k : Int) < (n : Int) := by omega
      clear hlt
      go_wp2
      go_ret
      exact ⟨rfl, HB.out⟩
end Go.Proofs.YthfcjlndaajkfaaGreat
