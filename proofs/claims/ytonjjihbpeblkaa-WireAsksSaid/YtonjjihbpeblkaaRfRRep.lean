/- The document's reply of any bytes. -/
import Derived.Test.YtonjjihbpeblkaaRfReply
import Derived.BigRegion
namespace Go.Proofs.Ytonjjihbpeblkaa
open Go.RowKit
set_option maxRecDepth 100000 in
theorem five_cells : madeCells (Value.agg #[.bool false, .int .i64 0, .string ⟨#[]⟩]).cells (Int.toNat 5 * 3) = (Wr.flatF [.int .i64 0, .int .i64 0, .int .i64 0, .int .i64 0, .int .i64 0]).toArray := by kernel_rfl
theorem make_five (w : World) : (Instr.makeSlice 61 (.int .i64 5) (.int .i64 5)).run Try.prog w = .ok (.slice (some ⟨w.heap.size, 0, none⟩) 5 5) (w.alloc (.cells (Wr.flatF [.int .i64 0, .int .i64 0, .int .i64 0, .int .i64 0, .int .i64 0]).toArray 76)) := by
  obtain ⟨i0, hi, hz0, hz1, hz2⟩ := info_parts manyF.info
  have hr := run_make (P := Try.prog) w 61 76 i0 _ manyF.under hi hz0 .i64 .i64 5 5 (by omega) (by omega) (by rw [hz2]; decide) (by omega)
  rw [hz1, five_cells] at hr
  exact hr
set_option maxRecDepth 100000 in
set_option maxHeartbeats 8000000 in
theorem rreadreply_any (A : Option Addr) (n c : Nat) (l : List Nat) (w : World) (hl : Rd w A n l) (hc : n ≤ c) (hn : n ≤ 1000000) :
    Calls Try.prog 18 #[.slice A n c] w (GivesRd w (Wr.Rp.bare 0).cells ((Wr.repRead l).map Wr.Rp.cells)) := by
  have hmk := make_five
  have hl256 := hl.2.1
  have htk := Lib.hid (fun (wx : World) (h : Below w.heap.size w wx) => taken_any A n c l (some ⟨wx.heap.size, 0, none⟩) 5 5 [.int .i64 0, .int .i64 0, .int .i64 0, .int .i64 0, .int .i64 0] (wx.alloc (.cells (Wr.flatF [.int .i64 0, .int .i64 0, .int .i64 0, .int .i64 0, .int .i64 0]).toArray 76)) ((hl.below h).below ((Below.refl _ _).alloc (Nat.le_refl _) _)) hc hn (rdf_new wx _ _ 5 rfl) (by omega))
  have k0 := Holds.new w #[Value.int .i64 0, .int .i64 0, .int .i64 0, .int .i64 0, .int .i64 0] 36
  have hb0 : Below w.heap.size w (w.alloc (.cells #[Value.int .i64 0, .int .i64 0, .int .i64 0, .int .i64 0, .int .i64 0] 36)) := (Below.refl _ _).alloc (Nat.le_refl _) _
  have hs0 : (w.alloc (.cells #[Value.int .i64 0, .int .i64 0, .int .i64 0, .int .i64 0, .int .i64 0] 36)).heap.size = w.heap.size + 1 := by simp
  have Hs0 := Lib.hid hs0
  have K0 := Lib.hid k0
  have HB0 := Lib.hid hb0
  clear k0 hb0 hs0
  go_enter Try.func18, Try.ntmps18
  go_wp2_with fail
  generalize w.alloc (.cells #[Value.int .i64 0, .int .i64 0, .int .i64 0, .int .i64 0, .int .i64 0] 36) = w1 at *
  have h1 := htk.out w1 HB0.out
  rw [Hs0.out] at h1
  have hbl : Below w.heap.size w (w1.alloc (.cells (Wr.flatF [.int .i64 0, .int .i64 0, .int .i64 0, .int .i64 0, .int .i64 0]).toArray 76)) := HB0.out.alloc HB0.out.size _
  have k1 := K0.out.alloc (.cells (Wr.flatF [.int .i64 0, .int .i64 0, .int .i64 0, .int .i64 0, .int .i64 0]).toArray 76)
  have hsw : w.heap.size + 1 ≤ w1.heap.size := Nat.le_of_eq Hs0.out.symm
  have hkinds : [Value.int .i64 0, .int .i64 0, .int .i64 0, .int .i64 0, .int .i64 0].map Wr.kindOf = [false, false, false, false, false] := rfl
  rw [hkinds] at h1
  have H1 := Lib.hid h1
  have K1 := Lib.hid k1
  have HBl := Lib.hid hbl
  clear h1 k1 hbl hkinds
  refine H1.out.mono ?_
  generalize w1.alloc (.cells (Wr.flatF [.int .i64 0, .int .i64 0, .int .i64 0, .int .i64 0, .int .i64 0]).toArray 76) = w2 at *
  have hall : Wr.all [false, false, false, false, false] l = match Wr.taken [false, false, false, false, false] l with
    | some (vs, []) => some vs
    | _ => none := by
    rcases h : Wr.taken [false, false, false, false, false] l with _ | ⟨vs, _ | ⟨x, r⟩⟩
    · exact Wr.all_none h
    · exact Wr.all_some h
    · exact Wr.all_more h
  rcases htkn : Wr.taken [false, false, false, false, false] l with _ | ⟨us, _ | ⟨y, r⟩⟩
  · have e0 : Wr.repRead l = none := by unfold Wr.repRead; rw [hall, htkn]
    rintro e w3 ⟨rfl, hb3⟩
    have k3 := K1.out.below hb3
    have HB3 := Lib.hid (HBl.out.trans (hb3.mono (by have := HBl.out.size; omega)))
    have E0 := Lib.hid e0
    have c0 := k3.at_ 0 rfl
    have fc0 := k3.2.2 0
    have c1 := k3.at_ 1 rfl
    have fc1 := k3.2.2 1
    have c2 := k3.at_ 2 rfl
    have fc2 := k3.2.2 2
    have c3 := k3.at_ 3 rfl
    have fc3 := k3.2.2 3
    have c4 := k3.at_ 4 rfl
    have fc4 := k3.2.2 4
    have Fin := Lib.hid (show Holds (((((w3.setCell ⟨w.heap.size, 0, none⟩ (.int .i64 0)).setCell ⟨w.heap.size, 1, none⟩ (.int .i64 0)).setCell ⟨w.heap.size, 2, none⟩ (.int .i64 0)).setCell ⟨w.heap.size, 3, none⟩ (.int .i64 0)).setCell ⟨w.heap.size, 4, none⟩ (.int .i64 0)) w.heap.size [.int .i64 0, .int .i64 0, .int .i64 0, .int .i64 0, .int .i64 0] from (((((k3.set 0 (.int .i64 0) (by simp)).set 1 (.int .i64 0) (by simp)).set 2 (.int .i64 0) (by simp)).set 3 (.int .i64 0) (by simp)).set 4 (.int .i64 0) (by simp)))
    have Fb := Lib.hid (show Below w.heap.size w (((((w3.setCell ⟨w.heap.size, 0, none⟩ (.int .i64 0)).setCell ⟨w.heap.size, 1, none⟩ (.int .i64 0)).setCell ⟨w.heap.size, 2, none⟩ (.int .i64 0)).setCell ⟨w.heap.size, 3, none⟩ (.int .i64 0)).setCell ⟨w.heap.size, 4, none⟩ (.int .i64 0)) from below_set (below_set (below_set (below_set (below_set (HB3.out) _ _ (Nat.le_refl _)) _ _ (Nat.le_refl _)) _ _ (Nat.le_refl _)) _ _ (Nat.le_refl _)) _ _ (Nat.le_refl _))
    clear e0 htkn hall k3
    go_wp2
    have i0 := Fin.out
    have d0 := i0.at_ 0 rfl
    have d1 := i0.at_ 1 rfl
    have d2 := i0.at_ 2 rfl
    have d3 := i0.at_ 3 rfl
    have d4 := i0.at_ 4 rfl
    refine ⟨rfl, .tuple #[.agg #[.int .i64 0, .int .i64 0, .int .i64 0, .int .i64 0, .int .i64 0], .int .i64 220], ?_, ?_⟩
    · simp [results, Try.results18, go_sem, d0, d1, d2, d3, d4]
    · rw [E0.out]
      exact ⟨rfl, Fb.out⟩
  · have hal2 := hall
    rw [htkn] at hal2
    rintro e w3 ⟨D, dc, t, rfl, ht, hD, hdc, hb3⟩
    have ht1 : t = true := ht.2 rfl
    subst ht1
    have hlen : us.length = 5 := by
      obtain ⟨h1, _⟩ := Wr.taken_only hl256 htkn
      exact h1
    obtain ⟨x, n2, q, f, h, rfl⟩ := Wr.five_of hal2 hlen
    have k3 := K1.out.below hb3
    have HB3 := Lib.hid (HBl.out.trans (hb3.mono (by have := HBl.out.size; omega)))
    obtain ⟨db, do_, rfl, hdb, _⟩ := hD.at_ (k := 0) rfl
    have hba : Below w3.heap.size w3 (w3.alloc (.cells #[.int .i64 0, .int .i64 0, .int .i64 0, .int .i64 0, .int .i64 0] 36)) := (Below.refl _ _).alloc (Nat.le_refl _) _
    have a0 : w3.cell? ⟨db, do_ + 1, none⟩ = some (.int .i64 x) := by
      obtain ⟨b', o', e', _, hc'⟩ := hD.at_ (k := 0) rfl
      injection e' with e'; injection e' with e1 e2; subst e1 e2
      exact hc' 1 _ rfl
    have a0' := (hba.cell (p := ⟨db, do_ + 1, none⟩) hdb).trans a0
    have a1 : w3.cell? ⟨db, do_ + 3 + 1, none⟩ = some (.int .i64 n2) := by
      obtain ⟨b', o', e', _, hc'⟩ := hD.at_ (k := 1) rfl
      injection e' with e'; injection e' with e1 e2; subst e1 e2
      exact hc' 1 _ rfl
    have a1' := (hba.cell (p := ⟨db, do_ + 3 + 1, none⟩) hdb).trans a1
    have a2 : w3.cell? ⟨db, do_ + 6 + 1, none⟩ = some (.int .i64 q) := by
      obtain ⟨b', o', e', _, hc'⟩ := hD.at_ (k := 2) rfl
      injection e' with e'; injection e' with e1 e2; subst e1 e2
      exact hc' 1 _ rfl
    have a2' := (hba.cell (p := ⟨db, do_ + 6 + 1, none⟩) hdb).trans a2
    have a3 : w3.cell? ⟨db, do_ + 9 + 1, none⟩ = some (.int .i64 f) := by
      obtain ⟨b', o', e', _, hc'⟩ := hD.at_ (k := 3) rfl
      injection e' with e'; injection e' with e1 e2; subst e1 e2
      exact hc' 1 _ rfl
    have a3' := (hba.cell (p := ⟨db, do_ + 9 + 1, none⟩) hdb).trans a3
    have a4 : w3.cell? ⟨db, do_ + 12 + 1, none⟩ = some (.int .i64 h) := by
      obtain ⟨b', o', e', _, hc'⟩ := hD.at_ (k := 4) rfl
      injection e' with e'; injection e' with e1 e2; subst e1 e2
      exact hc' 1 _ rfl
    have a4' := (hba.cell (p := ⟨db, do_ + 12 + 1, none⟩) hdb).trans a4
    have K3 := Lib.hid k3
    have Hdb := Lib.hid hdb
    have Hal2 := Lib.hid hal2
    clear k3 hdb hD ht hall htkn hlen hal2 hba
    go_wp2
    go_cut [6] from 16 to 36 (fun s6 wx => s6 = .pointer (some ⟨w3.heap.size, 0, none⟩) ∧ wx = (w3.alloc (.cells #[.int .i64 x, .int .i64 n2, .int .i64 q, .int .i64 f, .int .i64 h] 36)).drew)
    case first =>
      go_region
      all_goals go_wp2
      all_goals go_meet
      all_goals exact ⟨rfl, rfl⟩
    obtain ⟨rfl, rfl⟩ := hcut
    have hN := Holds.new w3 #[.int .i64 x, .int .i64 n2, .int .i64 q, .int .i64 f, .int .i64 h] 36
    have hN : Holds (w3.alloc (.cells #[.int .i64 x, .int .i64 n2, .int .i64 q, .int .i64 f, .int .i64 h] 36)).drew w3.heap.size [.int .i64 x, .int .i64 n2, .int .i64 q, .int .i64 f, .int .i64 h] := hN.drew
    have k4 := (K3.out.alloc (.cells #[.int .i64 x, .int .i64 n2, .int .i64 q, .int .i64 f, .int .i64 h] 36)).drew
    have hb4 := (HB3.out.alloc HB3.out.size (.cells #[.int .i64 x, .int .i64 n2, .int .i64 q, .int .i64 f, .int .i64 h] 36)).drew
    clear a0 a1 a2 a3 a4 a0' a1' a2' a3' a4'
    generalize (w3.alloc (.cells #[.int .i64 x, .int .i64 n2, .int .i64 q, .int .i64 f, .int .i64 h] 36)).drew = w4 at *
    have HB4 := Lib.hid hb4
    have g0 := hN.at_ 0 rfl
    have g1 := hN.at_ 1 rfl
    have g2 := hN.at_ 2 rfl
    have g3 := hN.at_ 3 rfl
    have g4 := hN.at_ 4 rfl
    have c0 := k4.at_ 0 rfl
    have fc0 := k4.2.2 0
    have c1 := k4.at_ 1 rfl
    have fc1 := k4.2.2 1
    have c2 := k4.at_ 2 rfl
    have fc2 := k4.2.2 2
    have c3 := k4.at_ 3 rfl
    have fc3 := k4.2.2 3
    have c4 := k4.at_ 4 rfl
    have fc4 := k4.2.2 4
    have hne := ne_Rp ⟨x, n2, q, f, h⟩ (Wr.Rp.bare x)
    by_cases hbad : x ≠ 0 ∧ (⟨x, n2, q, f, h⟩ : Wr.Rp) ≠ Wr.Rp.bare x
    · have E0 := Lib.hid (show Wr.repRead l = none by unfold Wr.repRead; rw [Hal2.out]; exact if_pos hbad)
      rw [decide_eq_true hbad.2] at hne
      simp only [Wr.Rp.cells, Wr.Rp.bare] at hne
      have hx0 : ¬ x = 0 := hbad.1
      have Fin := Lib.hid (show Holds (((((w4.setCell ⟨w.heap.size, 0, none⟩ (.int .i64 0)).setCell ⟨w.heap.size, 1, none⟩ (.int .i64 0)).setCell ⟨w.heap.size, 2, none⟩ (.int .i64 0)).setCell ⟨w.heap.size, 3, none⟩ (.int .i64 0)).setCell ⟨w.heap.size, 4, none⟩ (.int .i64 0)) w.heap.size [.int .i64 0, .int .i64 0, .int .i64 0, .int .i64 0, .int .i64 0] from (((((k4.set 0 (.int .i64 0) (by simp)).set 1 (.int .i64 0) (by simp)).set 2 (.int .i64 0) (by simp)).set 3 (.int .i64 0) (by simp)).set 4 (.int .i64 0) (by simp)))
      have Fb := Lib.hid (show Below w.heap.size w (((((w4.setCell ⟨w.heap.size, 0, none⟩ (.int .i64 0)).setCell ⟨w.heap.size, 1, none⟩ (.int .i64 0)).setCell ⟨w.heap.size, 2, none⟩ (.int .i64 0)).setCell ⟨w.heap.size, 3, none⟩ (.int .i64 0)).setCell ⟨w.heap.size, 4, none⟩ (.int .i64 0)) from below_set (below_set (below_set (below_set (below_set (HB4.out) _ _ (Nat.le_refl _)) _ _ (Nat.le_refl _)) _ _ (Nat.le_refl _)) _ _ (Nat.le_refl _)) _ _ (Nat.le_refl _))
      clear hbad k4 hN hb4
      go_wp2
      have i0 := Fin.out
      have d0 := i0.at_ 0 rfl
      have d1 := i0.at_ 1 rfl
      have d2 := i0.at_ 2 rfl
      have d3 := i0.at_ 3 rfl
      have d4 := i0.at_ 4 rfl
      refine ⟨rfl, .tuple #[.agg #[.int .i64 0, .int .i64 0, .int .i64 0, .int .i64 0, .int .i64 0], .int .i64 220], ?_, ?_⟩
      · simp [results, Try.results18, go_sem, d0, d1, d2, d3, d4]
      · rw [E0.out]
        exact ⟨rfl, Fb.out⟩
    · have E0 := Lib.hid (show Wr.repRead l = some ⟨x, n2, q, f, h⟩ by unfold Wr.repRead; rw [Hal2.out]; exact if_neg hbad)
      have hgo : x = 0 ∨ (¬ x = 0 ∧ decide ((⟨x, n2, q, f, h⟩ : Wr.Rp) ≠ Wr.Rp.bare x) = false) := by
        by_cases h0 : x = 0
        · exact .inl h0
        · exact .inr ⟨h0, decide_eq_false (fun e => hbad ⟨h0, e⟩)⟩
      have Fin := Lib.hid (show Holds (((((w4.setCell ⟨w.heap.size, 0, none⟩ (.int .i64 x)).setCell ⟨w.heap.size, 1, none⟩ (.int .i64 n2)).setCell ⟨w.heap.size, 2, none⟩ (.int .i64 q)).setCell ⟨w.heap.size, 3, none⟩ (.int .i64 f)).setCell ⟨w.heap.size, 4, none⟩ (.int .i64 h)) w.heap.size [.int .i64 x, .int .i64 n2, .int .i64 q, .int .i64 f, .int .i64 h] from (((((k4.set 0 (.int .i64 x) (by simp)).set 1 (.int .i64 n2) (by simp)).set 2 (.int .i64 q) (by simp)).set 3 (.int .i64 f) (by simp)).set 4 (.int .i64 h) (by simp)))
      have Fb := Lib.hid (show Below w.heap.size w (((((w4.setCell ⟨w.heap.size, 0, none⟩ (.int .i64 x)).setCell ⟨w.heap.size, 1, none⟩ (.int .i64 n2)).setCell ⟨w.heap.size, 2, none⟩ (.int .i64 q)).setCell ⟨w.heap.size, 3, none⟩ (.int .i64 f)).setCell ⟨w.heap.size, 4, none⟩ (.int .i64 h)) from below_set (below_set (below_set (below_set (below_set (HB4.out) _ _ (Nat.le_refl _)) _ _ (Nat.le_refl _)) _ _ (Nat.le_refl _)) _ _ (Nat.le_refl _)) _ _ (Nat.le_refl _))
      clear hbad k4 hN hb4
      rcases hgo with rfl | ⟨h0, hd⟩
      · clear hne
        go_wp2
        have i0 := Fin.out
        have d0 := i0.at_ 0 rfl
        have d1 := i0.at_ 1 rfl
        have d2 := i0.at_ 2 rfl
        have d3 := i0.at_ 3 rfl
        have d4 := i0.at_ 4 rfl
        refine ⟨rfl, .tuple #[.agg #[.int .i64 0, .int .i64 n2, .int .i64 q, .int .i64 f, .int .i64 h], .int .i64 0], ?_, ?_⟩
        · simp [results, Try.results18, go_sem, d0, d1, d2, d3, d4]
        · rw [E0.out]
          exact ⟨rfl, Fb.out⟩
      · rw [hd] at hne
        simp only [Wr.Rp.cells, Wr.Rp.bare] at hne
        clear hd
        go_wp2
        have i0 := Fin.out
        have d0 := i0.at_ 0 rfl
        have d1 := i0.at_ 1 rfl
        have d2 := i0.at_ 2 rfl
        have d3 := i0.at_ 3 rfl
        have d4 := i0.at_ 4 rfl
        refine ⟨rfl, .tuple #[.agg #[.int .i64 x, .int .i64 n2, .int .i64 q, .int .i64 f, .int .i64 h], .int .i64 0], ?_, ?_⟩
        · simp [results, Try.results18, go_sem, d0, d1, d2, d3, d4]
        · rw [E0.out]
          exact ⟨rfl, Fb.out⟩
  · have e0 : Wr.repRead l = none := by unfold Wr.repRead; rw [hall, htkn]
    rintro e w3 ⟨D, dc, t, rfl, ht, hD, hdc, hb3⟩
    have ht1 : t = false := by
      cases t with
      | false => rfl
      | true => exact absurd (ht.1 rfl) (by simp)
    subst ht1
    have k3 := K1.out.below hb3
    have HB3 := Lib.hid (HBl.out.trans (hb3.mono (by have := HBl.out.size; omega)))
    have E0 := Lib.hid e0
    have c0 := k3.at_ 0 rfl
    have fc0 := k3.2.2 0
    have c1 := k3.at_ 1 rfl
    have fc1 := k3.2.2 1
    have c2 := k3.at_ 2 rfl
    have fc2 := k3.2.2 2
    have c3 := k3.at_ 3 rfl
    have fc3 := k3.2.2 3
    have c4 := k3.at_ 4 rfl
    have fc4 := k3.2.2 4
    have Fin := Lib.hid (show Holds (((((w3.setCell ⟨w.heap.size, 0, none⟩ (.int .i64 0)).setCell ⟨w.heap.size, 1, none⟩ (.int .i64 0)).setCell ⟨w.heap.size, 2, none⟩ (.int .i64 0)).setCell ⟨w.heap.size, 3, none⟩ (.int .i64 0)).setCell ⟨w.heap.size, 4, none⟩ (.int .i64 0)) w.heap.size [.int .i64 0, .int .i64 0, .int .i64 0, .int .i64 0, .int .i64 0] from (((((k3.set 0 (.int .i64 0) (by simp)).set 1 (.int .i64 0) (by simp)).set 2 (.int .i64 0) (by simp)).set 3 (.int .i64 0) (by simp)).set 4 (.int .i64 0) (by simp)))
    have Fb := Lib.hid (show Below w.heap.size w (((((w3.setCell ⟨w.heap.size, 0, none⟩ (.int .i64 0)).setCell ⟨w.heap.size, 1, none⟩ (.int .i64 0)).setCell ⟨w.heap.size, 2, none⟩ (.int .i64 0)).setCell ⟨w.heap.size, 3, none⟩ (.int .i64 0)).setCell ⟨w.heap.size, 4, none⟩ (.int .i64 0)) from below_set (below_set (below_set (below_set (below_set (HB3.out) _ _ (Nat.le_refl _)) _ _ (Nat.le_refl _)) _ _ (Nat.le_refl _)) _ _ (Nat.le_refl _)) _ _ (Nat.le_refl _))
    clear e0 htkn hall k3 ht hD
    go_wp2
    have i0 := Fin.out
    have d0 := i0.at_ 0 rfl
    have d1 := i0.at_ 1 rfl
    have d2 := i0.at_ 2 rfl
    have d3 := i0.at_ 3 rfl
    have d4 := i0.at_ 4 rfl
    refine ⟨rfl, .tuple #[.agg #[.int .i64 0, .int .i64 0, .int .i64 0, .int .i64 0, .int .i64 0], .int .i64 220], ?_, ?_⟩
    · simp [results, Try.results18, go_sem, d0, d1, d2, d3, d4]
    · rw [E0.out]
      exact ⟨rfl, Fb.out⟩
end Go.Proofs.Ytonjjihbpeblkaa
