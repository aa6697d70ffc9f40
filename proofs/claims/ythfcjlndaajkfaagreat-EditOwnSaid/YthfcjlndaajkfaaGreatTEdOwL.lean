/- EditOwn: what is told shares nothing with what was handed in. -/
import Derived.Test.YthfcjlndaajkfaaGreatTEdOw0
namespace Go.Proofs.YthfcjlndaajkfaaGreat
open Go.RowKit
set_option linter.unusedVariables false
set_option linter.unusedSimpArgs false
set_option maxRecDepth 100000 in
set_option maxHeartbeats 16000000 in
theorem owns_any (nx sq : Int) (A : Option Addr) (n c : Nat) (B : Option Addr) (m d : Nat) (L : List (Ed.Lg × List (Int × Int))) (M : List (Pk.Tb × List (Int × Int))) (Q : Option Addr) (q qc : Nat) (E : List Ed.Ex) (w : World) (hL : RdLs w A n L) (hM : RdTs w B m M) (hE : RdEs w Q q E) (hn : n ≤ 9223372036854775807) (hm : m ≤ 9223372036854775807) (hq : q ≤ 9223372036854775807) :
    Calls Tryz.prog 6 #[.agg #[.int .i64 nx, .int .i64 sq, .slice A n c, .slice B m d], .slice Q q qc] w fun e w' => e = .returned (.bool true) ∧ Below w.heap.size w w' := by
  have HL0 := hd_ hL
  have HM0 := hd_ hM
  have HE0 := hd_ hE
  have hbu : Below w.heap.size w (w.alloc (.cells #[.int .i64 nx, .int .i64 sq, .slice A n c, .slice B m d] 25)) := (Below.refl _ _).alloc (Nat.le_refl _) _
  have HB1 := hd_ hbu
  have HX1 := hd_ (Holds.new w #[.int .i64 nx, .int .i64 sq, .slice A n c, .slice B m d] 25)
  have HS1 := hd_ (show w.heap.size + 1 ≤ (w.alloc (.cells #[.int .i64 nx, .int .i64 sq, .slice A n c, .slice B m d] 25)).heap.size by simp)
  clear hL hM hE hbu
  go_enter Tryz.func6, Tryz.ntmps6
  go_upto_region 1 with fail
  generalize (w.alloc (.cells #[.int .i64 nx, .int .i64 sq, .slice A n c, .slice B m d] 25)) = u1 at *
  replace HX1 : Hid (Holds u1 w.heap.size [.int .i64 nx, .int .i64 sq, .slice A n c, .slice B m d]) := HX1
  have C1 := hd_ (awake_any u1)
  go_wp2_with fail
  refine C1.out.mono ?_
  rintro e v1 ⟨rfl, hb1⟩
  replace HX1 := hd_ (HX1.out.below hb1)
  replace HB1 := hd_ (below_next HB1.out hb1)
  replace HS1 := hd_ (show w.heap.size + 1 ≤ v1.heap.size from Nat.le_trans HS1.out hb1.size)
  clear C1 hb1
  have x0 := HX1.out.at_ 0 rfl
  have x1 := HX1.out.at_ 1 rfl
  have x2 := HX1.out.at_ 2 rfl
  have x3 := HX1.out.at_ 3 rfl
  have C2 := hd_ (lversion_any nx sq A n c B m d L M v1 (HL0.out.below HB1.out) (HM0.out.below HB1.out) hn hm)
  go_wp2_with fail
  refine C2.out.mono ?_
  clear C2 x0 x1 x2 x3
  rintro e v2 ⟨A1, c1, B1, d1, rfl, _, _, hb2, hol, hot⟩
  have C3 := hd_ (ledits_any Q q qc E v2 (HE0.out.below (below_next HB1.out hb2)) hq)
  go_wp2_with fail
  refine C3.out.mono ?_
  clear C3
  rintro e v3 ⟨Q1, qc1, rfl, hqc, _, hb3, hoe⟩
  have HX3 := hd_ ((HX1.out.below hb2).below hb3)
  have HB3 := hd_ (below_next (below_next HB1.out hb2) hb3)
  have HOl := hd_ ((hol.below hb3).base_ HS1.out)
  have HOt := hd_ ((hot.below hb3).base_ HS1.out)
  have HOe := hd_ (hoe.base_ (Nat.le_trans HS1.out hb2.size))
  clear hb2 hb3 hol hot hoe HX1 HB1 HS1
  have x0 := HX3.out.at_ 0 rfl
  have x1 := HX3.out.at_ 1 rfl
  have x2 := HX3.out.at_ 2 rfl
  have x3 := HX3.out.at_ 3 rfl
  have f0 := HX3.out.2.2 0
  have f1 := HX3.out.2.2 1
  have f2 := HX3.out.2.2 2
  have f3 := HX3.out.2.2 3
  have HG := hd_ ((grown_cell v3 w.heap.size 0 (.int .i64 nx)).trans ((grown_cell _ w.heap.size 1 (.int .i64 sq)).trans ((grown_cell _ w.heap.size 2 (.slice A1 (min n 34) c1)).trans (grown_cell _ w.heap.size 3 (.slice B1 (min m 130) d1)))))
  have HP := hd_ (show Prt w nx sq A1 (min n 34) c1 B1 (min m 130) d1 Q1 (min q 260) qc1 (Ed.lflat ((L.take (min n 34)).map fun x => (Ed.cutL x).1)) (Pk.flat ((M.take (min m 130)).map fun x => (Ed.cutT x).1)) (Ed.eflat ((E.take (min q 260)).map fun x => (Ed.cutE x).1)) ((((v3.setCell ⟨w.heap.size, 0, none⟩ (.int .i64 nx)).setCell ⟨w.heap.size, 1, none⟩ (.int .i64 sq)).setCell ⟨w.heap.size, 2, none⟩ (.slice A1 (min n 34) c1)).setCell ⟨w.heap.size, 3, none⟩ (.slice B1 (min m 130) d1)) from ⟨(((HX3.out.set 0 (.int .i64 nx) (by simp)).set 1 (.int .i64 sq) (by simp)).set 2 (.slice A1 (min n 34) c1) (by simp)).set 3 (.slice B1 (min m 130) d1) (by simp),
    HOl.out.grown HG.out (.inr fun g hg e => by injection hg with hg; have := (HOl.out.blk g e).1; omega), HOt.out.grown HG.out (.inr fun g hg e => by injection hg with hg; have := (HOt.out.blk g e).1; omega), HOe.out.grown HG.out (.inr fun g hg e => by injection hg with hg; have := (HOe.out.blk g e).1; omega), HB3.out.grown HG.out HB3.out.size (fun g e => by injection e with e; omega)⟩)
  go_upto_region 4 with fail
  clear x0 x1 x2 x3 f0 f1 f2 f3 HG HX3 HB3 HOl HOt HOe
  generalize (((v3.setCell ⟨w.heap.size, 0, none⟩ (.int .i64 nx)).setCell ⟨w.heap.size, 1, none⟩ (.int .i64 sq)).setCell ⟨w.heap.size, 2, none⟩ (.slice A1 (min n 34) c1)).setCell ⟨w.heap.size, 3, none⟩ (.slice B1 (min m 130) d1) = v4 at *
  have HR := hd_ (fun (W : World) (h : Prt w nx sq A1 (min n 34) c1 B1 (min m 130) d1 Q1 (min q 260) qc1 (Ed.lflat ((L.take (min n 34)).map fun x => (Ed.cutL x).1)) (Pk.flat ((M.take (min m 130)).map fun x => (Ed.cutT x).1)) (Ed.eflat ((E.take (min q 260)).map fun x => (Ed.cutE x).1)) W) => And.intro (h.rls2 HL0.out) (And.intro (h.rts2 HM0.out) (h.res2 HE0.out)))
  have hq1 : min q 260 ≤ 260 := Nat.min_le_right _ _
  have hn1 : min n 34 ≤ 34 := Nat.min_le_right _ _
  have hm1 : min m 130 ≤ 130 := Nat.min_le_right _ _
  clear HL0 HM0 HE0
  have HPn0 := hd_ (show (∀ x ∈ (L.take 34).map Ed.cutL, x.1.pn ≤ 100000) ∧ (∀ x ∈ (M.take 130).map Ed.cutT, x.1.pn ≤ 100000) from ⟨fun x hx => by
    obtain ⟨y, hy, rfl⟩ := List.mem_map.1 hx
    show min y.1.pn 66 ≤ 100000
    omega, fun x hx => by
    obtain ⟨y, hy, rfl⟩ := List.mem_map.1 hx
    show min y.1.pn 66 ≤ 100000
    omega⟩)
  generalize (Ed.lflat ((L.take (min n 34)).map fun x => (Ed.cutL x).1)) = l1 at *
  generalize (Pk.flat ((M.take (min m 130)).map fun x => (Ed.cutT x).1)) = l2 at *
  generalize (Ed.eflat ((E.take (min q 260)).map fun x => (Ed.cutE x).1)) = l3 at *
  generalize min q 260 = q1 at *
  generalize min n 34 = n1 at *
  generalize min m 130 = m1 at *
  generalize (L.take 34).map Ed.cutL = L1 at *
  generalize (M.take 130).map Ed.cutT = M1 at *
  generalize (E.take 260).map Ed.cutE = E1 at *
  clear hn hm hq
  have HPn := hd_ (show (∀ x ∈ L1, x.1.pn ≤ 100000) ∧ (∀ x ∈ M1, x.1.pn ≤ 100000) from HPn0.out)
  have CA := hd_ (fun (W : World) (hW : Below v4.heap.size v4 W) => apply_any nx sq A1 n1 c1 B1 m1 d1 L1 M1 Q1 q1 qc1 E1 W (HR.out W (HP.out.below hW)).1 (HR.out W (HP.out.below hW)).2.1 (HR.out W (HP.out.below hW)).2.2 (by omega))
  have CB := hd_ (fun (W : World) (hW : Below v4.heap.size v4 W) => rapply_any nx sq A1 n1 c1 B1 m1 d1 L1 M1 Q1 q1 qc1 E1 W (HR.out W (HP.out.below hW)).1 (HR.out W (HP.out.below hW)).2.1 (HR.out W (HP.out.below hW)).2.2 (by omega) (by omega) (by omega))
  have CK := hd_ (fun (W : World) (hW : Below v4.heap.size v4 W) => rcopy_any nx sq A1 n1 c1 B1 m1 d1 L1 M1 W (HR.out W (HP.out.below hW)).1 (HR.out W (HP.out.below hW)).2.1 (by omega) (by omega) HPn.out.1 HPn.out.2)
  have HLs := hd_ (fun (W : World) (hW : Below v4.heap.size v4 W) => (HR.out W (HP.out.below hW)).1)
  have HTs := hd_ (fun (W : World) (hW : Below v4.heap.size v4 W) => (HR.out W (HP.out.below hW)).2.1)
  have HX4 := hd_ (fun (W : World) (hW : Below v4.heap.size v4 W) => (HP.out.below hW).box)
  have HBl := hd_ HP.out.bel
  clear HR HP
  generalize Ed.apply ⟨nx, sq, L1.map Ed.loOf, M1.map Ed.taOf⟩ (E1.map Ed.etOf) = r at *
  have hb0 : Below v4.heap.size v4 v4 := Below.refl _ _
  have CA1 := hd_ (CA.out v4 hb0)
  have x0 := (HX4.out _ hb0).at_ 0 rfl
  have x1 := (HX4.out _ hb0).at_ 1 rfl
  have x2 := (HX4.out _ hb0).at_ 2 rfl
  have x3 := (HX4.out _ hb0).at_ 3 rfl
  clear hb0
  go_wp2_with fail
  refine CA1.out.mono ?_
  rintro e v5 ⟨A5, n5, c5, L5, B5, m5, d5, M5, rfl, hO5, hl5, ht5, hb5⟩
  have hal : Below v5.heap.size v5 (v5.alloc (.cells #[.int .i64 r.1.nx, .int .i64 r.1.sq, .slice A5 n5 c5, .slice B5 m5 d5] 25)) := (Below.refl _ _).alloc (Nat.le_refl _) _
  have HX5 := hd_ (Holds.new v5 #[.int .i64 r.1.nx, .int .i64 r.1.sq, .slice A5 n5 c5, .slice B5 m5 d5] 25)
  have HO5 := hd_ (hO5.below hal)
  have HB5 := hd_ (below_next hb5 hal)
  have HL5 := hd_ (And.intro hl5 ht5)
  have HQ5 := hd_ (show ∀ g, (blkOf A5 = some g ∨ blkOf B5 = some g ∨ (∃ x ∈ L5, blkOf x.1.P = some g) ∨ (∃ x ∈ M5, blkOf x.1.P = some g)) → v4.heap.size ≤ g ∧ g < v5.heap.size from fun g h => by
    rcases h with h | h | ⟨x, hx, h⟩ | ⟨x, hx, h⟩
    · exact hO5.ls.row.lt g h
    · exact hO5.ts.row.lt g h
    · exact (hO5.ls.prs x hx).lt g h
    · exact (hO5.ts.prs x hx).lt g h)
  have hsz5 : v5.heap.size < (v5.alloc (.cells #[.int .i64 r.1.nx, .int .i64 r.1.sq, .slice A5 n5 c5, .slice B5 m5 d5] 25)).heap.size := HX5.out.1
  clear hal hO5 hl5 ht5 hb5 CA1 x0 x1 x2 x3
  go_upto_region 5 with fail
  generalize (v5.alloc (.cells #[.int .i64 r.1.nx, .int .i64 r.1.sq, .slice A5 n5 c5, .slice B5 m5 d5] 25)) = z5 at *
  generalize v5.heap.size = a5 at *
  replace HX5 : Hid (Holds z5 a5 [.int .i64 r.1.nx, .int .i64 r.1.sq, .slice A5 n5 c5, .slice B5 m5 d5]) := HX5
  have CB1 := hd_ (CB.out z5 HB5.out)
  obtain ⟨x0, x1, x2, x3⟩ := (HX4.out _ HB5.out).all4
  go_wp2_with fail
  refine CB1.out.mono ?_
  rintro e v6 ⟨A6, n6, c6, L6, B6, m6, d6, M6, rfl, hO6, hl6, ht6, hb6⟩
  have hal : Below v6.heap.size v6 (v6.alloc (.cells #[.int .i64 r.1.nx, .int .i64 r.1.sq, .slice A6 n6 c6, .slice B6 m6 d6] 25)) := (Below.refl _ _).alloc (Nat.le_refl _) _
  have HX6 := hd_ (Holds.new v6 #[.int .i64 r.1.nx, .int .i64 r.1.sq, .slice A6 n6 c6, .slice B6 m6 d6] 25)
  have HY6 := hd_ ((HX5.out.below hb6).below hal)
  have HO6 := hd_ ((hO6.base_ (show a5 + 1 ≤ z5.heap.size from hsz5)).below hal)
  have HP6 := hd_ ((HO5.out.below hb6).below hal)
  have HB6 := hd_ (below_next (below_next HB5.out hb6) hal)
  have HL6 := hd_ (And.intro hl6 ht6)
  have ha6 : a5 < v6.heap.size := Nat.lt_of_lt_of_le hsz5 hb6.size
  have hsz6 : v6.heap.size < (v6.alloc (.cells #[.int .i64 r.1.nx, .int .i64 r.1.sq, .slice A6 n6 c6, .slice B6 m6 d6] 25)).heap.size := HX6.out.1
  clear hal hO6 hl6 ht6 hb6 CB CB1 x0 x1 x2 x3 HX5 HO5 HB5 hsz5
  go_upto_region 6 with fail
  generalize (v6.alloc (.cells #[.int .i64 r.1.nx, .int .i64 r.1.sq, .slice A6 n6 c6, .slice B6 m6 d6] 25)) = z6 at *
  generalize v6.heap.size = a6 at *
  replace HX6 : Hid (Holds z6 a6 [.int .i64 r.1.nx, .int .i64 r.1.sq, .slice A6 n6 c6, .slice B6 m6 d6]) := HX6
  have CK1 := hd_ (CK.out z6 HB6.out)
  obtain ⟨x0, x1, x2, x3⟩ := (HX4.out _ HB6.out).all4
  go_wp2_with fail
  refine CK1.out.mono ?_
  rintro e v7 ⟨A7, c7, L7, B7, d7, M7, rfl, hO7, hl7, ht7, hb7⟩
  have hal : Below v7.heap.size v7 (v7.alloc (.cells #[.int .i64 nx, .int .i64 sq, .slice A7 n1 c7, .slice B7 m1 d7] 25)) := (Below.refl _ _).alloc (Nat.le_refl _) _
  have ha7 : a5 < v7.heap.size := Nat.lt_of_lt_of_le ha6 (Nat.le_trans (Nat.le_of_lt hsz6) hb7.size)
  have HWo := hd_ (show Wo v4 a5 r.1.nx r.1.sq A5 n5 c5 L5 B5 m5 d5 M5 a6 [.int .i64 r.1.nx, .int .i64 r.1.sq, .slice A6 n6 c6, .slice B6 m6 d6] A6 n6 c6 L6 B6 m6 d6 M6 v7.heap.size [.int .i64 nx, .int .i64 sq, .slice A7 n1 c7, .slice B7 m1 d7] A7 n1 c7 L7 B7 m1 d7 M7 (v7.alloc (.cells #[.int .i64 nx, .int .i64 sq, .slice A7 n1 c7, .slice B7 m1 d7] 25)) from
    ⟨below_next (below_next HB6.out hb7) hal, (HY6.out.below hb7).below hal, (HP6.out.ls.row.below hb7).below hal, (HP6.out.ts.row.below hb7).below hal, fun x hx => ⟨_, (((HP6.out.ls.prs x hx).below hb7).below hal).2⟩, fun x hx => ⟨_, (((HP6.out.ts.prs x hx).below hb7).below hal).2⟩,
      (HX6.out.below hb7).below hal, (HO6.out.below hb7).below hal, Holds.new v7 #[.int .i64 nx, .int .i64 sq, .slice A7 n1 c7, .slice B7 m1 d7] 25, (hO7.base_ (show a5 + 1 ≤ z6.heap.size by omega)).below hal⟩)
  have HL7 := hd_ (And.intro hl7 ht7)
  have HOf := hd_ (show (∀ x ∈ L5, Off x.1.P A5 ∧ Off x.1.P B5) ∧ (∀ x ∈ M5, Off x.1.P A5 ∧ Off x.1.P B5) ∧ L5.length = n5 ∧ M5.length = m5 from ⟨fun x hx => ⟨HP6.out.ls.off x hx, HP6.out.lb x hx⟩, fun x hx => ⟨HP6.out.ta x hx, HP6.out.ts.off x hx⟩, HP6.out.ls.len, HP6.out.ts.len⟩)
  have HBd := hd_ (show n5 ≤ 9223372036854775807 ∧ m5 ≤ 9223372036854775807 ∧ (∀ x ∈ L5, x.1.pn ≤ 9223372036854775807) ∧ (∀ x ∈ M5, x.1.pn ≤ 9223372036854775807) from ⟨by have := HP6.out.ls.row.fits; have := HP6.out.ls.row.capLe; omega, by have := HP6.out.ts.row.fits; have := HP6.out.ts.row.capLe; omega, fun x hx => (HP6.out.ls.prs x hx).ok.2.2, fun x hx => (HP6.out.ts.prs x hx).ok.2.2⟩)
  clear hO7 hl7 ht7 hb7 hal CK CK1 x0 x1 x2 x3 HX6 HY6 HO6 HP6 HB6 hsz6
  go_upto_region 7 with fail
  generalize (v7.alloc (.cells #[.int .i64 nx, .int .i64 sq, .slice A7 n1 c7, .slice B7 m1 d7] 25)) = z7 at *
  generalize v7.heap.size = a7 at *
  have HA6 := hd_ ha6
  have HA7 := hd_ ha7
  clear ha6 ha7
  go_wp2_with fail
  go_loopw [12] (fun ss wr => ∃ (k : Nat), k ≤ n5 ∧ ss = .int .i64 (k : Int) ∧ Hid (Wo v4 a5 r.1.nx r.1.sq A5 n5 c5 L5 B5 m5 d5 M5 a6 [.int .i64 r.1.nx, .int .i64 r.1.sq, .slice A6 n6 c6, .slice B6 m6 d6] A6 n6 c6 L6 B6 m6 d6 M6 a7 [.int .i64 nx, .int .i64 sq, .slice A7 n1 c7, .slice B7 m1 d7] A7 n1 c7 L7 B7 m1 d7 M7 wr)) (fun ss _ => n5 - (intOf ss).toNat)
  case atStart => exact ⟨0, by omega, rfl, HWo⟩
  case round =>
    clear HWo
    obtain ⟨k, hk, rfl, HW⟩ := hrel
    have hnB : n5 ≤ 9223372036854775807 := HBd.out.1
    have xb := HW.out.ab.at_ 2 rfl
    by_cases hlt : k < n5
    · have hki : (k : Int) < (n5 : Int) := by omega
      have hk0 : (0 : Int) ≤ (k : Int) := by omega
      obtain ⟨y, hy⟩ : ∃ y, L5[k]? = some y := ⟨_, List.getElem?_eq_getElem (by rw [HOf.out.2.2.1]; exact hlt)⟩
      have hyL := List.mem_of_getElem? hy
      obtain ⟨ga, hAg⟩ := HW.out.lr.addr_ (by omega)
      have HCr := hd_ (fun (W : World) (h : Wo v4 a5 r.1.nx r.1.sq A5 n5 c5 L5 B5 m5 d5 M5 a6 [.int .i64 r.1.nx, .int .i64 r.1.sq, .slice A6 n6 c6, .slice B6 m6 d6] A6 n6 c6 L6 B6 m6 d6 M6 a7 [.int .i64 nx, .int .i64 sq, .slice A7 n1 c7, .slice B7 m1 d7] A7 n1 c7 L7 B7 m1 d7 M7 W) => show W.cell? ⟨ga, k * 4 + 2, none⟩ = some (.slice y.1.P y.1.pn y.1.pc) from by
        have h2 := h.lr
        rw [hAg] at h2
        exact h2.cellAt (Pk.flatMap_at (f := Ed.Lg.cells) (s := 4) (fun _ => rfl) (j := 2) (show (L5.map (·.1))[k]? = some y.1 by rw [List.getElem?_map, hy]; rfl) rfl))
      have HXr := hd_ (fun (W : World) (h : Wo v4 a5 r.1.nx r.1.sq A5 n5 c5 L5 B5 m5 d5 M5 a6 [.int .i64 r.1.nx, .int .i64 r.1.sq, .slice A6 n6 c6, .slice B6 m6 d6] A6 n6 c6 L6 B6 m6 d6 M6 a7 [.int .i64 nx, .int .i64 sq, .slice A7 n1 c7, .slice B7 m1 d7] A7 n1 c7 L7 B7 m1 d7 M7 W) => show W.cell? ⟨a5, 2, none⟩ = some (.slice (some ⟨ga, 0, none⟩) n5 c5) from by
        have h2 := h.ab.at_ 2 rfl
        rw [hAg] at h2
        exact h2)
      have HPr := hd_ (fun (W : World) (h : Wo v4 a5 r.1.nx r.1.sq A5 n5 c5 L5 B5 m5 d5 M5 a6 [.int .i64 r.1.nx, .int .i64 r.1.sq, .slice A6 n6 c6, .slice B6 m6 d6] A6 n6 c6 L6 B6 m6 d6 M6 a7 [.int .i64 nx, .int .i64 sq, .slice A7 n1 c7, .slice B7 m1 d7] A7 n1 c7 L7 B7 m1 d7 M7 W) => h.lp y hyL)
      have HPq := hd_ (show ∀ g, blkOf y.1.P = some g → v4.heap.size ≤ g ∧ g < a5 ∧ blkOf A5 ≠ some g ∧ blkOf B5 ≠ some g from fun g hg => ⟨(HQ5.out g (.inr (.inr (.inl ⟨y, hyL, hg⟩)))).1, (HQ5.out g (.inr (.inr (.inl ⟨y, hyL, hg⟩)))).2, (HOf.out.1 y hyL).1 g hg, (HOf.out.1 y hyL).2 g hg⟩)
      have hpn : y.1.pn ≤ 9223372036854775807 := HBd.out.2.2.1 y hyL
      rw [hAg] at xb
      clear hAg hy hyL
      obtain ⟨P, hP⟩ : ∃ P, P = y.1.P := ⟨_, rfl⟩
      obtain ⟨pn, hpn2⟩ : ∃ p, p = y.1.pn := ⟨_, rfl⟩
      obtain ⟨pc, hpc⟩ : ∃ p, p = y.1.pc := ⟨_, rfl⟩
      rw [← hP, ← hpn2, ← hpc] at HCr
      rw [← hP, ← hpn2, ← hpc] at HPr
      rw [← hP] at HPq
      rw [← hpn2] at hpn
      clear hP hpn2 hpc
      go_wp2_with fail
      clear xb
      obtain ⟨wo, hwo⟩ : ∃ wo, wo = wr := ⟨wr, rfl⟩
      subst hwo
      go_loopw [13] (fun ss wr => ∃ (j : Nat), j ≤ pn ∧ ss = .int .i64 (j : Int) ∧ Hid (Wo v4 a5 r.1.nx r.1.sq A5 n5 c5 L5 B5 m5 d5 M5 a6 [.int .i64 r.1.nx, .int .i64 r.1.sq, .slice A6 n6 c6, .slice B6 m6 d6] A6 n6 c6 L6 B6 m6 d6 M6 a7 [.int .i64 nx, .int .i64 sq, .slice A7 n1 c7, .slice B7 m1 d7] A7 n1 c7 L7 B7 m1 d7 M7 wr)) (fun ss _ => pn - (intOf ss).toNat)
      case atStart => exact ⟨0, by omega, rfl, HW⟩
      case round =>
        clear HW
        obtain ⟨j, hj, rfl, HW⟩ := hrel
        have xb := HXr.out _ HW.out
        have xr := HCr.out _ HW.out
        by_cases hjt : j < pn
        · have hji : (j : Int) < (pn : Int) := by omega
          have hj0 : (0 : Int) ≤ (j : Int) := by omega
          obtain ⟨vs, ho⟩ := HPr.out _ HW.out
          obtain ⟨gp, hPg⟩ := ho.addr_ (by omega)
          subst hPg
          have hq := HPq.out gp rfl
          obtain ⟨u, hu⟩ : ∃ u, vs[j * 2]? = some u := ⟨_, List.getElem?_eq_getElem (by rw [ho.1]; omega)⟩
          have xp := ho.cellAt hu
          have xf := ho.freeAt (j * 2)
          have HWn := hd_ (HW.out.store gp (j * 2) (.int .i64 (-7)) hq.1 hq.2.1 hq.2.2.1 hq.2.2.2 HA6.out HA7.out)
          clear ho hu hq
          go_wp2_with fail
          clear xb xr xp xf
          go_roundw
          case rel => exact ⟨j + 1, by omega, by go_num, HWn⟩
          case measure => simp [intOf]; omega
        · have hji : ¬ (j : Int) < (pn : Int) := by omega
          clear hjt hj
          go_wp2_with fail
          clear xb xr hji
          go_roundw
          case rel => exact ⟨k + 1, by omega, by go_num, HW⟩
          case measure => simp [intOf]; omega
    · have hki : ¬ (k : Int) < (n5 : Int) := by omega
      clear hlt hk
      have HWo := HW
      clear HW
      go_wp2_with fail
      clear xb hki
      go_loopw [14] (fun ss wr => ∃ (k : Nat), k ≤ m5 ∧ ss = .int .i64 (k : Int) ∧ Hid (Wo v4 a5 r.1.nx r.1.sq A5 n5 c5 L5 B5 m5 d5 M5 a6 [.int .i64 r.1.nx, .int .i64 r.1.sq, .slice A6 n6 c6, .slice B6 m6 d6] A6 n6 c6 L6 B6 m6 d6 M6 a7 [.int .i64 nx, .int .i64 sq, .slice A7 n1 c7, .slice B7 m1 d7] A7 n1 c7 L7 B7 m1 d7 M7 wr)) (fun ss _ => m5 - (intOf ss).toNat)
      case atStart => exact ⟨0, by omega, rfl, HWo⟩
      case round =>
        clear HWo
        obtain ⟨k, hk, rfl, HW⟩ := hrel
        have hnB : m5 ≤ 9223372036854775807 := HBd.out.2.1
        have xb := HW.out.ab.at_ 3 rfl
        by_cases hlt : k < m5
        · have hki : (k : Int) < (m5 : Int) := by omega
          have hk0 : (0 : Int) ≤ (k : Int) := by omega
          obtain ⟨y, hy⟩ : ∃ y, M5[k]? = some y := ⟨_, List.getElem?_eq_getElem (by rw [HOf.out.2.2.2]; exact hlt)⟩
          have hyL := List.mem_of_getElem? hy
          obtain ⟨ga, hAg⟩ := HW.out.tr.addr_ (by omega)
          have HCr := hd_ (fun (W : World) (h : Wo v4 a5 r.1.nx r.1.sq A5 n5 c5 L5 B5 m5 d5 M5 a6 [.int .i64 r.1.nx, .int .i64 r.1.sq, .slice A6 n6 c6, .slice B6 m6 d6] A6 n6 c6 L6 B6 m6 d6 M6 a7 [.int .i64 nx, .int .i64 sq, .slice A7 n1 c7, .slice B7 m1 d7] A7 n1 c7 L7 B7 m1 d7 M7 W) => show W.cell? ⟨ga, k * 9 + 2, none⟩ = some (.slice y.1.P y.1.pn y.1.pc) from by
            have h2 := h.tr
            rw [hAg] at h2
            exact h2.cellAt (Pk.flatMap_at (f := Pk.Tb.cells) (s := 9) (fun _ => rfl) (j := 2) (show (M5.map (·.1))[k]? = some y.1 by rw [List.getElem?_map, hy]; rfl) rfl))
          have HXr := hd_ (fun (W : World) (h : Wo v4 a5 r.1.nx r.1.sq A5 n5 c5 L5 B5 m5 d5 M5 a6 [.int .i64 r.1.nx, .int .i64 r.1.sq, .slice A6 n6 c6, .slice B6 m6 d6] A6 n6 c6 L6 B6 m6 d6 M6 a7 [.int .i64 nx, .int .i64 sq, .slice A7 n1 c7, .slice B7 m1 d7] A7 n1 c7 L7 B7 m1 d7 M7 W) => show W.cell? ⟨a5, 3, none⟩ = some (.slice (some ⟨ga, 0, none⟩) m5 d5) from by
            have h2 := h.ab.at_ 3 rfl
            rw [hAg] at h2
            exact h2)
          have HPr := hd_ (fun (W : World) (h : Wo v4 a5 r.1.nx r.1.sq A5 n5 c5 L5 B5 m5 d5 M5 a6 [.int .i64 r.1.nx, .int .i64 r.1.sq, .slice A6 n6 c6, .slice B6 m6 d6] A6 n6 c6 L6 B6 m6 d6 M6 a7 [.int .i64 nx, .int .i64 sq, .slice A7 n1 c7, .slice B7 m1 d7] A7 n1 c7 L7 B7 m1 d7 M7 W) => h.tp y hyL)
          have HPq := hd_ (show ∀ g, blkOf y.1.P = some g → v4.heap.size ≤ g ∧ g < a5 ∧ blkOf A5 ≠ some g ∧ blkOf B5 ≠ some g from fun g hg => ⟨(HQ5.out g (.inr (.inr (.inr ⟨y, hyL, hg⟩)))).1, (HQ5.out g (.inr (.inr (.inr ⟨y, hyL, hg⟩)))).2, (HOf.out.2.1 y hyL).1 g hg, (HOf.out.2.1 y hyL).2 g hg⟩)
          have hpn : y.1.pn ≤ 9223372036854775807 := HBd.out.2.2.2 y hyL
          rw [hAg] at xb
          clear hAg hy hyL
          obtain ⟨P, hP⟩ : ∃ P, P = y.1.P := ⟨_, rfl⟩
          obtain ⟨pn, hpn2⟩ : ∃ p, p = y.1.pn := ⟨_, rfl⟩
          obtain ⟨pc, hpc⟩ : ∃ p, p = y.1.pc := ⟨_, rfl⟩
          rw [← hP, ← hpn2, ← hpc] at HCr
          rw [← hP, ← hpn2, ← hpc] at HPr
          rw [← hP] at HPq
          rw [← hpn2] at hpn
          clear hP hpn2 hpc
          go_wp2_with fail
          clear xb
          obtain ⟨wo, hwo⟩ : ∃ wo, wo = wr := ⟨wr, rfl⟩
          subst hwo
          go_loopw [15] (fun ss wr => ∃ (j : Nat), j ≤ pn ∧ ss = .int .i64 (j : Int) ∧ Hid (Wo v4 a5 r.1.nx r.1.sq A5 n5 c5 L5 B5 m5 d5 M5 a6 [.int .i64 r.1.nx, .int .i64 r.1.sq, .slice A6 n6 c6, .slice B6 m6 d6] A6 n6 c6 L6 B6 m6 d6 M6 a7 [.int .i64 nx, .int .i64 sq, .slice A7 n1 c7, .slice B7 m1 d7] A7 n1 c7 L7 B7 m1 d7 M7 wr)) (fun ss _ => pn - (intOf ss).toNat)
          case atStart => exact ⟨0, by omega, rfl, HW⟩
          case round =>
            clear HW
            obtain ⟨j, hj, rfl, HW⟩ := hrel
            have xb := HXr.out _ HW.out
            have xr := HCr.out _ HW.out
            by_cases hjt : j < pn
            · have hji : (j : Int) < (pn : Int) := by omega
              have hj0 : (0 : Int) ≤ (j : Int) := by omega
              obtain ⟨vs, ho⟩ := HPr.out _ HW.out
              obtain ⟨gp, hPg⟩ := ho.addr_ (by omega)
              subst hPg
              have hq := HPq.out gp rfl
              obtain ⟨u, hu⟩ : ∃ u, vs[j * 2]? = some u := ⟨_, List.getElem?_eq_getElem (by rw [ho.1]; omega)⟩
              have xp := ho.cellAt hu
              have xf := ho.freeAt (j * 2)
              have HWn := hd_ (HW.out.store gp (j * 2) (.int .i64 (-7)) hq.1 hq.2.1 hq.2.2.1 hq.2.2.2 HA6.out HA7.out)
              clear ho hu hq
              go_wp2_with fail
              clear xb xr xp xf
              go_roundw
              case rel => exact ⟨j + 1, by omega, by go_num, HWn⟩
              case measure => simp [intOf]; omega
            · have hji : ¬ (j : Int) < (pn : Int) := by omega
              clear hjt hj
              go_wp2_with fail
              clear xb xr hji
              go_roundw
              case rel => exact ⟨k + 1, by omega, by go_num, HW⟩
              case measure => simp [intOf]; omega
        · have hki : ¬ (k : Int) < (m5 : Int) := by omega
          clear hlt hk
          have HWo := HW
          clear HW
          have HB8 := HWo.out.old
          obtain ⟨x0, x1, x2, x3⟩ := (HX4.out _ HB8).all4
          have CA2 := hd_ (CA.out wr HB8)
          go_wp2_with fail
          refine CA2.out.mono ?_
          rintro e v8 ⟨A8, n8, c8, L8, B8, m8, d8, M8, rfl, hO8, hl8, ht8, hb8⟩
          have hal : Below v8.heap.size v8 (v8.alloc (.cells #[.int .i64 r.1.nx, .int .i64 r.1.sq, .slice A8 n8 c8, .slice B8 m8 d8] 25)) := (Below.refl _ _).alloc (Nat.le_refl _) _
          have HX8 := hd_ (Holds.new v8 #[.int .i64 r.1.nx, .int .i64 r.1.sq, .slice A8 n8 c8, .slice B8 m8 d8] 25)
          have HO8 := hd_ (hO8.below hal)
          have HN8 := hd_ (show Below wr.heap.size wr (v8.alloc (.cells #[.int .i64 r.1.nx, .int .i64 r.1.sq, .slice A8 n8 c8, .slice B8 m8 d8] 25)) from below_next hb8 hal)
          have HL8 := hd_ (And.intro hl8 ht8)
          clear hal hO8 hl8 ht8 hb8 CA CA2 x0 x1 x2 x3 xb hki
          go_upto_region 22 with fail
          generalize (v8.alloc (.cells #[.int .i64 r.1.nx, .int .i64 r.1.sq, .slice A8 n8 c8, .slice B8 m8 d8] 25)) = z8 at *
          generalize v8.heap.size = a8 at *
          replace HX8 : Hid (Holds z8 a8 [.int .i64 r.1.nx, .int .i64 r.1.sq, .slice A8 n8 c8, .slice B8 m8 d8]) := HX8
          have HY6 := hd_ (HWo.out.b6.below HN8.out)
          have HY7 := hd_ (HWo.out.b7.below HN8.out)
          have HO6 := hd_ (HWo.out.o6.below HN8.out)
          have HO7 := hd_ (HWo.out.o7.below HN8.out)
          have HB9 := hd_ (below_next HB8 HN8.out)
          obtain ⟨x0, x1, x2, x3⟩ := HX8.out.all4
          obtain ⟨y0, y1, y2, y3⟩ := HY6.out.all4
          have CS := hd_ (rsame_any r.1.nx r.1.sq A8 n8 c8 B8 m8 d8 L8 M8 r.1.nx r.1.sq A6 n6 c6 B6 m6 d6 L6 M6 z8 HO8.out.ls.rd HO8.out.ts.rd HO6.out.ls.rd HO6.out.ts.rd (by have := HO8.out.ls.row.fits; have := HO8.out.ls.row.capLe; omega) (by have := HO8.out.ts.row.fits; have := HO8.out.ts.row.capLe; omega) (by have := HO6.out.ls.row.fits; have := HO6.out.ls.row.capLe; omega) (by have := HO6.out.ts.row.fits; have := HO6.out.ts.row.capLe; omega))
          rw [show (⟨r.1.nx, r.1.sq, L8.map Ed.loOf, M8.map Ed.taOf⟩ : Ed.Ve).eq ⟨r.1.nx, r.1.sq, L6.map Ed.loOf, M6.map Ed.taOf⟩ = true from Ed.Ve.eq_iff.2 (by rw [HL8.out.1, HL8.out.2, HL6.out.1, HL6.out.2])] at CS
          have CT := hd_ (fun (W : World) (hW : Below z8.heap.size z8 W) => show Calls Tryz.prog 16 #[.agg #[.int .i64 nx, .int .i64 sq, .slice A1 n1 c1, .slice B1 m1 d1], .agg #[.int .i64 nx, .int .i64 sq, .slice A7 n1 c7, .slice B7 m1 d7]] W (fun e w' => e = .returned (.bool true) ∧ Below W.heap.size W w') from by
            have h := rsame_any nx sq A1 n1 c1 B1 m1 d1 L1 M1 nx sq A7 n1 c7 B7 m1 d7 L7 M7 W (HLs.out W (below_next HB9.out hW)) (HTs.out W (below_next HB9.out hW)) (HO7.out.below hW).ls.rd (HO7.out.below hW).ts.rd (by omega) (by omega) (by omega) (by omega)
            rwa [show (⟨nx, sq, L1.map Ed.loOf, M1.map Ed.taOf⟩ : Ed.Ve).eq ⟨nx, sq, L7.map Ed.loOf, M7.map Ed.taOf⟩ = true from Ed.Ve.eq_iff.2 (by rw [HL7.out.1, HL7.out.2])] at h)
          have q2 : ((r.2.2 : Int) == (r.2.2 : Int)) = true := by simp
          go_wp2_with fail
          refine CS.out.mono ?_
          rintro e v9 ⟨rfl, hb9⟩
          have HE9 := hd_ (below_next HBl.out (below_next HB9.out hb9))
          clear x0 x1 x2 x3 y0 y1 y2 y3 CS
          obtain ⟨x0, x1, x2, x3⟩ := (HX4.out v9 (below_next HB9.out hb9)).all4
          obtain ⟨y0, y1, y2, y3⟩ := (HY7.out.below hb9).all4
          have CT1 := hd_ (CT.out v9 hb9)
          go_wp2_with fail
          refine CT1.out.mono ?_
          rintro e v10 ⟨rfl, hb10⟩
          have HE := hd_ (below_next HE9.out hb10)
          clear x0 x1 x2 x3 y0 y1 y2 y3 hb9 hb10 CT CT1
          go_wp2
          go_ret
          exact ⟨rfl, HE.out⟩
end Go.Proofs.YthfcjlndaajkfaaGreat
