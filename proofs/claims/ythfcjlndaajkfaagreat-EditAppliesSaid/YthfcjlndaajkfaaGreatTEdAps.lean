/- EditApplies: what comes of any edits, done to any version. -/
import Derived.Test.YthfcjlndaajkfaaGreatTEdRAp
import Derived.Test.YthfcjlndaajkfaaGreatTEdLEd
import Derived.Test.YthfcjlndaajkfaaGreatTEdLVe
import Derived.Test.YthfcjlndaajkfaaGreatTEdLSaV
import Derived.Test.YthfcjlndaajkfaaGreatTEdLTa
namespace Go.Proofs.YthfcjlndaajkfaaGreat
open Go.RowKit
set_option linter.unusedVariables false
set_option linter.unusedSimpArgs false
theorem Prt.rls2 {w : World} {nx sq : Int} {A : Option Addr} {n c1 : Nat} {A1 : Option Addr} {B1 : Option Addr} {m' d' : Nat} {Q : Option Addr} {q' qc : Nat} {L : List (Ed.Lg × List (Int × Int))} {l2 l3 : List Value} {W : World} (h : Prt w nx sq A1 (min n 34) c1 B1 m' d' Q q' qc (Ed.lflat ((L.take (min n 34)).map fun x => (Ed.cutL x).1)) l2 l3 W) (hL : RdLs w A n L) : RdLs W A1 (min n 34) ((L.take 34).map Ed.cutL) := rdls_cut hL h.bel h.ol
theorem Prt.rts2 {w : World} {nx sq : Int} {A1 : Option Addr} {n' c1 : Nat} {B : Option Addr} {m d1 : Nat} {B1 : Option Addr} {Q : Option Addr} {q' qc : Nat} {M : List (Pk.Tb × List (Int × Int))} {l1 l3 : List Value} {W : World} (h : Prt w nx sq A1 n' c1 B1 (min m 130) d1 Q q' qc l1 (Pk.flat ((M.take (min m 130)).map fun x => (Ed.cutT x).1)) l3 W) (hM : RdTs w B m M) : RdTs W B1 (min m 130) ((M.take 130).map Ed.cutT) := rdts_cut hM h.bel h.ot
theorem Prt.res2 {w : World} {nx sq : Int} {A1 : Option Addr} {n' c1 : Nat} {B1 : Option Addr} {m' d' : Nat} {Q Q1 : Option Addr} {q qc1 : Nat} {E : List Ed.Ex} {l1 l2 : List Value} {W : World} (h : Prt w nx sq A1 n' c1 B1 m' d' Q1 (min q 260) qc1 l1 l2 (Ed.eflat ((E.take (min q 260)).map fun x => (Ed.cutE x).1)) W) (hE : RdEs w Q q E) : RdEs W Q1 (min q 260) ((E.take 260).map Ed.cutE) := rdes_cut hE h.bel h.oe
set_option maxRecDepth 100000 in
set_option maxHeartbeats 16000000 in
theorem applies_any (nx sq : Int) (A : Option Addr) (n c : Nat) (B : Option Addr) (m d : Nat) (L : List (Ed.Lg × List (Int × Int))) (M : List (Pk.Tb × List (Int × Int))) (Q : Option Addr) (q qc : Nat) (E : List Ed.Ex) (w : World) (hL : RdLs w A n L) (hM : RdTs w B m M) (hE : RdEs w Q q E) (hn : n ≤ 9223372036854775807) (hm : m ≤ 9223372036854775807) (hq : q ≤ 9223372036854775807) :
    Calls Tryz.prog 4 #[.agg #[.int .i64 nx, .int .i64 sq, .slice A n c, .slice B m d], .slice Q q qc] w fun e w' => e = .returned (.bool true) ∧ Below w.heap.size w w' := by
  have HL0 := Lib.hid hL
  have HM0 := Lib.hid hM
  have HE0 := Lib.hid hE
  have hbu : Below w.heap.size w (w.alloc (.cells #[.int .i64 nx, .int .i64 sq, .slice A n c, .slice B m d] 25)) := (Below.refl _ _).alloc (Nat.le_refl _) _
  have HB1 := Lib.hid hbu
  have HX1 := Lib.hid (Holds.new w #[.int .i64 nx, .int .i64 sq, .slice A n c, .slice B m d] 25)
  have HS1 := Lib.hid (show w.heap.size + 1 ≤ (w.alloc (.cells #[.int .i64 nx, .int .i64 sq, .slice A n c, .slice B m d] 25)).heap.size by simp)
  clear hL hM hE hbu
  go_enter Tryz.func4, Tryz.ntmps4
  go_upto_region 1 with fail
  generalize (w.alloc (.cells #[.int .i64 nx, .int .i64 sq, .slice A n c, .slice B m d] 25)) = v1 at *
  replace HX1 : Hid (Holds v1 w.heap.size [.int .i64 nx, .int .i64 sq, .slice A n c, .slice B m d]) := HX1
  obtain ⟨x0, x1, x2, x3⟩ := HX1.out.all4
  have C2 := Lib.hid (lversion_any nx sq A n c B m d L M v1 (HL0.out.below HB1.out) (HM0.out.below HB1.out) hn hm)
  go_wp2_with fail
  refine C2.out.mono ?_
  clear C2 x0 x1 x2 x3
  rintro e v2 ⟨A1, c1, B1, d1, rfl, _, _, hb2, hol, hot⟩
  have C3 := Lib.hid (ledits_any Q q qc E v2 (HE0.out.below (below_next HB1.out hb2)) hq)
  go_wp2_with fail
  refine C3.out.mono ?_
  clear C3
  rintro e v3 ⟨Q1, qc1, rfl, hqc, _, hb3, hoe⟩
  have HX3 := Lib.hid ((HX1.out.below hb2).below hb3)
  have HB3 := Lib.hid (below_next (below_next HB1.out hb2) hb3)
  have HOl := Lib.hid ((hol.below hb3).base_ HS1.out)
  have HOt := Lib.hid ((hot.below hb3).base_ HS1.out)
  have HOe := Lib.hid (hoe.base_ (Nat.le_trans HS1.out hb2.size))
  clear hb2 hb3 hol hot hoe HX1 HB1 HS1
  obtain ⟨x0, x1, x2, x3⟩ := HX3.out.all4
  obtain ⟨f0, f1, f2, f3⟩ := HX3.out.free4
  have HG := Lib.hid ((grown_cell v3 w.heap.size 0 (.int .i64 nx)).trans ((grown_cell _ w.heap.size 1 (.int .i64 sq)).trans ((grown_cell _ w.heap.size 2 (.slice A1 (min n 34) c1)).trans (grown_cell _ w.heap.size 3 (.slice B1 (min m 130) d1)))))
  have HP := Lib.hid (show Prt w nx sq A1 (min n 34) c1 B1 (min m 130) d1 Q1 (min q 260) qc1 (Ed.lflat ((L.take (min n 34)).map fun x => (Ed.cutL x).1)) (Pk.flat ((M.take (min m 130)).map fun x => (Ed.cutT x).1)) (Ed.eflat ((E.take (min q 260)).map fun x => (Ed.cutE x).1)) ((((v3.setCell ⟨w.heap.size, 0, none⟩ (.int .i64 nx)).setCell ⟨w.heap.size, 1, none⟩ (.int .i64 sq)).setCell ⟨w.heap.size, 2, none⟩ (.slice A1 (min n 34) c1)).setCell ⟨w.heap.size, 3, none⟩ (.slice B1 (min m 130) d1)) from ⟨(((HX3.out.set 0 (.int .i64 nx) (by simp)).set 1 (.int .i64 sq) (by simp)).set 2 (.slice A1 (min n 34) c1) (by simp)).set 3 (.slice B1 (min m 130) d1) (by simp),
    HOl.out.grown HG.out (.inr fun g hg e => by injection hg with hg; have := (HOl.out.blk g e).1; omega), HOt.out.grown HG.out (.inr fun g hg e => by injection hg with hg; have := (HOt.out.blk g e).1; omega), HOe.out.grown HG.out (.inr fun g hg e => by injection hg with hg; have := (HOe.out.blk g e).1; omega), HB3.out.grown HG.out HB3.out.size (fun g e => by injection e with e; omega)⟩)
  go_upto_region 2 with fail
  clear x0 x1 x2 x3 f0 f1 f2 f3 HG HX3 HB3 HOl HOt HOe
  generalize (((v3.setCell ⟨w.heap.size, 0, none⟩ (.int .i64 nx)).setCell ⟨w.heap.size, 1, none⟩ (.int .i64 sq)).setCell ⟨w.heap.size, 2, none⟩ (.slice A1 (min n 34) c1)).setCell ⟨w.heap.size, 3, none⟩ (.slice B1 (min m 130) d1) = v4 at *
  have HR := Lib.hid (fun (W : World) (h : Prt w nx sq A1 (min n 34) c1 B1 (min m 130) d1 Q1 (min q 260) qc1 (Ed.lflat ((L.take (min n 34)).map fun x => (Ed.cutL x).1)) (Pk.flat ((M.take (min m 130)).map fun x => (Ed.cutT x).1)) (Ed.eflat ((E.take (min q 260)).map fun x => (Ed.cutE x).1)) W) => And.intro (h.rls2 HL0.out) (And.intro (h.rts2 HM0.out) (h.res2 HE0.out)))
  have hq1 : min q 260 ≤ 260 := Nat.min_le_right _ _
  have hn1 : min n 34 ≤ 34 := Nat.min_le_right _ _
  have hm1 : min m 130 ≤ 130 := Nat.min_le_right _ _
  clear HL0 HM0 HE0
  generalize (Ed.lflat ((L.take (min n 34)).map fun x => (Ed.cutL x).1)) = l1 at *
  generalize (Pk.flat ((M.take (min m 130)).map fun x => (Ed.cutT x).1)) = l2 at *
  generalize (Ed.eflat ((E.take (min q 260)).map fun x => (Ed.cutE x).1)) = l3 at *
  generalize min q 260 = q1 at *
  generalize min n 34 = n1 at *
  generalize min m 130 = m1 at *
  generalize (L.take 34).map Ed.cutL = L1 at *
  generalize (M.take 130).map Ed.cutT = M1 at *
  generalize (E.take 260).map Ed.cutE = E1 at *
  clear hn hm hq
  have CA := Lib.hid (fun (W : World) (hW : Below v4.heap.size v4 W) => apply_any nx sq A1 n1 c1 B1 m1 d1 L1 M1 Q1 q1 qc1 E1 W (HR.out W (HP.out.below hW)).1 (HR.out W (HP.out.below hW)).2.1 (HR.out W (HP.out.below hW)).2.2 (by omega))
  have CB := Lib.hid (fun (W : World) (hW : Below v4.heap.size v4 W) => rapply_any nx sq A1 n1 c1 B1 m1 d1 L1 M1 Q1 q1 qc1 E1 W (HR.out W (HP.out.below hW)).1 (HR.out W (HP.out.below hW)).2.1 (HR.out W (HP.out.below hW)).2.2 (by omega) (by omega) (by omega))
  have HX4 := Lib.hid (fun (W : World) (hW : Below v4.heap.size v4 W) => (HP.out.below hW).box)
  have HBl := Lib.hid HP.out.bel
  clear HR HP
  generalize Ed.apply ⟨nx, sq, L1.map Ed.loOf, M1.map Ed.taOf⟩ (E1.map Ed.etOf) = r at *
  have hb0 : Below v4.heap.size v4 v4 := Below.refl _ _
  have CA1 := Lib.hid (CA.out v4 hb0)
  obtain ⟨x0, x1, x2, x3⟩ := ((HX4.out _ hb0)).all4
  clear hb0
  go_wp2_with fail
  refine CA1.out.mono ?_
  rintro e v5 ⟨A5, n5, c5, L5, B5, m5, d5, M5, rfl, hO5, hl5, ht5, hb5⟩
  have hal : Below v5.heap.size v5 (v5.alloc (.cells #[.int .i64 r.1.nx, .int .i64 r.1.sq, .slice A5 n5 c5, .slice B5 m5 d5] 25)) := (Below.refl _ _).alloc (Nat.le_refl _) _
  have HX5 := Lib.hid (Holds.new v5 #[.int .i64 r.1.nx, .int .i64 r.1.sq, .slice A5 n5 c5, .slice B5 m5 d5] 25)
  have HO5 := Lib.hid (hO5.below hal)
  have HB5 := Lib.hid (below_next hb5 hal)
  have HL5 := Lib.hid (And.intro hl5 ht5)
  clear hal hO5 hl5 ht5 hb5 CA CA1 x0 x1 x2 x3
  go_upto_region 3 with fail
  generalize (v5.alloc (.cells #[.int .i64 r.1.nx, .int .i64 r.1.sq, .slice A5 n5 c5, .slice B5 m5 d5] 25)) = z5 at *
  generalize v5.heap.size = a5 at *
  replace HX5 : Hid (Holds z5 a5 [.int .i64 r.1.nx, .int .i64 r.1.sq, .slice A5 n5 c5, .slice B5 m5 d5]) := HX5
  have CB1 := Lib.hid (CB.out z5 HB5.out)
  obtain ⟨x0, x1, x2, x3⟩ := ((HX4.out _ HB5.out)).all4
  go_wp2_with fail
  refine CB1.out.mono ?_
  rintro e v6 ⟨A6, n6, c6, L6, B6, m6, d6, M6, rfl, hO6, hl6, ht6, hb6⟩
  have hal : Below v6.heap.size v6 (v6.alloc (.cells #[.int .i64 r.1.nx, .int .i64 r.1.sq, .slice A6 n6 c6, .slice B6 m6 d6] 25)) := (Below.refl _ _).alloc (Nat.le_refl _) _
  have HX6 := Lib.hid (Holds.new v6 #[.int .i64 r.1.nx, .int .i64 r.1.sq, .slice A6 n6 c6, .slice B6 m6 d6] 25)
  have HY6 := Lib.hid ((HX5.out.below hb6).below hal)
  have HO6 := Lib.hid (hO6.below hal)
  have HP6 := Lib.hid ((HO5.out.below hb6).below hal)
  have HB6 := Lib.hid (below_next (below_next HB5.out hb6) hal)
  have HL6 := Lib.hid (And.intro hl6 ht6)
  clear hal hO6 hl6 ht6 hb6 CB CB1 x0 x1 x2 x3 HX5 HO5 HB5
  go_upto_region 4 with fail
  generalize (v6.alloc (.cells #[.int .i64 r.1.nx, .int .i64 r.1.sq, .slice A6 n6 c6, .slice B6 m6 d6] 25)) = z6 at *
  generalize v6.heap.size = a6 at *
  replace HX6 : Hid (Holds z6 a6 [.int .i64 r.1.nx, .int .i64 r.1.sq, .slice A6 n6 c6, .slice B6 m6 d6]) := HX6
  obtain ⟨x0, x1, x2, x3⟩ := HX6.out.all4
  obtain ⟨y0, y1, y2, y3⟩ := HY6.out.all4
  have CS := Lib.hid (rsame_any r.1.nx r.1.sq A5 n5 c5 B5 m5 d5 L5 M5 r.1.nx r.1.sq A6 n6 c6 B6 m6 d6 L6 M6 z6 HP6.out.ls.rd HP6.out.ts.rd HO6.out.ls.rd HO6.out.ts.rd (by have := HP6.out.ls.row.fits; have := HP6.out.ls.row.capLe; omega) (by have := HP6.out.ts.row.fits; have := HP6.out.ts.row.capLe; omega) (by have := HO6.out.ls.row.fits; have := HO6.out.ls.row.capLe; omega) (by have := HO6.out.ts.row.fits; have := HO6.out.ts.row.capLe; omega))
  rw [show (⟨r.1.nx, r.1.sq, L5.map Ed.loOf, M5.map Ed.taOf⟩ : Ed.Ve).eq ⟨r.1.nx, r.1.sq, L6.map Ed.loOf, M6.map Ed.taOf⟩ = true from Ed.Ve.eq_iff.2 (by rw [HL5.out.1, HL5.out.2, HL6.out.1, HL6.out.2])] at CS
  have q1 : ((r.2.1 : Int) == (r.2.1 : Int)) = true := by simp
  have q2 : ((r.2.2 : Int) == (r.2.2 : Int)) = true := by simp
  go_wp2_with fail
  refine CS.out.mono ?_
  rintro e v7 ⟨rfl, hb7⟩
  have HB7 := Lib.hid (below_next HBl.out (below_next HB6.out hb7))
  clear x0 x1 x2 x3 y0 y1 y2 y3 CS hb7
  go_wp2_with fail
  refine (awake_any _).mono ?_
  rintro e v8 ⟨rfl, hb8⟩
  have HE := Lib.hid (below_next HB7.out hb8)
  clear hb8
  go_wp2
  go_ret
  exact ⟨rfl, HE.out⟩
end Go.Proofs.YthfcjlndaajkfaaGreat
