/- EditMade: the edits that are told of a version make it out of nothing. -/
import Derived.Test.YthfcjlndaajkfaaTEdPrv
import Derived.Test.YthfcjlndaajkfaaTEdIs
import Derived.Test.YthfcjlndaajkfaaTEdMk
import Derived.Deep.CutBlock
import Derived.Deep.DeepCutAuto
namespace Go.Proofs.Ythfcjlndaajkfaa
open Go.RowKit
set_option linter.unusedVariables false
set_option linter.unusedSimpArgs false
theorem RdLs.none_ (w : World) : RdLs w none 0 [] := (OwV.none_ w 0).ls.rd
theorem RdTs.none_ (w : World) : RdTs w none 0 [] := (OwV.none_ w 0).ts.rd
set_option maxRecDepth 100000 in
set_option maxHeartbeats 16000000 in
theorem made_any (nx sq : Int) (A : Option Addr) (n c : Nat) (B : Option Addr) (m d : Nat) (L : List (Ed.Lg × List (Int × Int))) (M : List (Pk.Tb × List (Int × Int))) (w : World) (hL : RdLs w A n L) (hM : RdTs w B m M) (hn : n ≤ 9223372036854775807) (hm : m ≤ 9223372036854775807) :
    Calls Try.prog 3 #[.agg #[.int .i64 nx, .int .i64 sq, .slice A n c, .slice B m d]] w fun e w' => e = .returned (.bool true) ∧ Below w.heap.size w w' := by
  have HL0 := Lib.hid hL
  have HM0 := Lib.hid hM
  have hbu : Below w.heap.size w (w.alloc (.cells #[.int .i64 nx, .int .i64 sq, .slice A n c, .slice B m d] 25)) := (Below.refl _ _).alloc (Nat.le_refl _) _
  have HBu := Lib.hid hbu
  have HXu := Lib.hid (Holds.new w #[.int .i64 nx, .int .i64 sq, .slice A n c, .slice B m d] 25)
  have hsu : (w.alloc (.cells #[.int .i64 nx, .int .i64 sq, .slice A n c, .slice B m d] 25)).heap.size = w.heap.size + 1 := by simp
  have HSu := Lib.hid hsu
  clear hL hM hbu hsu
  go_enter Try.func3, Try.ntmps3
  go_upto_region 1 with fail
  generalize (w.alloc (.cells #[.int .i64 nx, .int .i64 sq, .slice A n c, .slice B m d] 25)) = u at *
  replace HXu : Hid (Holds u w.heap.size [.int .i64 nx, .int .i64 sq, .slice A n c, .slice B m d]) := HXu
  have x0 := HXu.out.at_ 0 rfl
  have x1 := HXu.out.at_ 1 rfl
  have x2 := HXu.out.at_ 2 rfl
  have x3 := HXu.out.at_ 3 rfl
  have C2 := Lib.hid (lversion_any nx sq A n c B m d L M u (HL0.out.below HBu.out) (HM0.out.below HBu.out) hn hm)
  go_wp2_with fail
  refine C2.out.mono ?_
  clear C2 x0 x1 x2 x3
  rintro e v2 ⟨A1, c1, B1, d1, rfl, _, _, hb2, hol, hot⟩
  have HX2 := Lib.hid (HXu.out.below hb2)
  have x0 := HX2.out.at_ 0 rfl
  have x1 := HX2.out.at_ 1 rfl
  have x2 := HX2.out.at_ 2 rfl
  have x3 := HX2.out.at_ 3 rfl
  have f0 := HX2.out.2.2 0
  have f1 := HX2.out.2.2 1
  have f2 := HX2.out.2.2 2
  have f3 := HX2.out.2.2 3
  have HP := Lib.hid (Prv.stored (w := w) (nx := nx) (sq := sq) (Nat.le_refl _) HX2.out hol hot (by rw [HSu.out]; omega) (by rw [HSu.out]; omega) (below_next HBu.out hb2))
  go_upto_region 2 with fail
  clear x0 x1 x2 x3 f0 f1 f2 f3 HX2 HXu HBu HSu hb2 hol hot
  generalize (((v2.setCell ⟨w.heap.size, 0, none⟩ (.int .i64 nx)).setCell ⟨w.heap.size, 1, none⟩ (.int .i64 sq)).setCell ⟨w.heap.size, 2, none⟩ (.slice A1 (min n 34) c1)).setCell ⟨w.heap.size, 3, none⟩ (.slice B1 (min m 130) d1) = v4 at *
  have HR := Lib.hid (fun (W : World) (h : Prv w w.heap.size nx sq A1 (min n 34) c1 B1 (min m 130) d1 (Ed.lflat ((L.take (min n 34)).map fun x => (Ed.cutL x).1)) (Pk.flat ((M.take (min m 130)).map fun x => (Ed.cutT x).1)) W) => And.intro (h.rls HL0.out) (h.rts HM0.out))
  have hn1 : min n 34 ≤ 34 := Nat.min_le_right _ _
  have hm1 : min m 130 ≤ 130 := Nat.min_le_right _ _
  clear HL0 HM0
  generalize (Ed.lflat ((L.take (min n 34)).map fun x => (Ed.cutL x).1)) = l1 at *
  generalize (Pk.flat ((M.take (min m 130)).map fun x => (Ed.cutT x).1)) = l2 at *
  generalize min n 34 = n1 at *
  generalize min m 130 = m1 at *
  generalize (L.take 34).map Ed.cutL = L1 at *
  generalize (M.take 130).map Ed.cutT = M1 at *
  clear hn hm
  obtain ⟨vv, hvv⟩ : ∃ v, v = (⟨nx, sq, L1.map Ed.loOf, M1.map Ed.taOf⟩ : Ed.Ve) := ⟨_, rfl⟩
  have HV := Lib.hid hvv
  have HX4 := Lib.hid (fun (W : World) (hW : Below v4.heap.size v4 W) => (HP.out.below hW).box)
  have HBl := Lib.hid HP.out.bel
  have HLs := Lib.hid (fun (W : World) (hW : Below v4.heap.size v4 W) => (HR.out W (HP.out.below hW)).1)
  have HTs := Lib.hid (fun (W : World) (hW : Below v4.heap.size v4 W) => (HR.out W (HP.out.below hW)).2)
  clear HP HR
  have hb0 : Below v4.heap.size v4 v4 := Below.refl _ _
  have C3 := Lib.hid (make_any nx sq A1 n1 c1 B1 m1 d1 L1 M1 v4 (HLs.out _ hb0) (HTs.out _ hb0))
  have C4 := Lib.hid (fun (W : World) (hW : Below v4.heap.size v4 W) => ris_any nx sq A1 n1 c1 B1 m1 d1 L1 M1 W (HLs.out W hW) (HTs.out W hW) (by omega) (by omega))
  have HAm := Lib.hid (fun (h : vv.ok = true) => Ed.apply_make h)
  rw [← hvv] at C3 C4
  clear hvv
  obtain ⟨ok, hok⟩ : ∃ o, o = vv.ok := ⟨_, rfl⟩
  rw [← hok] at C3 C4
  have HOk := Lib.hid hok
  clear hok
  have x0 := (HX4.out _ hb0).at_ 0 rfl
  have x1 := (HX4.out _ hb0).at_ 1 rfl
  have x2 := (HX4.out _ hb0).at_ 2 rfl
  have x3 := (HX4.out _ hb0).at_ 3 rfl
  clear hb0
  go_wp2_with fail
  refine C3.out.mono ?_
  clear C3 x0 x1 x2 x3
  rintro e v5 ⟨hb5, hno, hyes⟩
  have C5 := Lib.hid (C4.out v5 hb5)
  have x0 := (HX4.out _ hb5).at_ 0 rfl
  have x1 := (HX4.out _ hb5).at_ 1 rfl
  have x2 := (HX4.out _ hb5).at_ 2 rfl
  have x3 := (HX4.out _ hb5).at_ 3 rfl
  clear C4
  cases ok with
  | false =>
    have he := hno rfl
    subst he
    clear hno hyes
    go_wp2_with fail
    refine C5.out.mono ?_
    rintro e v6 ⟨rfl, hb6⟩
    have HB6 := Lib.hid (below_next (below_next HBl.out hb5) hb6)
    clear hb5 hb6 x0 x1 x2 x3 C5
    go_wp2_with fail
    refine (awake_any _).mono ?_
    rintro e v7 ⟨rfl, hb7⟩
    have HE := Lib.hid (below_next HB6.out hb7)
    clear hb7
    go_wp2
    go_ret
    exact ⟨rfl, HE.out⟩
  | true =>
    obtain ⟨R, rc, E, he, hEm, hRd, hEl⟩ := hyes rfl
    subst he
    have HRd := Lib.hid hRd
    have HEm := Lib.hid hEm
    clear hno hyes hRd hEm
    go_wp2_with fail
    refine C5.out.mono ?_
    rintro e w4 ⟨rfl, hb6⟩
    have HBq := Lib.hid (below_next hb5 hb6)
    have HBw := Lib.hid (below_next HBl.out HBq.out)
    have HX4b := Lib.hid (fun (W : World) (hW : Below w4.heap.size w4 W) => HX4.out W (below_next HBq.out hW))
    have HLs4 := Lib.hid (fun (W : World) (hW : Below w4.heap.size w4 W) => HLs.out W (below_next HBq.out hW))
    have HTs4 := Lib.hid (fun (W : World) (hW : Below w4.heap.size w4 W) => HTs.out W (below_next HBq.out hW))
    have CA := Lib.hid (fun (W : World) (hW : Below w4.heap.size w4 W) => show Calls Try.prog 10 #[.agg #[.int .i64 1, .int .i64 0, .slice none 0 0, .slice none 0 0], .slice R E.length rc] W (fun e w' => ∃ A n c L B m d M, e = .returned (.tuple #[.agg #[.int .i64 vv.nx, .int .i64 vv.sq, .slice A n c, .slice B m d], .int .i64 0, .int .i64 0]) ∧ OwV w' W.heap.size A n c L B m d M ∧ L.map Ed.loOf = vv.ls ∧ M.map Ed.taOf = vv.ts ∧ Below W.heap.size W w') from by
      have h := apply_any 1 0 none 0 0 none 0 0 [] [] R E.length rc E W (RdLs.none_ W) (RdTs.none_ W) ((HRd.out.below hb6).below hW) (by omega)
      rw [HEm.out] at h
      rw [show Ed.apply ⟨1, 0, ([] : List (Ed.Lg × List (Int × Int))).map Ed.loOf, ([] : List (Pk.Tb × List (Int × Int))).map Ed.taOf⟩ (Ed.make vv) = (vv, 0, 0) from HAm.out HOk.out.symm] at h
      exact h)
    replace HX4 := HX4b
    clear hb5 hb6 x0 x1 x2 x3 C5 HAm HRd HEm HX4b HBq HLs HTs hEl
    go_wp2_with fail
    refine (CA.out w4 (Below.refl _ _)).mono ?_
    rintro e v5 ⟨A5, n5, c5, L5, B5, m5, d5, M5, rfl, hO5, hl5, ht5, hb5⟩
    have hal : Below v5.heap.size v5 (v5.alloc (.cells #[.int .i64 vv.nx, .int .i64 vv.sq, .slice A5 n5 c5, .slice B5 m5 d5] 25)) := (Below.refl _ _).alloc (Nat.le_refl _) _
    have HX5a := Lib.hid (Holds.new v5 #[.int .i64 vv.nx, .int .i64 vv.sq, .slice A5 n5 c5, .slice B5 m5 d5] 25)
    have HO5 := Lib.hid (hO5.below hal)
    have HB5 := Lib.hid (below_next hb5 hal)
    have HL5 := Lib.hid hl5
    have HT5 := Lib.hid ht5
    clear hal hO5 hl5 ht5 hb5 CA
    go_upto_region 6 with fail
    generalize (v5.alloc (.cells #[.int .i64 vv.nx, .int .i64 vv.sq, .slice A5 n5 c5, .slice B5 m5 d5] 25)) = w5 at *
    generalize v5.heap.size = ab at *
    replace HX5a : Hid (Holds w5 ab [.int .i64 vv.nx, .int .i64 vv.sq, .slice A5 n5 c5, .slice B5 m5 d5]) := HX5a
    have HX5 := Lib.hid (fun (W : World) (hW : Below w5.heap.size w5 W) => HX5a.out.below hW)
    have CS := Lib.hid (fun (W : World) (hW : Below w5.heap.size w5 W) => show Calls Try.prog 11 #[.agg #[.int .i64 vv.nx, .int .i64 vv.sq, .slice A5 n5 c5, .slice B5 m5 d5], .agg #[.int .i64 nx, .int .i64 sq, .slice A1 n1 c1, .slice B1 m1 d1]] W (fun e w' => e = .returned (.bool true) ∧ Below W.heap.size W w') from by
      have h := rsame_any vv.nx vv.sq A5 n5 c5 B5 m5 d5 L5 M5 nx sq A1 n1 c1 B1 m1 d1 L1 M1 W (HO5.out.below hW).ls.rd (HO5.out.below hW).ts.rd (HLs4.out W (below_next HB5.out hW)) (HTs4.out W (below_next HB5.out hW)) (by have := HO5.out.ls.row.fits; have := HO5.out.ls.row.capLe; omega) (by have := HO5.out.ts.row.fits; have := HO5.out.ts.row.capLe; omega) (by omega) (by omega)
      rwa [show (⟨vv.nx, vv.sq, L5.map Ed.loOf, M5.map Ed.taOf⟩ : Ed.Ve).eq ⟨nx, sq, L1.map Ed.loOf, M1.map Ed.taOf⟩ = true from Ed.Ve.eq_iff.2 (by rw [HL5.out, HT5.out, ← HV.out])] at h)
    have CC := Lib.hid (fun (W : World) (hW : Below w5.heap.size w5 W) => show Calls Try.prog 12 #[.agg #[.int .i64 vv.nx, .int .i64 vv.sq, .slice A5 n5 c5, .slice B5 m5 d5]] W (fun e w' => e = .returned (.int .i64 0) ∧ Below W.heap.size W w') from by
      have h := check_any vv.nx vv.sq A5 n5 c5 B5 m5 d5 L5 M5 W (HO5.out.below hW).ls.rd (HO5.out.below hW).ts.rd
      rw [HL5.out, HT5.out, show (⟨vv.nx, vv.sq, vv.ls, vv.ts⟩ : Ed.Ve).ok = true from HOk.out.symm] at h
      exact h)
    have hb0 : Below w5.heap.size w5 w5 := Below.refl _ _
    have x0 := (HX5.out _ hb0).at_ 0 rfl
    have x1 := (HX5.out _ hb0).at_ 1 rfl
    have x2 := (HX5.out _ hb0).at_ 2 rfl
    have x3 := (HX5.out _ hb0).at_ 3 rfl
    have y0 := (HX4.out _ HB5.out).at_ 0 rfl
    have y1 := (HX4.out _ HB5.out).at_ 1 rfl
    have y2 := (HX4.out _ HB5.out).at_ 2 rfl
    have y3 := (HX4.out _ HB5.out).at_ 3 rfl
    clear HLs4 HTs4
    go_wp2_with fail
    refine (CS.out _ hb0).mono ?_
    clear x0 x1 x2 x3 y0 y1 y2 y3 hb0 CS
    rintro e v6 ⟨rfl, hb6⟩
    have x0 := (HX5.out _ hb6).at_ 0 rfl
    have x1 := (HX5.out _ hb6).at_ 1 rfl
    have x2 := (HX5.out _ hb6).at_ 2 rfl
    have x3 := (HX5.out _ hb6).at_ 3 rfl
    go_wp2_with fail
    refine (CC.out _ hb6).mono ?_
    clear x0 x1 x2 x3 CC
    rintro e v7 ⟨rfl, hb7⟩
    have HE7 := Lib.hid (below_next HBw.out (below_next HB5.out (below_next hb6 hb7)))
    clear hb6 hb7
    go_wp2_with fail
    refine (awake_any _).mono ?_
    rintro e v8 ⟨rfl, hb8⟩
    have HE := Lib.hid (below_next HE7.out hb8)
    clear hb8
    go_wp2
    go_ret
    exact ⟨rfl, HE.out⟩
end Go.Proofs.Ythfcjlndaajkfaa
