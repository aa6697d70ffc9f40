/- The document's do, every kind. The document's Apply: what edits make of a version. A version and edits that the statement keeps: what stays is read. EditOwn: what stays while a version's pairs are written over. -/
import Derived.Test.YthfcjlndaajkfaaGreatTEdRD2
import Derived.Test.YthfcjlndaajkfaaGreatTEdRCp
import Derived.Test.YthfcjlndaajkfaaGreatTEdRD7
import Derived.Test.YthfcjlndaajkfaaGreatTEdRD6
import Derived.Test.YthfcjlndaajkfaaGreatTEdApply
import Derived.Test.YthfcjlndaajkfaaGreatTEdLEd
import Derived.Test.YthfcjlndaajkfaaGreatTEdLVe
import Derived.Test.YthfcjlndaajkfaaGreatTEdLSaV
import Derived.Test.YthfcjlndaajkfaaGreatTEdLTa
namespace Go.Proofs.YthfcjlndaajkfaaGreat
open Go.RowKit
set_option linter.unusedVariables false
theorem rdo_any (nx sq : Int) (A : Option Addr) (n c : Nat) (B : Option Addr) (m d : Nat) (L : List (Ed.Lg × List (Int × Int))) (M : List (Pk.Tb × List (Int × Int))) (x : Ed.Ex) (w : World) {base : Nat} (hS : StR w base A n c L B m d M) (hbw : base ≤ w.heap.size) (hx : Ed.ExOk w x) (ho : (Ed.etOf x).ok = true) (hxb : 0 < x.1.t.pn → ∀ g, blkOf x.1.t.P = some g → g < base) (hn : n ≤ 100000) (hm : m ≤ 100000) :
    Calls Tryz.prog 50 #[.agg #[.int .i64 nx, .int .i64 sq, .slice A n c, .slice B m d], .agg x.1.cells.toArray] w (GivesRDo w base A L B M x.1.P x.1.pn x.1.t.P x.1.t.pn (Ed.do1 ⟨nx, sq, L.map Ed.loOf, M.map Ed.taOf⟩ (Ed.etOf x))) := by
  rcases Ed.kinds ho with h | h | h | h | h | h | h
  · exact rdo1_any nx sq A n c B m d L M x w hS hbw hx ho h hn hm
  · exact rdo2_any nx sq A n c B m d L M x w hS hbw hx ho h hn hm
  · exact rdo3_any nx sq A n c B m d L M x w hS hbw hx ho h hn hm
  · exact rdo4_any nx sq A n c B m d L M x w hS hbw hx ho h hn hm
  · exact rdo5_any nx sq A n c B m d L M x w hS hbw hx ho h hn hm
  · exact rdo6_any nx sq A n c B m d L M x w hS hbw hx ho h hxb hn hm
  · exact rdo7_any nx sq A n c B m d L M x w hS hbw hx ho h hn hm
/-- A version whose block is written behind its back, but for a block that it keeps clear of, stays. -/
theorem StR.off4 {w : World} {base b n c m d : Nat} {A B : Option Addr} {L : List (Ed.Lg × List (Int × Int))} {M : List (Pk.Tb × List (Int × Int))} {x y z u : Value} (h : StR w base A n c L B m d M) (hf : Fre b A L B M) : StR ((((w.setCell ⟨b, 0, none⟩ x).setCell ⟨b, 1, none⟩ y).setCell ⟨b, 2, none⟩ z).setCell ⟨b, 3, none⟩ u) base A n c L B m d M := by
  have ho : ∀ {P : Option Addr} {pn pc : Nat} {ps : List (Int × Int)}, PairsOk w P pn pc ps → (0 < pn → blkOf P ≠ some b) → PairsOk ((((w.setCell ⟨b, 0, none⟩ x).setCell ⟨b, 1, none⟩ y).setCell ⟨b, 2, none⟩ z).setCell ⟨b, 3, none⟩ u) P pn pc ps := fun hp hq => (((hp.setOff hq).setOff hq).setOff hq).setOff hq
  have hr : ∀ {s : Nat} {E : TypeId} {A : Option Addr} {n c : Nat} {vs : List Value}, OwnC s w base E A n c vs → blkOf A ≠ some b → OwnC s ((((w.setCell ⟨b, 0, none⟩ x).setCell ⟨b, 1, none⟩ y).setCell ⟨b, 2, none⟩ z).setCell ⟨b, 3, none⟩ u) base E A n c vs := fun ho hq => ho.grown (grown4 w b x y z u) (.inr fun q h e => by injection h with h; subst h; rw [ownBlock_eq] at e; exact hq e)
  exact ⟨h.ll, hr h.la hf.1, fun y hy => ⟨(h.lp y hy).1, ho (h.lp y hy).2 (hf.2.2.1 y hy)⟩, h.lo, h.tl, hr h.ta hf.2.1, fun y hy => ⟨(h.tp y hy).1, ho (h.tp y hy).2 (hf.2.2.2 y hy)⟩, h.to_, h.ab⟩
theorem OwV.fre {w : World} {base b n c m d : Nat} {A B : Option Addr} {L : List (Ed.Lg × List (Int × Int))} {M : List (Pk.Tb × List (Int × Int))} (h : OwV w base A n c L B m d M) (hb : b < base) : Fre b A L B M :=
  ⟨fun e => by have := (h.ls.row.lt _ e).1; omega, fun e => by have := (h.ts.row.lt _ e).1; omega, fun x hx _ e => by have := ((h.ls.prs x hx).lt _ e).1; omega, fun x hx _ e => by have := ((h.ts.prs x hx).lt _ e).1; omega⟩
/-- The pairs of a version that may be are few. -/
theorem Ed.pn_few {nx sq : Int} {w : World} {A B : Option Addr} {n m : Nat} {L : List (Ed.Lg × List (Int × Int))} {M : List (Pk.Tb × List (Int × Int))} (h : (⟨nx, sq, L.map Ed.loOf, M.map Ed.taOf⟩ : Ed.Ve).ok = true) (hL : RdLs w A n L) (hM : RdTs w B m M) : (∀ x ∈ L, x.1.pn ≤ 100000) ∧ (∀ x ∈ M, x.1.pn ≤ 100000) ∧ n ≤ 32 ∧ m ≤ 128 := by
  rw [Ed.ok_eq] at h
  simp only [Bool.and_eq_true, decide_eq_true_eq, List.length_map] at h
  have okl := Ed.okLs_q h.1.1.1.2
  have okt := Ed.okTs_q h.1.1.2
  refine ⟨fun x hx => ?_, fun x hx => ?_, by rw [← hL.len]; exact h.1.1.1.1.1.2, by rw [← hM.len]; exact h.1.1.1.1.2⟩
  · have h1 := (Ed.okP_q (okl _ (List.mem_map_of_mem hx))).2.1
    have h2 := (hL.2.2 x hx).2.1.1
    have h3 : x.2.length ≤ 64 := h1
    omega
  · have h1 := (Ed.okP_q (Ed.okT_q (okt _ (List.mem_map_of_mem hx))).1).2.1
    have h2 := (hM.2 x hx).1.1
    have h3 : x.2.length ≤ 64 := h1
    omega
end Go.Proofs.YthfcjlndaajkfaaGreat
namespace Go.Proofs.YthfcjlndaajkfaaGreat
open Go.RowKit
set_option linter.unusedVariables false
set_option linter.unusedSimpArgs false
set_option maxRecDepth 100000 in
set_option maxHeartbeats 32000000 in
theorem rapply_any (nx0 sq0 : Int) (A0 : Option Addr) (n0 c0 : Nat) (B0 : Option Addr) (m0 d0 : Nat) (L0 : List (Ed.Lg × List (Int × Int))) (M0 : List (Pk.Tb × List (Int × Int))) (Aq : Option Addr) (q qc : Nat) (E : List Ed.Ex) (w : World) (hL : RdLs w A0 n0 L0) (hM : RdTs w B0 m0 M0) (hE : RdEs w Aq q E) (hq : q ≤ 10000) (hn : n0 ≤ 9223372036854775807) (hm : m0 ≤ 9223372036854775807) :
    Calls Tryz.prog 20 #[.agg #[.int .i64 nx0, .int .i64 sq0, .slice A0 n0 c0, .slice B0 m0 d0], .slice Aq q qc] w (GivesAp w (Ed.apply ⟨nx0, sq0, L0.map Ed.loOf, M0.map Ed.taOf⟩ (E.map Ed.etOf))) := by
  have HL := hd_ hL
  have HM := hd_ hM
  have HE := hd_ hE
  have hbu : Below w.heap.size w ((w.alloc (.cells #[.int .i64 nx0, .int .i64 sq0, .slice A0 n0 c0, .slice B0 m0 d0] 25)).alloc (.cells #[.int .i64 0, .int .i64 0, .slice none 0 0, .slice none 0 0] 25)) := ((Below.refl _ _).alloc (Nat.le_refl _) _).alloc (by simp) _
  have HBu := hd_ hbu
  have HXu := hd_ ((Holds.new w #[.int .i64 nx0, .int .i64 sq0, .slice A0 n0 c0, .slice B0 m0 d0] 25).alloc (.cells #[.int .i64 0, .int .i64 0, .slice none 0 0, .slice none 0 0] 25))
  have HYu := hd_ (Holds.new (w.alloc (.cells #[.int .i64 nx0, .int .i64 sq0, .slice A0 n0 c0, .slice B0 m0 d0] 25)) #[.int .i64 0, .int .i64 0, .slice none 0 0, .slice none 0 0] 25)
  obtain ⟨r, hr⟩ : ∃ r, r = Ed.apply ⟨nx0, sq0, L0.map Ed.loOf, M0.map Ed.taOf⟩ (E.map Ed.etOf) := ⟨_, rfl⟩
  have HR := hd_ hr
  rw [← hr]
  clear hL hM hE hbu hr
  go_enter Tryz.func20, Tryz.ntmps20
  go_upto_region 1 with fail
  generalize ((w.alloc (.cells #[.int .i64 nx0, .int .i64 sq0, .slice A0 n0 c0, .slice B0 m0 d0] 25)).alloc (.cells #[.int .i64 0, .int .i64 0, .slice none 0 0, .slice none 0 0] 25)) = u at *
  replace HXu : Hid (Holds u w.heap.size [.int .i64 nx0, .int .i64 sq0, .slice A0 n0 c0, .slice B0 m0 d0]) := HXu
  replace HYu : Hid (Holds u (w.heap.size + 1) [.int .i64 0, .int .i64 0, .slice none 0 0, .slice none 0 0]) := hd_ (by have := HYu.out; simpa using this)
  obtain ⟨ok, hok⟩ : ∃ o, o = (⟨nx0, sq0, L0.map Ed.loOf, M0.map Ed.taOf⟩ : Ed.Ve).ok := ⟨_, rfl⟩
  have C1 := hd_ (ris_any nx0 sq0 A0 n0 c0 B0 m0 d0 L0 M0 u (HL.out.below HBu.out) (HM.out.below HBu.out) hn hm)
  rw [← hok] at C1
  have HOk := hd_ hok
  clear hok
  obtain ⟨x0, x1, x2, x3⟩ := (HXu.out).all4
  cases ok with
  | false =>
    have HF := hd_ (show (Ed.noV, 0, 151) = r by rw [HR.out]; unfold Ed.apply; rw [if_neg (by rw [← HOk.out]; decide)])
    go_wp2_with fail
    refine C1.out.mono ?_
    rintro e v ⟨rfl, hbv⟩
    have HYv := hd_ (HYu.out.below hbv)
    have HBv := hd_ (below_next HBu.out hbv)
    clear x0 x1 x2 x3 C1 hbv
    have HZ := hd_ (show Holds ((((v.setCell ⟨(w.heap.size + 1), 0, none⟩ (.int .i64 0)).setCell ⟨(w.heap.size + 1), 1, none⟩ (.int .i64 0)).setCell ⟨(w.heap.size + 1), 2, none⟩ (.slice none 0 0)).setCell ⟨(w.heap.size + 1), 3, none⟩ (.slice none 0 0)) (w.heap.size + 1) [.int .i64 0, .int .i64 0, .slice none 0 0, .slice none 0 0] from HYv.out.put4 _ _ _ _)
    have HBz := hd_ (show Below w.heap.size w ((((v.setCell ⟨(w.heap.size + 1), 0, none⟩ (.int .i64 0)).setCell ⟨(w.heap.size + 1), 1, none⟩ (.int .i64 0)).setCell ⟨(w.heap.size + 1), 2, none⟩ (.slice none 0 0)).setCell ⟨(w.heap.size + 1), 3, none⟩ (.slice none 0 0)) from HBv.out.grown (grown4 _ _ _ _ _ _) HBv.out.size (fun g e => by injection e with e; omega))
    obtain ⟨f0, f1, f2, f3⟩ := (HYv.out).all4
    obtain ⟨g0, g1, g2, g3⟩ := (HYv.out).free4
    go_wp2_with fail
    clear f0 f1 f2 f3 g0 g1 g2 g3
    generalize ((((v.setCell ⟨(w.heap.size + 1), 0, none⟩ (.int .i64 0)).setCell ⟨(w.heap.size + 1), 1, none⟩ (.int .i64 0)).setCell ⟨(w.heap.size + 1), 2, none⟩ (.slice none 0 0)).setCell ⟨(w.heap.size + 1), 3, none⟩ (.slice none 0 0)) = z at *
    obtain ⟨y0, y1, y2, y3⟩ := (HZ.out).all4
    refine bodyPost_ret (v := .tuple #[.agg #[.int .i64 0, .int .i64 0, .slice none 0 0, .slice none 0 0], .int .i64 0, .int .i64 151]) ?_ rfl (by rw [← HF.out]; exact GivesAp.no HBz.out)
    simp [results, Tryz.results20, go_sem, y0, y1, y2, y3]
  | true =>
  have HG0 := hd_ (show Ed.go ⟨nx0, sq0, L0.map Ed.loOf, M0.map Ed.taOf⟩ (E.map Ed.etOf) 0 = r by rw [HR.out]; unfold Ed.apply; rw [if_pos HOk.out.symm])
  go_wp2_with fail
  refine C1.out.mono ?_
  rintro e v ⟨rfl, hbv⟩
  have HXv := hd_ (HXu.out.below hbv)
  have HYv := hd_ (HYu.out.below hbv)
  have HBv := hd_ (below_next HBu.out hbv)
  have HPn := hd_ (Ed.pn_few HOk.out.symm (HL.out.below HBv.out) (HM.out.below HBv.out))
  have C3 := hd_ (rcopy_any nx0 sq0 A0 n0 c0 B0 m0 d0 L0 M0 v (HL.out.below HBv.out) (HM.out.below HBv.out) (by have := HPn.out.2.2.1; omega) (by have := HPn.out.2.2.2; omega) HPn.out.1 HPn.out.2.1)
  have hsv : w.heap.size + 2 ≤ v.heap.size := HYv.out.1
  have HSv := hd_ hsv
  have HSa := hd_ (Ed.Sane.of_ok HOk.out.symm)
  clear x0 x1 x2 x3 C1 hbv HXu HYu HBu hsv
  obtain ⟨x0, x1, x2, x3⟩ := (HXv.out).all4
  go_wp2_with fail
  refine C3.out.mono ?_
  rintro e w1 ⟨A1, c1, L1, B1, d1, M1, rfl, hO1, hl1, hm1, hb1⟩
  have HX1 := hd_ (HXv.out.below hb1)
  have HY1 := hd_ (HYv.out.below hb1)
  have HB1 := hd_ (below_next HBv.out hb1)
  clear x0 x1 x2 x3 C3 HXv HYv HBv
  obtain ⟨x0, x1, x2, x3⟩ := (HX1.out).all4
  obtain ⟨g0, g1, g2, g3⟩ := (HX1.out).free4
  have HX2 := hd_ (show Holds ((((w1.setCell ⟨w.heap.size, 0, none⟩ (.int .i64 nx0)).setCell ⟨w.heap.size, 1, none⟩ (.int .i64 sq0)).setCell ⟨w.heap.size, 2, none⟩ (.slice A1 n0 c1)).setCell ⟨w.heap.size, 3, none⟩ (.slice B1 m0 d1)) w.heap.size [.int .i64 nx0, .int .i64 sq0, .slice A1 n0 c1, .slice B1 m0 d1] from HX1.out.put4 _ _ _ _)
  have HY2 := hd_ (show Holds ((((w1.setCell ⟨w.heap.size, 0, none⟩ (.int .i64 nx0)).setCell ⟨w.heap.size, 1, none⟩ (.int .i64 sq0)).setCell ⟨w.heap.size, 2, none⟩ (.slice A1 n0 c1)).setCell ⟨w.heap.size, 3, none⟩ (.slice B1 m0 d1)) (w.heap.size + 1) [.int .i64 0, .int .i64 0, .slice none 0 0, .slice none 0 0] from HY1.out.other4 (by omega))
  have HS2 := hd_ (show StR ((((w1.setCell ⟨w.heap.size, 0, none⟩ (.int .i64 nx0)).setCell ⟨w.heap.size, 1, none⟩ (.int .i64 sq0)).setCell ⟨w.heap.size, 2, none⟩ (.slice A1 n0 c1)).setCell ⟨w.heap.size, 3, none⟩ (.slice B1 m0 d1)) (w.heap.size + 2) A1 n0 c1 L1 B1 m0 d1 M1 from StR.ofV ((hO1.base_ HSv.out).grown (grown4 _ _ _ _ _ _) (fun g e => by injection e with e; omega)))
  have HB2 := hd_ (show Below w.heap.size w ((((w1.setCell ⟨w.heap.size, 0, none⟩ (.int .i64 nx0)).setCell ⟨w.heap.size, 1, none⟩ (.int .i64 sq0)).setCell ⟨w.heap.size, 2, none⟩ (.slice A1 n0 c1)).setCell ⟨w.heap.size, 3, none⟩ (.slice B1 m0 d1)) from HB1.out.grown (grown4 _ _ _ _ _ _) HB1.out.size (fun g e => by injection e with e; omega))
  have HFr2 := hd_ (OwV.fre hO1 (show w.heap.size < v.heap.size by have := HSv.out; omega))
  have HLm := hd_ (And.intro hl1 hm1)
  have HNm := hd_ (And.intro hO1.ls.len hO1.ts.len)
  clear hO1 hl1 hm1 hb1
  go_upto_region 4 with fail
  clear x0 x1 x2 x3 g0 g1 g2 g3 HX1 HY1 HB1
  generalize ((((w1.setCell ⟨w.heap.size, 0, none⟩ (.int .i64 nx0)).setCell ⟨w.heap.size, 1, none⟩ (.int .i64 sq0)).setCell ⟨w.heap.size, 2, none⟩ (.slice A1 n0 c1)).setCell ⟨w.heap.size, 3, none⟩ (.slice B1 m0 d1)) = w2 at *
  go_wp2_with fail
  go_loopw [7] (fun s7 wr => ∃ (k : Nat) (nx sq : Int) (A : Option Addr) (n c : Nat) (L : List (Ed.Lg × List (Int × Int))) (B : Option Addr) (m d : Nat) (M : List (Pk.Tb × List (Int × Int))), k ≤ q ∧ s7 = .int .i64 (k : Int) ∧ Hid (Holds wr w.heap.size [.int .i64 nx, .int .i64 sq, .slice A n c, .slice B m d]) ∧ Hid (Holds wr (w.heap.size + 1) [.int .i64 0, .int .i64 0, .slice none 0 0, .slice none 0 0]) ∧ Hid (StR wr (w.heap.size + 2) A n c L B m d M) ∧ Hid (Fre w.heap.size A L B M) ∧ Hid (Below w.heap.size w wr) ∧ Hid (Ed.Sane ⟨nx, sq, L.map Ed.loOf, M.map Ed.taOf⟩) ∧ L.length ≤ 32 + k ∧ M.length ≤ 128 + k ∧ Hid (Ed.go ⟨nx, sq, L.map Ed.loOf, M.map Ed.taOf⟩ ((E.map Ed.etOf).drop k) k = r)) (fun s7 _ => q - (intOf s7).toNat)
  case atStart => exact ⟨0, nx0, sq0, A1, n0, c1, L1, B1, m0, d1, M1, by omega, rfl, HX2, HY2, HS2, HFr2, HB2, hd_ (by rw [HLm.out.1, HLm.out.2]; exact HSa.out), by have := HNm.out.1; have := HPn.out.2.2.1; omega, by have := HNm.out.2; have := HPn.out.2.2.2; omega, hd_ (by rw [HLm.out.1, HLm.out.2]; exact HG0.out)⟩
  case round =>
    clear HX2 HY2 HS2 HFr2 HB2 HLm HNm HSa HG0 HPn HR HOk HL HM
    obtain ⟨k, nx, sq, A, n, c, L, B, m, d, M, hk, rfl, HX, HY, HS, HFb, HB, HSa, hLl, hMl, HG⟩ := hrel
    by_cases hlt : k < q
    · have hki : (k : Int) < (q : Int) := by omega
      have hk0 : (0 : Int) ≤ (k : Int) := by omega
      obtain ⟨y, hy⟩ : ∃ y, E[k]? = some y := ⟨_, List.getElem?_eq_getElem (by rw [HE.out.1]; exact hlt)⟩
      obtain ⟨b, o, hAb, hxo, hc⟩ := HE.out.at_ hy
      have HGk := hd_ (show (if (Ed.etOf y).ok then match Ed.do1 ⟨nx, sq, L.map Ed.loOf, M.map Ed.taOf⟩ (Ed.etOf y) with | some v' => Ed.go v' ((E.map Ed.etOf).drop (k + 1)) (k + 1) | none => (Ed.noV, k, 150) else (Ed.noV, k, 150)) = r by
        have h := HG.out
        have hm : (E.map Ed.etOf)[k]? = some (Ed.etOf y) := by rw [List.getElem?_map, hy]; rfl
        obtain ⟨h1, h2⟩ := List.getElem?_eq_some_iff.1 hm
        rw [List.drop_eq_getElem_cons h1, h2, Ed.go_cons] at h
        exact h)
      subst hAb
      have HDs := hd_ (fun v' (ho : (Ed.etOf y).ok = true) => Ed.Sane.do1 (v' := v') HSa.out ho)
      have CD0 := hd_ (fun (W : World) (hW : Below wr.heap.size wr W) (ho : (Ed.etOf y).ok = true) => rdo_any nx sq A n c B m d L M y W (base := w.heap.size + 2) (HS.out.below hW) (Nat.le_trans HY.out.1 hW.size) (hxo.below (below_next HB.out hW)) ho (fun hq g h => by have := hxo.2.1.lt hq g h; omega) (by have := HS.out.ll; omega) (by have := HS.out.tl; omega))
      have CE0 := hd_ (fun (W : World) (hW : Below wr.heap.size wr W) => risedit_any y W (hxo.below (below_next HB.out hW)))
      have HXo := hd_ hxo
      have HCc := hd_ hc
      clear hy hxo HG hc
      generalize Ed.do1 ⟨nx, sq, L.map Ed.loOf, M.map Ed.taOf⟩ (Ed.etOf y) = dr at *
      generalize (Ed.etOf y).ok = eok at *
      obtain ⟨⟨kd, id, nn, pid, pep, P, pn, pc, ⟨tid, tep, Q, qn, qc, sz, lv, ct, lo, hi, tp⟩⟩, ps, qs⟩ := y
      have CD := hd_ (fun (W : World) (hW : Below wr.heap.size wr W) (ho : eok = true) => show Calls Tryz.prog 50 #[.agg #[.int .i64 nx, .int .i64 sq, .slice A n c, .slice B m d], .agg #[.int .i64 kd, .int .i64 id, .int .i64 nn, .int .i64 pid, .int .i64 pep, .slice P pn pc, .int .i64 tid, .int .i64 tep, .slice Q qn qc, .int .i64 sz, .int .i64 lv, .int .i64 ct, .string lo, .string hi, .int .i64 tp]] W (GivesRDo W (w.heap.size + 2) A L B M P pn Q qn dr) from CD0.out W hW ho)
      have CE := hd_ (fun (W : World) (hW : Below wr.heap.size wr W) => show Calls Tryz.prog 49 #[.agg #[.int .i64 kd, .int .i64 id, .int .i64 nn, .int .i64 pid, .int .i64 pep, .slice P pn pc, .int .i64 tid, .int .i64 tep, .slice Q qn qc, .int .i64 sz, .int .i64 lv, .int .i64 ct, .string lo, .string hi, .int .i64 tp]] W (fun e w' => e = .returned (.bool eok) ∧ Below W.heap.size W w') from CE0.out W hW)
      have HCl := hd_ (fun (W : World) (hW : Below w.heap.size w W) => show W.cell? ⟨b, o + k * 15, none⟩ = some (.int .i64 kd) ∧ W.cell? ⟨b, o + k * 15 + 1, none⟩ = some (.int .i64 id) ∧ W.cell? ⟨b, o + k * 15 + 2, none⟩ = some (.int .i64 nn) ∧ W.cell? ⟨b, o + k * 15 + 3, none⟩ = some (.int .i64 pid) ∧ W.cell? ⟨b, o + k * 15 + 4, none⟩ = some (.int .i64 pep) ∧ W.cell? ⟨b, o + k * 15 + 5, none⟩ = some (.slice P pn pc) ∧ W.cell? ⟨b, o + k * 15 + 6, none⟩ = some (.int .i64 tid) ∧ W.cell? ⟨b, o + k * 15 + 7, none⟩ = some (.int .i64 tep) ∧ W.cell? ⟨b, o + k * 15 + 8, none⟩ = some (.slice Q qn qc) ∧ W.cell? ⟨b, o + k * 15 + 9, none⟩ = some (.int .i64 sz) ∧ W.cell? ⟨b, o + k * 15 + 10, none⟩ = some (.int .i64 lv) ∧ W.cell? ⟨b, o + k * 15 + 11, none⟩ = some (.int .i64 ct) ∧ W.cell? ⟨b, o + k * 15 + 12, none⟩ = some (.string lo) ∧ W.cell? ⟨b, o + k * 15 + 13, none⟩ = some (.string hi) ∧ W.cell? ⟨b, o + k * 15 + 14, none⟩ = some (.int .i64 tp) from ⟨HCc.out W hW 0 _ rfl, HCc.out W hW 1 _ rfl, HCc.out W hW 2 _ rfl, HCc.out W hW 3 _ rfl, HCc.out W hW 4 _ rfl, HCc.out W hW 5 _ rfl, HCc.out W hW 6 _ rfl, HCc.out W hW 7 _ rfl, HCc.out W hW 8 _ rfl, HCc.out W hW 9 _ rfl, HCc.out W hW 10 _ rfl, HCc.out W hW 11 _ rfl, HCc.out W hW 12 _ rfl, HCc.out W hW 13 _ rfl, HCc.out W hW 14 _ rfl⟩)
      clear CD0 CE0 HCc
      have HFx := hd_ (fun (g : Nat) (hg : w.heap.size ≤ g) => show (0 < pn → blkOf P ≠ some g) ∧ (0 < qn → blkOf Q ≠ some g) from ⟨fun hq e => by have := HXo.out.1.lt hq _ e; omega, fun hq e => by have := HXo.out.2.1.lt hq _ e; omega⟩)
      have HFw := hd_ (show (0 < pn → blkOf P ≠ some w.heap.size) ∧ (0 < qn → blkOf Q ≠ some w.heap.size) from ⟨fun hq e => by have := HXo.out.1.lt hq _ e; omega, fun hq e => by have := HXo.out.2.1.lt hq _ e; omega⟩)
      clear HXo
      obtain ⟨e0, e1, e2, e3, e4, e5, e6, e7, e8, e9, e10, e11, e12, e13, e14⟩ := HCl.out wr HB.out
      have CE1 := hd_ (CE.out wr (Below.refl _ _))
      cases eok with
      | false =>
        have HF := hd_ (show (Ed.noV, k, 150) = r from HGk.out)
        go_wp2_with fail
        refine CE1.out.mono ?_
        rintro e v1 ⟨rfl, hb1⟩
        have HY1 := hd_ (HY.out.below hb1)
        have HB1 := hd_ (below_next HB.out hb1)
        clear e0 e1 e2 e3 e4 e5 e6 e7 e8 e9 e10 e11 e12 e13 e14 hb1 CE1 CE CD HDs HX HS
        have HZ := hd_ (show Holds ((((v1.setCell ⟨(w.heap.size + 1), 0, none⟩ (.int .i64 0)).setCell ⟨(w.heap.size + 1), 1, none⟩ (.int .i64 0)).setCell ⟨(w.heap.size + 1), 2, none⟩ (.slice none 0 0)).setCell ⟨(w.heap.size + 1), 3, none⟩ (.slice none 0 0)) (w.heap.size + 1) [.int .i64 0, .int .i64 0, .slice none 0 0, .slice none 0 0] from HY1.out.put4 _ _ _ _)
        have HBz := hd_ (show Below w.heap.size w ((((v1.setCell ⟨(w.heap.size + 1), 0, none⟩ (.int .i64 0)).setCell ⟨(w.heap.size + 1), 1, none⟩ (.int .i64 0)).setCell ⟨(w.heap.size + 1), 2, none⟩ (.slice none 0 0)).setCell ⟨(w.heap.size + 1), 3, none⟩ (.slice none 0 0)) from HB1.out.grown (grown4 _ _ _ _ _ _) HB1.out.size (fun g e => by injection e with e; omega))
        obtain ⟨f0, f1, f2, f3⟩ := (HY1.out).all4
        obtain ⟨g0, g1, g2, g3⟩ := (HY1.out).free4
        go_wp2_with fail
        clear f0 f1 f2 f3 g0 g1 g2 g3
        generalize ((((v1.setCell ⟨(w.heap.size + 1), 0, none⟩ (.int .i64 0)).setCell ⟨(w.heap.size + 1), 1, none⟩ (.int .i64 0)).setCell ⟨(w.heap.size + 1), 2, none⟩ (.slice none 0 0)).setCell ⟨(w.heap.size + 1), 3, none⟩ (.slice none 0 0)) = z at *
        obtain ⟨y0, y1, y2, y3⟩ := (HZ.out).all4
        refine bodyPost_ret (v := .tuple #[.agg #[.int .i64 0, .int .i64 0, .slice none 0 0, .slice none 0 0], .int .i64 (k : Int), .int .i64 150]) ?_ rfl (by rw [← HF.out]; exact GivesAp.no HBz.out)
        simp [results, Tryz.results20, go_sem, y0, y1, y2, y3]
      | true =>
        go_wp2_with fail
        refine CE1.out.mono ?_
        rintro e v1 ⟨rfl, hb1⟩
        clear e0 e1 e2 e3 e4 e5 e6 e7 e8 e9 e10 e11 e12 e13 e14 CE1 CE
        have HX1 := hd_ (HX.out.below hb1)
        have HY1 := hd_ (HY.out.below hb1)
        have HS1 := hd_ (HS.out.below hb1)
        have HB1 := hd_ (below_next HB.out hb1)
        have HBx := hd_ hb1
        clear hb1
        go_upto_region 9 with fail
        go_cut [8, 9] from 30 to 38 (fun s8 s9 W => ∃ (xb : Nat) (nx1 sq1 : Int) (A1 : Option Addr) (n1 c1 : Nat) (L1 : List (Ed.Lg × List (Int × Int))) (B1 : Option Addr) (m1 d1 : Nat) (M1 : List (Pk.Tb × List (Int × Int))), s8 = .pointer (some ⟨xb, 0, none⟩) ∧ s9 = .bool dr.isSome ∧ Hid (Holds W xb [.int .i64 nx1, .int .i64 sq1, .slice A1 n1 c1, .slice B1 m1 d1]) ∧ Hid (Holds W w.heap.size [.int .i64 nx, .int .i64 sq, .slice A n c, .slice B m d]) ∧ Hid (Holds W (w.heap.size + 1) [.int .i64 0, .int .i64 0, .slice none 0 0, .slice none 0 0]) ∧ Hid (Below w.heap.size w W) ∧ Hid (∀ v, dr = some v → v = ⟨nx1, sq1, L1.map Ed.loOf, M1.map Ed.taOf⟩ ∧ StR W (w.heap.size + 2) A1 n1 c1 L1 B1 m1 d1 M1 ∧ Fre w.heap.size A1 L1 B1 M1))
        case first =>
          have HSf := hd_ (fun (W : World) (hx : Holds W w.heap.size [.int .i64 nx, .int .i64 sq, .slice A n c, .slice B m d]) (hb : Below w.heap.size w W) => show W.cell? ⟨w.heap.size, 0, none⟩ = some (.int .i64 nx) ∧ W.cell? ⟨w.heap.size, 1, none⟩ = some (.int .i64 sq) ∧ W.cell? ⟨w.heap.size, 2, none⟩ = some (.slice A n c) ∧ W.cell? ⟨w.heap.size, 3, none⟩ = some (.slice B m d) ∧ W.cell? ⟨b, o + k * 15, none⟩ = some (.int .i64 kd) ∧ W.cell? ⟨b, o + k * 15 + 1, none⟩ = some (.int .i64 id) ∧ W.cell? ⟨b, o + k * 15 + 2, none⟩ = some (.int .i64 nn) ∧ W.cell? ⟨b, o + k * 15 + 3, none⟩ = some (.int .i64 pid) ∧ W.cell? ⟨b, o + k * 15 + 4, none⟩ = some (.int .i64 pep) ∧ W.cell? ⟨b, o + k * 15 + 5, none⟩ = some (.slice P pn pc) ∧ W.cell? ⟨b, o + k * 15 + 6, none⟩ = some (.int .i64 tid) ∧ W.cell? ⟨b, o + k * 15 + 7, none⟩ = some (.int .i64 tep) ∧ W.cell? ⟨b, o + k * 15 + 8, none⟩ = some (.slice Q qn qc) ∧ W.cell? ⟨b, o + k * 15 + 9, none⟩ = some (.int .i64 sz) ∧ W.cell? ⟨b, o + k * 15 + 10, none⟩ = some (.int .i64 lv) ∧ W.cell? ⟨b, o + k * 15 + 11, none⟩ = some (.int .i64 ct) ∧ W.cell? ⟨b, o + k * 15 + 12, none⟩ = some (.string lo) ∧ W.cell? ⟨b, o + k * 15 + 13, none⟩ = some (.string hi) ∧ W.cell? ⟨b, o + k * 15 + 14, none⟩ = some (.int .i64 tp) from ⟨(hx).at_ 0 rfl, (hx).at_ 1 rfl, (hx).at_ 2 rfl, (hx).at_ 3 rfl, HCl.out _ (hb)⟩)
          have hbd : Below v1.heap.size v1 v1.drew := (Below.refl _ _).drew
          have hBd := below_next HB1.out hbd
          have hS0 := hd_ (HSf.out _ (HX1.out.below hbd) hBd)
          refine wp_region_T (fun W => W.cell? ⟨w.heap.size, 0, none⟩ = some (.int .i64 nx) ∧ W.cell? ⟨w.heap.size, 1, none⟩ = some (.int .i64 sq) ∧ W.cell? ⟨w.heap.size, 2, none⟩ = some (.slice A n c) ∧ W.cell? ⟨w.heap.size, 3, none⟩ = some (.slice B m d) ∧ W.cell? ⟨b, o + k * 15, none⟩ = some (.int .i64 kd) ∧ W.cell? ⟨b, o + k * 15 + 1, none⟩ = some (.int .i64 id) ∧ W.cell? ⟨b, o + k * 15 + 2, none⟩ = some (.int .i64 nn) ∧ W.cell? ⟨b, o + k * 15 + 3, none⟩ = some (.int .i64 pid) ∧ W.cell? ⟨b, o + k * 15 + 4, none⟩ = some (.int .i64 pep) ∧ W.cell? ⟨b, o + k * 15 + 5, none⟩ = some (.slice P pn pc) ∧ W.cell? ⟨b, o + k * 15 + 6, none⟩ = some (.int .i64 tid) ∧ W.cell? ⟨b, o + k * 15 + 7, none⟩ = some (.int .i64 tep) ∧ W.cell? ⟨b, o + k * 15 + 8, none⟩ = some (.slice Q qn qc) ∧ W.cell? ⟨b, o + k * 15 + 9, none⟩ = some (.int .i64 sz) ∧ W.cell? ⟨b, o + k * 15 + 10, none⟩ = some (.int .i64 lv) ∧ W.cell? ⟨b, o + k * 15 + 11, none⟩ = some (.int .i64 ct) ∧ W.cell? ⟨b, o + k * 15 + 12, none⟩ = some (.string lo) ∧ W.cell? ⟨b, o + k * 15 + 13, none⟩ = some (.string hi) ∧ W.cell? ⟨b, o + k * 15 + 14, none⟩ = some (.int .i64 tp)) (fun W => True) 99 (by kernel_rfl) ?_
          refine tkS (i := 0) hS0.out ?_; try walk_nrm
          refine tkS (i := 1) hS0.out ?_; try walk_nrm
          refine tkS (i := 2) hS0.out ?_; try walk_nrm
          refine tkS (i := 3) hS0.out ?_; try walk_nrm
          refine tkS (i := 4) hS0.out ?_; try walk_nrm
          have hAlt : ∀ g, blkOf A = some g → w.heap.size + 2 ≤ g ∧ g < v1.heap.size := HS1.out.la.lt
          refine wpAnyT_two (i := 5) (j := 9) (by kernel_rfl) rfl rfl (fun K hK => ?_) (fun K hK => ?_)
          · try walk_nrm
            rw [if_pos (by rfl)]
            go_simp
            refine (CD.out v1.drew (below_next HBx.out hbd) (by trivial)).mono ?_
            rintro e v5 ⟨nx1, sq1, A1, n1, c1, L1, B1, m1, d1, M1, rfl, hg, hr5⟩
            have HX5 := hd_ ((HX1.out.below hbd).grown hg (fun e => by have := hAlt _ e; omega))
            have HY5 := hd_ ((HY1.out.below hbd).grown hg (fun e => by have := hAlt _ e; omega))
            have HB5 := hd_ (show Below w.heap.size w v5 from hBd.grown hg hBd.size (fun g e => by have := hAlt _ e; omega))
            have hS5 := hd_ (HSf.out _ (HX5.out) (HB5.out))
            refine hK.out _ _ hS5.out (fun _ => trivial) ?_
            clear hK
            try walk_nrm
            refine tkS (i := 6) hS5.out ?_; try walk_nrm
            refine tkS (i := 7) hS5.out ?_; try walk_nrm
            refine tkS (i := 8) hS5.out ?_; try walk_nrm
            refine wpAnyT_one (i := 9) (by kernel_rfl) rfl (fun K hK => ?_)
            try walk_nrm
            rw [if_pos (by rfl)]
            go_simp
            have hal : Below v5.heap.size v5 (v5.alloc (.cells #[.int .i64 0, .int .i64 0, .slice none 0 0, .slice none 0 0] 25)) := (Below.refl _ _).alloc (Nat.le_refl _) _
            have hS6 := hd_ (HSf.out _ (HX5.out.below hal) (below_next HB5.out hal))
            refine hK.out _ _ hS6.out (fun _ => trivial) ?_
            clear hK hal
            try walk_nrm
            refine wpAnyT_one (i := 10) (by kernel_rfl) rfl (fun K hK => ?_)
            try walk_nrm
            rw [if_pos (by rfl)]
            have hN := hd_ (Holds.new v5 #[.int .i64 0, .int .i64 0, .slice none 0 0, .slice none 0 0] 25)
            obtain ⟨z0, z1, z2, z3⟩ := (hN.out).all4
            obtain ⟨g0, g1, g2, g3⟩ := (hN.out).free4
            go_simp
            have hW : Below v5.heap.size v5 (v5.alloc (.cells #[.int .i64 nx1, .int .i64 sq1, .slice A1 n1 c1, .slice B1 m1 d1] 25)) := (Below.refl _ _).alloc (Nat.le_refl _) _
            have HH := hd_ (show Holds (v5.alloc (.cells #[.int .i64 nx1, .int .i64 sq1, .slice A1 n1 c1, .slice B1 m1 d1] 25)) v5.heap.size [.int .i64 nx1, .int .i64 sq1, .slice A1 n1 c1, .slice B1 m1 d1] from Holds.new v5 #[.int .i64 nx1, .int .i64 sq1, .slice A1 n1 c1, .slice B1 m1 d1] 25)
            have HX6 := hd_ (HX5.out.below hW)
            have HY6 := hd_ (HY5.out.below hW)
            have HB6 := hd_ (below_next HB5.out hW)
            have HR6 := hd_ (fun v hv => show v = (⟨nx1, sq1, L1.map Ed.loOf, M1.map Ed.taOf⟩ : Ed.Ve) ∧ StR (v5.alloc (.cells #[.int .i64 nx1, .int .i64 sq1, .slice A1 n1 c1, .slice B1 m1 d1] 25)) (w.heap.size + 2) A1 n1 c1 L1 B1 m1 d1 M1 ∧ Fre w.heap.size A1 L1 B1 M1 from ⟨(hr5 v hv).1, (hr5 v hv).2.1.below hW, (hr5 v hv).2.2 w.heap.size (by have := HY1.out.1; show w.heap.size < v1.heap.size; omega) HFb.out (fun hq e => HFw.out.1 hq e) (fun hq e => HFw.out.2 hq e)⟩)
            have hS7 := hd_ (HSf.out _ (HX6.out) (HB6.out))
            refine hK.out _ _ hS7.out (fun _ => trivial) ?_
            clear hK z0 z1 z2 z3 g0 g1 g2 g3 hN hS6 hW
            try walk_nrm
            generalize (v5.alloc (.cells #[.int .i64 nx1, .int .i64 sq1, .slice A1 n1 c1, .slice B1 m1 d1] 25)) = v9 at *
            refine tkS (i := 11) hS7.out ?_; try walk_nrm
            refine wpAnyT_done (by kernel_rfl) ?_ _
            go_wp2
            go_meet
            case rel => exact ⟨_, nx1, sq1, A1, n1, c1, L1, B1, m1, d1, M1, rfl, rfl, HH, HX6, HY6, HB6, HR6⟩
          · try walk_nrm
            rw [if_pos (by rfl)]
            go_simp
            have hal : Below v1.heap.size v1 ((v1.alloc (.cells #[.int .i64 0, .int .i64 0, .slice none 0 0, .slice none 0 0] 25)).drew) := ((Below.refl _ _).alloc (Nat.le_refl _) _).drew
            have hBa := below_next HB1.out hal
            have hN0 := hd_ (show Holds ((v1.alloc (.cells #[.int .i64 0, .int .i64 0, .slice none 0 0, .slice none 0 0] 25)).drew) v1.heap.size [.int .i64 0, .int .i64 0, .slice none 0 0, .slice none 0 0] from (Holds.new v1 #[.int .i64 0, .int .i64 0, .slice none 0 0, .slice none 0 0] 25).below (Below.refl _ _).drew)
            have hS6 := hd_ (HSf.out _ (HX1.out.below hal) (hBa))
            refine hK.out _ _ hS6.out (fun _ => trivial) ?_
            clear hK
            try walk_nrm
            have hsz : v1.heap.size < ((v1.alloc (.cells #[.int .i64 0, .int .i64 0, .slice none 0 0, .slice none 0 0] 25)).drew).heap.size := hN0.out.1
            generalize (v1.alloc (.cells #[.int .i64 0, .int .i64 0, .slice none 0 0, .slice none 0 0] 25)).drew = va at *
            refine wpAnyT_one (i := 5) (by kernel_rfl) rfl (fun K hK => ?_)
            try walk_nrm
            rw [if_pos (by rfl)]
            go_simp
            refine (CD.out va (below_next HBx.out hal) (by trivial)).mono ?_
            rintro e v5 ⟨nx1, sq1, A1, n1, c1, L1, B1, m1, d1, M1, rfl, hg, hr5⟩
            have HX5 := hd_ ((HX1.out.below hal).grown hg (fun e => by have := hAlt _ e; omega))
            have HY5 := hd_ ((HY1.out.below hal).grown hg (fun e => by have := hAlt _ e; omega))
            have HB5 := hd_ (show Below w.heap.size w v5 from hBa.grown hg hBa.size (fun g e => by have := hAlt _ e; omega))
            have hN := hd_ (hN0.out.grown hg (fun e => by have := hAlt _ e; omega))
            have hS5 := hd_ (HSf.out _ (HX5.out) (HB5.out))
            refine hK.out _ _ hS5.out (fun _ => trivial) ?_
            clear hK
            try walk_nrm
            refine tkS (i := 6) hS5.out ?_; try walk_nrm
            refine tkS (i := 7) hS5.out ?_; try walk_nrm
            refine tkS (i := 8) hS5.out ?_; try walk_nrm
            refine wpAnyT_one (i := 10) (by kernel_rfl) rfl (fun K hK => ?_)
            try walk_nrm
            rw [if_pos (by rfl)]
            obtain ⟨z0, z1, z2, z3⟩ := (hN.out).all4
            obtain ⟨g0, g1, g2, g3⟩ := (hN.out).free4
            go_simp
            have hwx : w.heap.size + 2 ≤ v1.heap.size := HY1.out.1
            have HH := hd_ (show Holds ((((v5.setCell ⟨v1.heap.size, 0, none⟩ (.int .i64 nx1)).setCell ⟨v1.heap.size, 1, none⟩ (.int .i64 sq1)).setCell ⟨v1.heap.size, 2, none⟩ (.slice A1 n1 c1)).setCell ⟨v1.heap.size, 3, none⟩ (.slice B1 m1 d1)) v1.heap.size [.int .i64 nx1, .int .i64 sq1, .slice A1 n1 c1, .slice B1 m1 d1] from hN.out.put4 _ _ _ _)
            have HX6 := hd_ (show Holds ((((v5.setCell ⟨v1.heap.size, 0, none⟩ (.int .i64 nx1)).setCell ⟨v1.heap.size, 1, none⟩ (.int .i64 sq1)).setCell ⟨v1.heap.size, 2, none⟩ (.slice A1 n1 c1)).setCell ⟨v1.heap.size, 3, none⟩ (.slice B1 m1 d1)) w.heap.size [.int .i64 nx, .int .i64 sq, .slice A n c, .slice B m d] from HX5.out.other4 (by omega))
            have HY6 := hd_ (show Holds ((((v5.setCell ⟨v1.heap.size, 0, none⟩ (.int .i64 nx1)).setCell ⟨v1.heap.size, 1, none⟩ (.int .i64 sq1)).setCell ⟨v1.heap.size, 2, none⟩ (.slice A1 n1 c1)).setCell ⟨v1.heap.size, 3, none⟩ (.slice B1 m1 d1)) (w.heap.size + 1) [.int .i64 0, .int .i64 0, .slice none 0 0, .slice none 0 0] from HY5.out.other4 (by omega))
            have HB6 := hd_ (show Below w.heap.size w ((((v5.setCell ⟨v1.heap.size, 0, none⟩ (.int .i64 nx1)).setCell ⟨v1.heap.size, 1, none⟩ (.int .i64 sq1)).setCell ⟨v1.heap.size, 2, none⟩ (.slice A1 n1 c1)).setCell ⟨v1.heap.size, 3, none⟩ (.slice B1 m1 d1)) from HB5.out.grown (grown4 _ _ _ _ _ _) HB5.out.size (fun g e => by injection e with e; omega))
            have HR6 := hd_ (fun v hv => show v = (⟨nx1, sq1, L1.map Ed.loOf, M1.map Ed.taOf⟩ : Ed.Ve) ∧ StR ((((v5.setCell ⟨v1.heap.size, 0, none⟩ (.int .i64 nx1)).setCell ⟨v1.heap.size, 1, none⟩ (.int .i64 sq1)).setCell ⟨v1.heap.size, 2, none⟩ (.slice A1 n1 c1)).setCell ⟨v1.heap.size, 3, none⟩ (.slice B1 m1 d1)) (w.heap.size + 2) A1 n1 c1 L1 B1 m1 d1 M1 ∧ Fre w.heap.size A1 L1 B1 M1 from ⟨(hr5 v hv).1, (hr5 v hv).2.1.off4 ((hr5 v hv).2.2 _ hsz HS1.out.fre (HFx.out _ (by omega)).1 (HFx.out _ (by omega)).2), (hr5 v hv).2.2 w.heap.size (by omega) HFb.out (fun hq e => HFw.out.1 hq e) (fun hq e => HFw.out.2 hq e)⟩)
            have hS7 := hd_ (HSf.out _ (HX6.out) (HB6.out))
            refine hK.out _ _ hS7.out (fun _ => trivial) ?_
            clear hK z0 z1 z2 z3 g0 g1 g2 g3 hN
            try walk_nrm
            generalize ((((v5.setCell ⟨v1.heap.size, 0, none⟩ (.int .i64 nx1)).setCell ⟨v1.heap.size, 1, none⟩ (.int .i64 sq1)).setCell ⟨v1.heap.size, 2, none⟩ (.slice A1 n1 c1)).setCell ⟨v1.heap.size, 3, none⟩ (.slice B1 m1 d1)) = v9 at *
            refine tkS (i := 11) hS7.out ?_; try walk_nrm
            refine wpAnyT_done (by kernel_rfl) ?_ _
            go_wp2
            go_meet
            case rel => exact ⟨_, nx1, sq1, A1, n1, c1, L1, B1, m1, d1, M1, rfl, rfl, HH, HX6, HY6, HB6, HR6⟩
        case rest =>
          obtain ⟨xb, nx1, sq1, A1, n1, c1, L1, B1, m1, d1, M1, rfl, rfl, HH, HX6, HY6, HB6, HR6⟩ := hcut
          rename World => w6
          clear HX HY HS HB HX1 HY1 HS1 HB1 HBx CD
          cases dr with
          | none =>
            have HF := hd_ (show (Ed.noV, k, 150) = r from HGk.out)
            clear HR6
            have HZ := hd_ (show Holds ((((w6.setCell ⟨(w.heap.size + 1), 0, none⟩ (.int .i64 0)).setCell ⟨(w.heap.size + 1), 1, none⟩ (.int .i64 0)).setCell ⟨(w.heap.size + 1), 2, none⟩ (.slice none 0 0)).setCell ⟨(w.heap.size + 1), 3, none⟩ (.slice none 0 0)) (w.heap.size + 1) [.int .i64 0, .int .i64 0, .slice none 0 0, .slice none 0 0] from HY6.out.put4 _ _ _ _)
            have HBz := hd_ (show Below w.heap.size w ((((w6.setCell ⟨(w.heap.size + 1), 0, none⟩ (.int .i64 0)).setCell ⟨(w.heap.size + 1), 1, none⟩ (.int .i64 0)).setCell ⟨(w.heap.size + 1), 2, none⟩ (.slice none 0 0)).setCell ⟨(w.heap.size + 1), 3, none⟩ (.slice none 0 0)) from HB6.out.grown (grown4 _ _ _ _ _ _) HB6.out.size (fun g e => by injection e with e; omega))
            obtain ⟨f0, f1, f2, f3⟩ := (HY6.out).all4
            obtain ⟨g0, g1, g2, g3⟩ := (HY6.out).free4
            go_wp2_with fail
            clear f0 f1 f2 f3 g0 g1 g2 g3
            generalize ((((w6.setCell ⟨(w.heap.size + 1), 0, none⟩ (.int .i64 0)).setCell ⟨(w.heap.size + 1), 1, none⟩ (.int .i64 0)).setCell ⟨(w.heap.size + 1), 2, none⟩ (.slice none 0 0)).setCell ⟨(w.heap.size + 1), 3, none⟩ (.slice none 0 0)) = z at *
            obtain ⟨y0, y1, y2, y3⟩ := (HZ.out).all4
            refine bodyPost_ret (v := .tuple #[.agg #[.int .i64 0, .int .i64 0, .slice none 0 0, .slice none 0 0], .int .i64 (k : Int), .int .i64 150]) ?_ rfl (by rw [← HF.out]; exact GivesAp.no HBz.out)
            simp [results, Tryz.results20, go_sem, y0, y1, y2, y3]
          | some v2 =>
            obtain ⟨rfl, hs6, hfr6⟩ := HR6.out v2 rfl
            have HD6 := hd_ (HDs.out _ (by trivial) rfl)
            have HGn := hd_ (show Ed.go ⟨nx1, sq1, L1.map Ed.loOf, M1.map Ed.taOf⟩ ((E.map Ed.etOf).drop (k + 1)) (k + 1) = r from HGk.out)
            have HX7 := hd_ (show Holds ((((w6.setCell ⟨w.heap.size, 0, none⟩ (.int .i64 nx1)).setCell ⟨w.heap.size, 1, none⟩ (.int .i64 sq1)).setCell ⟨w.heap.size, 2, none⟩ (.slice A1 n1 c1)).setCell ⟨w.heap.size, 3, none⟩ (.slice B1 m1 d1)) w.heap.size [.int .i64 nx1, .int .i64 sq1, .slice A1 n1 c1, .slice B1 m1 d1] from HX6.out.put4 _ _ _ _)
            have HY7 := hd_ (show Holds ((((w6.setCell ⟨w.heap.size, 0, none⟩ (.int .i64 nx1)).setCell ⟨w.heap.size, 1, none⟩ (.int .i64 sq1)).setCell ⟨w.heap.size, 2, none⟩ (.slice A1 n1 c1)).setCell ⟨w.heap.size, 3, none⟩ (.slice B1 m1 d1)) (w.heap.size + 1) [.int .i64 0, .int .i64 0, .slice none 0 0, .slice none 0 0] from HY6.out.other4 (by omega))
            have HS7 := hd_ (show StR ((((w6.setCell ⟨w.heap.size, 0, none⟩ (.int .i64 nx1)).setCell ⟨w.heap.size, 1, none⟩ (.int .i64 sq1)).setCell ⟨w.heap.size, 2, none⟩ (.slice A1 n1 c1)).setCell ⟨w.heap.size, 3, none⟩ (.slice B1 m1 d1)) (w.heap.size + 2) A1 n1 c1 L1 B1 m1 d1 M1 from hs6.off4 hfr6)
            have HB7 := hd_ (show Below w.heap.size w ((((w6.setCell ⟨w.heap.size, 0, none⟩ (.int .i64 nx1)).setCell ⟨w.heap.size, 1, none⟩ (.int .i64 sq1)).setCell ⟨w.heap.size, 2, none⟩ (.slice A1 n1 c1)).setCell ⟨w.heap.size, 3, none⟩ (.slice B1 m1 d1)) from HB6.out.grown (grown4 _ _ _ _ _ _) HB6.out.size (fun g e => by injection e with e; omega))
            have h1 := HD6.out.2.1
            have h2 := HD6.out.2.2
            simp only [List.length_map] at h1 h2
            obtain ⟨h0, h1, h2, h3⟩ := (HH.out).all4
            obtain ⟨x0, x1, x2, x3⟩ := (HX6.out).all4
            obtain ⟨g0, g1, g2, g3⟩ := (HX6.out).free4
            clear hs6 HR6
            go_wp2_with fail
            clear h0 h3 x0 x1 x2 x3 g0 g1 g2 g3
            generalize ((((w6.setCell ⟨w.heap.size, 0, none⟩ (.int .i64 nx1)).setCell ⟨w.heap.size, 1, none⟩ (.int .i64 sq1)).setCell ⟨w.heap.size, 2, none⟩ (.slice A1 n1 c1)).setCell ⟨w.heap.size, 3, none⟩ (.slice B1 m1 d1)) = w7 at *
            go_roundw
            case rel => exact ⟨k + 1, nx1, sq1, A1, n1, c1, L1, B1, m1, d1, M1, by omega, by go_num, HX7, HY7, HS7, hd_ hfr6, HB7, hd_ HD6.out.1, by omega, by omega, HGn⟩
            case measure => simp [intOf]; omega
    · have hki : ¬ (k : Int) < (q : Int) := by omega
      have hkq : k = q := by omega
      have HGe := hd_ (show (if (⟨nx, sq, L.map Ed.loOf, M.map Ed.taOf⟩ : Ed.Ve).ok then ((⟨nx, sq, L.map Ed.loOf, M.map Ed.taOf⟩ : Ed.Ve), 0, 0) else (Ed.noV, k, 150)) = r by
        have h := HG.out
        rw [List.drop_of_length_le (by rw [List.length_map, HE.out.1]; omega)] at h
        exact h)
      obtain ⟨ok, hok⟩ : ∃ o, o = (⟨nx, sq, L.map Ed.loOf, M.map Ed.taOf⟩ : Ed.Ve).ok := ⟨_, rfl⟩
      rw [← hok] at HGe
      have HOk := hd_ hok
      have C13 := hd_ (ris_any nx sq A n c B m d L M wr HS.out.rls HS.out.rts (by have := HS.out.ll; omega) (by have := HS.out.tl; omega))
      rw [← hok] at C13
      clear hok hlt HSa HG hLl hMl
      obtain ⟨x0, x1, x2, x3⟩ := (HX.out).all4
      cases ok with
      | false =>
        have HF := hd_ (show (Ed.noV, q, 150) = r by rw [← HGe.out, hkq]; rfl)
        go_wp2_with fail
        refine C13.out.mono ?_
        rintro e v1 ⟨rfl, hb1⟩
        have HY1 := hd_ (HY.out.below hb1)
        have HB1 := hd_ (below_next HB.out hb1)
        clear x0 x1 x2 x3 hb1 C13 HX HS
        have HZ := hd_ (show Holds ((((v1.setCell ⟨(w.heap.size + 1), 0, none⟩ (.int .i64 0)).setCell ⟨(w.heap.size + 1), 1, none⟩ (.int .i64 0)).setCell ⟨(w.heap.size + 1), 2, none⟩ (.slice none 0 0)).setCell ⟨(w.heap.size + 1), 3, none⟩ (.slice none 0 0)) (w.heap.size + 1) [.int .i64 0, .int .i64 0, .slice none 0 0, .slice none 0 0] from HY1.out.put4 _ _ _ _)
        have HBz := hd_ (show Below w.heap.size w ((((v1.setCell ⟨(w.heap.size + 1), 0, none⟩ (.int .i64 0)).setCell ⟨(w.heap.size + 1), 1, none⟩ (.int .i64 0)).setCell ⟨(w.heap.size + 1), 2, none⟩ (.slice none 0 0)).setCell ⟨(w.heap.size + 1), 3, none⟩ (.slice none 0 0)) from HB1.out.grown (grown4 _ _ _ _ _ _) HB1.out.size (fun g e => by injection e with e; omega))
        obtain ⟨f0, f1, f2, f3⟩ := (HY1.out).all4
        obtain ⟨g0, g1, g2, g3⟩ := (HY1.out).free4
        go_wp2_with fail
        clear f0 f1 f2 f3 g0 g1 g2 g3
        generalize ((((v1.setCell ⟨(w.heap.size + 1), 0, none⟩ (.int .i64 0)).setCell ⟨(w.heap.size + 1), 1, none⟩ (.int .i64 0)).setCell ⟨(w.heap.size + 1), 2, none⟩ (.slice none 0 0)).setCell ⟨(w.heap.size + 1), 3, none⟩ (.slice none 0 0)) = z at *
        obtain ⟨y0, y1, y2, y3⟩ := (HZ.out).all4
        refine bodyPost_ret (v := .tuple #[.agg #[.int .i64 0, .int .i64 0, .slice none 0 0, .slice none 0 0], .int .i64 (q : Int), .int .i64 150]) ?_ rfl (by rw [← HF.out]; exact GivesAp.no HBz.out)
        simp [results, Tryz.results20, go_sem, y0, y1, y2, y3]
      | true =>
        have HF := hd_ (show ((⟨nx, sq, L.map Ed.loOf, M.map Ed.taOf⟩ : Ed.Ve), 0, 0) = r from HGe.out)
        go_wp2_with fail
        refine C13.out.mono ?_
        rintro e v1 ⟨rfl, hb1⟩
        have HX1 := hd_ (HX.out.below hb1)
        have HY1 := hd_ (HY.out.below hb1)
        have HB1 := hd_ (below_next HB.out hb1)
        have HPn := hd_ (Ed.pn_few HOk.out.symm (HS.out.below hb1).rls (HS.out.below hb1).rts)
        have C15 := hd_ (rcopy_any nx sq A n c B m d L M v1 (HS.out.below hb1).rls (HS.out.below hb1).rts (by have := HPn.out.2.2.1; omega) (by have := HPn.out.2.2.2; omega) HPn.out.1 HPn.out.2.1)
        clear x0 x1 x2 x3 hb1 C13 HX HY HB
        obtain ⟨x0, x1, x2, x3⟩ := (HX1.out).all4
        go_wp2_with fail
        refine C15.out.mono ?_
        rintro e w8 ⟨A1, c1, L1, B1, d1, M1, rfl, hO1, hl1, hm1, hb8⟩
        have HY8 := hd_ (HY1.out.below hb8)
        have HB8 := hd_ (below_next HB1.out hb8)
        clear x0 x1 x2 x3 C15 HX1
        have hw2 : w.heap.size + 2 ≤ v1.heap.size := HY1.out.1
        have HO8 := hd_ (show OwV ((((w8.setCell ⟨(w.heap.size + 1), 0, none⟩ (.int .i64 nx)).setCell ⟨(w.heap.size + 1), 1, none⟩ (.int .i64 sq)).setCell ⟨(w.heap.size + 1), 2, none⟩ (.slice A1 n c1)).setCell ⟨(w.heap.size + 1), 3, none⟩ (.slice B1 m d1)) w.heap.size A1 n c1 L1 B1 m d1 M1 from ((hO1.base_ hw2).grown (grown4 _ _ _ _ _ _) (fun g e => by injection e with e; omega)).base_ (by omega))
        have HZ := hd_ (show Holds ((((w8.setCell ⟨(w.heap.size + 1), 0, none⟩ (.int .i64 nx)).setCell ⟨(w.heap.size + 1), 1, none⟩ (.int .i64 sq)).setCell ⟨(w.heap.size + 1), 2, none⟩ (.slice A1 n c1)).setCell ⟨(w.heap.size + 1), 3, none⟩ (.slice B1 m d1)) (w.heap.size + 1) [.int .i64 nx, .int .i64 sq, .slice A1 n c1, .slice B1 m d1] from HY8.out.put4 _ _ _ _)
        have HBz := hd_ (show Below w.heap.size w ((((w8.setCell ⟨(w.heap.size + 1), 0, none⟩ (.int .i64 nx)).setCell ⟨(w.heap.size + 1), 1, none⟩ (.int .i64 sq)).setCell ⟨(w.heap.size + 1), 2, none⟩ (.slice A1 n c1)).setCell ⟨(w.heap.size + 1), 3, none⟩ (.slice B1 m d1)) from HB8.out.grown (grown4 _ _ _ _ _ _) HB8.out.size (fun g e => by injection e with e; omega))
        have HLm := hd_ (And.intro hl1 hm1)
        clear hO1 hl1 hm1 hb8
        obtain ⟨f0, f1, f2, f3⟩ := (HY8.out).all4
        obtain ⟨g0, g1, g2, g3⟩ := (HY8.out).free4
        go_wp2_with fail
        clear f0 f1 f2 f3 g0 g1 g2 g3
        generalize ((((w8.setCell ⟨(w.heap.size + 1), 0, none⟩ (.int .i64 nx)).setCell ⟨(w.heap.size + 1), 1, none⟩ (.int .i64 sq)).setCell ⟨(w.heap.size + 1), 2, none⟩ (.slice A1 n c1)).setCell ⟨(w.heap.size + 1), 3, none⟩ (.slice B1 m d1)) = z at *
        obtain ⟨y0, y1, y2, y3⟩ := (HZ.out).all4
        refine bodyPost_ret (v := .tuple #[.agg #[.int .i64 nx, .int .i64 sq, .slice A1 n c1, .slice B1 m d1], .int .i64 0, .int .i64 0]) ?_ rfl (by rw [← HF.out]; exact ⟨A1, n, c1, L1, B1, m, d1, M1, rfl, HO8.out, HLm.out.1, HLm.out.2, HBz.out⟩)
        simp [results, Tryz.results20, go_sem, y0, y1, y2, y3]
end Go.Proofs.YthfcjlndaajkfaaGreat
namespace Go.Proofs.YthfcjlndaajkfaaGreat
open Go.RowKit
set_option linter.unusedVariables false
theorem Prt.rls2 {w : World} {nx sq : Int} {A : Option Addr} {n c1 : Nat} {A1 : Option Addr} {B1 : Option Addr} {m' d' : Nat} {Q : Option Addr} {q' qc : Nat} {L : List (Ed.Lg × List (Int × Int))} {l2 l3 : List Value} {W : World} (h : Prt w nx sq A1 (min n 34) c1 B1 m' d' Q q' qc (Ed.lflat ((L.take (min n 34)).map fun x => (Ed.cutL x).1)) l2 l3 W) (hL : RdLs w A n L) : RdLs W A1 (min n 34) ((L.take 34).map Ed.cutL) := rdls_cut hL h.bel h.ol
theorem Prt.rts2 {w : World} {nx sq : Int} {A1 : Option Addr} {n' c1 : Nat} {B : Option Addr} {m d1 : Nat} {B1 : Option Addr} {Q : Option Addr} {q' qc : Nat} {M : List (Pk.Tb × List (Int × Int))} {l1 l3 : List Value} {W : World} (h : Prt w nx sq A1 n' c1 B1 (min m 130) d1 Q q' qc l1 (Pk.flat ((M.take (min m 130)).map fun x => (Ed.cutT x).1)) l3 W) (hM : RdTs w B m M) : RdTs W B1 (min m 130) ((M.take 130).map Ed.cutT) := rdts_cut hM h.bel h.ot
theorem Prt.res2 {w : World} {nx sq : Int} {A1 : Option Addr} {n' c1 : Nat} {B1 : Option Addr} {m' d' : Nat} {Q Q1 : Option Addr} {q qc1 : Nat} {E : List Ed.Ex} {l1 l2 : List Value} {W : World} (h : Prt w nx sq A1 n' c1 B1 m' d' Q1 (min q 260) qc1 l1 l2 (Ed.eflat ((E.take (min q 260)).map fun x => (Ed.cutE x).1)) W) (hE : RdEs w Q q E) : RdEs W Q1 (min q 260) ((E.take 260).map Ed.cutE) := rdes_cut hE h.bel h.oe
end Go.Proofs.YthfcjlndaajkfaaGreat
namespace Go.Proofs.YthfcjlndaajkfaaGreat
open Go.RowKit
set_option linter.unusedVariables false
set_option linter.unusedSimpArgs false
theorem OwnC.addrB {s : Nat} {W : World} {base n cap g : Nat} {E : TypeId} {A : Option Addr} {vs : List Value} (h : OwnC s W base E A n cap vs) (hg : blkOf A = some g) : A = some ⟨g, 0, none⟩ := by
  rcases h.2 with ⟨hv, h0⟩ | ⟨g1, c, cur, hv, _⟩
  · injection hv with h1 _ _; rw [h1] at hg; cases hg
  · injection hv with h1 _ _
    rw [h1] at hg
    have h2 : g1 = g := Option.some.inj hg
    rw [h1, h2]
/-- What is kept while pairs of one version (blocks from lo on, below hi) are written: what is older, what is newer, its rows. -/
structure Wo (v4 : World) (hi : Nat) (nx5 sq5 : Int) (A5 : Option Addr) (n5 c5 : Nat) (L5 : List (Ed.Lg × List (Int × Int))) (B5 : Option Addr) (m5 d5 : Nat) (M5 : List (Pk.Tb × List (Int × Int))) (a6 : Nat) (c6l : List Value) (A6 : Option Addr) (n6 c6 : Nat) (L6 : List (Ed.Lg × List (Int × Int))) (B6 : Option Addr) (m6 d6 : Nat) (M6 : List (Pk.Tb × List (Int × Int)))
    (a7 : Nat) (c7l : List Value) (A7 : Option Addr) (n7 c7 : Nat) (L7 : List (Ed.Lg × List (Int × Int))) (B7 : Option Addr) (m7 d7 : Nat) (M7 : List (Pk.Tb × List (Int × Int))) (W : World) : Prop where
  old : Below v4.heap.size v4 W
  ab : Holds W hi [.int .i64 nx5, .int .i64 sq5, .slice A5 n5 c5, .slice B5 m5 d5]
  lr : OwnC 4 W v4.heap.size 62 A5 n5 c5 (Ed.lflat (L5.map (·.1)))
  tr : OwnC 9 W v4.heap.size 35 B5 m5 d5 (Pk.flat (M5.map (·.1)))
  lp : ∀ x ∈ L5, ∃ vs, OwnC 2 W v4.heap.size 64 x.1.P x.1.pn x.1.pc vs
  tp : ∀ x ∈ M5, ∃ vs, OwnC 2 W v4.heap.size 64 x.1.P x.1.pn x.1.pc vs
  b6 : Holds W a6 c6l
  o6 : OwV W (hi + 1) A6 n6 c6 L6 B6 m6 d6 M6
  b7 : Holds W a7 c7l
  o7 : OwV W (hi + 1) A7 n7 c7 L7 B7 m7 d7 M7
section
variable {v4 W : World} {hi : Nat} {nx5 sq5 : Int} {A5 : Option Addr} {n5 c5 : Nat} {L5 : List (Ed.Lg × List (Int × Int))} {B5 : Option Addr} {m5 d5 : Nat} {M5 : List (Pk.Tb × List (Int × Int))} {a6 : Nat} {c6l : List Value} {A6 : Option Addr} {n6 c6 : Nat} {L6 : List (Ed.Lg × List (Int × Int))} {B6 : Option Addr} {m6 d6 : Nat} {M6 : List (Pk.Tb × List (Int × Int))}
    {a7 : Nat} {c7l : List Value} {A7 : Option Addr} {n7 c7 : Nat} {L7 : List (Ed.Lg × List (Int × Int))} {B7 : Option Addr} {m7 d7 : Nat} {M7 : List (Pk.Tb × List (Int × Int))}
theorem Wo.store (h : Wo v4 hi nx5 sq5 A5 n5 c5 L5 B5 m5 d5 M5 a6 c6l A6 n6 c6 L6 B6 m6 d6 M6 a7 c7l A7 n7 c7 L7 B7 m7 d7 M7 W) (g j : Nat) (u : Value) (h1 : v4.heap.size ≤ g) (h2 : g < hi) (hA : blkOf A5 ≠ some g) (hB : blkOf B5 ≠ some g) (h6 : hi < a6) (h7 : hi < a7) :
    Wo v4 hi nx5 sq5 A5 n5 c5 L5 B5 m5 d5 M5 a6 c6l A6 n6 c6 L6 B6 m6 d6 M6 a7 c7l A7 n7 c7 L7 B7 m7 d7 M7 (W.setCell ⟨g, j, none⟩ u) := by
  have hg := grown_cell W g j u
  have hp : ∀ {P : Option Addr} {pn pc : Nat} {vs : List Value}, OwnC 2 W v4.heap.size 64 P pn pc vs → ∃ vs, OwnC 2 (W.setCell ⟨g, j, none⟩ u) v4.heap.size 64 P pn pc vs := fun {P pn pc vs} ho => by
    by_cases e : blkOf P = some g
    · have ha := ho.addrB e
      subst ha
      exact ⟨_, (ho.set1 j u).1⟩
    · exact ⟨_, ho.grown hg (.inr fun q hq hq2 => by injection hq with hq; subst hq; rw [ownBlock_eq] at hq2; exact e hq2)⟩
  exact ⟨h.old.grown hg h.old.size (fun q e => by injection e with e; omega), h.ab.other (by omega), h.lr.grown hg (.inr fun q hq hq2 => by injection hq with hq; subst hq; rw [ownBlock_eq] at hq2; exact hA hq2), h.tr.grown hg (.inr fun q hq hq2 => by injection hq with hq; subst hq; rw [ownBlock_eq] at hq2; exact hB hq2),
    fun x hx => by obtain ⟨vs, ho⟩ := h.lp x hx; exact hp ho, fun x hx => by obtain ⟨vs, ho⟩ := h.tp x hx; exact hp ho, h.b6.other (by omega), h.o6.grown hg (fun q e => by injection e with e; omega), h.b7.other (by omega), h.o7.grown hg (fun q e => by injection e with e; omega)⟩
end
end Go.Proofs.YthfcjlndaajkfaaGreat
