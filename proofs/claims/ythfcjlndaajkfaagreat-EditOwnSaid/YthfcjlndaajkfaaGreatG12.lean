/- edit.own, walked. edit.do: words; calls of two and three arguments at a step of a drawn region. edit.do: the next number; up to which all stands in tables. One log, one table more. edit.do: there is a log. -/
import Derived.Test.YthfcjlndaajkfaaGreatG11
import Derived.Test.YthfcjlndaajkfaaGreatG09
import Derived.Test.YthfcjlndaajkfaaGreatG10
namespace Go.Proofs.YthfcjlndaajkfaaGreat
open Go.RowKit
set_option linter.unusedVariables false
set_option maxRecDepth 100000 in
set_option maxHeartbeats 16000000 in
theorem own_any (nx sq : Int) (A0 : Option Addr) (n c0 : Nat) (B0 : Option Addr) (m d0 : Nat) (L : List (Ed.Lg × List (Int × Int))) (M : List (Pk.Tb × List (Int × Int))) (w : World) (hL : RdLs w A0 n L) (hM : RdTs w B0 m M) (hn : n ≤ 100000) (hm : m ≤ 100000) (hlp : ∀ x ∈ L, x.1.pn ≤ 100000) (htp : ∀ x ∈ M, x.1.pn ≤ 100000) :
    Calls Tryz.prog 42 #[.agg #[.int .i64 nx, .int .i64 sq, .slice A0 n c0, .slice B0 m d0]] w (GivesV w nx sq n m (L.map Ed.loOf) (M.map Ed.taOf)) := by
  have hb2 : Below w.heap.size w ((w.alloc (.cells #[.int .i64 nx, .int .i64 sq, .slice A0 n c0, .slice B0 m d0] 25)).alloc (.cells #[.int .i64 0, .int .i64 0, .slice none 0 0, .slice none 0 0] 25)) := ((Below.refl _ _).alloc (Nat.le_refl _) _).alloc (by simp) _
  have HX := hd_ ((Holds.new w #[.int .i64 nx, .int .i64 sq, .slice A0 n c0, .slice B0 m d0] 25).alloc (.cells #[.int .i64 0, .int .i64 0, .slice none 0 0, .slice none 0 0] 25))
  have HY := hd_ (Holds.new (w.alloc (.cells #[.int .i64 nx, .int .i64 sq, .slice A0 n c0, .slice B0 m d0] 25)) #[.int .i64 0, .int .i64 0, .slice none 0 0, .slice none 0 0] 25)
  have HS := hd_ (show ((w.alloc (.cells #[.int .i64 nx, .int .i64 sq, .slice A0 n c0, .slice B0 m d0] 25)).alloc (.cells #[.int .i64 0, .int .i64 0, .slice none 0 0, .slice none 0 0] 25)).heap.size = w.heap.size + 2 by simp)
  have HB := hd_ hb2
  have HRL := hd_ hL
  have HRT := hd_ hM
  have Hlp := hd_ hlp
  have Htp := hd_ htp
  clear hb2 hL hM hlp htp
  go_enter Tryz.func42, Tryz.ntmps42
  go_upto_region 1 with fail
  generalize ((w.alloc (.cells #[.int .i64 nx, .int .i64 sq, .slice A0 n c0, .slice B0 m d0] 25)).alloc (.cells #[.int .i64 0, .int .i64 0, .slice none 0 0, .slice none 0 0] 25)) = u at *
  replace HX : Hid (Holds u w.heap.size [.int .i64 nx, .int .i64 sq, .slice A0 n c0, .slice B0 m d0]) := HX
  replace HY : Hid (Holds u (w.heap.size + 1) [.int .i64 0, .int .i64 0, .slice none 0 0, .slice none 0 0]) := hd_ (by have := HY.out; simpa using this)
  go_cut [12] from 5 to 12 (fun s12 wx => ∃ A ca B db, Hid (Mid w wx nx sq A n ca B m db L [] M [] 0 0))
  case first =>
    have hbd : Below u.heap.size u u.drew := (Below.refl _ _).drew
    have x2 := (HX.out.below hbd).at_ 2 rfl
    have x3 := (HX.out.below hbd).at_ 3 rfl
    have HBd := hd_ hbd
    clear hbd
    go_region_law (first
      | (refine step_call1 (by simp [Region.wanted]) 7 rfl (.tmp 6) rfl rfl enter_cll ((clonelog_any A0 n c0 _ u.drew (HRL.out.2.1.below (below_next HB.out HBd.out)) (Ed.lflat_one _) hn).mono ?_); rintro e v1 ⟨A1, c1, rfl, hO1, hb1⟩; have HO1 := hd_ hO1; have HB1 := hd_ (show Below u.heap.size u v1 from below_next HBd.out hb1); have x3v := (HX.out.below HB1.out).at_ 3 rfl; clear hO1 hb1; refine ⟨_, rfl, ?_⟩)
      | (refine step_call1 (by simp [Region.wanted]) 10 rfl (.tmp 9) rfl rfl enter_clt ((clonetable_any B0 m d0 _ v1 (HRT.out.1.2.1.below (below_next HB.out HB1.out)) (Pk.flat_one _) hm).mono ?_); rintro e v2 ⟨B1, d1, rfl, hO2, hb2⟩; have HO2 := hd_ hO2; have HB2 := hd_ hb2; have HB3 := hd_ (show Below u.heap.size u v2 from below_next HB1.out hb2); have x2w := (HX.out.below HB3.out).at_ 2 rfl; have x3w := (HX.out.below HB3.out).at_ 3 rfl; have f2w := (HX.out.below HB3.out).2.2 2; have f3w := (HX.out.below HB3.out).2.2 3; clear hO2 hb2; refine ⟨_, rfl, ?_⟩))
    all_goals
      have HG1 := hd_ ((grown_cell v2 w.heap.size 2 (.slice A1 n c1)).trans (grown_cell _ w.heap.size 3 (.slice B1 m d1)))
      have hbase : w.heap.size + 2 ≤ u.heap.size := by rw [HS.out]; exact Nat.le_refl _
      have HN := hd_ (show Mid w ((v2.setCell ⟨w.heap.size, 2, none⟩ (.slice A1 n c1)).setCell ⟨w.heap.size, 3, none⟩ (.slice B1 m d1)) nx sq A1 n c1 B1 m d1 L [] M [] 0 0 from
        ⟨((HX.out.below HB3.out).set 2 _ (by simp)).set 3 _ (by simp), ((HY.out.below HB3.out).other (by omega)).other (by omega),
         ((HO1.out.below HB2.out).base_ hbase).grown HG1.out (.inr fun g e1 e2 => by rw [ownBlock_eq] at e2; have h := (HO1.out.lt g e2).1; have h2 : u.drew.heap.size = u.heap.size := rfl; injection e1 with e1; omega),
         (HO2.out.base_ (show w.heap.size + 2 ≤ v1.heap.size from Nat.le_trans hbase HB1.out.size)).grown HG1.out (.inr fun g e1 e2 => by rw [ownBlock_eq] at e2; have h := (HO2.out.lt g e2).1; have h2 := HB1.out.size; injection e1 with e1; omega),
         (fun g e1 e2 => by have h1 := (HO1.out.lt g e1).2; have h2 := (HO2.out.lt g e2).1; omega),
         rfl, rfl, rfl, rfl, (fun x hx => nomatch hx), (fun x hx => nomatch hx), (fun x hx => nomatch hx), (fun x hx => nomatch hx),
         ((below_next HB.out HB3.out).setCell (Nat.le_refl _) _).setCell (Nat.le_refl _) _⟩)
      go_wp2_with fail
      go_meet
      case rel => exact ⟨A1, c1, B1, d1, HN⟩
  case rest =>
  obtain ⟨A, ca, B, db, HMs⟩ := hcut
  clear HX HY HS HB
  have x2 := HMs.out.box.at_ 2 rfl
  go_wp2_with fail
  clear x2
  go_loopw [16] (fun ii wr => ∃ (k : Nat) (F : List (Ed.Lg × List (Int × Int))), k ≤ n ∧ ii = .int .i64 (k : Int) ∧ Hid (Mid w wr nx sq A n ca B m db L F M [] k 0)) (fun ii _ => n - (intOf ii).toNat)
  case atStart => exact ⟨0, [], by omega, rfl, HMs⟩
  case round =>
    clear HMs
    obtain ⟨k, F, hk, rfl, HM1⟩ := hrel
    by_cases hlt : k < n
    · have hki : (k : Int) < (n : Int) := by omega
      have hk0 : (0 : Int) ≤ (k : Int) := by omega
      obtain ⟨y, hy⟩ : ∃ y, L[k]? = some y := ⟨_, List.getElem?_eq_getElem (by rw [HRL.out.len]; exact hlt)⟩
      have hp : PairsOk w y.1.P y.1.pn y.1.pc y.2 := (HRL.out.2.2 y (List.mem_of_getElem? hy)).2
      obtain ⟨g, hAg, _, hgl⟩ := HM1.out.lrow.form (by omega)
      have HPx := hd_ (hp.below HM1.out.bel)
      have hpn := Hlp.out y (List.mem_of_getElem? hy)
      have HFx := hd_ ((HRL.out.2.2 y (List.mem_of_getElem? hy)).1)
      have HY := hd_ hy
      have hkx : Hid (((F ++ L.drop k).map (·.1))[k]? = some y.1) := hd_ (by
        rw [List.map_append, List.getElem?_append_right (by rw [List.length_map, HM1.out.fl]; exact Nat.le_refl _), List.length_map, HM1.out.fl, Nat.sub_self, List.getElem?_map, List.getElem?_drop, Nat.add_zero, hy]
        rfl)
      clear hy hp
      subst hAg
      have HG := hd_ hgl
      clear hgl
      obtain ⟨y, ps⟩ := y
      dsimp only at hpn HPx HFx hkx
      have hC : ∀ v, Below wr.heap.size wr v → (v.cell? ⟨g, k * 4, none⟩ = some (.int .i64 y.id) ∧ v.cell? ⟨g, k * 4 + 1, none⟩ = some (.int .i64 y.ep) ∧ v.cell? ⟨g, k * 4 + 2, none⟩ = some (.slice y.P y.pn y.pc)) := fun v hv =>
        ⟨(HM1.out.lrow.below hv).cellAt (Pk.flatMap_at (f := Ed.Lg.cells) (s := 4) (fun _ => rfl) (j := 0) hkx.out rfl), (HM1.out.lrow.below hv).cellAt (Pk.flatMap_at (f := Ed.Lg.cells) (s := 4) (fun _ => rfl) (j := 1) hkx.out rfl), (HM1.out.lrow.below hv).cellAt (Pk.flatMap_at (f := Ed.Lg.cells) (s := 4) (fun _ => rfl) (j := 2) hkx.out rfl)⟩
      have HC := hd_ hC
      clear hC
      have hbd : Below wr.heap.size wr wr.drew := (Below.refl _ _).drew
      obtain ⟨y0, y1, y2⟩ := HC.out wr.drew hbd
      have xb := (HM1.out.below hbd).box.at_ 2 rfl
      have xb0 := HM1.out.box.at_ 2 rfl
      go_wp2_with fail
      go_region_law (refine step_call1 (by simp [Region.wanted]) 28 rfl (.tmp 27) rfl rfl enter_ownp ((ownplace_any y.id y.ep y.P y.pn y.pc ps wr.drew (HPx.out.1.below (Below.refl wr.heap.size wr).drew) hpn).mono ?_); rintro e v ⟨P2, d2, rfl, hO, hbv⟩; have HV := hd_ (show Below wr.heap.size wr v from below_next (Below.refl wr.heap.size wr).drew hbv); have HO := hd_ (show OwP v wr.heap.size P2 y.pn d2 ps from ⟨HPx.out.1.1, hO⟩); have yv := HC.out v HV.out; have y0v := yv.1; have y1v := yv.2.1; have y2v := yv.2.2; have f0v := (HM1.out.below HV.out).lrow.freeAt (k * 4); have f1v := (HM1.out.below HV.out).lrow.freeAt (k * 4 + 1); have f2v := (HM1.out.below HV.out).lrow.freeAt (k * 4 + 2); have xv := (HM1.out.below HV.out).box.at_ 2 rfl; clear hO hbv yv; refine ⟨_, rfl, ?_⟩)
      all_goals
        clear y0 y1 y2 xb xb0
        have HN := hd_ ((HM1.out.below HV.out).log (x := (y, ps)) (P := P2) (pc := d2) rfl HY.out HFx.out (HO.out.base_ (show w.heap.size + 2 ≤ wr.heap.size from by have := HM1.out.res.1; omega))
          (fun g1 h1 h2 => by have := (HO.out.lt g1 h1).1; have := (HM1.out.lrow.lt g1 h2).2; omega) (fun g1 h1 h2 => by have := (HO.out.lt g1 h1).1; have := (HM1.out.trow.lt g1 h2).2; omega))
        dsimp only at HN
        go_wp2
        go_roundw
        case rel => exact ⟨k + 1, F ++ [(({ y with P := P2, pc := d2 } : Ed.Lg), ps)], by omega, by go_num, HN⟩
        case measure => simp [intOf]; omega
    · have hki : ¬ (k : Int) < (n : Int) := by omega
      have hkn : n = k := by omega
      clear hlt hk
      subst hkn
      obtain ⟨F0, hF0⟩ : ∃ F0, F0 = F := ⟨F, rfl⟩
      subst hF0
      have HMt := HM1
      have x3 := HMt.out.box.at_ 3 rfl
      go_wp2_with fail
      clear x3 HM1
      go_loopw [35] (fun ii wr => ∃ (k : Nat) (F : List (Pk.Tb × List (Int × Int))), k ≤ m ∧ ii = .int .i64 (k : Int) ∧ Hid (Mid w wr nx sq A n ca B m db L F0 M F n k)) (fun ii _ => m - (intOf ii).toNat)
      case atStart => exact ⟨0, [], by omega, rfl, HMt⟩
      case round =>
        clear HMt
        obtain ⟨k, F, hk, rfl, HM1⟩ := hrel
        by_cases hlt : k < m
        · have hki : (k : Int) < (m : Int) := by omega
          have hk0 : (0 : Int) ≤ (k : Int) := by omega
          obtain ⟨y, hy⟩ : ∃ y, M[k]? = some y := ⟨_, List.getElem?_eq_getElem (by rw [HRT.out.len]; exact hlt)⟩
          have hp : PairsOk w y.1.P y.1.pn y.1.pc y.2 := HRT.out.2 y (List.mem_of_getElem? hy)
          obtain ⟨g, hAg, _, hgl⟩ := HM1.out.trow.form (by omega)
          have HPx := hd_ (hp.below HM1.out.bel)
          have hpn := Htp.out y (List.mem_of_getElem? hy)
          have HFx := hd_ (HRT.out.1.2.2 y.1 (List.mem_map.2 ⟨y, List.mem_of_getElem? hy, rfl⟩))
          have HY := hd_ hy
          have hkx : Hid (((F ++ M.drop k).map (·.1))[k]? = some y.1) := hd_ (by
            rw [List.map_append, List.getElem?_append_right (by rw [List.length_map, HM1.out.gl]; exact Nat.le_refl _), List.length_map, HM1.out.gl, Nat.sub_self, List.getElem?_map, List.getElem?_drop, Nat.add_zero, hy]
            rfl)
          clear hy hp
          subst hAg
          have HG := hd_ hgl
          clear hgl
          obtain ⟨y, ps⟩ := y
          dsimp only at hpn HPx HFx hkx
          have hC : ∀ v, Below wr.heap.size wr v → (v.cell? ⟨g, k * 9, none⟩ = some (.int .i64 y.id) ∧ v.cell? ⟨g, k * 9 + 1, none⟩ = some (.int .i64 y.ep) ∧ v.cell? ⟨g, k * 9 + 2, none⟩ = some (.slice y.P y.pn y.pc)) := fun v hv =>
            ⟨(HM1.out.trow.below hv).cellAt (Pk.flatMap_at (f := Pk.Tb.cells) (s := 9) (fun _ => rfl) (j := 0) hkx.out rfl), (HM1.out.trow.below hv).cellAt (Pk.flatMap_at (f := Pk.Tb.cells) (s := 9) (fun _ => rfl) (j := 1) hkx.out rfl), (HM1.out.trow.below hv).cellAt (Pk.flatMap_at (f := Pk.Tb.cells) (s := 9) (fun _ => rfl) (j := 2) hkx.out rfl)⟩
          have HC := hd_ hC
          clear hC
          have hbd : Below wr.heap.size wr wr.drew := (Below.refl _ _).drew
          obtain ⟨y0, y1, y2⟩ := HC.out wr.drew hbd
          have xb := (HM1.out.below hbd).box.at_ 3 rfl
          have xb0 := HM1.out.box.at_ 3 rfl
          go_wp2_with fail
          go_region_law (refine step_call1 (by simp [Region.wanted]) 47 rfl (.tmp 46) rfl rfl enter_ownp ((ownplace_any y.id y.ep y.P y.pn y.pc ps wr.drew (HPx.out.1.below (Below.refl wr.heap.size wr).drew) hpn).mono ?_); rintro e v ⟨P2, d2, rfl, hO, hbv⟩; have HV := hd_ (show Below wr.heap.size wr v from below_next (Below.refl wr.heap.size wr).drew hbv); have HO := hd_ (show OwP v wr.heap.size P2 y.pn d2 ps from ⟨HPx.out.1.1, hO⟩); have yv := HC.out v HV.out; have y0v := yv.1; have y1v := yv.2.1; have y2v := yv.2.2; have f0v := (HM1.out.below HV.out).trow.freeAt (k * 9); have f1v := (HM1.out.below HV.out).trow.freeAt (k * 9 + 1); have f2v := (HM1.out.below HV.out).trow.freeAt (k * 9 + 2); have xv := (HM1.out.below HV.out).box.at_ 3 rfl; clear hO hbv yv; refine ⟨_, rfl, ?_⟩)
          all_goals
            clear y0 y1 y2 xb xb0
            have HN := hd_ ((HM1.out.below HV.out).table (x := (y, ps)) (P := P2) (pc := d2) rfl HY.out HFx.out (HO.out.base_ (show w.heap.size + 2 ≤ wr.heap.size from by have := HM1.out.res.1; omega))
              (fun g1 h1 h2 => by have := (HO.out.lt g1 h1).1; have := (HM1.out.lrow.lt g1 h2).2; omega) (fun g1 h1 h2 => by have := (HO.out.lt g1 h1).1; have := (HM1.out.trow.lt g1 h2).2; omega))
            dsimp only at HN
            go_wp2
            go_roundw
            case rel => exact ⟨k + 1, F ++ [(({ y with P := P2, pc := d2 } : Pk.Tb), ps)], by omega, by go_num, HN⟩
            case measure => simp [intOf]; omega
        · have hki : ¬ (k : Int) < (m : Int) := by omega
          have hkn : m = k := by omega
          clear hlt hk
          subst hkn
          obtain ⟨x0, x1, x2, x3⟩ := HM1.out.box.all4
          obtain ⟨y0, y1, y2, y3⟩ := HM1.out.res.all4
          obtain ⟨f0, f1, f2, f3⟩ := HM1.out.res.free4
          have hdl : L.drop n = [] := List.drop_of_length_le (by rw [HRL.out.len]; exact Nat.le_refl _)
          have hdm : M.drop m = [] := List.drop_of_length_le (by rw [HRT.out.len]; exact Nat.le_refl _)
          have htl : L.take n = L := List.take_of_length_le (by rw [HRL.out.len]; exact Nat.le_refl _)
          have htm : M.take m = M := List.take_of_length_le (by rw [HRT.out.len]; exact Nat.le_refl _)
          have HO := hd_ (show OwV wr (w.heap.size + 2) A n ca F0 B m db F by
            have h1 := HM1.out.lrow
            have h2 := HM1.out.trow
            rw [hdl, List.append_nil] at h1
            rw [hdm, List.append_nil] at h2
            exact ⟨⟨HM1.out.fl, h1, HM1.out.lfit, fun x hx => (HM1.out.lp x hx).1, fun x hx => (HM1.out.lp x hx).2.1⟩, ⟨HM1.out.gl, h2, HM1.out.tfit, fun x hx => (HM1.out.tp x hx).1, fun x hx => (HM1.out.tp x hx).2.2⟩, HM1.out.ab, fun x hx => (HM1.out.lp x hx).2.2, fun x hx => (HM1.out.tp x hx).2.1⟩)
          have HLf := hd_ (show F0.map Ed.loOf = L.map Ed.loOf by have h := HM1.out.lf; rwa [htl] at h)
          have HTf := hd_ (show F.map Ed.taOf = M.map Ed.taOf by have h := HM1.out.tf; rwa [htm] at h)
          have HZ := hd_ ((((HM1.out.res.set 0 (.int .i64 nx) (by simp)).set 1 (.int .i64 sq) (by simp)).set 2 (.slice A n ca) (by simp)).set 3 (.slice B m db) (by simp))
          have HGr := hd_ ((grown_cell wr (w.heap.size + 1) 0 (.int .i64 nx)).trans ((grown_cell _ (w.heap.size + 1) 1 (.int .i64 sq)).trans ((grown_cell _ (w.heap.size + 1) 2 (.slice A n ca)).trans (grown_cell _ (w.heap.size + 1) 3 (.slice B m db)))))
          have HBe := hd_ (HM1.out.bel.grown HGr.out HM1.out.bel.size (fun g' e => by injection e with e; omega))
          have HOf := hd_ ((HO.out.grown HGr.out (fun g e => by injection e with e; omega)).base_ (show w.heap.size ≤ w.heap.size + 2 by omega))
          clear hdl hdm htl htm HO
          go_wp2_with fail
          clear x0 x1 x2 x3 y0 y1 y2 y3 f0 f1 f2 f3 HM1 HGr
          generalize (((wr.setCell ⟨w.heap.size + 1, 0, none⟩ (.int .i64 nx)).setCell ⟨w.heap.size + 1, 1, none⟩ (.int .i64 sq)).setCell ⟨w.heap.size + 1, 2, none⟩ (.slice A n ca)).setCell ⟨w.heap.size + 1, 3, none⟩ (.slice B m db) = q at *
          obtain ⟨y0, y1, y2, y3⟩ := HZ.out.all4
          refine bodyPost_ret (v := .agg #[.int .i64 nx, .int .i64 sq, .slice A n ca, .slice B m db]) ?_ rfl ⟨A, ca, F0, B, db, F, rfl, HOf.out, HLf.out, HTf.out, HBe.out⟩
          simp [results, Tryz.results42, go_sem, y0, y1, y2, y3]
end Go.Proofs.YthfcjlndaajkfaaGreat
namespace Go.Proofs.YthfcjlndaajkfaaGreat
open Go.RowKit
set_option linter.unusedVariables false
theorem step_call3 {w : World} {ops : Array Oper} {o : Oper} {a : Act} {K : Act → World → Prop} {Q : Exit → Act → World → Prop} {E : Prop} {F : FuncId} {vx vy vz : Value} {T U R : TypeId} (hw : Region.wanted o (yielded ops a.tmps) = true) (d : Nat) (hd : o.dst = some d) (x y z : Operand)
    (ho : o.op = .call { callee := .value (.func F), args := #[x, y, z], argTypes := #[T, U, R] }) (hx : a.eval x = vx) (hy : a.eval y = vy) (hz : a.eval z = vz) (hcF : ∀ (args : Array Value) (wx : World), (callFunc F args).run Tryz.prog wx = .ok (.enter F args) wx)
    (h : Calls Tryz.prog F #[vx, vy, vz] w fun e w' => ∃ v, e = .returned v ∧ K (a.put (some d) v) w') :
    if Region.wanted o (yielded ops a.tmps) = true then Oper.wp Tryz.prog o a w K Q else E := by
  rw [if_pos hw]
  unfold Oper.wp execOp
  have e1 : a.eval (.func F) = .func (.func F) #[] #[] := rfl
  simp only [ho, resolve, invoke, Deferred.ofValue, e1, Sem.run_bind, Sem.run_pure, Result.andThen_ok, List.map_toArray, List.map_cons, List.map_nil, hx, hy, hz]
  simp only [Array.empty_append, Array.append_empty, hcF]
  refine h.mono ?_
  rintro e w' ⟨v, rfl, hk⟩
  rw [← hd] at hk
  exact hk
set_option maxRecDepth 100000 in
theorem enter_insl (args : Array Value) (w : World) : (callFunc 70 args).run Tryz.prog w = .ok (.enter 70 args) w := run_enter Tryz.func70 (by kernel_rfl) (by kernel_rfl) args w
set_option maxRecDepth 100000 in
theorem enter_inst (args : Array Value) (w : World) : (callFunc 73 args).run Tryz.prog w = .ok (.enter 73 args) w := run_enter Tryz.func73 (by kernel_rfl) (by kernel_rfl) args w
/-- What comes of an edit, done to a version behind a pointer. -/
def GivesDo (w : World) (base vb : Nat) (r : Option Ed.Ve) (e : Ending) (w' : World) : Prop :=
  Below base w w' ∧ match r with
  | none => e = .returned (.bool false)
  | some v => e = .returned (.bool true) ∧ ∃ A n c L B m d M, StV w' base vb v.nx v.sq A n c L B m d M ∧ L.map Ed.loOf = v.ls ∧ M.map Ed.taOf = v.ts
theorem Ed.lids (L : List (Ed.Lg × List (Int × Int))) : (L.map Ed.loOf).map (·.p.id) = L.map (·.1.id) := by rw [List.map_map]; rfl
theorem Ed.tids (M : List (Pk.Tb × List (Int × Int))) : (M.map Ed.taOf).map (·.p.id) = M.map (·.1.id) := by rw [List.map_map]; rfl
theorem Ed.find_lt {ids : List Int} {x : Int} {k : Nat} (h : Ed.find ids x = some k) : k < ids.length := by
  unfold Ed.find at h
  rw [List.findIdx?_eq_some_iff_getElem] at h
  exact h.1
theorem Ed.map_put {α β : Type} (f : α → β) (L : List α) (k : Nat) (x : α) : (Ed.put L k x).map f = Ed.put (L.map f) k (f x) := by unfold Ed.put; rw [List.map_append, List.map_cons, List.map_take, List.map_drop]
theorem Ed.map_cut {α β : Type} (f : α → β) (L : List α) (k : Nat) : (Ed.cut L k).map f = Ed.cut (L.map f) k := by unfold Ed.cut; rw [List.map_append, List.map_take, List.map_drop]
theorem Ed.pos_le (ids : List Int) (x : Int) : Ed.pos ids x ≤ ids.length := by unfold Ed.pos; exact (List.takeWhile_sublist _).length_le
end Go.Proofs.YthfcjlndaajkfaaGreat
namespace Go.Proofs.YthfcjlndaajkfaaGreat
open Go.RowKit
set_option linter.unusedVariables false
set_option maxRecDepth 100000 in
set_option maxHeartbeats 8000000 in
theorem do1_any {w : World} {base vb : Nat} {nx sq : Int} {A : Option Addr} {n c : Nat} {L : List (Ed.Lg × List (Int × Int))} {B : Option Addr} {m d : Nat} {M : List (Pk.Tb × List (Int × Int))} (hst : StV w base vb nx sq A n c L B m d M) (hbw : base ≤ w.heap.size) (id nn pid pep : Int) (P : Option Addr) (pn pc : Nat) (ps : List (Int × Int)) (tid tep : Int) (Q : Option Addr) (qn qc : Nat) (sz lv ct : Int) (lo hi : ByteArray) (tp : Int) (qs : List (Int × Int)) :
    Calls Tryz.prog 48 #[.pointer (some ⟨vb, 0, none⟩), .agg #[.int .i64 1, .int .i64 id, .int .i64 nn, .int .i64 pid, .int .i64 pep, .slice P pn pc, .int .i64 tid, .int .i64 tep, .slice Q qn qc, .int .i64 sz, .int .i64 lv, .int .i64 ct, .string lo, .string hi, .int .i64 tp]] w (GivesDo w base vb (Ed.do1 (⟨nx, sq, L.map Ed.loOf, M.map Ed.taOf⟩ : Ed.Ve) (⟨1, id, nn, ⟨pid, pep, ps⟩, ⟨⟨tid, tep, qs⟩, sz, lv, ct, lo, hi, tp⟩⟩ : Ed.Et))) := by
  have hal : Below w.heap.size w (w.alloc (.cells #[.int .i64 1, .int .i64 id, .int .i64 nn, .int .i64 pid, .int .i64 pep, .slice P pn pc, .int .i64 tid, .int .i64 tep, .slice Q qn qc, .int .i64 sz, .int .i64 lv, .int .i64 ct, .string lo, .string hi, .int .i64 tp] 37)) := (Below.refl _ _).alloc (Nat.le_refl _) _
  have hvb := hst.box.1
  have HX := hd_ (Holds.new w #[.int .i64 1, .int .i64 id, .int .i64 nn, .int .i64 pid, .int .i64 pep, .slice P pn pc, .int .i64 tid, .int .i64 tep, .slice Q qn qc, .int .i64 sz, .int .i64 lv, .int .i64 ct, .string lo, .string hi, .int .i64 tp] 37)
  have HS := hd_ (hst.below hal)
  have HB := hd_ (show Below base w (w.alloc (.cells #[.int .i64 1, .int .i64 id, .int .i64 nn, .int .i64 pid, .int .i64 pep, .slice P pn pc, .int .i64 tid, .int .i64 tep, .slice Q qn qc, .int .i64 sz, .int .i64 lv, .int .i64 ct, .string lo, .string hi, .int .i64 tp] 37)) from hal.mono hbw)
  clear hal
  have hd : Ed.do1 (⟨nx, sq, L.map Ed.loOf, M.map Ed.taOf⟩ : Ed.Ve) (⟨1, id, nn, ⟨pid, pep, ps⟩, ⟨⟨tid, tep, qs⟩, sz, lv, ct, lo, hi, tp⟩⟩ : Ed.Et) = if nx ≤ nn then some { (⟨nx, sq, L.map Ed.loOf, M.map Ed.taOf⟩ : Ed.Ve) with nx := nn } else none := rfl
  rw [hd]
  clear hd
  go_enter Tryz.func48, Tryz.ntmps48
  go_upto_region 1 with fail
  generalize (w.alloc (.cells #[.int .i64 1, .int .i64 id, .int .i64 nn, .int .i64 pid, .int .i64 pep, .slice P pn pc, .int .i64 tid, .int .i64 tep, .slice Q qn qc, .int .i64 sz, .int .i64 lv, .int .i64 ct, .string lo, .string hi, .int .i64 tp] 37)) = u at *
  replace HX : Hid (Holds u w.heap.size [.int .i64 1, .int .i64 id, .int .i64 nn, .int .i64 pid, .int .i64 pep, .slice P pn pc, .int .i64 tid, .int .i64 tep, .slice Q qn qc, .int .i64 sz, .int .i64 lv, .int .i64 ct, .string lo, .string hi, .int .i64 tp]) := HX
  have x0 := HX.out.at_ 0 rfl
  have xd2 : u.drew.cell? ⟨w.heap.size, 2, none⟩ = some (.int .i64 nn) := HX.out.at_ 2 rfl
  have v0 : u.drew.cell? ⟨vb, 0, none⟩ = some (.int .i64 nx) := HS.out.box.at_ 0 rfl
  have f0 : u.drew.frozen? ⟨vb, 0, none⟩ = false := HS.out.box.2.2 0
  have HF := hd_ (show StV (u.drew.setCell ⟨vb, 0, none⟩ (.int .i64 nn)) base vb nn sq A n c L B m d M from (show StV u.drew base vb nx sq A n c L B m d M from HS.out.below ((Below.refl _ _).drew)).nx_ nn)
  have HBf := hd_ (show Below base w (u.drew.setCell ⟨vb, 0, none⟩ (.int .i64 nn)) from HB.out.drew.setCell hst.lo _)
  by_cases hq : nx ≤ nn
  · rw [if_pos hq]
    go_wp2_with fail
    go_region
    all_goals
      go_wp2
      go_ret
      exact ⟨HBf.out, rfl, A, n, c, L, B, m, d, M, HF.out, rfl, rfl⟩
  · rw [if_neg hq]
    go_wp2_with fail
    go_region
    all_goals
      go_wp2
      go_ret
      exact ⟨HBf.out, rfl⟩
set_option maxRecDepth 100000 in
set_option maxHeartbeats 8000000 in
theorem do2_any {w : World} {base vb : Nat} {nx sq : Int} {A : Option Addr} {n c : Nat} {L : List (Ed.Lg × List (Int × Int))} {B : Option Addr} {m d : Nat} {M : List (Pk.Tb × List (Int × Int))} (hst : StV w base vb nx sq A n c L B m d M) (hbw : base ≤ w.heap.size) (id nn pid pep : Int) (P : Option Addr) (pn pc : Nat) (ps : List (Int × Int)) (tid tep : Int) (Q : Option Addr) (qn qc : Nat) (sz lv ct : Int) (lo hi : ByteArray) (tp : Int) (qs : List (Int × Int)) :
    Calls Tryz.prog 48 #[.pointer (some ⟨vb, 0, none⟩), .agg #[.int .i64 2, .int .i64 id, .int .i64 nn, .int .i64 pid, .int .i64 pep, .slice P pn pc, .int .i64 tid, .int .i64 tep, .slice Q qn qc, .int .i64 sz, .int .i64 lv, .int .i64 ct, .string lo, .string hi, .int .i64 tp]] w (GivesDo w base vb (Ed.do1 (⟨nx, sq, L.map Ed.loOf, M.map Ed.taOf⟩ : Ed.Ve) (⟨2, id, nn, ⟨pid, pep, ps⟩, ⟨⟨tid, tep, qs⟩, sz, lv, ct, lo, hi, tp⟩⟩ : Ed.Et))) := by
  have hal : Below w.heap.size w (w.alloc (.cells #[.int .i64 2, .int .i64 id, .int .i64 nn, .int .i64 pid, .int .i64 pep, .slice P pn pc, .int .i64 tid, .int .i64 tep, .slice Q qn qc, .int .i64 sz, .int .i64 lv, .int .i64 ct, .string lo, .string hi, .int .i64 tp] 37)) := (Below.refl _ _).alloc (Nat.le_refl _) _
  have hvb := hst.box.1
  have HX := hd_ (Holds.new w #[.int .i64 2, .int .i64 id, .int .i64 nn, .int .i64 pid, .int .i64 pep, .slice P pn pc, .int .i64 tid, .int .i64 tep, .slice Q qn qc, .int .i64 sz, .int .i64 lv, .int .i64 ct, .string lo, .string hi, .int .i64 tp] 37)
  have HS := hd_ (hst.below hal)
  have HB := hd_ (show Below base w (w.alloc (.cells #[.int .i64 2, .int .i64 id, .int .i64 nn, .int .i64 pid, .int .i64 pep, .slice P pn pc, .int .i64 tid, .int .i64 tep, .slice Q qn qc, .int .i64 sz, .int .i64 lv, .int .i64 ct, .string lo, .string hi, .int .i64 tp] 37)) from hal.mono hbw)
  clear hal
  have hd : Ed.do1 (⟨nx, sq, L.map Ed.loOf, M.map Ed.taOf⟩ : Ed.Ve) (⟨2, id, nn, ⟨pid, pep, ps⟩, ⟨⟨tid, tep, qs⟩, sz, lv, ct, lo, hi, tp⟩⟩ : Ed.Et) = if sq ≤ nn then some { (⟨nx, sq, L.map Ed.loOf, M.map Ed.taOf⟩ : Ed.Ve) with sq := nn } else none := rfl
  rw [hd]
  clear hd
  go_enter Tryz.func48, Tryz.ntmps48
  go_upto_region 1 with fail
  generalize (w.alloc (.cells #[.int .i64 2, .int .i64 id, .int .i64 nn, .int .i64 pid, .int .i64 pep, .slice P pn pc, .int .i64 tid, .int .i64 tep, .slice Q qn qc, .int .i64 sz, .int .i64 lv, .int .i64 ct, .string lo, .string hi, .int .i64 tp] 37)) = u at *
  replace HX : Hid (Holds u w.heap.size [.int .i64 2, .int .i64 id, .int .i64 nn, .int .i64 pid, .int .i64 pep, .slice P pn pc, .int .i64 tid, .int .i64 tep, .slice Q qn qc, .int .i64 sz, .int .i64 lv, .int .i64 ct, .string lo, .string hi, .int .i64 tp]) := HX
  have x0 := HX.out.at_ 0 rfl
  have xd2 : u.drew.cell? ⟨w.heap.size, 2, none⟩ = some (.int .i64 nn) := HX.out.at_ 2 rfl
  have v0 : u.drew.cell? ⟨vb, 1, none⟩ = some (.int .i64 sq) := HS.out.box.at_ 1 rfl
  have f0 : u.drew.frozen? ⟨vb, 1, none⟩ = false := HS.out.box.2.2 1
  have HF := hd_ (show StV (u.drew.setCell ⟨vb, 1, none⟩ (.int .i64 nn)) base vb nx nn A n c L B m d M from (show StV u.drew base vb nx sq A n c L B m d M from HS.out.below ((Below.refl _ _).drew)).sq_ nn)
  have HBf := hd_ (show Below base w (u.drew.setCell ⟨vb, 1, none⟩ (.int .i64 nn)) from HB.out.drew.setCell hst.lo _)
  by_cases hq : sq ≤ nn
  · rw [if_pos hq]
    go_wp2_with fail
    go_region
    all_goals
      go_wp2
      go_ret
      exact ⟨HBf.out, rfl, A, n, c, L, B, m, d, M, HF.out, rfl, rfl⟩
  · rw [if_neg hq]
    go_wp2_with fail
    go_region
    all_goals
      go_wp2
      go_ret
      exact ⟨HBf.out, rfl⟩
end Go.Proofs.YthfcjlndaajkfaaGreat
namespace Go.Proofs.YthfcjlndaajkfaaGreat
open Go.RowKit
set_option linter.unusedVariables false
theorem OwnC.newC {s : Nat} {w : World} {E : TypeId} {base : Nat} (vs : List Value) (n : Nat) (hn : vs.length = n * s) (hb : base ≤ w.heap.size) (hm : n ≤ 100000) : OwnC s (w.alloc (.cells vs.toArray E)) base E (some ⟨w.heap.size, 0, none⟩) n n vs := by
  have := World.ownsRow_lit (base := base) (e := E) (size := s) w vs.toArray n hb (by simp only [maxLen]; omega) (by simpa using hn)
  unfold OwnC
  simpa using this
theorem inslog_st {W : World} {base vb : Nat} {nx sq : Int} {A : Option Addr} {n c : Nat} {L : List (Ed.Lg × List (Int × Int))} {B : Option Addr} {m d : Nat} {M : List (Pk.Tb × List (Int × Int))} (hst : StV W base vb nx sq A n c L B m d M) (hbw : base ≤ W.heap.size) (x : Ed.Lg) (k : Nat) (hk : k ≤ n) (hn : n ≤ 50000) :
    Calls Tryz.prog 70 #[.slice A n c, .int .i64 (k : Int), .slice (some ⟨W.heap.size, 0, none⟩) 1 1] (W.alloc (.cells x.cells.toArray 62)) (GivesIns 4 62 (W.alloc (.cells x.cells.toArray 62)) base A n ((Ed.lflat (L.map (·.1))).take (k * 4) ++ x.cells ++ (Ed.lflat (L.map (·.1))).drop (k * 4))) := by
  have hal : Below W.heap.size W (W.alloc (.cells x.cells.toArray 62)) := (Below.refl _ _).alloc (Nat.le_refl _) _
  exact inslog_any base A n c (Ed.lflat (L.map (·.1))) k W.heap.size 1 W.heap.size x.cells _ ((hst.below hal).own.ls.row) hk (by omega) (Ed.lflat_one _) (OwnC.newC x.cells 1 rfl (Nat.le_refl _) (by omega)) (Ed.lcells_one x) (fun e => by have := (hst.own.ls.row.lt _ e).2; omega) (Nat.le_trans hbw hal.size)
theorem instable_st {W : World} {base vb : Nat} {nx sq : Int} {A : Option Addr} {n c : Nat} {L : List (Ed.Lg × List (Int × Int))} {B : Option Addr} {m d : Nat} {M : List (Pk.Tb × List (Int × Int))} (hst : StV W base vb nx sq A n c L B m d M) (hbw : base ≤ W.heap.size) (x : Pk.Tb) (k : Nat) (hk : k ≤ m) (hn : m ≤ 50000) :
    Calls Tryz.prog 73 #[.slice B m d, .int .i64 (k : Int), .slice (some ⟨W.heap.size, 0, none⟩) 1 1] (W.alloc (.cells x.cells.toArray 35)) (GivesIns 9 35 (W.alloc (.cells x.cells.toArray 35)) base B m ((Pk.flat (M.map (·.1))).take (k * 9) ++ x.cells ++ (Pk.flat (M.map (·.1))).drop (k * 9))) := by
  have hal : Below W.heap.size W (W.alloc (.cells x.cells.toArray 35)) := (Below.refl _ _).alloc (Nat.le_refl _) _
  exact instable_any base B m d (Pk.flat (M.map (·.1))) k W.heap.size 1 W.heap.size x.cells _ ((hst.below hal).own.ts.row) hk (by omega) (Pk.flat_one _) (OwnC.newC x.cells 1 rfl (Nat.le_refl _) (by omega)) (Pk.cells_one x) (fun e => by have := (hst.own.ts.row.lt _ e).2; omega) (Nat.le_trans hbw hal.size)
end Go.Proofs.YthfcjlndaajkfaaGreat
namespace Go.Proofs.YthfcjlndaajkfaaGreat
open Go.RowKit
set_option linter.unusedVariables false
set_option maxRecDepth 100000 in
set_option maxHeartbeats 8000000 in
theorem do3_any {w : World} {base vb : Nat} {nx sq : Int} {A : Option Addr} {n c : Nat} {L : List (Ed.Lg × List (Int × Int))} {B : Option Addr} {m d : Nat} {M : List (Pk.Tb × List (Int × Int))} (hst : StV w base vb nx sq A n c L B m d M) (hbw : base ≤ w.heap.size) (id nn pid pep : Int) (P : Option Addr) (pn pc : Nat) (ps : List (Int × Int)) (tid tep : Int) (Q : Option Addr) (qn qc : Nat) (sz lv ct : Int) (lo hi : ByteArray) (tp : Int) (qs : List (Int × Int)) (hn : n ≤ 50000) (hP : PairsOk w P pn pc ps) (hpn : pn ≤ 100000) (hpid : 1 ≤ pid ∧ pid ≤ 2147483647) (hs : (L.map (·.1.id)).Pairwise (· < ·)) (hb : ∀ y ∈ L.map (·.1.id), 0 ≤ y ∧ y ≤ 2147483647) :
    Calls Tryz.prog 48 #[.pointer (some ⟨vb, 0, none⟩), .agg #[.int .i64 3, .int .i64 id, .int .i64 nn, .int .i64 pid, .int .i64 pep, .slice P pn pc, .int .i64 tid, .int .i64 tep, .slice Q qn qc, .int .i64 sz, .int .i64 lv, .int .i64 ct, .string lo, .string hi, .int .i64 tp]] w (GivesDo w base vb (Ed.do1 (⟨nx, sq, L.map Ed.loOf, M.map Ed.taOf⟩ : Ed.Ve) (⟨3, id, nn, ⟨pid, pep, ps⟩, ⟨⟨tid, tep, qs⟩, sz, lv, ct, lo, hi, tp⟩⟩ : Ed.Et))) := by
  have hal : Below w.heap.size w (w.alloc (.cells #[.int .i64 3, .int .i64 id, .int .i64 nn, .int .i64 pid, .int .i64 pep, .slice P pn pc, .int .i64 tid, .int .i64 tep, .slice Q qn qc, .int .i64 sz, .int .i64 lv, .int .i64 ct, .string lo, .string hi, .int .i64 tp] 37)) := (Below.refl _ _).alloc (Nat.le_refl _) _
  have hvb := hst.box.1
  have HX := hd_ (Holds.new w #[.int .i64 3, .int .i64 id, .int .i64 nn, .int .i64 pid, .int .i64 pep, .slice P pn pc, .int .i64 tid, .int .i64 tep, .slice Q qn qc, .int .i64 sz, .int .i64 lv, .int .i64 ct, .string lo, .string hi, .int .i64 tp] 37)
  have HS := hd_ (hst.below hal)
  have HB := hd_ (show Below base w (w.alloc (.cells #[.int .i64 3, .int .i64 id, .int .i64 nn, .int .i64 pid, .int .i64 pep, .slice P pn pc, .int .i64 tid, .int .i64 tep, .slice Q qn qc, .int .i64 sz, .int .i64 lv, .int .i64 ct, .string lo, .string hi, .int .i64 tp] 37)) from hal.mono hbw)
  have HP := hd_ (hP.below hal)
  have hlo := hst.lo
  clear hal hP
  obtain ⟨r, hr⟩ : ∃ r, r = Ed.do1 (⟨nx, sq, L.map Ed.loOf, M.map Ed.taOf⟩ : Ed.Ve) (⟨3, id, nn, ⟨pid, pep, ps⟩, ⟨⟨tid, tep, qs⟩, sz, lv, ct, lo, hi, tp⟩⟩ : Ed.Et) := ⟨_, rfl⟩
  rw [← hr]
  have hrd : r = match Ed.find (L.map (·.1.id)) pid with | some _ => none | none => some { (⟨nx, sq, L.map Ed.loOf, M.map Ed.taOf⟩ : Ed.Ve) with ls := Ed.put (L.map Ed.loOf) (Ed.pos (L.map (·.1.id)) pid) ⟨⟨pid, pep, ps⟩, -1⟩ } := by
    rw [hr]
    show (match Ed.find ((L.map Ed.loOf).map fun l : Ed.Lo => l.p.id) pid with | some _ => none | none => some { (⟨nx, sq, L.map Ed.loOf, M.map Ed.taOf⟩ : Ed.Ve) with ls := Ed.put (L.map Ed.loOf) (Ed.pos ((L.map Ed.loOf).map fun l : Ed.Lo => l.p.id) pid) ⟨⟨pid, pep, ps⟩, -1⟩ }) = _
    rw [Ed.lids]
  have HR := hd_ hrd
  clear hr hrd
  have hk := Ed.pos_le (L.map (·.1.id)) pid
  rw [List.length_map, HS.out.own.ls.len] at hk
  go_enter Tryz.func48, Tryz.ntmps48
  go_upto_region 1 with fail
  generalize (w.alloc (.cells #[.int .i64 3, .int .i64 id, .int .i64 nn, .int .i64 pid, .int .i64 pep, .slice P pn pc, .int .i64 tid, .int .i64 tep, .slice Q qn qc, .int .i64 sz, .int .i64 lv, .int .i64 ct, .string lo, .string hi, .int .i64 tp] 37)) = u at *
  replace HX : Hid (Holds u w.heap.size [.int .i64 3, .int .i64 id, .int .i64 nn, .int .i64 pid, .int .i64 pep, .slice P pn pc, .int .i64 tid, .int .i64 tep, .slice Q qn qc, .int .i64 sz, .int .i64 lv, .int .i64 ct, .string lo, .string hi, .int .i64 tp]) := HX
  have x0 := HX.out.at_ 0 rfl
  have HCl := hd_ (fun (W : World) (hW : Below u.heap.size u W) => And.intro ((HS.out.below hW).box.at_ 2 rfl) ((HX.out.below hW).at_ 3 rfl))
  have HBin := hd_ (fun (W : World) (hW : Below u.heap.size u W) => binlog_any A n c L pid W (HS.out.own.below hW).ls.rd (by omega) hs hb ⟨by omega, hpid.2⟩)
  clear hs hb
  generalize hkk : Ed.pos (L.map (·.1.id)) pid = k at *
  generalize hfs : (Ed.find (L.map (·.1.id)) pid).isSome = fs at *
  have HFS := hd_ hfs
  clear hfs hkk
  go_wp2_with fail
  clear x0
  refine region_class (fun W => Below u.heap.size u W) (by kernel_rfl) (by kernel_rfl) ((Below.refl _ _).drew) ?_
  repeat (go_big_quiet_step ((first | (intro _; with_reducible rfl) | (intro hq; exact calls_class hq (HBin.out _ hq)) | (intro hq; obtain ⟨e0, e1⟩ := HCl.out _ hq; simp [e0, e1, Result.andThen]; with_reducible rfl))))
  refine wpQuiet_nil ?_
  intro v hv
  have HSv := hd_ (HS.out.below hv)
  have HXv := hd_ (HX.out.below hv)
  have HPv := hd_ (HP.out.below hv)
  have HBv := hd_ (show Below base w v from HB.out.trans (hv.mono (Nat.le_trans hbw HB.out.size)))
  clear hv HBin HCl HS HX HP
  have hbd : Below v.heap.size v v.drew := (Below.refl _ _).drew
  have x3 := (HXv.out.below hbd).at_ 3 rfl
  have x4 := (HXv.out.below hbd).at_ 4 rfl
  have x5 := (HXv.out.below hbd).at_ 5 rfl
  have b2 := (HSv.out.box.below hbd).at_ 2 rfl
  have HPd := hd_ (HPv.out.below hbd)
  clear hbd
  go_wp2_with fail
  go_region_law (first
    | (refine step_call1 (by simp [Region.wanted]) 66 rfl (.tmp 65) rfl rfl enter_ownp ((ownplace_any pid pep P pn pc ps v.drew HPd.out.1 hpn).mono ?_); rintro e v2 ⟨P2, d2, rfl, hO, hb2⟩; have HB2 := hd_ (show Below v.heap.size v v2 from below_next (Below.refl v.heap.size v).drew hb2); have HO2 := hd_ (show OwP v2 v.heap.size P2 pn d2 ps from ⟨HPd.out.1.1, hO⟩); have b2v := (HSv.out.box.below HB2.out).at_ 2 rfl; have HB3 := hd_ (HB2.out.alloc HB2.out.size (.cells #[.int .i64 pid, .int .i64 pep, .slice P2 pn d2, .int .i64 (-1)] 62)); have b2a := (HSv.out.box.below HB3.out).at_ 2 rfl; have HIns := hd_ (show Calls Tryz.prog 70 #[.slice A n c, .int .i64 (k : Int), .slice (some ⟨v2.heap.size, 0, none⟩) 1 1] (v2.alloc (.cells #[.int .i64 pid, .int .i64 pep, .slice P2 pn d2, .int .i64 (-1)] 62)) (GivesIns 4 62 (v2.alloc (.cells #[.int .i64 pid, .int .i64 pep, .slice P2 pn d2, .int .i64 (-1)] 62)) base A n ((Ed.lflat (L.map (·.1))).take (k * 4) ++ [.int .i64 pid, .int .i64 pep, .slice P2 pn d2, .int .i64 (-1)] ++ (Ed.lflat (L.map (·.1))).drop (k * 4))) from inslog_st (HSv.out.below HB2.out) (Nat.le_trans (Nat.le_trans hbw HBv.out.size) HB2.out.size) ⟨pid, pep, P2, pn, d2, -1⟩ k hk hn); clear hO hb2; refine ⟨_, rfl, ?_⟩)
    | (refine step_call3 (by simp [Region.wanted]) 69 rfl (.tmp 62) (.tmp 63) (.tmp 68) rfl rfl rfl rfl enter_insl (HIns.out.mono ?_); rintro e v4 ⟨A4, c4, rfl, hO4, hG4, hb4⟩; have HI4 := hd_ (And.intro hO4 (And.intro hG4 hb4)); have q2 := ((HSv.out.below HB3.out).box.grown hG4 (fun e => HSv.out.va e)).at_ 2 rfl; have qf := ((HSv.out.below HB3.out).box.grown hG4 (fun e => HSv.out.va e)).2.2 2; clear hO4 hG4 hb4; refine ⟨_, rfl, ?_⟩))
  all_goals
    have hsz2 := HB2.out.size
    have hsz3 := HB3.out.size
    have hszv := Nat.le_trans hbw HBv.out.size
    have HOA := hd_ (show OwP (v2.alloc (.cells #[.int .i64 pid, .int .i64 pep, .slice P2 pn d2, .int .i64 (-1)] 62)) v.heap.size P2 pn d2 ps from HO2.out.below ((Below.refl _ _).alloc (Nat.le_refl _) _))
    have HQ := hd_ ((HSv.out.below HB3.out).putlog (x := (⟨pid, pep, P2, pn, d2, -1⟩, ps)) hk HI4.out.1 HI4.out.2.1 HI4.out.2.2 (HOA.out.base_ (by omega))
      (fun g h1 h2 => by have := (HOA.out.lt g h1).1; have := (HSv.out.own.ls.row.lt g h2).2; omega) (fun g h1 h2 => by have := (HOA.out.lt g h1).1; have := (HSv.out.own.ts.row.lt g h2).2; omega)
      (fun e => by have := (HOA.out.lt vb e).1; have := HSv.out.box.1; omega) ⟨⟨by show _ ≤ pid; omega, by show pid ≤ _; omega⟩, by show _ ≤ (-1 : Int); decide, by show (-1 : Int) ≤ _; decide⟩)
    have HBq := hd_ (show Below base w (v4.setCell ⟨vb, 2, none⟩ (.slice A4 (n + 1) c4)) from ((HBv.out.trans (HB3.out.mono hszv)).grown HI4.out.2.1 (Nat.le_trans hszv hsz3) (fun g e => (HSv.out.own.ls.row.lt g e).1)).setCell hlo _)
    clear hsz2 hsz3 hszv
    go_wp2
    go_ret
    cases fs with
    | true =>
      have h := HR.out
      obtain ⟨y, hy⟩ := Option.isSome_iff_exists.1 HFS.out
      rw [hy] at h
      have h : r = none := h
      rw [h]
      exact ⟨HBq.out, rfl⟩
    | false =>
      have h := HR.out
      have hy : Ed.find (L.map (·.1.id)) pid = none := by cases e : Ed.find (L.map (·.1.id)) pid with
        | none => rfl
        | some _ => have := HFS.out; rw [e] at this; cases this
      rw [hy] at h
      have h : r = some { (⟨nx, sq, L.map Ed.loOf, M.map Ed.taOf⟩ : Ed.Ve) with ls := Ed.put (L.map Ed.loOf) k ⟨⟨pid, pep, ps⟩, -1⟩ } := h
      rw [h]
      exact ⟨HBq.out, rfl, _, _, _, _, _, _, _, _, HQ.out, Ed.map_put _ _ _ _, rfl⟩
end Go.Proofs.YthfcjlndaajkfaaGreat
