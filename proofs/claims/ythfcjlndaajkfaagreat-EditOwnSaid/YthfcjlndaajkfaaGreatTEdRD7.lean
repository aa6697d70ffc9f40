/- The document's do: an edit of kind 5. The document's do: an edit of kind 7. -/
import Derived.Test.YthfcjlndaajkfaaGreatTEdRC0
namespace Go.Proofs.YthfcjlndaajkfaaGreat
open Go.RowKit
set_option linter.unusedVariables false
set_option linter.unusedSimpArgs false
theorem Ed.do1_5 {v : Ed.Ve} {e : Ed.Et} (h : e.kd = 5) : Ed.do1 v e = match Ed.find (v.ls.map (·.p.id)) e.id with | none => none | some k => some { v with ls := Ed.cut v.ls k } := by unfold Ed.do1; rw [if_neg (by omega), if_neg (by omega), if_neg (by omega), if_neg (by omega), if_pos h]; rfl
theorem Ed.cut_cells_L (L : List (Ed.Lg × List (Int × Int))) (k : Nat) : ([] ++ (Ed.lflat (L.map (·.1))).take (k * 4)) ++ (Ed.lflat (L.map (·.1))).drop ((k + 1) * 4) = Ed.lflat ((Ed.cut L k).map (·.1)) := by
  rw [Ed.cut_map]
  exact Ed.cut_cells (f := Ed.Lg.cells) (s := 4) (fun _ => rfl) (L.map (·.1)) k
set_option maxRecDepth 100000 in
set_option maxHeartbeats 32000000 in
theorem rdo5_any (nx sq : Int) (A : Option Addr) (n c : Nat) (B : Option Addr) (m d : Nat) (L : List (Ed.Lg × List (Int × Int))) (M : List (Pk.Tb × List (Int × Int))) (x : Ed.Ex) (w : World) {base : Nat} (hS : StR w base A n c L B m d M) (hbw : base ≤ w.heap.size) (hx : Ed.ExOk w x) (ho : (Ed.etOf x).ok = true) (hk : (Ed.etOf x).kd = 5) (hn : n ≤ 100000) (hm : m ≤ 100000) :
    Calls Tryz.prog 50 #[.agg #[.int .i64 nx, .int .i64 sq, .slice A n c, .slice B m d], .agg x.1.cells.toArray] w (GivesRDo w base A L B M x.1.P x.1.pn x.1.t.P x.1.t.pn (Ed.do1 ⟨nx, sq, L.map Ed.loOf, M.map Ed.taOf⟩ (Ed.etOf x))) := by
  obtain ⟨⟨kd, id, nn, pid, pep, P, pn, pc, ⟨tid, tep, Q, qn, qc, sz, lv, ct, lo, hi, tp⟩⟩, ps, qs⟩ := x
  have hk : kd = 5 := hk
  subst hk
  have HO := hd_ ho
  have HEx := hd_ hx
  have HS := hd_ hS
  have HW := hd_ hbw
  obtain ⟨r, hr⟩ : ∃ r, r = Ed.do1 ⟨nx, sq, L.map Ed.loOf, M.map Ed.taOf⟩ (Ed.etOf (⟨5, id, nn, pid, pep, P, pn, pc, ⟨tid, tep, Q, qn, qc, sz, lv, ct, lo, hi, tp⟩⟩, (ps, qs))) := ⟨_, rfl⟩
  rw [← hr]
  show Calls Tryz.prog 50 #[.agg #[.int .i64 nx, .int .i64 sq, .slice A n c, .slice B m d], .agg #[.int .i64 5, .int .i64 id, .int .i64 nn, .int .i64 pid, .int .i64 pep, .slice P pn pc, .int .i64 tid, .int .i64 tep, .slice Q qn qc, .int .i64 sz, .int .i64 lv, .int .i64 ct, .string lo, .string hi, .int .i64 tp]] w (GivesRDo w base A L B M P pn Q qn r)
  have HR := hd_ hr
  have hbu : Below w.heap.size w (((w.alloc (.cells #[.int .i64 nx, .int .i64 sq, .slice A n c, .slice B m d] 25)).alloc (.cells #[.int .i64 5, .int .i64 id, .int .i64 nn, .int .i64 pid, .int .i64 pep, .slice P pn pc, .int .i64 tid, .int .i64 tep, .slice Q qn qc, .int .i64 sz, .int .i64 lv, .int .i64 ct, .string lo, .string hi, .int .i64 tp] 37)).alloc (.cells #[.int .i64 0, .int .i64 0, .slice none 0 0, .slice none 0 0] 25)) := (((Below.refl _ _).alloc (Nat.le_refl _) _).alloc (by simp) _).alloc (by simp <;> omega) _
  have HBx := hd_ (show Bx3 w [.int .i64 nx, .int .i64 sq, .slice A n c, .slice B m d] [.int .i64 5, .int .i64 id, .int .i64 nn, .int .i64 pid, .int .i64 pep, .slice P pn pc, .int .i64 tid, .int .i64 tep, .slice Q qn qc, .int .i64 sz, .int .i64 lv, .int .i64 ct, .string lo, .string hi, .int .i64 tp] (((w.alloc (.cells #[.int .i64 nx, .int .i64 sq, .slice A n c, .slice B m d] 25)).alloc (.cells #[.int .i64 5, .int .i64 id, .int .i64 nn, .int .i64 pid, .int .i64 pep, .slice P pn pc, .int .i64 tid, .int .i64 tep, .slice Q qn qc, .int .i64 sz, .int .i64 lv, .int .i64 ct, .string lo, .string hi, .int .i64 tp] 37)).alloc (.cells #[.int .i64 0, .int .i64 0, .slice none 0 0, .slice none 0 0] 25)) from ⟨((Holds.new w #[.int .i64 nx, .int .i64 sq, .slice A n c, .slice B m d] 25).alloc _).alloc _, by have h := (Holds.new (w.alloc (.cells #[.int .i64 nx, .int .i64 sq, .slice A n c, .slice B m d] 25)) #[.int .i64 5, .int .i64 id, .int .i64 nn, .int .i64 pid, .int .i64 pep, .slice P pn pc, .int .i64 tid, .int .i64 tep, .slice Q qn qc, .int .i64 sz, .int .i64 lv, .int .i64 ct, .string lo, .string hi, .int .i64 tp] 37).alloc (.cells #[.int .i64 0, .int .i64 0, .slice none 0 0, .slice none 0 0] 25); simpa using h, by have h := Holds.new ((w.alloc (.cells #[.int .i64 nx, .int .i64 sq, .slice A n c, .slice B m d] 25)).alloc (.cells #[.int .i64 5, .int .i64 id, .int .i64 nn, .int .i64 pid, .int .i64 pep, .slice P pn pc, .int .i64 tid, .int .i64 tep, .slice Q qn qc, .int .i64 sz, .int .i64 lv, .int .i64 ct, .string lo, .string hi, .int .i64 tp] 37)) #[.int .i64 0, .int .i64 0, .slice none 0 0, .slice none 0 0] 25; simpa using h, hbu⟩)
  clear hS hx ho hbw hr hbu
  go_enter Tryz.func50, Tryz.ntmps50
  go_upto_region 1 with fail
  generalize (((w.alloc (.cells #[.int .i64 nx, .int .i64 sq, .slice A n c, .slice B m d] 25)).alloc (.cells #[.int .i64 5, .int .i64 id, .int .i64 nn, .int .i64 pid, .int .i64 pep, .slice P pn pc, .int .i64 tid, .int .i64 tep, .slice Q qn qc, .int .i64 sz, .int .i64 lv, .int .i64 ct, .string lo, .string hi, .int .i64 tp] 37)).alloc (.cells #[.int .i64 0, .int .i64 0, .slice none 0 0, .slice none 0 0] 25)) = u at *
  have e0 := HBx.out.e.at_ 0 rfl
  obtain ⟨ids, hids⟩ : ∃ i, i = L.map (·.1.id) := ⟨_, rfl⟩
  have HI := hd_ hids
  clear hids
  have CL := hd_ (show Calls Tryz.prog 78 #[.agg #[.int .i64 nx, .int .i64 sq, .slice A n c, .slice B m d], .int .i64 id] u (fun e w' => e = .returned (.int .i64 (Ed.at_ ids id)) ∧ Below u.heap.size u w') from by
    rw [HI.out]
    exact rlog_any nx sq A n c B m d L id u (HS.out.below HBx.out.b).rls (by omega))
  have HBp := hd_ (fun (W : World) (hW : Below u.heap.size u W) => HBx.out.below hW)
  have b0 := HBx.out.v.at_ 0 rfl
  have b1 := HBx.out.v.at_ 1 rfl
  have b2 := HBx.out.v.at_ 2 rfl
  have b3 := HBx.out.v.at_ 3 rfl
  have ei := HBx.out.e.at_ 1 rfl
  cases hf : Ed.find ids id with
  | none =>
    rw [Ed.at_none hf] at CL
    have hr1 : r = none := by
      rw [HR.out, Ed.do1_5 rfl]
      show (match Ed.find ((L.map Ed.loOf).map (·.p.id)) id with | none => none | some k => some _) = _
      have e1 : (L.map Ed.loOf).map (·.p.id) = ids := by rw [HI.out, List.map_map]; rfl
      rw [e1, hf]
    subst hr1
    clear HR hf
    go_wp2_with fail
    refine CL.out.mono ?_
    rintro e w3 ⟨rfl, hb3⟩
    have HB4 := hd_ (HBp.out w3 hb3)
    clear CL b0 b1 b2 b3 ei hb3 HBx HBp e0
    go_upto_region 29 with fail
    obtain ⟨b0, b1, b2, b3⟩ := HB4.out.v.all4
    obtain ⟨f0, f1, f2, f3⟩ := HB4.out.z.all4
    obtain ⟨g0, g1, g2, g3⟩ := HB4.out.z.free4
    have HZ := hd_ (show Holds ((((w3.setCell ⟨w.heap.size + 2, 0, none⟩ (.int .i64 nx)).setCell ⟨w.heap.size + 2, 1, none⟩ (.int .i64 sq)).setCell ⟨w.heap.size + 2, 2, none⟩ (.slice A n c)).setCell ⟨w.heap.size + 2, 3, none⟩ (.slice B m d)) (w.heap.size + 2) [.int .i64 nx, .int .i64 sq, .slice A n c, .slice B m d] from HB4.out.z.put4 _ _ _ _)
    have HBz := hd_ (show Below w.heap.size w ((((w3.setCell ⟨w.heap.size + 2, 0, none⟩ (.int .i64 nx)).setCell ⟨w.heap.size + 2, 1, none⟩ (.int .i64 sq)).setCell ⟨w.heap.size + 2, 2, none⟩ (.slice A n c)).setCell ⟨w.heap.size + 2, 3, none⟩ (.slice B m d)) from HB4.out.b.grown (grown4 _ _ _ _ _ _) HB4.out.b.size (fun g e => by injection e with e; omega))
    go_wp2_with fail
    clear b0 b1 b2 b3 f0 f1 f2 f3 g0 g1 g2 g3
    generalize ((((w3.setCell ⟨w.heap.size + 2, 0, none⟩ (.int .i64 nx)).setCell ⟨w.heap.size + 2, 1, none⟩ (.int .i64 sq)).setCell ⟨w.heap.size + 2, 2, none⟩ (.slice A n c)).setCell ⟨w.heap.size + 2, 3, none⟩ (.slice B m d)) = z at *
    obtain ⟨y0, y1, y2, y3⟩ := HZ.out.all4
    refine bodyPost_ret (v := .tuple #[.agg #[.int .i64 nx, .int .i64 sq, .slice A n c, .slice B m d], .bool false]) ?_ rfl (⟨nx, sq, A, n, c, L, B, m, d, M, rfl, grown_any _ HBz.out, fun v hv => (by cases hv)⟩)
    simp [results, Tryz.results50, go_sem, y0, y1, y2, y3]
  | some k =>
    rw [Ed.at_some hf] at CL
    have hk : k < n := by have := Ed.find_lt2 hf; rw [HI.out, List.length_map] at this; have h2 := HS.out.ll; omega
    have hr1 : r = some ⟨nx, sq, (Ed.cut L k).map Ed.loOf, M.map Ed.taOf⟩ := by
      rw [HR.out, Ed.do1_5 rfl]
      show (match Ed.find ((L.map Ed.loOf).map (·.p.id)) id with | none => none | some k => some _) = _
      have e1 : (L.map Ed.loOf).map (·.p.id) = ids := by rw [HI.out, List.map_map]; rfl
      rw [e1, hf]
      exact congrArg some (by rw [Ed.cut_map])
    subst hr1
    clear HR hf
    have hk0 : ¬ ((k : Int) < 0) := by omega
    go_wp2_with fail
    refine CL.out.mono ?_
    rintro e w3 ⟨rfl, hb3⟩
    have HB4 := hd_ (HBp.out w3 hb3)
    clear CL b0 b1 b2 b3 ei hb3 HBx HBp e0
    go_upto_region 30 with fail
    have HOw := hd_ (HS.out.below HB4.out.b)
    obtain ⟨j, hj⟩ : ∃ j, j = k + 1 := ⟨_, rfl⟩
    have hkj : (k : Int) + 1 = (j : Int) := by omega
    have hwj : IntKind.i64.wrap (j : Int) = (j : Int) := Ed.wrap_nat (by omega)
    have hjn : j ≤ n := by omega
    have HJ := hd_ hj
    clear hj
    have hto := fun (W : World) => run_toS manyL A n c k (Nat.le_of_lt hk) HOw.out.la.fits W
    have hfrom := fun (W : World) => run_fromS manyL A n c j hjn HOw.out.la.fits W
    have HBd := hd_ (HB4.out.below (show Below w3.heap.size w3 w3.drew from (Below.refl _ _).drew))
    have hT0 := hd_ (show w3.drew.cell? ⟨w.heap.size, 2, none⟩ = some (.slice A n c) from (HBd.out).v.at_ 2 rfl)
    refine wp_region_T (fun W => True) (fun W => W.cell? ⟨w.heap.size, 2, none⟩ = some (.slice A n c)) 13 (by kernel_rfl) ?_
    refine tkT (i := 1) trivial (fun _ => hT0.out) ?_; try walk_nrm
    refine tkW (i := 2) trivial hT0.out ?_; try walk_nrm
    refine tkT (i := 3) trivial (fun _ => hT0.out) ?_; try walk_nrm
    refine tkT (i := 4) trivial (fun _ => hT0.out) ?_; try walk_nrm
    refine tkT (i := 6) trivial (fun _ => hT0.out) ?_; try walk_nrm
    refine tkW (i := 7) trivial hT0.out ?_; try walk_nrm
    refine tkT (i := 8) trivial (fun _ => hT0.out) ?_; try walk_nrm
    refine tkT (i := 9) trivial (fun _ => hT0.out) ?_; try walk_nrm
    refine tkT (i := 10) trivial (fun _ => hT0.out) ?_; try walk_nrm
    clear hto hfrom
    refine wpAnyT_one (i := 0) (by kernel_rfl) rfl (fun K hK => ?_)
    try walk_nrm
    rw [if_pos (by rfl)]
    go_simp
    have hal : Below w3.heap.size w3 (w3.alloc (.cells #[] 62)).drew := ((Below.refl _ _).alloc (Nat.le_refl _) _).drew
    have HB5 := hd_ (HB4.out.below hal)
    have HO5 := hd_ (show OwnC 4 (w3.alloc (.cells #[] 62)).drew (w.heap.size + 3) 62 (some ⟨w3.heap.size, 0, none⟩) 0 0 [] from (OwnC.empty 4 w3 62 (w.heap.size + 3) HB4.out.room).below (Below.refl _ _).drew)
    have HS5 := hd_ (HOw.out.below hal)
    have hT := hd_ (show (w3.alloc (.cells #[] 62)).drew.cell? ⟨w.heap.size, 2, none⟩ = some (.slice A n c) from (HB5.out).v.at_ 2 rfl)
    refine hK.out _ _ trivial (fun _ => hT.out) ?_
    clear hK hT
    try walk_nrm
    clear hal
    generalize (w3.alloc (.cells #[] 62)).drew = z5 at *
    refine wpAnyT_one (i := 5) (by kernel_rfl) rfl (fun K hK => ?_)
    refine step_appN manyL (by rfl) 143 rfl (.tmp 138) (.tmp 142) rfl rfl HO5.out A k c ((Ed.lflat (L.map (·.1))).take (k * 4)) (fun u hu => Ed.lflat_one _ u (List.mem_of_mem_take hu)) rfl (HS5.out.la.rd.take (Nat.le_of_lt hk)) (by omega) HB5.out.room ?_
    intro A6 c6 z6 hg
    have HB6 := hd_ (HB5.out.app hg (fun g h => (HO5.out.blk g h).1))
    have HO6 := hd_ hg.own
    have HS6 := hd_ (HS.out.below HB6.out.b)
    have hT := hd_ (show z6.cell? ⟨w.heap.size, 2, none⟩ = some (.slice A n c) from (HB6.out).v.at_ 2 rfl)
    refine hK.out _ _ trivial (fun _ => hT.out) ?_
    clear hK hT hg
    try walk_nrm
    refine wpAnyT_one (i := 11) (by kernel_rfl) rfl (fun K hK => ?_)
    refine step_appN manyL (by rfl) 149 rfl (.tmp 143) (.tmp 148) rfl rfl HO6.out (behindS 4 A c j) (n - j) (c - j) ((Ed.lflat (L.map (·.1))).drop (j * 4)) (fun u hu => Ed.lflat_one _ u (List.mem_of_mem_drop hu)) rfl (HS6.out.la.rd.from_ hjn HS6.out.la.fits) (by omega) HB6.out.room ?_
    intro A7 c7 z7 hg
    have HB7 := hd_ (HB6.out.app hg (fun g h => (HO6.out.blk g h).1))
    have HO7 := hd_ hg.own
    have hT := hd_ (show z7.cell? ⟨w.heap.size, 2, none⟩ = some (.slice A n c) from (HB7.out).v.at_ 2 rfl)
    refine hK.out _ _ trivial (fun _ => hT.out) ?_
    clear hK hg
    try walk_nrm
    refine tkT (i := 12) trivial (fun _ => hT.out) ?_; try walk_nrm
    refine wpAnyT_one (i := 13) (by kernel_rfl) rfl (fun K hK => ?_)
    try walk_nrm
    rw [if_pos (by rfl)]
    have xq := HB7.out.v.at_ 2 rfl
    have gq := HB7.out.v.2.2 2
    go_simp
    clear xq gq
    have HBs := hd_ (show Bx3 w [.int .i64 nx, .int .i64 sq, .slice A7 (k + (n - j)) c7, .slice B m d] [.int .i64 5, .int .i64 id, .int .i64 nn, .int .i64 pid, .int .i64 pep, .slice P pn pc, .int .i64 tid, .int .i64 tep, .slice Q qn qc, .int .i64 sz, .int .i64 lv, .int .i64 ct, .string lo, .string hi, .int .i64 tp] (z7.setCell ⟨w.heap.size, 2, none⟩ (.slice A7 (k + (n - j)) c7)) from HB7.out.set 2 _ (by simp))
    have hO_ := HO7.out
    rw [Nat.zero_add] at hO_
    have HOs := hd_ (show OwnC 4 (z7.setCell ⟨w.heap.size, 2, none⟩ (.slice A7 (k + (n - j)) c7)) (w.heap.size + 3) 62 A7 (k + (n - j)) c7 _ from hO_.past1 (by omega))
    clear hO_
    refine hK.out _ _ trivial (fun h => Bool.noConfusion (h : true = false)) ?_
    clear hK hT
    try walk_nrm
    generalize (z7.setCell ⟨w.heap.size, 2, none⟩ (.slice A7 (k + (n - j)) c7)) = zf at *
    refine wpAnyT_done (by kernel_rfl) ?_ _
    have en : k + (n - j) = n - 1 := by have := HJ.out; omega
    rw [en] at HBs HOs
    rw [en]
    rw [HJ.out] at HOs
    rw [Ed.cut_cells_L L k] at HOs
    clear HB4 HOw hkj hwj hjn HJ
    obtain ⟨b0, b1, b2, b3⟩ := HBs.out.v.all4
    obtain ⟨f0, f1, f2, f3⟩ := HBs.out.z.all4
    obtain ⟨g0, g1, g2, g3⟩ := HBs.out.z.free4
    have HZ := hd_ (show Holds ((((zf.setCell ⟨w.heap.size + 2, 0, none⟩ (.int .i64 nx)).setCell ⟨w.heap.size + 2, 1, none⟩ (.int .i64 sq)).setCell ⟨w.heap.size + 2, 2, none⟩ (.slice A7 (n - 1) c7)).setCell ⟨w.heap.size + 2, 3, none⟩ (.slice B m d)) (w.heap.size + 2) [.int .i64 nx, .int .i64 sq, .slice A7 (n - 1) c7, .slice B m d] from HBs.out.z.put4 _ _ _ _)
    have HBz := hd_ (show Below w.heap.size w ((((zf.setCell ⟨w.heap.size + 2, 0, none⟩ (.int .i64 nx)).setCell ⟨w.heap.size + 2, 1, none⟩ (.int .i64 sq)).setCell ⟨w.heap.size + 2, 2, none⟩ (.slice A7 (n - 1) c7)).setCell ⟨w.heap.size + 2, 3, none⟩ (.slice B m d)) from HBs.out.b.grown (grown4 _ _ _ _ _ _) HBs.out.b.size (fun g e => by injection e with e; omega))
    have HO9 := hd_ (show OwnC 4 ((((zf.setCell ⟨w.heap.size + 2, 0, none⟩ (.int .i64 nx)).setCell ⟨w.heap.size + 2, 1, none⟩ (.int .i64 sq)).setCell ⟨w.heap.size + 2, 2, none⟩ (.slice A7 (n - 1) c7)).setCell ⟨w.heap.size + 2, 3, none⟩ (.slice B m d)) (w.heap.size + 3) 62 A7 (n - 1) c7 _ from HOs.out.past4 (by omega))
    go_wp2_with fail
    clear b0 b1 b2 b3 f0 f1 f2 f3 g0 g1 g2 g3
    generalize ((((zf.setCell ⟨w.heap.size + 2, 0, none⟩ (.int .i64 nx)).setCell ⟨w.heap.size + 2, 1, none⟩ (.int .i64 sq)).setCell ⟨w.heap.size + 2, 2, none⟩ (.slice A7 (n - 1) c7)).setCell ⟨w.heap.size + 2, 3, none⟩ (.slice B m d)) = z at *
    obtain ⟨y0, y1, y2, y3⟩ := HZ.out.all4
    refine bodyPost_ret (v := .tuple #[.agg #[.int .i64 nx, .int .i64 sq, .slice A7 (n - 1) c7, .slice B m d], .bool true]) ?_ rfl (⟨nx, sq, A7, n - 1, c7, Ed.cut L k, B, m, d, M, rfl, grown_any _ HBz.out, fun v hv => ⟨(Option.some.inj hv).symm, StR.logs HS.out HW.out HBz.out (by rw [Ed.cut_length (by rw [HS.out.ll]; exact hk), HS.out.ll]) (HO9.out.base_ (by omega)) (fun y hy => HS.out.lp y (Ed.cut_mem hy)), fun b hb hf h1 h2 => ⟨fun e => by have := (HO9.out.lt b e).1; omega, hf.2.1, fun y hy hn => hf.2.2.1 y (Ed.cut_mem hy) hn, hf.2.2.2⟩⟩⟩)
    simp [results, Tryz.results50, go_sem, y0, y1, y2, y3]
end Go.Proofs.YthfcjlndaajkfaaGreat
namespace Go.Proofs.YthfcjlndaajkfaaGreat
open Go.RowKit
set_option linter.unusedVariables false
set_option linter.unusedSimpArgs false
theorem Ed.do1_7 {v : Ed.Ve} {e : Ed.Et} (h : e.kd = 7) : Ed.do1 v e = match Ed.find (v.ts.map (·.p.id)) e.id with | none => none | some k => some { v with ts := Ed.cut v.ts k } := by unfold Ed.do1; rw [if_neg (by omega), if_neg (by omega), if_neg (by omega), if_neg (by omega), if_neg (by omega), if_neg (by omega)]; rfl
theorem Ed.cut_cells_T (L : List (Pk.Tb × List (Int × Int))) (k : Nat) : ([] ++ (Pk.flat (L.map (·.1))).take (k * 9)) ++ (Pk.flat (L.map (·.1))).drop ((k + 1) * 9) = Pk.flat ((Ed.cut L k).map (·.1)) := by
  rw [Ed.cut_map]
  exact Ed.cut_cells (f := Pk.Tb.cells) (s := 9) (fun _ => rfl) (L.map (·.1)) k
set_option maxRecDepth 100000 in
set_option maxHeartbeats 32000000 in
theorem rdo7_any (nx sq : Int) (A : Option Addr) (n c : Nat) (B : Option Addr) (m d : Nat) (L : List (Ed.Lg × List (Int × Int))) (M : List (Pk.Tb × List (Int × Int))) (x : Ed.Ex) (w : World) {base : Nat} (hS : StR w base A n c L B m d M) (hbw : base ≤ w.heap.size) (hx : Ed.ExOk w x) (ho : (Ed.etOf x).ok = true) (hk : (Ed.etOf x).kd = 7) (hn : n ≤ 100000) (hm : m ≤ 100000) :
    Calls Tryz.prog 50 #[.agg #[.int .i64 nx, .int .i64 sq, .slice A n c, .slice B m d], .agg x.1.cells.toArray] w (GivesRDo w base A L B M x.1.P x.1.pn x.1.t.P x.1.t.pn (Ed.do1 ⟨nx, sq, L.map Ed.loOf, M.map Ed.taOf⟩ (Ed.etOf x))) := by
  obtain ⟨⟨kd, id, nn, pid, pep, P, pn, pc, ⟨tid, tep, Q, qn, qc, sz, lv, ct, lo, hi, tp⟩⟩, ps, qs⟩ := x
  have hk : kd = 7 := hk
  subst hk
  have HO := hd_ ho
  have HEx := hd_ hx
  have HS := hd_ hS
  have HW := hd_ hbw
  obtain ⟨r, hr⟩ : ∃ r, r = Ed.do1 ⟨nx, sq, L.map Ed.loOf, M.map Ed.taOf⟩ (Ed.etOf (⟨7, id, nn, pid, pep, P, pn, pc, ⟨tid, tep, Q, qn, qc, sz, lv, ct, lo, hi, tp⟩⟩, (ps, qs))) := ⟨_, rfl⟩
  rw [← hr]
  show Calls Tryz.prog 50 #[.agg #[.int .i64 nx, .int .i64 sq, .slice A n c, .slice B m d], .agg #[.int .i64 7, .int .i64 id, .int .i64 nn, .int .i64 pid, .int .i64 pep, .slice P pn pc, .int .i64 tid, .int .i64 tep, .slice Q qn qc, .int .i64 sz, .int .i64 lv, .int .i64 ct, .string lo, .string hi, .int .i64 tp]] w (GivesRDo w base A L B M P pn Q qn r)
  have HR := hd_ hr
  have hbu : Below w.heap.size w (((w.alloc (.cells #[.int .i64 nx, .int .i64 sq, .slice A n c, .slice B m d] 25)).alloc (.cells #[.int .i64 7, .int .i64 id, .int .i64 nn, .int .i64 pid, .int .i64 pep, .slice P pn pc, .int .i64 tid, .int .i64 tep, .slice Q qn qc, .int .i64 sz, .int .i64 lv, .int .i64 ct, .string lo, .string hi, .int .i64 tp] 37)).alloc (.cells #[.int .i64 0, .int .i64 0, .slice none 0 0, .slice none 0 0] 25)) := (((Below.refl _ _).alloc (Nat.le_refl _) _).alloc (by simp) _).alloc (by simp <;> omega) _
  have HBx := hd_ (show Bx3 w [.int .i64 nx, .int .i64 sq, .slice A n c, .slice B m d] [.int .i64 7, .int .i64 id, .int .i64 nn, .int .i64 pid, .int .i64 pep, .slice P pn pc, .int .i64 tid, .int .i64 tep, .slice Q qn qc, .int .i64 sz, .int .i64 lv, .int .i64 ct, .string lo, .string hi, .int .i64 tp] (((w.alloc (.cells #[.int .i64 nx, .int .i64 sq, .slice A n c, .slice B m d] 25)).alloc (.cells #[.int .i64 7, .int .i64 id, .int .i64 nn, .int .i64 pid, .int .i64 pep, .slice P pn pc, .int .i64 tid, .int .i64 tep, .slice Q qn qc, .int .i64 sz, .int .i64 lv, .int .i64 ct, .string lo, .string hi, .int .i64 tp] 37)).alloc (.cells #[.int .i64 0, .int .i64 0, .slice none 0 0, .slice none 0 0] 25)) from ⟨((Holds.new w #[.int .i64 nx, .int .i64 sq, .slice A n c, .slice B m d] 25).alloc _).alloc _, by have h := (Holds.new (w.alloc (.cells #[.int .i64 nx, .int .i64 sq, .slice A n c, .slice B m d] 25)) #[.int .i64 7, .int .i64 id, .int .i64 nn, .int .i64 pid, .int .i64 pep, .slice P pn pc, .int .i64 tid, .int .i64 tep, .slice Q qn qc, .int .i64 sz, .int .i64 lv, .int .i64 ct, .string lo, .string hi, .int .i64 tp] 37).alloc (.cells #[.int .i64 0, .int .i64 0, .slice none 0 0, .slice none 0 0] 25); simpa using h, by have h := Holds.new ((w.alloc (.cells #[.int .i64 nx, .int .i64 sq, .slice A n c, .slice B m d] 25)).alloc (.cells #[.int .i64 7, .int .i64 id, .int .i64 nn, .int .i64 pid, .int .i64 pep, .slice P pn pc, .int .i64 tid, .int .i64 tep, .slice Q qn qc, .int .i64 sz, .int .i64 lv, .int .i64 ct, .string lo, .string hi, .int .i64 tp] 37)) #[.int .i64 0, .int .i64 0, .slice none 0 0, .slice none 0 0] 25; simpa using h, hbu⟩)
  clear hS hx ho hbw hr hbu
  go_enter Tryz.func50, Tryz.ntmps50
  go_upto_region 1 with fail
  generalize (((w.alloc (.cells #[.int .i64 nx, .int .i64 sq, .slice A n c, .slice B m d] 25)).alloc (.cells #[.int .i64 7, .int .i64 id, .int .i64 nn, .int .i64 pid, .int .i64 pep, .slice P pn pc, .int .i64 tid, .int .i64 tep, .slice Q qn qc, .int .i64 sz, .int .i64 lv, .int .i64 ct, .string lo, .string hi, .int .i64 tp] 37)).alloc (.cells #[.int .i64 0, .int .i64 0, .slice none 0 0, .slice none 0 0] 25)) = u at *
  have e0 := HBx.out.e.at_ 0 rfl
  obtain ⟨ids, hids⟩ : ∃ i, i = M.map (·.1.id) := ⟨_, rfl⟩
  have HI := hd_ hids
  clear hids
  have CL := hd_ (show Calls Tryz.prog 79 #[.agg #[.int .i64 nx, .int .i64 sq, .slice A n c, .slice B m d], .int .i64 id] u (fun e w' => e = .returned (.int .i64 (Ed.at_ ids id)) ∧ Below u.heap.size u w') from by
    rw [HI.out]
    exact rtable_any nx sq A n c B m d M id u (HS.out.below HBx.out.b).rts (by omega))
  have HBp := hd_ (fun (W : World) (hW : Below u.heap.size u W) => HBx.out.below hW)
  have b0 := HBx.out.v.at_ 0 rfl
  have b1 := HBx.out.v.at_ 1 rfl
  have b2 := HBx.out.v.at_ 2 rfl
  have b3 := HBx.out.v.at_ 3 rfl
  have ei := HBx.out.e.at_ 1 rfl
  cases hf : Ed.find ids id with
  | none =>
    rw [Ed.at_none hf] at CL
    have hr1 : r = none := by
      rw [HR.out, Ed.do1_7 rfl]
      show (match Ed.find ((M.map Ed.taOf).map (·.p.id)) id with | none => none | some k => some _) = _
      have e1 : (M.map Ed.taOf).map (·.p.id) = ids := by rw [HI.out, List.map_map]; rfl
      rw [e1, hf]
    subst hr1
    clear HR hf
    go_wp2_with fail
    refine CL.out.mono ?_
    rintro e w3 ⟨rfl, hb3⟩
    have HB4 := hd_ (HBp.out w3 hb3)
    clear CL b0 b1 b2 b3 ei hb3 HBx HBp e0
    go_upto_region 5 with fail
    obtain ⟨b0, b1, b2, b3⟩ := HB4.out.v.all4
    obtain ⟨f0, f1, f2, f3⟩ := HB4.out.z.all4
    obtain ⟨g0, g1, g2, g3⟩ := HB4.out.z.free4
    have HZ := hd_ (show Holds ((((w3.setCell ⟨w.heap.size + 2, 0, none⟩ (.int .i64 nx)).setCell ⟨w.heap.size + 2, 1, none⟩ (.int .i64 sq)).setCell ⟨w.heap.size + 2, 2, none⟩ (.slice A n c)).setCell ⟨w.heap.size + 2, 3, none⟩ (.slice B m d)) (w.heap.size + 2) [.int .i64 nx, .int .i64 sq, .slice A n c, .slice B m d] from HB4.out.z.put4 _ _ _ _)
    have HBz := hd_ (show Below w.heap.size w ((((w3.setCell ⟨w.heap.size + 2, 0, none⟩ (.int .i64 nx)).setCell ⟨w.heap.size + 2, 1, none⟩ (.int .i64 sq)).setCell ⟨w.heap.size + 2, 2, none⟩ (.slice A n c)).setCell ⟨w.heap.size + 2, 3, none⟩ (.slice B m d)) from HB4.out.b.grown (grown4 _ _ _ _ _ _) HB4.out.b.size (fun g e => by injection e with e; omega))
    go_wp2_with fail
    clear b0 b1 b2 b3 f0 f1 f2 f3 g0 g1 g2 g3
    generalize ((((w3.setCell ⟨w.heap.size + 2, 0, none⟩ (.int .i64 nx)).setCell ⟨w.heap.size + 2, 1, none⟩ (.int .i64 sq)).setCell ⟨w.heap.size + 2, 2, none⟩ (.slice A n c)).setCell ⟨w.heap.size + 2, 3, none⟩ (.slice B m d)) = z at *
    obtain ⟨y0, y1, y2, y3⟩ := HZ.out.all4
    refine bodyPost_ret (v := .tuple #[.agg #[.int .i64 nx, .int .i64 sq, .slice A n c, .slice B m d], .bool false]) ?_ rfl (⟨nx, sq, A, n, c, L, B, m, d, M, rfl, grown_any _ HBz.out, fun v hv => (by cases hv)⟩)
    simp [results, Tryz.results50, go_sem, y0, y1, y2, y3]
  | some k =>
    rw [Ed.at_some hf] at CL
    have hk : k < m := by have := Ed.find_lt2 hf; rw [HI.out, List.length_map] at this; have h2 := HS.out.tl; omega
    have hr1 : r = some ⟨nx, sq, L.map Ed.loOf, (Ed.cut M k).map Ed.taOf⟩ := by
      rw [HR.out, Ed.do1_7 rfl]
      show (match Ed.find ((M.map Ed.taOf).map (·.p.id)) id with | none => none | some k => some _) = _
      have e1 : (M.map Ed.taOf).map (·.p.id) = ids := by rw [HI.out, List.map_map]; rfl
      rw [e1, hf]
      exact congrArg some (by rw [Ed.cut_map])
    subst hr1
    clear HR hf
    have hk0 : ¬ ((k : Int) < 0) := by omega
    go_wp2_with fail
    refine CL.out.mono ?_
    rintro e w3 ⟨rfl, hb3⟩
    have HB4 := hd_ (HBp.out w3 hb3)
    clear CL b0 b1 b2 b3 ei hb3 HBx HBp e0
    go_upto_region 6 with fail
    have HOw := hd_ (HS.out.below HB4.out.b)
    obtain ⟨j, hj⟩ : ∃ j, j = k + 1 := ⟨_, rfl⟩
    have hkj : (k : Int) + 1 = (j : Int) := by omega
    have hwj : IntKind.i64.wrap (j : Int) = (j : Int) := Ed.wrap_nat (by omega)
    have hjn : j ≤ m := by omega
    have HJ := hd_ hj
    clear hj
    have hto := fun (W : World) => run_toS manyAT B m d k (Nat.le_of_lt hk) HOw.out.ta.fits W
    have hfrom := fun (W : World) => run_fromS manyAT B m d j hjn HOw.out.ta.fits W
    have HBd := hd_ (HB4.out.below (show Below w3.heap.size w3 w3.drew from (Below.refl _ _).drew))
    have hT0 := hd_ (show w3.drew.cell? ⟨w.heap.size, 3, none⟩ = some (.slice B m d) from (HBd.out).v.at_ 3 rfl)
    refine wp_region_T (fun W => True) (fun W => W.cell? ⟨w.heap.size, 3, none⟩ = some (.slice B m d)) 13 (by kernel_rfl) ?_
    refine tkT (i := 1) trivial (fun _ => hT0.out) ?_; try walk_nrm
    refine tkW (i := 2) trivial hT0.out ?_; try walk_nrm
    refine tkT (i := 3) trivial (fun _ => hT0.out) ?_; try walk_nrm
    refine tkT (i := 4) trivial (fun _ => hT0.out) ?_; try walk_nrm
    refine tkT (i := 6) trivial (fun _ => hT0.out) ?_; try walk_nrm
    refine tkW (i := 7) trivial hT0.out ?_; try walk_nrm
    refine tkT (i := 8) trivial (fun _ => hT0.out) ?_; try walk_nrm
    refine tkT (i := 9) trivial (fun _ => hT0.out) ?_; try walk_nrm
    refine tkT (i := 10) trivial (fun _ => hT0.out) ?_; try walk_nrm
    clear hto hfrom
    refine wpAnyT_one (i := 0) (by kernel_rfl) rfl (fun K hK => ?_)
    try walk_nrm
    rw [if_pos (by rfl)]
    go_simp
    have hal : Below w3.heap.size w3 (w3.alloc (.cells #[] 35)).drew := ((Below.refl _ _).alloc (Nat.le_refl _) _).drew
    have HB5 := hd_ (HB4.out.below hal)
    have HO5 := hd_ (show OwnC 9 (w3.alloc (.cells #[] 35)).drew (w.heap.size + 3) 35 (some ⟨w3.heap.size, 0, none⟩) 0 0 [] from (OwnC.empty 9 w3 35 (w.heap.size + 3) HB4.out.room).below (Below.refl _ _).drew)
    have HS5 := hd_ (HOw.out.below hal)
    have hT := hd_ (show (w3.alloc (.cells #[] 35)).drew.cell? ⟨w.heap.size, 3, none⟩ = some (.slice B m d) from (HB5.out).v.at_ 3 rfl)
    refine hK.out _ _ trivial (fun _ => hT.out) ?_
    clear hK hT
    try walk_nrm
    clear hal
    generalize (w3.alloc (.cells #[] 35)).drew = z5 at *
    refine wpAnyT_one (i := 5) (by kernel_rfl) rfl (fun K hK => ?_)
    refine step_appN manyAT (by rfl) 25 rfl (.tmp 20) (.tmp 24) rfl rfl HO5.out B k d ((Pk.flat (M.map (·.1))).take (k * 9)) (fun u hu => Pk.flat_one _ u (List.mem_of_mem_take hu)) rfl (HS5.out.ta.rd.take (Nat.le_of_lt hk)) (by omega) HB5.out.room ?_
    intro A6 c6 z6 hg
    have HB6 := hd_ (HB5.out.app hg (fun g h => (HO5.out.blk g h).1))
    have HO6 := hd_ hg.own
    have HS6 := hd_ (HS.out.below HB6.out.b)
    have hT := hd_ (show z6.cell? ⟨w.heap.size, 3, none⟩ = some (.slice B m d) from (HB6.out).v.at_ 3 rfl)
    refine hK.out _ _ trivial (fun _ => hT.out) ?_
    clear hK hT hg
    try walk_nrm
    refine wpAnyT_one (i := 11) (by kernel_rfl) rfl (fun K hK => ?_)
    refine step_appN manyAT (by rfl) 31 rfl (.tmp 25) (.tmp 30) rfl rfl HO6.out (behindS 9 B d j) (m - j) (d - j) ((Pk.flat (M.map (·.1))).drop (j * 9)) (fun u hu => Pk.flat_one _ u (List.mem_of_mem_drop hu)) rfl (HS6.out.ta.rd.from_ hjn HS6.out.ta.fits) (by omega) HB6.out.room ?_
    intro A7 c7 z7 hg
    have HB7 := hd_ (HB6.out.app hg (fun g h => (HO6.out.blk g h).1))
    have HO7 := hd_ hg.own
    have hT := hd_ (show z7.cell? ⟨w.heap.size, 3, none⟩ = some (.slice B m d) from (HB7.out).v.at_ 3 rfl)
    refine hK.out _ _ trivial (fun _ => hT.out) ?_
    clear hK hg
    try walk_nrm
    refine tkT (i := 12) trivial (fun _ => hT.out) ?_; try walk_nrm
    refine wpAnyT_one (i := 13) (by kernel_rfl) rfl (fun K hK => ?_)
    try walk_nrm
    rw [if_pos (by rfl)]
    have xq := HB7.out.v.at_ 3 rfl
    have gq := HB7.out.v.2.2 3
    go_simp
    clear xq gq
    have HBs := hd_ (show Bx3 w [.int .i64 nx, .int .i64 sq, .slice A n c, .slice A7 (k + (m - j)) c7] [.int .i64 7, .int .i64 id, .int .i64 nn, .int .i64 pid, .int .i64 pep, .slice P pn pc, .int .i64 tid, .int .i64 tep, .slice Q qn qc, .int .i64 sz, .int .i64 lv, .int .i64 ct, .string lo, .string hi, .int .i64 tp] (z7.setCell ⟨w.heap.size, 3, none⟩ (.slice A7 (k + (m - j)) c7)) from HB7.out.set 3 _ (by simp))
    have hO_ := HO7.out
    rw [Nat.zero_add] at hO_
    have HOs := hd_ (show OwnC 9 (z7.setCell ⟨w.heap.size, 3, none⟩ (.slice A7 (k + (m - j)) c7)) (w.heap.size + 3) 35 A7 (k + (m - j)) c7 _ from hO_.past1 (by omega))
    clear hO_
    refine hK.out _ _ trivial (fun h => Bool.noConfusion (h : true = false)) ?_
    clear hK hT
    try walk_nrm
    generalize (z7.setCell ⟨w.heap.size, 3, none⟩ (.slice A7 (k + (m - j)) c7)) = zf at *
    refine wpAnyT_done (by kernel_rfl) ?_ _
    have en : k + (m - j) = m - 1 := by have := HJ.out; omega
    rw [en] at HBs HOs
    rw [en]
    rw [HJ.out] at HOs
    rw [Ed.cut_cells_T M k] at HOs
    clear HB4 HOw hkj hwj hjn HJ
    obtain ⟨b0, b1, b2, b3⟩ := HBs.out.v.all4
    obtain ⟨f0, f1, f2, f3⟩ := HBs.out.z.all4
    obtain ⟨g0, g1, g2, g3⟩ := HBs.out.z.free4
    have HZ := hd_ (show Holds ((((zf.setCell ⟨w.heap.size + 2, 0, none⟩ (.int .i64 nx)).setCell ⟨w.heap.size + 2, 1, none⟩ (.int .i64 sq)).setCell ⟨w.heap.size + 2, 2, none⟩ (.slice A n c)).setCell ⟨w.heap.size + 2, 3, none⟩ (.slice A7 (m - 1) c7)) (w.heap.size + 2) [.int .i64 nx, .int .i64 sq, .slice A n c, .slice A7 (m - 1) c7] from HBs.out.z.put4 _ _ _ _)
    have HBz := hd_ (show Below w.heap.size w ((((zf.setCell ⟨w.heap.size + 2, 0, none⟩ (.int .i64 nx)).setCell ⟨w.heap.size + 2, 1, none⟩ (.int .i64 sq)).setCell ⟨w.heap.size + 2, 2, none⟩ (.slice A n c)).setCell ⟨w.heap.size + 2, 3, none⟩ (.slice A7 (m - 1) c7)) from HBs.out.b.grown (grown4 _ _ _ _ _ _) HBs.out.b.size (fun g e => by injection e with e; omega))
    have HO9 := hd_ (show OwnC 9 ((((zf.setCell ⟨w.heap.size + 2, 0, none⟩ (.int .i64 nx)).setCell ⟨w.heap.size + 2, 1, none⟩ (.int .i64 sq)).setCell ⟨w.heap.size + 2, 2, none⟩ (.slice A n c)).setCell ⟨w.heap.size + 2, 3, none⟩ (.slice A7 (m - 1) c7)) (w.heap.size + 3) 35 A7 (m - 1) c7 _ from HOs.out.past4 (by omega))
    go_wp2_with fail
    clear b0 b1 b2 b3 f0 f1 f2 f3 g0 g1 g2 g3
    generalize ((((zf.setCell ⟨w.heap.size + 2, 0, none⟩ (.int .i64 nx)).setCell ⟨w.heap.size + 2, 1, none⟩ (.int .i64 sq)).setCell ⟨w.heap.size + 2, 2, none⟩ (.slice A n c)).setCell ⟨w.heap.size + 2, 3, none⟩ (.slice A7 (m - 1) c7)) = z at *
    obtain ⟨y0, y1, y2, y3⟩ := HZ.out.all4
    refine bodyPost_ret (v := .tuple #[.agg #[.int .i64 nx, .int .i64 sq, .slice A n c, .slice A7 (m - 1) c7], .bool true]) ?_ rfl (⟨nx, sq, A, n, c, L, A7, m - 1, c7, Ed.cut M k, rfl, grown_any _ HBz.out, fun v hv => ⟨(Option.some.inj hv).symm, StR.tabs HS.out HW.out HBz.out (by rw [Ed.cut_length (by rw [HS.out.tl]; exact hk), HS.out.tl]) (HO9.out.base_ (by omega)) (fun y hy => ⟨(HS.out.tp y (Ed.cut_mem hy)).1, (HS.out.tp y (Ed.cut_mem hy)).2, HS.out.to_ y (Ed.cut_mem hy)⟩), fun b hb hf h1 h2 => ⟨hf.1, fun e => by have := (HO9.out.lt b e).1; omega, hf.2.2.1, fun y hy hn => hf.2.2.2 y (Ed.cut_mem hy) hn⟩⟩⟩)
    simp [results, Tryz.results50, go_sem, y0, y1, y2, y3]
end Go.Proofs.YthfcjlndaajkfaaGreat
