/- EditChecks: which versions may be, the edits that make them, their places, and which are the same. -/
import Derived.Test.YthfcjlndaajkfaaGreatTEdCk0
namespace Go.Proofs.YthfcjlndaajkfaaGreat
open Go.RowKit
set_option linter.unusedVariables false
set_option linter.unusedSimpArgs false
set_option maxRecDepth 100000 in
set_option maxHeartbeats 32000000 in
theorem checks_any (nx sq : Int) (A : Option Addr) (n c : Nat) (B : Option Addr) (m d : Nat) (L : List (Ed.Lg × List (Int × Int))) (M : List (Pk.Tb × List (Int × Int))) (nx2 sq2 : Int) (P : Option Addr) (n2 c2 : Nat) (Q : Option Addr) (m2 d2 : Nat) (L2 : List (Ed.Lg × List (Int × Int))) (M2 : List (Pk.Tb × List (Int × Int))) (w : World)
    (hL : RdLs w A n L) (hM : RdTs w B m M) (hL2 : RdLs w P n2 L2) (hM2 : RdTs w Q m2 M2) (hn : n ≤ 9223372036854775807) (hm : m ≤ 9223372036854775807) (hn2 : n2 ≤ 9223372036854775807) (hm2 : m2 ≤ 9223372036854775807) :
    Calls Tryz.prog 3 #[.agg #[.int .i64 nx, .int .i64 sq, .slice A n c, .slice B m d], .agg #[.int .i64 nx2, .int .i64 sq2, .slice P n2 c2, .slice Q m2 d2]] w fun e w' => e = .returned (.bool true) ∧ Below w.heap.size w w' := by
  have HL0 := Lib.hid hL
  have HM0 := Lib.hid hM
  have HL2 := Lib.hid hL2
  have HM2 := Lib.hid hM2
  have hbu : Below w.heap.size w ((w.alloc (.cells #[.int .i64 nx, .int .i64 sq, .slice A n c, .slice B m d] 25)).alloc (.cells #[.int .i64 nx2, .int .i64 sq2, .slice P n2 c2, .slice Q m2 d2] 25)) := ((Below.refl _ _).alloc (Nat.le_refl _) _).alloc (by simp) _
  have HBu := Lib.hid hbu
  have HXu := Lib.hid ((Holds.new w #[.int .i64 nx, .int .i64 sq, .slice A n c, .slice B m d] 25).alloc (.cells #[.int .i64 nx2, .int .i64 sq2, .slice P n2 c2, .slice Q m2 d2] 25))
  have HYu := Lib.hid (Holds.new (w.alloc (.cells #[.int .i64 nx, .int .i64 sq, .slice A n c, .slice B m d] 25)) #[.int .i64 nx2, .int .i64 sq2, .slice P n2 c2, .slice Q m2 d2] 25)
  have HSu := Lib.hid (show ((w.alloc (.cells #[.int .i64 nx, .int .i64 sq, .slice A n c, .slice B m d] 25)).alloc (.cells #[.int .i64 nx2, .int .i64 sq2, .slice P n2 c2, .slice Q m2 d2] 25)).heap.size = w.heap.size + 2 by simp)
  clear hL hM hL2 hM2 hbu
  go_enter Tryz.func3, Tryz.ntmps3
  go_upto_region 1 with fail
  generalize ((w.alloc (.cells #[.int .i64 nx, .int .i64 sq, .slice A n c, .slice B m d] 25)).alloc (.cells #[.int .i64 nx2, .int .i64 sq2, .slice P n2 c2, .slice Q m2 d2] 25)) = u at *
  replace HXu : Hid (Holds u w.heap.size [.int .i64 nx, .int .i64 sq, .slice A n c, .slice B m d]) := HXu
  replace HYu : Hid (Holds u (w.heap.size + 1) [.int .i64 nx2, .int .i64 sq2, .slice P n2 c2, .slice Q m2 d2]) := Lib.hid (by have := HYu.out; simpa using this)
  have hbd : Below u.heap.size u u.drew := (Below.refl _ _).drew
  have hT0 := Lib.hid (show u.drew.cell? ⟨w.heap.size + 1, 0, none⟩ = some (.int .i64 nx2) ∧ u.drew.cell? ⟨w.heap.size + 1, 1, none⟩ = some (.int .i64 sq2) ∧ u.drew.cell? ⟨w.heap.size + 1, 2, none⟩ = some (.slice P n2 c2) ∧ u.drew.cell? ⟨w.heap.size + 1, 3, none⟩ = some (.slice Q m2 d2) from ⟨(HYu.out.below hbd).at_ 0 rfl, (HYu.out.below hbd).at_ 1 rfl, (HYu.out.below hbd).at_ 2 rfl, (HYu.out.below hbd).at_ 3 rfl⟩)
  refine wp_region_T (fun W => True) (fun W => W.cell? ⟨w.heap.size + 1, 0, none⟩ = some (.int .i64 nx2) ∧ W.cell? ⟨w.heap.size + 1, 1, none⟩ = some (.int .i64 sq2) ∧ W.cell? ⟨w.heap.size + 1, 2, none⟩ = some (.slice P n2 c2) ∧ W.cell? ⟨w.heap.size + 1, 3, none⟩ = some (.slice Q m2 d2)) 5 (by kernel_rfl) ?_
  refine wpAnyT_takeT (i := 2) (v := ?_) rfl (by kernel_rfl) (by kernel_rfl) (by kernel_rfl) (by kernel_rfl) rfl rfl (fun _ _ _ h => h) (Or.inl ⟨by rfl, ?_⟩) trivial hT0.out ?_
  rotate_left
  · intro W hSW; (try dsimp only at hSW); go_simp; (try with_reducible rfl)
  try walk_nrm
  refine wpAnyT_one (i := 0) (by kernel_rfl) rfl (fun K hK => ?_)
  try walk_nrm
  rw [if_pos (by rfl)]
  have x0 := (HXu.out.below hbd).at_ 0 rfl
  have x1 := (HXu.out.below hbd).at_ 1 rfl
  have x2 := (HXu.out.below hbd).at_ 2 rfl
  have x3 := (HXu.out.below hbd).at_ 3 rfl
  go_simp
  refine hK.out _ _ trivial (fun _ => hT0.out) ?_
  clear hK x0 x1 x2 x3
  try walk_nrm
  refine wpAnyT_one (i := 1) (by kernel_rfl) rfl (fun K hK => ?_)
  try walk_nrm
  rw [if_pos (by rfl)]
  go_simp
  refine (lversion_any nx sq A n c B m d L M u.drew (HL0.out.below (below_next HBu.out hbd)) (HM0.out.below (below_next HBu.out hbd)) hn hm).mono ?_
  rintro e v2 ⟨A1, c1, B1, d1, rfl, _, _, hb2, hol, hot⟩
  have hb02 := below_next hbd hb2
  have hT2 := Lib.hid (show v2.cell? ⟨w.heap.size + 1, 0, none⟩ = some (.int .i64 nx2) ∧ v2.cell? ⟨w.heap.size + 1, 1, none⟩ = some (.int .i64 sq2) ∧ v2.cell? ⟨w.heap.size + 1, 2, none⟩ = some (.slice P n2 c2) ∧ v2.cell? ⟨w.heap.size + 1, 3, none⟩ = some (.slice Q m2 d2) from ⟨(HYu.out.below hb02).at_ 0 rfl, (HYu.out.below hb02).at_ 1 rfl, (HYu.out.below hb02).at_ 2 rfl, (HYu.out.below hb02).at_ 3 rfl⟩)
  refine hK.out _ _ trivial (fun _ => hT2.out) ?_
  clear hK
  try walk_nrm
  refine wpAnyT_one (i := 3) (by kernel_rfl) rfl (fun K hK => ?_)
  try walk_nrm
  rw [if_pos (by rfl)]
  go_simp
  refine (lversion_any nx2 sq2 P n2 c2 Q m2 d2 L2 M2 v2 (HL2.out.below (below_next HBu.out hb02)) (HM2.out.below (below_next HBu.out hb02)) hn2 hm2).mono ?_
  rintro e v3 ⟨P1, e1, Q1, f1, rfl, _, _, hb3, hol2, hot2⟩
  have hb03 := below_next hb02 hb3
  have hT3 := Lib.hid (show v3.cell? ⟨w.heap.size + 1, 0, none⟩ = some (.int .i64 nx2) ∧ v3.cell? ⟨w.heap.size + 1, 1, none⟩ = some (.int .i64 sq2) ∧ v3.cell? ⟨w.heap.size + 1, 2, none⟩ = some (.slice P n2 c2) ∧ v3.cell? ⟨w.heap.size + 1, 3, none⟩ = some (.slice Q m2 d2) from ⟨(HYu.out.below hb03).at_ 0 rfl, (HYu.out.below hb03).at_ 1 rfl, (HYu.out.below hb03).at_ 2 rfl, (HYu.out.below hb03).at_ 3 rfl⟩)
  refine hK.out _ _ trivial (fun _ => hT3.out) ?_
  clear hK
  try walk_nrm
  have HX3 := Lib.hid (HXu.out.below hb03)
  have HY3 := Lib.hid (HYu.out.below hb03)
  have hu2 : u.heap.size = w.heap.size + 2 := HSu.out
  have HP := Lib.hid (show Pr2 w nx sq A1 (min n 34) c1 B1 (min m 130) d1 (Ed.lflat ((L.take (min n 34)).map fun x => (Ed.cutL x).1)) (Pk.flat ((M.take (min m 130)).map fun x => (Ed.cutT x).1)) nx2 sq2 P1 (min n2 34) e1 Q1 (min m2 130) f1 (Ed.lflat ((L2.take (min n2 34)).map fun x => (Ed.cutL x).1)) (Pk.flat ((M2.take (min m2 130)).map fun x => (Ed.cutT x).1)) ((((((((v3.setCell ⟨w.heap.size, 0, none⟩ (.int .i64 nx)).setCell ⟨w.heap.size, 1, none⟩ (.int .i64 sq)).setCell ⟨w.heap.size, 2, none⟩ (.slice A1 (min n 34) c1)).setCell ⟨w.heap.size, 3, none⟩ (.slice B1 (min m 130) d1)).setCell ⟨(w.heap.size + 1), 0, none⟩ (.int .i64 nx2)).setCell ⟨(w.heap.size + 1), 1, none⟩ (.int .i64 sq2)).setCell ⟨(w.heap.size + 1), 2, none⟩ (.slice P1 (min n2 34) e1)).setCell ⟨(w.heap.size + 1), 3, none⟩ (.slice Q1 (min m2 130) f1)) from Pr2.stored HX3.out HY3.out ((hol.below hb3).base_ (by have := hbd.size; omega)) ((hot.below hb3).base_ (by have := hbd.size; omega)) (hol2.base_ (by have := hb02.size; omega)) (hot2.base_ (by have := hb02.size; omega)) (below_next HBu.out hb03))
  refine wpAnyT_one (i := 4) (by kernel_rfl) rfl (fun K hK => ?_)
  try walk_nrm
  rw [if_pos (by rfl)]
  have x0 := HX3.out.at_ 0 rfl
  have x1 := HX3.out.at_ 1 rfl
  have x2 := HX3.out.at_ 2 rfl
  have x3 := HX3.out.at_ 3 rfl
  have g0 := HX3.out.2.2 0
  have g1 := HX3.out.2.2 1
  have g2 := HX3.out.2.2 2
  have g3 := HX3.out.2.2 3
  go_simp
  have HY4 := Lib.hid (show Holds ((((v3.setCell ⟨w.heap.size, 0, none⟩ (.int .i64 nx)).setCell ⟨w.heap.size, 1, none⟩ (.int .i64 sq)).setCell ⟨w.heap.size, 2, none⟩ (.slice A1 (min n 34) c1)).setCell ⟨w.heap.size, 3, none⟩ (.slice B1 (min m 130) d1)) (w.heap.size + 1) [.int .i64 nx2, .int .i64 sq2, .slice P n2 c2, .slice Q m2 d2] from HY3.out.other4 (by omega))
  have hT4 := Lib.hid (show ((((v3.setCell ⟨w.heap.size, 0, none⟩ (.int .i64 nx)).setCell ⟨w.heap.size, 1, none⟩ (.int .i64 sq)).setCell ⟨w.heap.size, 2, none⟩ (.slice A1 (min n 34) c1)).setCell ⟨w.heap.size, 3, none⟩ (.slice B1 (min m 130) d1)).cell? ⟨w.heap.size + 1, 0, none⟩ = some (.int .i64 nx2) ∧ ((((v3.setCell ⟨w.heap.size, 0, none⟩ (.int .i64 nx)).setCell ⟨w.heap.size, 1, none⟩ (.int .i64 sq)).setCell ⟨w.heap.size, 2, none⟩ (.slice A1 (min n 34) c1)).setCell ⟨w.heap.size, 3, none⟩ (.slice B1 (min m 130) d1)).cell? ⟨w.heap.size + 1, 1, none⟩ = some (.int .i64 sq2) ∧ ((((v3.setCell ⟨w.heap.size, 0, none⟩ (.int .i64 nx)).setCell ⟨w.heap.size, 1, none⟩ (.int .i64 sq)).setCell ⟨w.heap.size, 2, none⟩ (.slice A1 (min n 34) c1)).setCell ⟨w.heap.size, 3, none⟩ (.slice B1 (min m 130) d1)).cell? ⟨w.heap.size + 1, 2, none⟩ = some (.slice P n2 c2) ∧ ((((v3.setCell ⟨w.heap.size, 0, none⟩ (.int .i64 nx)).setCell ⟨w.heap.size, 1, none⟩ (.int .i64 sq)).setCell ⟨w.heap.size, 2, none⟩ (.slice A1 (min n 34) c1)).setCell ⟨w.heap.size, 3, none⟩ (.slice B1 (min m 130) d1)).cell? ⟨w.heap.size + 1, 3, none⟩ = some (.slice Q m2 d2) from ⟨(HY4.out).at_ 0 rfl, (HY4.out).at_ 1 rfl, (HY4.out).at_ 2 rfl, (HY4.out).at_ 3 rfl⟩)
  refine hK.out _ _ trivial (fun _ => hT4.out) ?_
  clear hK x0 x1 x2 x3 g0 g1 g2 g3
  try walk_nrm
  clear hT0 hT2 hT3 hT4 HX3 HY3 hol hot hol2 hot2 hb2 hb02 hb3 hb03 hbd hu2
  generalize ((((v3.setCell ⟨w.heap.size, 0, none⟩ (.int .i64 nx)).setCell ⟨w.heap.size, 1, none⟩ (.int .i64 sq)).setCell ⟨w.heap.size, 2, none⟩ (.slice A1 (min n 34) c1)).setCell ⟨w.heap.size, 3, none⟩ (.slice B1 (min m 130) d1)) = v4 at *
  refine wpAnyT_one (i := 5) (by kernel_rfl) rfl (fun K hK => ?_)
  try walk_nrm
  rw [if_pos (by rfl)]
  have x0 := HY4.out.at_ 0 rfl
  have x1 := HY4.out.at_ 1 rfl
  have x2 := HY4.out.at_ 2 rfl
  have x3 := HY4.out.at_ 3 rfl
  have g0 := HY4.out.2.2 0
  have g1 := HY4.out.2.2 1
  have g2 := HY4.out.2.2 2
  have g3 := HY4.out.2.2 3
  go_simp
  refine hK.out _ _ trivial (fun h => Bool.noConfusion (h : true = false)) ?_
  clear hK x0 x1 x2 x3 g0 g1 g2 g3 HY4
  try walk_nrm
  generalize ((((v4.setCell ⟨(w.heap.size + 1), 0, none⟩ (.int .i64 nx2)).setCell ⟨(w.heap.size + 1), 1, none⟩ (.int .i64 sq2)).setCell ⟨(w.heap.size + 1), 2, none⟩ (.slice P1 (min n2 34) e1)).setCell ⟨(w.heap.size + 1), 3, none⟩ (.slice Q1 (min m2 130) f1)) = v5 at *
  refine wpAnyT_done (by kernel_rfl) ?_ _
  have HR := Lib.hid (fun (W : World) (h : Pr2 w nx sq A1 (min n 34) c1 B1 (min m 130) d1 (Ed.lflat ((L.take (min n 34)).map fun x => (Ed.cutL x).1)) (Pk.flat ((M.take (min m 130)).map fun x => (Ed.cutT x).1)) nx2 sq2 P1 (min n2 34) e1 Q1 (min m2 130) f1 (Ed.lflat ((L2.take (min n2 34)).map fun x => (Ed.cutL x).1)) (Pk.flat ((M2.take (min m2 130)).map fun x => (Ed.cutT x).1)) W) => And.intro (rdls_cut HL0.out h.bel h.ol) (And.intro (rdts_cut HM0.out h.bel h.ot) (And.intro (rdls_cut HL2.out h.bel h.ol2) (rdts_cut HM2.out h.bel h.ot2))))
  have HPn := Lib.hid (show (∀ x ∈ (L.take 34).map Ed.cutL, x.1.pn ≤ 100000) ∧ (∀ x ∈ (M.take 130).map Ed.cutT, x.1.pn ≤ 100000) from ⟨fun x hx => by
    obtain ⟨y, hy, rfl⟩ := List.mem_map.1 hx
    show min y.1.pn 66 ≤ 100000
    omega, fun x hx => by
    obtain ⟨y, hy, rfl⟩ := List.mem_map.1 hx
    show min y.1.pn 66 ≤ 100000
    omega⟩)
  have hn1 : min n 34 ≤ 34 := Nat.min_le_right _ _
  have hm1 : min m 130 ≤ 130 := Nat.min_le_right _ _
  have hn3 : min n2 34 ≤ 34 := Nat.min_le_right _ _
  have hm3 : min m2 130 ≤ 130 := Nat.min_le_right _ _
  clear HL0 HM0 HL2 HM2 HBu HXu HYu HSu
  generalize (Ed.lflat ((L.take (min n 34)).map fun x => (Ed.cutL x).1)) = l1 at *
  generalize (Pk.flat ((M.take (min m 130)).map fun x => (Ed.cutT x).1)) = l2 at *
  generalize (Ed.lflat ((L2.take (min n2 34)).map fun x => (Ed.cutL x).1)) = l3 at *
  generalize (Pk.flat ((M2.take (min m2 130)).map fun x => (Ed.cutT x).1)) = l4 at *
  generalize min n 34 = n1 at *
  generalize min m 130 = m1 at *
  generalize min n2 34 = k1 at *
  generalize min m2 130 = j1 at *
  generalize (L.take 34).map Ed.cutL = L1 at *
  generalize (M.take 130).map Ed.cutT = M1 at *
  generalize (L2.take 34).map Ed.cutL = L3 at *
  generalize (M2.take 130).map Ed.cutT = M3 at *
  clear hn hm hn2 hm2
  have HBl := Lib.hid HP.out.bel
  have HXa := Lib.hid (fun (W : World) (hW : Below v5.heap.size v5 W) => (HP.out.below hW).box)
  have HXb := Lib.hid (fun (W : World) (hW : Below v5.heap.size v5 W) => (HP.out.below hW).box2)
  have Hl1 := Lib.hid (fun (W : World) (hW : Below v5.heap.size v5 W) => (HR.out W (HP.out.below hW)).1)
  have Ht1 := Lib.hid (fun (W : World) (hW : Below v5.heap.size v5 W) => (HR.out W (HP.out.below hW)).2.1)
  have Hl2 := Lib.hid (fun (W : World) (hW : Below v5.heap.size v5 W) => (HR.out W (HP.out.below hW)).2.2.1)
  have Ht2 := Lib.hid (fun (W : World) (hW : Below v5.heap.size v5 W) => (HR.out W (HP.out.below hW)).2.2.2)
  clear HP HR
  have CP := Lib.hid (fun (W : World) (hW : Below v5.heap.size v5 W) => places_any nx sq A1 n1 c1 B1 m1 d1 L1 M1 W (Hl1.out W hW) (Ht1.out W hW) (by omega) (by omega) HPn.out.1 HPn.out.2)
  have CQ := Lib.hid (fun (W : World) (hW : Below v5.heap.size v5 W) => rplaces_any nx sq A1 n1 c1 B1 m1 d1 L1 M1 W (Hl1.out W hW) (Ht1.out W hW) (by omega) (by omega))
  obtain ⟨vv, hvv⟩ : ∃ v, v = (⟨nx, sq, L1.map Ed.loOf, M1.map Ed.taOf⟩ : Ed.Ve) := ⟨_, rfl⟩
  obtain ⟨ww, hww⟩ : ∃ v, v = (⟨nx2, sq2, L3.map Ed.loOf, M3.map Ed.taOf⟩ : Ed.Ve) := ⟨_, rfl⟩
  obtain ⟨ok, hok⟩ : ∃ o, o = vv.ok := ⟨_, rfl⟩
  obtain ⟨sm, hsm⟩ : ∃ o, o = vv.eq ww := ⟨_, rfl⟩
  obtain ⟨mk, hmk⟩ : ∃ o, o = Ed.make vv := ⟨_, rfl⟩
  have CK := Lib.hid (fun (W : World) (hW : Below v5.heap.size v5 W) => show Calls Tryz.prog 11 #[.agg #[.int .i64 nx, .int .i64 sq, .slice A1 n1 c1, .slice B1 m1 d1]] W (fun e w' => e = .returned (.int .i64 (if ok then 0 else 151)) ∧ Below W.heap.size W w') from by rw [hok, hvv]; exact check_any nx sq A1 n1 c1 B1 m1 d1 L1 M1 W (Hl1.out W hW) (Ht1.out W hW))
  have CI := Lib.hid (fun (W : World) (hW : Below v5.heap.size v5 W) => show Calls Tryz.prog 12 #[.agg #[.int .i64 nx, .int .i64 sq, .slice A1 n1 c1, .slice B1 m1 d1]] W (fun e w' => e = .returned (.bool ok) ∧ Below W.heap.size W w') from by rw [hok, hvv]; exact ris_any nx sq A1 n1 c1 B1 m1 d1 L1 M1 W (Hl1.out W hW) (Ht1.out W hW) (by omega) (by omega))
  have CM := Lib.hid (fun (W : World) (hW : Below v5.heap.size v5 W) => show Calls Tryz.prog 13 #[.agg #[.int .i64 nx, .int .i64 sq, .slice A1 n1 c1, .slice B1 m1 d1]] W (GivesMk W ok mk) from by rw [hmk, hok, hvv]; exact make_any nx sq A1 n1 c1 B1 m1 d1 L1 M1 W (Hl1.out W hW) (Ht1.out W hW))
  have CR := Lib.hid (fun (W : World) (hW : Below v5.heap.size v5 W) => show Calls Tryz.prog 14 #[.agg #[.int .i64 nx, .int .i64 sq, .slice A1 n1 c1, .slice B1 m1 d1]] W (GivesMk W ok mk) from by rw [hmk, hok, hvv]; exact rmake_any nx sq A1 n1 c1 B1 m1 d1 L1 M1 W (Hl1.out W hW) (Ht1.out W hW) (by omega) (by omega))
  have CE := Lib.hid (fun (W : World) (hW : Below v5.heap.size v5 W) => show Calls Tryz.prog 15 #[.agg #[.int .i64 nx, .int .i64 sq, .slice A1 n1 c1, .slice B1 m1 d1], .agg #[.int .i64 nx2, .int .i64 sq2, .slice P1 k1 e1, .slice Q1 j1 f1]] W (fun e w' => e = .returned (.bool sm) ∧ Below W.heap.size W w') from by rw [hsm, hvv, hww]; exact same_any nx sq A1 n1 c1 B1 m1 d1 L1 M1 nx2 sq2 P1 k1 e1 Q1 j1 f1 L3 M3 W (Hl1.out W hW) (Ht1.out W hW) (Hl2.out W hW) (Ht2.out W hW) (by omega) (by omega) (by omega) (by omega))
  have CF := Lib.hid (fun (W : World) (hW : Below v5.heap.size v5 W) => show Calls Tryz.prog 16 #[.agg #[.int .i64 nx, .int .i64 sq, .slice A1 n1 c1, .slice B1 m1 d1], .agg #[.int .i64 nx2, .int .i64 sq2, .slice P1 k1 e1, .slice Q1 j1 f1]] W (fun e w' => e = .returned (.bool sm) ∧ Below W.heap.size W w') from by rw [hsm, hvv, hww]; exact rsame_any nx sq A1 n1 c1 B1 m1 d1 L1 M1 nx2 sq2 P1 k1 e1 Q1 j1 f1 L3 M3 W (Hl1.out W hW) (Ht1.out W hW) (Hl2.out W hW) (Ht2.out W hW) (by omega) (by omega) (by omega) (by omega))
  have CV := Lib.hid (fun (W : World) (hW : Below v5.heap.size v5 W) => show Calls Tryz.prog 15 #[.agg #[.int .i64 nx, .int .i64 sq, .slice A1 n1 c1, .slice B1 m1 d1], .agg #[.int .i64 nx, .int .i64 sq, .slice A1 n1 c1, .slice B1 m1 d1]] W (fun e w' => e = .returned (.bool true) ∧ Below W.heap.size W w') from by
    have h := same_any nx sq A1 n1 c1 B1 m1 d1 L1 M1 nx sq A1 n1 c1 B1 m1 d1 L1 M1 W (Hl1.out W hW) (Ht1.out W hW) (Hl1.out W hW) (Ht1.out W hW) (by omega) (by omega) (by omega) (by omega)
    rwa [show (⟨nx, sq, L1.map Ed.loOf, M1.map Ed.taOf⟩ : Ed.Ve).eq ⟨nx, sq, L1.map Ed.loOf, M1.map Ed.taOf⟩ = true from Ed.Ve.eq_iff.2 rfl] at h)
  have HLn := Lib.hid (show L1.length ≤ 34 ∧ M1.length ≤ 130 by
    have h1 := (Hl1.out v5 (Below.refl _ _)).len
    have h2 := (Ht1.out v5 (Below.refl _ _)).len
    omega)
  clear Hl1 Ht1 Hl2 Ht2 HPn hvv hww hok hsm hmk vv ww
  go_upto_region 2 with fail
  go_cut [5, 6] from 13 to 16 (fun s5 s6 W => ∃ (R : Option Addr) (rc : Nat) (R2 : Option Addr) (rc2 : Nat) (F F2 : List (Ed.Pc × List (Int × Int))), s5 = .slice R F.length rc ∧ s6 = .slice R2 F.length rc2 ∧ Hid (RdC 3 W R F.length (Ed.pflat (F.map (·.1)))) ∧ Hid (RdC 3 W R2 F.length (Ed.pflat (F2.map (·.1)))) ∧ Hid (F2.length = F.length) ∧ Hid (F.map Ed.plOf = F2.map Ed.plOf) ∧ Hid (∀ x ∈ F, PairsOk W x.1.P x.1.pn x.1.pc x.2) ∧ Hid (∀ x ∈ F2, PairsOk W x.1.P x.1.pn x.1.pc x.2) ∧ F.length ≤ 1000 ∧ Hid (Below v5.heap.size v5 W))
  case first =>
    have hbd : Below v5.heap.size v5 v5.drew := (Below.refl _ _).drew
    have hS0 := Lib.hid (show v5.drew.cell? ⟨w.heap.size, 0, none⟩ = some (.int .i64 nx) ∧ v5.drew.cell? ⟨w.heap.size, 1, none⟩ = some (.int .i64 sq) ∧ v5.drew.cell? ⟨w.heap.size, 2, none⟩ = some (.slice A1 n1 c1) ∧ v5.drew.cell? ⟨w.heap.size, 3, none⟩ = some (.slice B1 m1 d1) from ⟨(HXa.out _ (hbd)).at_ 0 rfl, (HXa.out _ (hbd)).at_ 1 rfl, (HXa.out _ (hbd)).at_ 2 rfl, (HXa.out _ (hbd)).at_ 3 rfl⟩)
    refine wp_region_T (fun W => W.cell? ⟨w.heap.size, 0, none⟩ = some (.int .i64 nx) ∧ W.cell? ⟨w.heap.size, 1, none⟩ = some (.int .i64 sq) ∧ W.cell? ⟨w.heap.size, 2, none⟩ = some (.slice A1 n1 c1) ∧ W.cell? ⟨w.heap.size, 3, none⟩ = some (.slice B1 m1 d1)) (fun W => True) 99 (by kernel_rfl) ?_
    refine tkS (i := 0) hS0.out ?_; try walk_nrm
    refine tkS (i := 2) hS0.out ?_; try walk_nrm
    refine wpAnyT_one (i := 1) (by kernel_rfl) rfl (fun K hK => ?_)
    try walk_nrm
    rw [if_pos (by rfl)]
    go_simp
    refine (CP.out _ hbd).mono ?_
    rintro e v6 ⟨R, rc, F, rfl, hOF, hmF, hb6⟩
    have hb06 := below_next hbd hb6
    have hS6 := Lib.hid (show v6.cell? ⟨w.heap.size, 0, none⟩ = some (.int .i64 nx) ∧ v6.cell? ⟨w.heap.size, 1, none⟩ = some (.int .i64 sq) ∧ v6.cell? ⟨w.heap.size, 2, none⟩ = some (.slice A1 n1 c1) ∧ v6.cell? ⟨w.heap.size, 3, none⟩ = some (.slice B1 m1 d1) from ⟨(HXa.out _ (hb06)).at_ 0 rfl, (HXa.out _ (hb06)).at_ 1 rfl, (HXa.out _ (hb06)).at_ 2 rfl, (HXa.out _ (hb06)).at_ 3 rfl⟩)
    refine hK.out _ _ hS6.out (fun _ => trivial) ?_
    clear hK
    try walk_nrm
    refine wpAnyT_one (i := 3) (by kernel_rfl) rfl (fun K hK => ?_)
    try walk_nrm
    rw [if_pos (by rfl)]
    go_simp
    refine (CQ.out _ hb06).mono ?_
    rintro e v7 ⟨R2, N2, rc2, F2, rfl, hlF, hRF, hPF, hmF2, hb7⟩
    have hb07 := below_next hb06 hb7
    have hS7 := Lib.hid (show v7.cell? ⟨w.heap.size, 0, none⟩ = some (.int .i64 nx) ∧ v7.cell? ⟨w.heap.size, 1, none⟩ = some (.int .i64 sq) ∧ v7.cell? ⟨w.heap.size, 2, none⟩ = some (.slice A1 n1 c1) ∧ v7.cell? ⟨w.heap.size, 3, none⟩ = some (.slice B1 m1 d1) from ⟨(HXa.out _ (hb07)).at_ 0 rfl, (HXa.out _ (hb07)).at_ 1 rfl, (HXa.out _ (hb07)).at_ 2 rfl, (HXa.out _ (hb07)).at_ 3 rfl⟩)
    refine hK.out _ _ hS7.out (fun _ => trivial) ?_
    clear hK
    try walk_nrm
    refine tkS (i := 4) hS7.out ?_; try walk_nrm
    refine tkS (i := 5) hS7.out ?_; try walk_nrm
    refine wpAnyT_done (by kernel_rfl) ?_ _
    have hlen : F2.length = F.length := by have h := congrArg List.length (hmF2.trans hmF.symm); rwa [List.length_map, List.length_map] at h
    have hle : F.length ≤ 1000 := by
      have h := congrArg List.length hmF
      rw [List.length_map, List.length_append, List.length_map, List.length_map] at h
      have h2 := HLn.out
      omega
    rw [hlen] at hlF
    subst hlF
    have Q1 := Lib.hid (hOF.row.rd.below hb7)
    have Q5 := Lib.hid (fun x (hx : x ∈ F) => ((hOF.prs x hx).ok).below hb7)
    have Q2 := Lib.hid hRF
    have Q6 := Lib.hid hPF
    have Q3 := Lib.hid hlen
    have Q4 := Lib.hid (hmF.trans hmF2.symm)
    have Q7 := Lib.hid hb07
    clear hOF hmF hRF hPF hmF2 hb6 hb7 hb06 hb07 hS0 hS6 hS7 hlen hbd
    go_wp2
    go_meet
    case rel => exact ⟨R, rc, R2, rc2, F, F2, rfl, rfl, Q1, Q2, Q3, Q4, Q5, Q6, hle, Q7⟩
  case rest =>
    obtain ⟨R, rc, R2, rc2, F, F2, rfl, rfl, H1, H2, H3, H4, H5, H6, hle, HB6⟩ := hcut
    rename World => v6
    clear CP CQ HLn
    have ee : ((F.length : Int) != (F.length : Int)) = false := by simp
    go_wp2_with fail
    clear ee
    go_loopw [7] (fun s7 wr => ∃ (k : Nat), k ≤ F.length ∧ s7 = .int .i64 (k : Int) ∧ Hid (Below v6.heap.size v6 wr)) (fun s7 _ => F.length - (intOf s7).toNat)
    case atStart => exact ⟨0, by omega, rfl, Lib.hid (Below.refl _ _)⟩
    case round =>
      obtain ⟨k, hk, rfl, HB⟩ := hrel
      by_cases hlt : k < F.length
      · have hki : (k : Int) < (F.length : Int) := by omega
        have hk0 : (0 : Int) ≤ (k : Int) := by omega
        obtain ⟨y1, hy1⟩ : ∃ y, F[k]? = some y := ⟨_, List.getElem?_eq_getElem hlt⟩
        obtain ⟨y2, hy2⟩ : ∃ y, F2[k]? = some y := ⟨_, List.getElem?_eq_getElem (by rw [H3.out]; exact hlt)⟩
        have HEy := Lib.hid (show Ed.plOf y1 = Ed.plOf y2 by
          have h := congrArg (fun l => l[k]?) H4.out
          rw [List.getElem?_map, List.getElem?_map, hy1, hy2] at h
          exact Option.some.inj h)
        obtain ⟨b3, o3, hAb, hc1⟩ := rdpl_at rfl H1.out hy1
        obtain ⟨b4, o4, hAc, hc2⟩ := rdpl_at H3.out H2.out hy2
        have HQ1 := Lib.hid (fun (W : World) (hW : Below v6.heap.size v6 W) => (H5.out y1 (List.mem_of_getElem? hy1)).below hW)
        have HQ2 := Lib.hid (fun (W : World) (hW : Below v6.heap.size v6 W) => (H6.out y2 (List.mem_of_getElem? hy2)).below hW)
        subst hAb
        subst hAc
        obtain ⟨⟨id, ep, P3, pn, pc⟩, ps3⟩ := y1
        obtain ⟨⟨id4, ep4, P4, pn4, pc4⟩, ps4⟩ := y2
        have HC1 := Lib.hid hc1
        have HC2 := Lib.hid hc2
        dsimp only at HC1 HC2 HQ1 HQ2
        clear hy1 hy2 hc1 hc2
        go_upto_region 8 with fail
        have hbd : Below wr.heap.size wr wr.drew := (Below.refl _ _).drew
        have HBd := Lib.hid (below_next HB.out hbd)
        have hS0 := Lib.hid (show wr.drew.cell? ⟨b3, o3 + k * 3, none⟩ = some (.int .i64 id) ∧ wr.drew.cell? ⟨b3, o3 + k * 3 + 1, none⟩ = some (.int .i64 ep) ∧ wr.drew.cell? ⟨b3, o3 + k * 3 + 2, none⟩ = some (.slice P3 pn pc) ∧ wr.drew.cell? ⟨b4, o4 + k * 3, none⟩ = some (.int .i64 id4) ∧ wr.drew.cell? ⟨b4, o4 + k * 3 + 1, none⟩ = some (.int .i64 ep4) ∧ wr.drew.cell? ⟨b4, o4 + k * 3 + 2, none⟩ = some (.slice P4 pn4 pc4) from ⟨(HC1.out _ (HBd.out)).1, (HC1.out _ (HBd.out)).2.1, (HC1.out _ (HBd.out)).2.2, (HC2.out _ (HBd.out)).1, (HC2.out _ (HBd.out)).2.1, (HC2.out _ (HBd.out)).2.2⟩)
        refine wp_region_T (fun W => W.cell? ⟨b3, o3 + k * 3, none⟩ = some (.int .i64 id) ∧ W.cell? ⟨b3, o3 + k * 3 + 1, none⟩ = some (.int .i64 ep) ∧ W.cell? ⟨b3, o3 + k * 3 + 2, none⟩ = some (.slice P3 pn pc) ∧ W.cell? ⟨b4, o4 + k * 3, none⟩ = some (.int .i64 id4) ∧ W.cell? ⟨b4, o4 + k * 3 + 1, none⟩ = some (.int .i64 ep4) ∧ W.cell? ⟨b4, o4 + k * 3 + 2, none⟩ = some (.slice P4 pn4 pc4)) (fun W => True) 99 (by kernel_rfl) ?_
        refine tkS (i := 0) hS0.out ?_; try walk_nrm
        refine tkS (i := 1) hS0.out ?_; try walk_nrm
        refine tkS (i := 2) hS0.out ?_; try walk_nrm
        refine tkS (i := 3) hS0.out ?_; try walk_nrm
        refine tkS (i := 4) hS0.out ?_; try walk_nrm
        refine tkS (i := 6) hS0.out ?_; try walk_nrm
        refine tkS (i := 7) hS0.out ?_; try walk_nrm
        refine tkS (i := 8) hS0.out ?_; try walk_nrm
        refine tkS (i := 9) hS0.out ?_; try walk_nrm
        refine tkS (i := 10) hS0.out ?_; try walk_nrm
        refine wpAnyT_two (i := 5) (j := 11) (by kernel_rfl) rfl rfl (fun K hK => ?_) (fun K hK => ?_)
        · try walk_nrm
          rw [if_pos (by rfl)]
          go_simp
          have hal : Below wr.heap.size wr ((wr.alloc (.cells #[.int .i64 0, .int .i64 0, .int .i64 0, .int .i64 id, .int .i64 ep, .slice P3 pn pc, .int .i64 0, .int .i64 0, .slice none 0 0, .int .i64 0, .int .i64 0, .int .i64 0, .string ⟨#[]⟩, .string ⟨#[]⟩, .int .i64 0] 37)).drew) := ((Below.refl _ _).alloc (Nat.le_refl _) _).drew
          have HBe := Lib.hid (below_next HB.out hal)
          have hR1 := Lib.hid (show RdEs (wr.alloc (.cells #[.int .i64 0, .int .i64 0, .int .i64 0, .int .i64 id, .int .i64 ep, .slice P3 pn pc, .int .i64 0, .int .i64 0, .slice none 0 0, .int .i64 0, .int .i64 0, .int .i64 0, .string ⟨#[]⟩, .string ⟨#[]⟩, .int .i64 0] 37)).drew (some ⟨wr.heap.size, 0, none⟩) 1 [Ed.xp ((⟨id, ep, P3, pn, pc⟩ : Ed.Pc), ps3)] from (RdEs.one_ 37 (HQ1.out _ HB.out)).below (Below.refl _ _).drew)
          have hS1 := Lib.hid (show (wr.alloc (.cells #[.int .i64 0, .int .i64 0, .int .i64 0, .int .i64 id, .int .i64 ep, .slice P3 pn pc, .int .i64 0, .int .i64 0, .slice none 0 0, .int .i64 0, .int .i64 0, .int .i64 0, .string ⟨#[]⟩, .string ⟨#[]⟩, .int .i64 0] 37)).drew.cell? ⟨b3, o3 + k * 3, none⟩ = some (.int .i64 id) ∧ (wr.alloc (.cells #[.int .i64 0, .int .i64 0, .int .i64 0, .int .i64 id, .int .i64 ep, .slice P3 pn pc, .int .i64 0, .int .i64 0, .slice none 0 0, .int .i64 0, .int .i64 0, .int .i64 0, .string ⟨#[]⟩, .string ⟨#[]⟩, .int .i64 0] 37)).drew.cell? ⟨b3, o3 + k * 3 + 1, none⟩ = some (.int .i64 ep) ∧ (wr.alloc (.cells #[.int .i64 0, .int .i64 0, .int .i64 0, .int .i64 id, .int .i64 ep, .slice P3 pn pc, .int .i64 0, .int .i64 0, .slice none 0 0, .int .i64 0, .int .i64 0, .int .i64 0, .string ⟨#[]⟩, .string ⟨#[]⟩, .int .i64 0] 37)).drew.cell? ⟨b3, o3 + k * 3 + 2, none⟩ = some (.slice P3 pn pc) ∧ (wr.alloc (.cells #[.int .i64 0, .int .i64 0, .int .i64 0, .int .i64 id, .int .i64 ep, .slice P3 pn pc, .int .i64 0, .int .i64 0, .slice none 0 0, .int .i64 0, .int .i64 0, .int .i64 0, .string ⟨#[]⟩, .string ⟨#[]⟩, .int .i64 0] 37)).drew.cell? ⟨b4, o4 + k * 3, none⟩ = some (.int .i64 id4) ∧ (wr.alloc (.cells #[.int .i64 0, .int .i64 0, .int .i64 0, .int .i64 id, .int .i64 ep, .slice P3 pn pc, .int .i64 0, .int .i64 0, .slice none 0 0, .int .i64 0, .int .i64 0, .int .i64 0, .string ⟨#[]⟩, .string ⟨#[]⟩, .int .i64 0] 37)).drew.cell? ⟨b4, o4 + k * 3 + 1, none⟩ = some (.int .i64 ep4) ∧ (wr.alloc (.cells #[.int .i64 0, .int .i64 0, .int .i64 0, .int .i64 id, .int .i64 ep, .slice P3 pn pc, .int .i64 0, .int .i64 0, .slice none 0 0, .int .i64 0, .int .i64 0, .int .i64 0, .string ⟨#[]⟩, .string ⟨#[]⟩, .int .i64 0] 37)).drew.cell? ⟨b4, o4 + k * 3 + 2, none⟩ = some (.slice P4 pn4 pc4) from ⟨(HC1.out _ (HBe.out)).1, (HC1.out _ (HBe.out)).2.1, (HC1.out _ (HBe.out)).2.2, (HC2.out _ (HBe.out)).1, (HC2.out _ (HBe.out)).2.1, (HC2.out _ (HBe.out)).2.2⟩)
          refine hK.out _ _ hS1.out (fun _ => trivial) ?_
          clear hK
          try walk_nrm
          clear hal
          generalize (wr.alloc (.cells #[.int .i64 0, .int .i64 0, .int .i64 0, .int .i64 id, .int .i64 ep, .slice P3 pn pc, .int .i64 0, .int .i64 0, .slice none 0 0, .int .i64 0, .int .i64 0, .int .i64 0, .string ⟨#[]⟩, .string ⟨#[]⟩, .int .i64 0] 37)).drew = z1 at *
          refine wpAnyT_one (i := 11) (by kernel_rfl) rfl (fun K hK => ?_)
          try walk_nrm
          rw [if_pos (by rfl)]
          go_simp
          have hal : Below z1.heap.size z1 (z1.alloc (.cells #[.int .i64 0, .int .i64 0, .int .i64 0, .int .i64 id4, .int .i64 ep4, .slice P4 pn4 pc4, .int .i64 0, .int .i64 0, .slice none 0 0, .int .i64 0, .int .i64 0, .int .i64 0, .string ⟨#[]⟩, .string ⟨#[]⟩, .int .i64 0] 37)) := (Below.refl _ _).alloc (Nat.le_refl _) _
          have HBf := Lib.hid (below_next HBe.out hal)
          have hR2 := Lib.hid (show RdEs (z1.alloc (.cells #[.int .i64 0, .int .i64 0, .int .i64 0, .int .i64 id4, .int .i64 ep4, .slice P4 pn4 pc4, .int .i64 0, .int .i64 0, .slice none 0 0, .int .i64 0, .int .i64 0, .int .i64 0, .string ⟨#[]⟩, .string ⟨#[]⟩, .int .i64 0] 37)) (some ⟨z1.heap.size, 0, none⟩) 1 [Ed.xp ((⟨id4, ep4, P4, pn4, pc4⟩ : Ed.Pc), ps4)] from RdEs.one_ 37 (HQ2.out _ HBe.out))
          have hR3 := Lib.hid (hR1.out.below hal)
          have hS2 := Lib.hid (show (z1.alloc (.cells #[.int .i64 0, .int .i64 0, .int .i64 0, .int .i64 id4, .int .i64 ep4, .slice P4 pn4 pc4, .int .i64 0, .int .i64 0, .slice none 0 0, .int .i64 0, .int .i64 0, .int .i64 0, .string ⟨#[]⟩, .string ⟨#[]⟩, .int .i64 0] 37)).cell? ⟨b3, o3 + k * 3, none⟩ = some (.int .i64 id) ∧ (z1.alloc (.cells #[.int .i64 0, .int .i64 0, .int .i64 0, .int .i64 id4, .int .i64 ep4, .slice P4 pn4 pc4, .int .i64 0, .int .i64 0, .slice none 0 0, .int .i64 0, .int .i64 0, .int .i64 0, .string ⟨#[]⟩, .string ⟨#[]⟩, .int .i64 0] 37)).cell? ⟨b3, o3 + k * 3 + 1, none⟩ = some (.int .i64 ep) ∧ (z1.alloc (.cells #[.int .i64 0, .int .i64 0, .int .i64 0, .int .i64 id4, .int .i64 ep4, .slice P4 pn4 pc4, .int .i64 0, .int .i64 0, .slice none 0 0, .int .i64 0, .int .i64 0, .int .i64 0, .string ⟨#[]⟩, .string ⟨#[]⟩, .int .i64 0] 37)).cell? ⟨b3, o3 + k * 3 + 2, none⟩ = some (.slice P3 pn pc) ∧ (z1.alloc (.cells #[.int .i64 0, .int .i64 0, .int .i64 0, .int .i64 id4, .int .i64 ep4, .slice P4 pn4 pc4, .int .i64 0, .int .i64 0, .slice none 0 0, .int .i64 0, .int .i64 0, .int .i64 0, .string ⟨#[]⟩, .string ⟨#[]⟩, .int .i64 0] 37)).cell? ⟨b4, o4 + k * 3, none⟩ = some (.int .i64 id4) ∧ (z1.alloc (.cells #[.int .i64 0, .int .i64 0, .int .i64 0, .int .i64 id4, .int .i64 ep4, .slice P4 pn4 pc4, .int .i64 0, .int .i64 0, .slice none 0 0, .int .i64 0, .int .i64 0, .int .i64 0, .string ⟨#[]⟩, .string ⟨#[]⟩, .int .i64 0] 37)).cell? ⟨b4, o4 + k * 3 + 1, none⟩ = some (.int .i64 ep4) ∧ (z1.alloc (.cells #[.int .i64 0, .int .i64 0, .int .i64 0, .int .i64 id4, .int .i64 ep4, .slice P4 pn4 pc4, .int .i64 0, .int .i64 0, .slice none 0 0, .int .i64 0, .int .i64 0, .int .i64 0, .string ⟨#[]⟩, .string ⟨#[]⟩, .int .i64 0] 37)).cell? ⟨b4, o4 + k * 3 + 2, none⟩ = some (.slice P4 pn4 pc4) from ⟨(HC1.out _ (HBf.out)).1, (HC1.out _ (HBf.out)).2.1, (HC1.out _ (HBf.out)).2.2, (HC2.out _ (HBf.out)).1, (HC2.out _ (HBf.out)).2.1, (HC2.out _ (HBf.out)).2.2⟩)
          refine hK.out _ _ hS2.out (fun _ => trivial) ?_
          clear hK
          try walk_nrm
          clear hal
          generalize (z1.alloc (.cells #[.int .i64 0, .int .i64 0, .int .i64 0, .int .i64 id4, .int .i64 ep4, .slice P4 pn4 pc4, .int .i64 0, .int .i64 0, .slice none 0 0, .int .i64 0, .int .i64 0, .int .i64 0, .string ⟨#[]⟩, .string ⟨#[]⟩, .int .i64 0] 37)) = z2 at *
          refine wpAnyT_one (i := 12) (by kernel_rfl) rfl (fun K hK => ?_)
          try walk_nrm
          rw [if_pos (by rfl)]
          go_simp
          refine (rsameedits_yes _ 1 1 _ 1 1 _ _ z2 hR3.out hR2.out (Ed.xp_et HEy.out) (by omega)).mono ?_
          rintro e v8 ⟨rfl, hb8⟩
          have HBg := Lib.hid (below_next HBf.out hb8)
          have hS3 := Lib.hid (show v8.cell? ⟨b3, o3 + k * 3, none⟩ = some (.int .i64 id) ∧ v8.cell? ⟨b3, o3 + k * 3 + 1, none⟩ = some (.int .i64 ep) ∧ v8.cell? ⟨b3, o3 + k * 3 + 2, none⟩ = some (.slice P3 pn pc) ∧ v8.cell? ⟨b4, o4 + k * 3, none⟩ = some (.int .i64 id4) ∧ v8.cell? ⟨b4, o4 + k * 3 + 1, none⟩ = some (.int .i64 ep4) ∧ v8.cell? ⟨b4, o4 + k * 3 + 2, none⟩ = some (.slice P4 pn4 pc4) from ⟨(HC1.out _ (HBg.out)).1, (HC1.out _ (HBg.out)).2.1, (HC1.out _ (HBg.out)).2.2, (HC2.out _ (HBg.out)).1, (HC2.out _ (HBg.out)).2.1, (HC2.out _ (HBg.out)).2.2⟩)
          refine hK.out _ _ hS3.out (fun _ => trivial) ?_
          clear hK
          try walk_nrm
          refine tkS (i := 13) hS3.out ?_; try walk_nrm
          refine wpAnyT_done (by kernel_rfl) ?_ _
          clear hS0 hS1 hS2 hS3 hR1 hR2 hR3 hbd hb8
          go_wp2_with fail
          go_roundw
          case rel => exact ⟨k + 1, by omega, by go_num, HBg⟩
          case measure => simp [intOf]; omega
        · try walk_nrm
          rw [if_pos (by rfl)]
          go_simp
          have hal : Below wr.heap.size wr ((wr.alloc (.cells #[.int .i64 0, .int .i64 0, .int .i64 0, .int .i64 id4, .int .i64 ep4, .slice P4 pn4 pc4, .int .i64 0, .int .i64 0, .slice none 0 0, .int .i64 0, .int .i64 0, .int .i64 0, .string ⟨#[]⟩, .string ⟨#[]⟩, .int .i64 0] 37)).drew) := ((Below.refl _ _).alloc (Nat.le_refl _) _).drew
          have HBe := Lib.hid (below_next HB.out hal)
          have hR1 := Lib.hid (show RdEs (wr.alloc (.cells #[.int .i64 0, .int .i64 0, .int .i64 0, .int .i64 id4, .int .i64 ep4, .slice P4 pn4 pc4, .int .i64 0, .int .i64 0, .slice none 0 0, .int .i64 0, .int .i64 0, .int .i64 0, .string ⟨#[]⟩, .string ⟨#[]⟩, .int .i64 0] 37)).drew (some ⟨wr.heap.size, 0, none⟩) 1 [Ed.xp ((⟨id4, ep4, P4, pn4, pc4⟩ : Ed.Pc), ps4)] from (RdEs.one_ 37 (HQ2.out _ HB.out)).below (Below.refl _ _).drew)
          have hS1 := Lib.hid (show (wr.alloc (.cells #[.int .i64 0, .int .i64 0, .int .i64 0, .int .i64 id4, .int .i64 ep4, .slice P4 pn4 pc4, .int .i64 0, .int .i64 0, .slice none 0 0, .int .i64 0, .int .i64 0, .int .i64 0, .string ⟨#[]⟩, .string ⟨#[]⟩, .int .i64 0] 37)).drew.cell? ⟨b3, o3 + k * 3, none⟩ = some (.int .i64 id) ∧ (wr.alloc (.cells #[.int .i64 0, .int .i64 0, .int .i64 0, .int .i64 id4, .int .i64 ep4, .slice P4 pn4 pc4, .int .i64 0, .int .i64 0, .slice none 0 0, .int .i64 0, .int .i64 0, .int .i64 0, .string ⟨#[]⟩, .string ⟨#[]⟩, .int .i64 0] 37)).drew.cell? ⟨b3, o3 + k * 3 + 1, none⟩ = some (.int .i64 ep) ∧ (wr.alloc (.cells #[.int .i64 0, .int .i64 0, .int .i64 0, .int .i64 id4, .int .i64 ep4, .slice P4 pn4 pc4, .int .i64 0, .int .i64 0, .slice none 0 0, .int .i64 0, .int .i64 0, .int .i64 0, .string ⟨#[]⟩, .string ⟨#[]⟩, .int .i64 0] 37)).drew.cell? ⟨b3, o3 + k * 3 + 2, none⟩ = some (.slice P3 pn pc) ∧ (wr.alloc (.cells #[.int .i64 0, .int .i64 0, .int .i64 0, .int .i64 id4, .int .i64 ep4, .slice P4 pn4 pc4, .int .i64 0, .int .i64 0, .slice none 0 0, .int .i64 0, .int .i64 0, .int .i64 0, .string ⟨#[]⟩, .string ⟨#[]⟩, .int .i64 0] 37)).drew.cell? ⟨b4, o4 + k * 3, none⟩ = some (.int .i64 id4) ∧ (wr.alloc (.cells #[.int .i64 0, .int .i64 0, .int .i64 0, .int .i64 id4, .int .i64 ep4, .slice P4 pn4 pc4, .int .i64 0, .int .i64 0, .slice none 0 0, .int .i64 0, .int .i64 0, .int .i64 0, .string ⟨#[]⟩, .string ⟨#[]⟩, .int .i64 0] 37)).drew.cell? ⟨b4, o4 + k * 3 + 1, none⟩ = some (.int .i64 ep4) ∧ (wr.alloc (.cells #[.int .i64 0, .int .i64 0, .int .i64 0, .int .i64 id4, .int .i64 ep4, .slice P4 pn4 pc4, .int .i64 0, .int .i64 0, .slice none 0 0, .int .i64 0, .int .i64 0, .int .i64 0, .string ⟨#[]⟩, .string ⟨#[]⟩, .int .i64 0] 37)).drew.cell? ⟨b4, o4 + k * 3 + 2, none⟩ = some (.slice P4 pn4 pc4) from ⟨(HC1.out _ (HBe.out)).1, (HC1.out _ (HBe.out)).2.1, (HC1.out _ (HBe.out)).2.2, (HC2.out _ (HBe.out)).1, (HC2.out _ (HBe.out)).2.1, (HC2.out _ (HBe.out)).2.2⟩)
          refine hK.out _ _ hS1.out (fun _ => trivial) ?_
          clear hK
          try walk_nrm
          clear hal
          generalize (wr.alloc (.cells #[.int .i64 0, .int .i64 0, .int .i64 0, .int .i64 id4, .int .i64 ep4, .slice P4 pn4 pc4, .int .i64 0, .int .i64 0, .slice none 0 0, .int .i64 0, .int .i64 0, .int .i64 0, .string ⟨#[]⟩, .string ⟨#[]⟩, .int .i64 0] 37)).drew = z1 at *
          refine wpAnyT_one (i := 5) (by kernel_rfl) rfl (fun K hK => ?_)
          try walk_nrm
          rw [if_pos (by rfl)]
          go_simp
          have hal : Below z1.heap.size z1 (z1.alloc (.cells #[.int .i64 0, .int .i64 0, .int .i64 0, .int .i64 id, .int .i64 ep, .slice P3 pn pc, .int .i64 0, .int .i64 0, .slice none 0 0, .int .i64 0, .int .i64 0, .int .i64 0, .string ⟨#[]⟩, .string ⟨#[]⟩, .int .i64 0] 37)) := (Below.refl _ _).alloc (Nat.le_refl _) _
          have HBf := Lib.hid (below_next HBe.out hal)
          have hR2 := Lib.hid (show RdEs (z1.alloc (.cells #[.int .i64 0, .int .i64 0, .int .i64 0, .int .i64 id, .int .i64 ep, .slice P3 pn pc, .int .i64 0, .int .i64 0, .slice none 0 0, .int .i64 0, .int .i64 0, .int .i64 0, .string ⟨#[]⟩, .string ⟨#[]⟩, .int .i64 0] 37)) (some ⟨z1.heap.size, 0, none⟩) 1 [Ed.xp ((⟨id, ep, P3, pn, pc⟩ : Ed.Pc), ps3)] from RdEs.one_ 37 (HQ1.out _ HBe.out))
          have hR3 := Lib.hid (hR1.out.below hal)
          have hS2 := Lib.hid (show (z1.alloc (.cells #[.int .i64 0, .int .i64 0, .int .i64 0, .int .i64 id, .int .i64 ep, .slice P3 pn pc, .int .i64 0, .int .i64 0, .slice none 0 0, .int .i64 0, .int .i64 0, .int .i64 0, .string ⟨#[]⟩, .string ⟨#[]⟩, .int .i64 0] 37)).cell? ⟨b3, o3 + k * 3, none⟩ = some (.int .i64 id) ∧ (z1.alloc (.cells #[.int .i64 0, .int .i64 0, .int .i64 0, .int .i64 id, .int .i64 ep, .slice P3 pn pc, .int .i64 0, .int .i64 0, .slice none 0 0, .int .i64 0, .int .i64 0, .int .i64 0, .string ⟨#[]⟩, .string ⟨#[]⟩, .int .i64 0] 37)).cell? ⟨b3, o3 + k * 3 + 1, none⟩ = some (.int .i64 ep) ∧ (z1.alloc (.cells #[.int .i64 0, .int .i64 0, .int .i64 0, .int .i64 id, .int .i64 ep, .slice P3 pn pc, .int .i64 0, .int .i64 0, .slice none 0 0, .int .i64 0, .int .i64 0, .int .i64 0, .string ⟨#[]⟩, .string ⟨#[]⟩, .int .i64 0] 37)).cell? ⟨b3, o3 + k * 3 + 2, none⟩ = some (.slice P3 pn pc) ∧ (z1.alloc (.cells #[.int .i64 0, .int .i64 0, .int .i64 0, .int .i64 id, .int .i64 ep, .slice P3 pn pc, .int .i64 0, .int .i64 0, .slice none 0 0, .int .i64 0, .int .i64 0, .int .i64 0, .string ⟨#[]⟩, .string ⟨#[]⟩, .int .i64 0] 37)).cell? ⟨b4, o4 + k * 3, none⟩ = some (.int .i64 id4) ∧ (z1.alloc (.cells #[.int .i64 0, .int .i64 0, .int .i64 0, .int .i64 id, .int .i64 ep, .slice P3 pn pc, .int .i64 0, .int .i64 0, .slice none 0 0, .int .i64 0, .int .i64 0, .int .i64 0, .string ⟨#[]⟩, .string ⟨#[]⟩, .int .i64 0] 37)).cell? ⟨b4, o4 + k * 3 + 1, none⟩ = some (.int .i64 ep4) ∧ (z1.alloc (.cells #[.int .i64 0, .int .i64 0, .int .i64 0, .int .i64 id, .int .i64 ep, .slice P3 pn pc, .int .i64 0, .int .i64 0, .slice none 0 0, .int .i64 0, .int .i64 0, .int .i64 0, .string ⟨#[]⟩, .string ⟨#[]⟩, .int .i64 0] 37)).cell? ⟨b4, o4 + k * 3 + 2, none⟩ = some (.slice P4 pn4 pc4) from ⟨(HC1.out _ (HBf.out)).1, (HC1.out _ (HBf.out)).2.1, (HC1.out _ (HBf.out)).2.2, (HC2.out _ (HBf.out)).1, (HC2.out _ (HBf.out)).2.1, (HC2.out _ (HBf.out)).2.2⟩)
          refine hK.out _ _ hS2.out (fun _ => trivial) ?_
          clear hK
          try walk_nrm
          clear hal
          generalize (z1.alloc (.cells #[.int .i64 0, .int .i64 0, .int .i64 0, .int .i64 id, .int .i64 ep, .slice P3 pn pc, .int .i64 0, .int .i64 0, .slice none 0 0, .int .i64 0, .int .i64 0, .int .i64 0, .string ⟨#[]⟩, .string ⟨#[]⟩, .int .i64 0] 37)) = z2 at *
          refine wpAnyT_one (i := 12) (by kernel_rfl) rfl (fun K hK => ?_)
          try walk_nrm
          rw [if_pos (by rfl)]
          go_simp
          refine (rsameedits_yes _ 1 1 _ 1 1 _ _ z2 hR2.out hR3.out (Ed.xp_et HEy.out) (by omega)).mono ?_
          rintro e v8 ⟨rfl, hb8⟩
          have HBg := Lib.hid (below_next HBf.out hb8)
          have hS3 := Lib.hid (show v8.cell? ⟨b3, o3 + k * 3, none⟩ = some (.int .i64 id) ∧ v8.cell? ⟨b3, o3 + k * 3 + 1, none⟩ = some (.int .i64 ep) ∧ v8.cell? ⟨b3, o3 + k * 3 + 2, none⟩ = some (.slice P3 pn pc) ∧ v8.cell? ⟨b4, o4 + k * 3, none⟩ = some (.int .i64 id4) ∧ v8.cell? ⟨b4, o4 + k * 3 + 1, none⟩ = some (.int .i64 ep4) ∧ v8.cell? ⟨b4, o4 + k * 3 + 2, none⟩ = some (.slice P4 pn4 pc4) from ⟨(HC1.out _ (HBg.out)).1, (HC1.out _ (HBg.out)).2.1, (HC1.out _ (HBg.out)).2.2, (HC2.out _ (HBg.out)).1, (HC2.out _ (HBg.out)).2.1, (HC2.out _ (HBg.out)).2.2⟩)
          refine hK.out _ _ hS3.out (fun _ => trivial) ?_
          clear hK
          try walk_nrm
          refine tkS (i := 13) hS3.out ?_; try walk_nrm
          refine wpAnyT_done (by kernel_rfl) ?_ _
          clear hS0 hS1 hS2 hS3 hR1 hR2 hR3 hbd hb8
          go_wp2_with fail
          go_roundw
          case rel => exact ⟨k + 1, by omega, by go_num, HBg⟩
          case measure => simp [intOf]; omega
      · have hki : ¬ (k : Int) < (F.length : Int) := by omega
        have HB7 := Lib.hid (below_next HB6.out HB.out)
        clear hlt hk
        cases ok with
        | false =>
          have x0 := (HXa.out _ HB7.out).at_ 0 rfl
          have x1 := (HXa.out _ HB7.out).at_ 1 rfl
          have x2 := (HXa.out _ HB7.out).at_ 2 rfl
          have x3 := (HXa.out _ HB7.out).at_ 3 rfl
          have CK1 := Lib.hid (CK.out _ HB7.out)
          go_wp2_with fail
          refine CK1.out.mono ?_
          rintro e v8 ⟨rfl, hb8⟩
          have HB8 := Lib.hid (below_next HB7.out hb8)
          clear x0 x1 x2 x3 CK1 hb8 hki
          go_upto_region 11 with fail
          have hbd : Below v8.heap.size v8 v8.drew := (Below.refl _ _).drew
          have hb0 := below_next HB8.out hbd
          have hS0 := Lib.hid (show v8.drew.cell? ⟨w.heap.size, 0, none⟩ = some (.int .i64 nx) ∧ v8.drew.cell? ⟨w.heap.size, 1, none⟩ = some (.int .i64 sq) ∧ v8.drew.cell? ⟨w.heap.size, 2, none⟩ = some (.slice A1 n1 c1) ∧ v8.drew.cell? ⟨w.heap.size, 3, none⟩ = some (.slice B1 m1 d1) ∧ v8.drew.cell? ⟨w.heap.size + 1, 0, none⟩ = some (.int .i64 nx2) ∧ v8.drew.cell? ⟨w.heap.size + 1, 1, none⟩ = some (.int .i64 sq2) ∧ v8.drew.cell? ⟨w.heap.size + 1, 2, none⟩ = some (.slice P1 k1 e1) ∧ v8.drew.cell? ⟨w.heap.size + 1, 3, none⟩ = some (.slice Q1 j1 f1) from ⟨(HXa.out _ (hb0)).at_ 0 rfl, (HXa.out _ (hb0)).at_ 1 rfl, (HXa.out _ (hb0)).at_ 2 rfl, (HXa.out _ (hb0)).at_ 3 rfl, (HXb.out _ (hb0)).at_ 0 rfl, (HXb.out _ (hb0)).at_ 1 rfl, (HXb.out _ (hb0)).at_ 2 rfl, (HXb.out _ (hb0)).at_ 3 rfl⟩)
          refine wp_region_T (fun W => W.cell? ⟨w.heap.size, 0, none⟩ = some (.int .i64 nx) ∧ W.cell? ⟨w.heap.size, 1, none⟩ = some (.int .i64 sq) ∧ W.cell? ⟨w.heap.size, 2, none⟩ = some (.slice A1 n1 c1) ∧ W.cell? ⟨w.heap.size, 3, none⟩ = some (.slice B1 m1 d1) ∧ W.cell? ⟨w.heap.size + 1, 0, none⟩ = some (.int .i64 nx2) ∧ W.cell? ⟨w.heap.size + 1, 1, none⟩ = some (.int .i64 sq2) ∧ W.cell? ⟨w.heap.size + 1, 2, none⟩ = some (.slice P1 k1 e1) ∧ W.cell? ⟨w.heap.size + 1, 3, none⟩ = some (.slice Q1 j1 f1)) (fun W => True) 99 (by kernel_rfl) ?_
          refine tkS (i := 0) hS0.out ?_; try walk_nrm
          refine tkS (i := 1) hS0.out ?_; try walk_nrm
          refine wpAnyT_one (i := 2) (by kernel_rfl) rfl (fun K hK => ?_)
          try walk_nrm
          rw [if_pos (by rfl)]
          go_simp
          refine (CI.out _ hb0).mono ?_
          rintro e z1 ⟨rfl, hc1⟩
          have hb1 := below_next hb0 hc1
          have hS1 := Lib.hid (show z1.cell? ⟨w.heap.size, 0, none⟩ = some (.int .i64 nx) ∧ z1.cell? ⟨w.heap.size, 1, none⟩ = some (.int .i64 sq) ∧ z1.cell? ⟨w.heap.size, 2, none⟩ = some (.slice A1 n1 c1) ∧ z1.cell? ⟨w.heap.size, 3, none⟩ = some (.slice B1 m1 d1) ∧ z1.cell? ⟨w.heap.size + 1, 0, none⟩ = some (.int .i64 nx2) ∧ z1.cell? ⟨w.heap.size + 1, 1, none⟩ = some (.int .i64 sq2) ∧ z1.cell? ⟨w.heap.size + 1, 2, none⟩ = some (.slice P1 k1 e1) ∧ z1.cell? ⟨w.heap.size + 1, 3, none⟩ = some (.slice Q1 j1 f1) from ⟨(HXa.out _ (hb1)).at_ 0 rfl, (HXa.out _ (hb1)).at_ 1 rfl, (HXa.out _ (hb1)).at_ 2 rfl, (HXa.out _ (hb1)).at_ 3 rfl, (HXb.out _ (hb1)).at_ 0 rfl, (HXb.out _ (hb1)).at_ 1 rfl, (HXb.out _ (hb1)).at_ 2 rfl, (HXb.out _ (hb1)).at_ 3 rfl⟩)
          refine hK.out _ _ hS1.out (fun _ => trivial) ?_
          clear hK
          try walk_nrm
          refine tkS (i := 3) hS1.out ?_; try walk_nrm
          refine tkS (i := 4) hS1.out ?_; try walk_nrm
          refine tkS (i := 5) hS1.out ?_; try walk_nrm
          refine tkS (i := 6) hS1.out ?_; try walk_nrm
          refine tkS (i := 7) hS1.out ?_; try walk_nrm
          refine wpAnyT_one (i := 8) (by kernel_rfl) rfl (fun K hK => ?_)
          try walk_nrm
          rw [if_pos (by rfl)]
          go_simp
          refine (CK.out _ hb1).mono ?_
          rintro e z2 ⟨rfl, hc2⟩
          have hb2 := below_next hb1 hc2
          have hS2 := Lib.hid (show z2.cell? ⟨w.heap.size, 0, none⟩ = some (.int .i64 nx) ∧ z2.cell? ⟨w.heap.size, 1, none⟩ = some (.int .i64 sq) ∧ z2.cell? ⟨w.heap.size, 2, none⟩ = some (.slice A1 n1 c1) ∧ z2.cell? ⟨w.heap.size, 3, none⟩ = some (.slice B1 m1 d1) ∧ z2.cell? ⟨w.heap.size + 1, 0, none⟩ = some (.int .i64 nx2) ∧ z2.cell? ⟨w.heap.size + 1, 1, none⟩ = some (.int .i64 sq2) ∧ z2.cell? ⟨w.heap.size + 1, 2, none⟩ = some (.slice P1 k1 e1) ∧ z2.cell? ⟨w.heap.size + 1, 3, none⟩ = some (.slice Q1 j1 f1) from ⟨(HXa.out _ (hb2)).at_ 0 rfl, (HXa.out _ (hb2)).at_ 1 rfl, (HXa.out _ (hb2)).at_ 2 rfl, (HXa.out _ (hb2)).at_ 3 rfl, (HXb.out _ (hb2)).at_ 0 rfl, (HXb.out _ (hb2)).at_ 1 rfl, (HXb.out _ (hb2)).at_ 2 rfl, (HXb.out _ (hb2)).at_ 3 rfl⟩)
          refine hK.out _ _ hS2.out (fun _ => trivial) ?_
          clear hK
          try walk_nrm
          refine tkS (i := 9) hS2.out ?_; try walk_nrm
          refine tkS (i := 10) hS2.out ?_; try walk_nrm
          refine tkS (i := 11) hS2.out ?_; try walk_nrm
          refine tkS (i := 12) hS2.out ?_; try walk_nrm
          refine tkS (i := 13) hS2.out ?_; try walk_nrm
          refine tkS (i := 15) hS2.out ?_; try walk_nrm
          refine wpAnyT_one (i := 14) (by kernel_rfl) rfl (fun K hK => ?_)
          try walk_nrm
          rw [if_pos (by rfl)]
          go_simp
          refine (CM.out _ hb2).mono ?_
          rintro e z3 ⟨hc3, hno, _⟩
          obtain rfl := hno rfl
          have hb3 := below_next hb2 hc3
          have hS3 := Lib.hid (show z3.cell? ⟨w.heap.size, 0, none⟩ = some (.int .i64 nx) ∧ z3.cell? ⟨w.heap.size, 1, none⟩ = some (.int .i64 sq) ∧ z3.cell? ⟨w.heap.size, 2, none⟩ = some (.slice A1 n1 c1) ∧ z3.cell? ⟨w.heap.size, 3, none⟩ = some (.slice B1 m1 d1) ∧ z3.cell? ⟨w.heap.size + 1, 0, none⟩ = some (.int .i64 nx2) ∧ z3.cell? ⟨w.heap.size + 1, 1, none⟩ = some (.int .i64 sq2) ∧ z3.cell? ⟨w.heap.size + 1, 2, none⟩ = some (.slice P1 k1 e1) ∧ z3.cell? ⟨w.heap.size + 1, 3, none⟩ = some (.slice Q1 j1 f1) from ⟨(HXa.out _ (hb3)).at_ 0 rfl, (HXa.out _ (hb3)).at_ 1 rfl, (HXa.out _ (hb3)).at_ 2 rfl, (HXa.out _ (hb3)).at_ 3 rfl, (HXb.out _ (hb3)).at_ 0 rfl, (HXb.out _ (hb3)).at_ 1 rfl, (HXb.out _ (hb3)).at_ 2 rfl, (HXb.out _ (hb3)).at_ 3 rfl⟩)
          refine hK.out _ _ hS3.out (fun _ => trivial) ?_
          clear hK
          try walk_nrm
          refine wpAnyT_one (i := 16) (by kernel_rfl) rfl (fun K hK => ?_)
          try walk_nrm
          rw [if_pos (by rfl)]
          go_simp
          refine (CR.out _ hb3).mono ?_
          rintro e z4 ⟨hc4, hno2, _⟩
          obtain rfl := hno2 rfl
          have hb4 := below_next hb3 hc4
          have hS4 := Lib.hid (show z4.cell? ⟨w.heap.size, 0, none⟩ = some (.int .i64 nx) ∧ z4.cell? ⟨w.heap.size, 1, none⟩ = some (.int .i64 sq) ∧ z4.cell? ⟨w.heap.size, 2, none⟩ = some (.slice A1 n1 c1) ∧ z4.cell? ⟨w.heap.size, 3, none⟩ = some (.slice B1 m1 d1) ∧ z4.cell? ⟨w.heap.size + 1, 0, none⟩ = some (.int .i64 nx2) ∧ z4.cell? ⟨w.heap.size + 1, 1, none⟩ = some (.int .i64 sq2) ∧ z4.cell? ⟨w.heap.size + 1, 2, none⟩ = some (.slice P1 k1 e1) ∧ z4.cell? ⟨w.heap.size + 1, 3, none⟩ = some (.slice Q1 j1 f1) from ⟨(HXa.out _ (hb4)).at_ 0 rfl, (HXa.out _ (hb4)).at_ 1 rfl, (HXa.out _ (hb4)).at_ 2 rfl, (HXa.out _ (hb4)).at_ 3 rfl, (HXb.out _ (hb4)).at_ 0 rfl, (HXb.out _ (hb4)).at_ 1 rfl, (HXb.out _ (hb4)).at_ 2 rfl, (HXb.out _ (hb4)).at_ 3 rfl⟩)
          refine hK.out _ _ hS4.out (fun _ => trivial) ?_
          clear hK
          try walk_nrm
          refine wpAnyT_one (i := 17) (by kernel_rfl) rfl (fun K hK => ?_)
          try walk_nrm
          rw [if_pos (by rfl)]
          go_simp
          refine (rsameedits_yes none 0 0 none 0 0 [] [] z4 (RdEs.none_ z4) (RdEs.none_ z4) rfl (by omega)).mono ?_
          rintro e z5 ⟨rfl, hc5⟩
          have hb5 := below_next hb4 hc5
          have hS5 := Lib.hid (show z5.cell? ⟨w.heap.size, 0, none⟩ = some (.int .i64 nx) ∧ z5.cell? ⟨w.heap.size, 1, none⟩ = some (.int .i64 sq) ∧ z5.cell? ⟨w.heap.size, 2, none⟩ = some (.slice A1 n1 c1) ∧ z5.cell? ⟨w.heap.size, 3, none⟩ = some (.slice B1 m1 d1) ∧ z5.cell? ⟨w.heap.size + 1, 0, none⟩ = some (.int .i64 nx2) ∧ z5.cell? ⟨w.heap.size + 1, 1, none⟩ = some (.int .i64 sq2) ∧ z5.cell? ⟨w.heap.size + 1, 2, none⟩ = some (.slice P1 k1 e1) ∧ z5.cell? ⟨w.heap.size + 1, 3, none⟩ = some (.slice Q1 j1 f1) from ⟨(HXa.out _ (hb5)).at_ 0 rfl, (HXa.out _ (hb5)).at_ 1 rfl, (HXa.out _ (hb5)).at_ 2 rfl, (HXa.out _ (hb5)).at_ 3 rfl, (HXb.out _ (hb5)).at_ 0 rfl, (HXb.out _ (hb5)).at_ 1 rfl, (HXb.out _ (hb5)).at_ 2 rfl, (HXb.out _ (hb5)).at_ 3 rfl⟩)
          refine hK.out _ _ hS5.out (fun _ => trivial) ?_
          clear hK
          try walk_nrm
          refine tkS (i := 18) hS5.out ?_; try walk_nrm
          refine tkS (i := 19) hS5.out ?_; try walk_nrm
          refine tkS (i := 20) hS5.out ?_; try walk_nrm
          refine tkS (i := 21) hS5.out ?_; try walk_nrm
          refine tkS (i := 23) hS5.out ?_; try walk_nrm
          refine tkS (i := 24) hS5.out ?_; try walk_nrm
          refine wpAnyT_one (i := 22) (by kernel_rfl) rfl (fun K hK => ?_)
          try walk_nrm
          rw [if_pos (by rfl)]
          go_simp
          refine (CE.out _ hb5).mono ?_
          rintro e z6 ⟨rfl, hc6⟩
          have hb6 := below_next hb5 hc6
          have hS6 := Lib.hid (show z6.cell? ⟨w.heap.size, 0, none⟩ = some (.int .i64 nx) ∧ z6.cell? ⟨w.heap.size, 1, none⟩ = some (.int .i64 sq) ∧ z6.cell? ⟨w.heap.size, 2, none⟩ = some (.slice A1 n1 c1) ∧ z6.cell? ⟨w.heap.size, 3, none⟩ = some (.slice B1 m1 d1) ∧ z6.cell? ⟨w.heap.size + 1, 0, none⟩ = some (.int .i64 nx2) ∧ z6.cell? ⟨w.heap.size + 1, 1, none⟩ = some (.int .i64 sq2) ∧ z6.cell? ⟨w.heap.size + 1, 2, none⟩ = some (.slice P1 k1 e1) ∧ z6.cell? ⟨w.heap.size + 1, 3, none⟩ = some (.slice Q1 j1 f1) from ⟨(HXa.out _ (hb6)).at_ 0 rfl, (HXa.out _ (hb6)).at_ 1 rfl, (HXa.out _ (hb6)).at_ 2 rfl, (HXa.out _ (hb6)).at_ 3 rfl, (HXb.out _ (hb6)).at_ 0 rfl, (HXb.out _ (hb6)).at_ 1 rfl, (HXb.out _ (hb6)).at_ 2 rfl, (HXb.out _ (hb6)).at_ 3 rfl⟩)
          refine hK.out _ _ hS6.out (fun _ => trivial) ?_
          clear hK
          try walk_nrm
          refine wpAnyT_one (i := 25) (by kernel_rfl) rfl (fun K hK => ?_)
          try walk_nrm
          rw [if_pos (by rfl)]
          go_simp
          refine (CF.out _ hb6).mono ?_
          rintro e z7 ⟨rfl, hc7⟩
          have hb7 := below_next hb6 hc7
          have hS7 := Lib.hid (show z7.cell? ⟨w.heap.size, 0, none⟩ = some (.int .i64 nx) ∧ z7.cell? ⟨w.heap.size, 1, none⟩ = some (.int .i64 sq) ∧ z7.cell? ⟨w.heap.size, 2, none⟩ = some (.slice A1 n1 c1) ∧ z7.cell? ⟨w.heap.size, 3, none⟩ = some (.slice B1 m1 d1) ∧ z7.cell? ⟨w.heap.size + 1, 0, none⟩ = some (.int .i64 nx2) ∧ z7.cell? ⟨w.heap.size + 1, 1, none⟩ = some (.int .i64 sq2) ∧ z7.cell? ⟨w.heap.size + 1, 2, none⟩ = some (.slice P1 k1 e1) ∧ z7.cell? ⟨w.heap.size + 1, 3, none⟩ = some (.slice Q1 j1 f1) from ⟨(HXa.out _ (hb7)).at_ 0 rfl, (HXa.out _ (hb7)).at_ 1 rfl, (HXa.out _ (hb7)).at_ 2 rfl, (HXa.out _ (hb7)).at_ 3 rfl, (HXb.out _ (hb7)).at_ 0 rfl, (HXb.out _ (hb7)).at_ 1 rfl, (HXb.out _ (hb7)).at_ 2 rfl, (HXb.out _ (hb7)).at_ 3 rfl⟩)
          refine hK.out _ _ hS7.out (fun _ => trivial) ?_
          clear hK
          try walk_nrm
          refine tkS (i := 26) hS7.out ?_; try walk_nrm
          refine tkS (i := 27) hS7.out ?_; try walk_nrm
          refine tkS (i := 28) hS7.out ?_; try walk_nrm
          refine tkS (i := 29) hS7.out ?_; try walk_nrm
          refine tkS (i := 30) hS7.out ?_; try walk_nrm
          refine wpAnyT_one (i := 31) (by kernel_rfl) rfl (fun K hK => ?_)
          try walk_nrm
          rw [if_pos (by rfl)]
          go_simp
          refine (CV.out _ hb7).mono ?_
          rintro e z8 ⟨rfl, hc8⟩
          have hb8 := below_next hb7 hc8
          have hS8 := Lib.hid (show z8.cell? ⟨w.heap.size, 0, none⟩ = some (.int .i64 nx) ∧ z8.cell? ⟨w.heap.size, 1, none⟩ = some (.int .i64 sq) ∧ z8.cell? ⟨w.heap.size, 2, none⟩ = some (.slice A1 n1 c1) ∧ z8.cell? ⟨w.heap.size, 3, none⟩ = some (.slice B1 m1 d1) ∧ z8.cell? ⟨w.heap.size + 1, 0, none⟩ = some (.int .i64 nx2) ∧ z8.cell? ⟨w.heap.size + 1, 1, none⟩ = some (.int .i64 sq2) ∧ z8.cell? ⟨w.heap.size + 1, 2, none⟩ = some (.slice P1 k1 e1) ∧ z8.cell? ⟨w.heap.size + 1, 3, none⟩ = some (.slice Q1 j1 f1) from ⟨(HXa.out _ (hb8)).at_ 0 rfl, (HXa.out _ (hb8)).at_ 1 rfl, (HXa.out _ (hb8)).at_ 2 rfl, (HXa.out _ (hb8)).at_ 3 rfl, (HXb.out _ (hb8)).at_ 0 rfl, (HXb.out _ (hb8)).at_ 1 rfl, (HXb.out _ (hb8)).at_ 2 rfl, (HXb.out _ (hb8)).at_ 3 rfl⟩)
          refine hK.out _ _ hS8.out (fun _ => trivial) ?_
          clear hK
          try walk_nrm
          refine tkS (i := 32) hS8.out ?_; try walk_nrm
          refine tkS (i := 33) hS8.out ?_; try walk_nrm
          refine wpAnyT_one (i := 34) (by kernel_rfl) rfl (fun K hK => ?_)
          try walk_nrm
          rw [if_pos (by rfl)]
          go_simp
          refine (awake_any z8).mono ?_
          rintro e z9 ⟨rfl, hc9⟩
          have hb9 := below_next hb8 hc9
          have hS9 := Lib.hid (show z9.cell? ⟨w.heap.size, 0, none⟩ = some (.int .i64 nx) ∧ z9.cell? ⟨w.heap.size, 1, none⟩ = some (.int .i64 sq) ∧ z9.cell? ⟨w.heap.size, 2, none⟩ = some (.slice A1 n1 c1) ∧ z9.cell? ⟨w.heap.size, 3, none⟩ = some (.slice B1 m1 d1) ∧ z9.cell? ⟨w.heap.size + 1, 0, none⟩ = some (.int .i64 nx2) ∧ z9.cell? ⟨w.heap.size + 1, 1, none⟩ = some (.int .i64 sq2) ∧ z9.cell? ⟨w.heap.size + 1, 2, none⟩ = some (.slice P1 k1 e1) ∧ z9.cell? ⟨w.heap.size + 1, 3, none⟩ = some (.slice Q1 j1 f1) from ⟨(HXa.out _ (hb9)).at_ 0 rfl, (HXa.out _ (hb9)).at_ 1 rfl, (HXa.out _ (hb9)).at_ 2 rfl, (HXa.out _ (hb9)).at_ 3 rfl, (HXb.out _ (hb9)).at_ 0 rfl, (HXb.out _ (hb9)).at_ 1 rfl, (HXb.out _ (hb9)).at_ 2 rfl, (HXb.out _ (hb9)).at_ 3 rfl⟩)
          refine hK.out _ _ hS9.out (fun _ => trivial) ?_
          clear hK
          try walk_nrm
          refine tkS (i := 35) hS9.out ?_; try walk_nrm
          refine tkS (i := 36) hS9.out ?_; try walk_nrm
          refine wpAnyT_done (by kernel_rfl) ?_ _
          have HE := Lib.hid (below_next HBl.out hb9)
          go_wp2
          go_ret
          exact ⟨rfl, HE.out⟩
        | true =>
          have x0 := (HXa.out _ HB7.out).at_ 0 rfl
          have x1 := (HXa.out _ HB7.out).at_ 1 rfl
          have x2 := (HXa.out _ HB7.out).at_ 2 rfl
          have x3 := (HXa.out _ HB7.out).at_ 3 rfl
          have CK1 := Lib.hid (CK.out _ HB7.out)
          go_wp2_with fail
          refine CK1.out.mono ?_
          rintro e v8 ⟨rfl, hb8⟩
          have HB8 := Lib.hid (below_next HB7.out hb8)
          clear x0 x1 x2 x3 CK1 hb8 hki
          go_upto_region 11 with fail
          have hbd : Below v8.heap.size v8 v8.drew := (Below.refl _ _).drew
          have hb0 := below_next HB8.out hbd
          have hS0 := Lib.hid (show v8.drew.cell? ⟨w.heap.size, 0, none⟩ = some (.int .i64 nx) ∧ v8.drew.cell? ⟨w.heap.size, 1, none⟩ = some (.int .i64 sq) ∧ v8.drew.cell? ⟨w.heap.size, 2, none⟩ = some (.slice A1 n1 c1) ∧ v8.drew.cell? ⟨w.heap.size, 3, none⟩ = some (.slice B1 m1 d1) ∧ v8.drew.cell? ⟨w.heap.size + 1, 0, none⟩ = some (.int .i64 nx2) ∧ v8.drew.cell? ⟨w.heap.size + 1, 1, none⟩ = some (.int .i64 sq2) ∧ v8.drew.cell? ⟨w.heap.size + 1, 2, none⟩ = some (.slice P1 k1 e1) ∧ v8.drew.cell? ⟨w.heap.size + 1, 3, none⟩ = some (.slice Q1 j1 f1) from ⟨(HXa.out _ (hb0)).at_ 0 rfl, (HXa.out _ (hb0)).at_ 1 rfl, (HXa.out _ (hb0)).at_ 2 rfl, (HXa.out _ (hb0)).at_ 3 rfl, (HXb.out _ (hb0)).at_ 0 rfl, (HXb.out _ (hb0)).at_ 1 rfl, (HXb.out _ (hb0)).at_ 2 rfl, (HXb.out _ (hb0)).at_ 3 rfl⟩)
          refine wp_region_T (fun W => W.cell? ⟨w.heap.size, 0, none⟩ = some (.int .i64 nx) ∧ W.cell? ⟨w.heap.size, 1, none⟩ = some (.int .i64 sq) ∧ W.cell? ⟨w.heap.size, 2, none⟩ = some (.slice A1 n1 c1) ∧ W.cell? ⟨w.heap.size, 3, none⟩ = some (.slice B1 m1 d1) ∧ W.cell? ⟨w.heap.size + 1, 0, none⟩ = some (.int .i64 nx2) ∧ W.cell? ⟨w.heap.size + 1, 1, none⟩ = some (.int .i64 sq2) ∧ W.cell? ⟨w.heap.size + 1, 2, none⟩ = some (.slice P1 k1 e1) ∧ W.cell? ⟨w.heap.size + 1, 3, none⟩ = some (.slice Q1 j1 f1)) (fun W => True) 99 (by kernel_rfl) ?_
          refine tkS (i := 0) hS0.out ?_; try walk_nrm
          refine tkS (i := 1) hS0.out ?_; try walk_nrm
          refine wpAnyT_one (i := 2) (by kernel_rfl) rfl (fun K hK => ?_)
          try walk_nrm
          rw [if_pos (by rfl)]
          go_simp
          refine (CI.out _ hb0).mono ?_
          rintro e z1 ⟨rfl, hc1⟩
          have hb1 := below_next hb0 hc1
          have hS1 := Lib.hid (show z1.cell? ⟨w.heap.size, 0, none⟩ = some (.int .i64 nx) ∧ z1.cell? ⟨w.heap.size, 1, none⟩ = some (.int .i64 sq) ∧ z1.cell? ⟨w.heap.size, 2, none⟩ = some (.slice A1 n1 c1) ∧ z1.cell? ⟨w.heap.size, 3, none⟩ = some (.slice B1 m1 d1) ∧ z1.cell? ⟨w.heap.size + 1, 0, none⟩ = some (.int .i64 nx2) ∧ z1.cell? ⟨w.heap.size + 1, 1, none⟩ = some (.int .i64 sq2) ∧ z1.cell? ⟨w.heap.size + 1, 2, none⟩ = some (.slice P1 k1 e1) ∧ z1.cell? ⟨w.heap.size + 1, 3, none⟩ = some (.slice Q1 j1 f1) from ⟨(HXa.out _ (hb1)).at_ 0 rfl, (HXa.out _ (hb1)).at_ 1 rfl, (HXa.out _ (hb1)).at_ 2 rfl, (HXa.out _ (hb1)).at_ 3 rfl, (HXb.out _ (hb1)).at_ 0 rfl, (HXb.out _ (hb1)).at_ 1 rfl, (HXb.out _ (hb1)).at_ 2 rfl, (HXb.out _ (hb1)).at_ 3 rfl⟩)
          refine hK.out _ _ hS1.out (fun _ => trivial) ?_
          clear hK
          try walk_nrm
          refine tkS (i := 3) hS1.out ?_; try walk_nrm
          refine tkS (i := 4) hS1.out ?_; try walk_nrm
          refine tkS (i := 5) hS1.out ?_; try walk_nrm
          refine tkS (i := 6) hS1.out ?_; try walk_nrm
          refine tkU (i := 7) hS1.out ?_; try walk_nrm
          refine tkU (i := 8) hS1.out ?_; try walk_nrm
          refine tkU (i := 9) hS1.out ?_; try walk_nrm
          refine tkS (i := 10) hS1.out ?_; try walk_nrm
          refine tkS (i := 11) hS1.out ?_; try walk_nrm
          refine tkS (i := 12) hS1.out ?_; try walk_nrm
          refine tkS (i := 13) hS1.out ?_; try walk_nrm
          refine tkS (i := 15) hS1.out ?_; try walk_nrm
          refine wpAnyT_one (i := 14) (by kernel_rfl) rfl (fun K hK => ?_)
          try walk_nrm
          rw [if_pos (by rfl)]
          go_simp
          refine (CM.out _ hb1).mono ?_
          rintro e z3 ⟨hc3, _, hyes⟩
          obtain ⟨R3, c3, E3, rfl, hm3, hr3, hl3⟩ := hyes rfl
          have hb3 := below_next hb1 hc3
          have hS3 := Lib.hid (show z3.cell? ⟨w.heap.size, 0, none⟩ = some (.int .i64 nx) ∧ z3.cell? ⟨w.heap.size, 1, none⟩ = some (.int .i64 sq) ∧ z3.cell? ⟨w.heap.size, 2, none⟩ = some (.slice A1 n1 c1) ∧ z3.cell? ⟨w.heap.size, 3, none⟩ = some (.slice B1 m1 d1) ∧ z3.cell? ⟨w.heap.size + 1, 0, none⟩ = some (.int .i64 nx2) ∧ z3.cell? ⟨w.heap.size + 1, 1, none⟩ = some (.int .i64 sq2) ∧ z3.cell? ⟨w.heap.size + 1, 2, none⟩ = some (.slice P1 k1 e1) ∧ z3.cell? ⟨w.heap.size + 1, 3, none⟩ = some (.slice Q1 j1 f1) from ⟨(HXa.out _ (hb3)).at_ 0 rfl, (HXa.out _ (hb3)).at_ 1 rfl, (HXa.out _ (hb3)).at_ 2 rfl, (HXa.out _ (hb3)).at_ 3 rfl, (HXb.out _ (hb3)).at_ 0 rfl, (HXb.out _ (hb3)).at_ 1 rfl, (HXb.out _ (hb3)).at_ 2 rfl, (HXb.out _ (hb3)).at_ 3 rfl⟩)
          refine hK.out _ _ hS3.out (fun _ => trivial) ?_
          clear hK
          try walk_nrm
          refine wpAnyT_one (i := 16) (by kernel_rfl) rfl (fun K hK => ?_)
          try walk_nrm
          rw [if_pos (by rfl)]
          go_simp
          refine (CR.out _ hb3).mono ?_
          rintro e z4 ⟨hc4, _, hyes2⟩
          obtain ⟨R4, c4, E4, rfl, hm4, hr4, hl4⟩ := hyes2 rfl
          have hb4 := below_next hb3 hc4
          have hS4 := Lib.hid (show z4.cell? ⟨w.heap.size, 0, none⟩ = some (.int .i64 nx) ∧ z4.cell? ⟨w.heap.size, 1, none⟩ = some (.int .i64 sq) ∧ z4.cell? ⟨w.heap.size, 2, none⟩ = some (.slice A1 n1 c1) ∧ z4.cell? ⟨w.heap.size, 3, none⟩ = some (.slice B1 m1 d1) ∧ z4.cell? ⟨w.heap.size + 1, 0, none⟩ = some (.int .i64 nx2) ∧ z4.cell? ⟨w.heap.size + 1, 1, none⟩ = some (.int .i64 sq2) ∧ z4.cell? ⟨w.heap.size + 1, 2, none⟩ = some (.slice P1 k1 e1) ∧ z4.cell? ⟨w.heap.size + 1, 3, none⟩ = some (.slice Q1 j1 f1) from ⟨(HXa.out _ (hb4)).at_ 0 rfl, (HXa.out _ (hb4)).at_ 1 rfl, (HXa.out _ (hb4)).at_ 2 rfl, (HXa.out _ (hb4)).at_ 3 rfl, (HXb.out _ (hb4)).at_ 0 rfl, (HXb.out _ (hb4)).at_ 1 rfl, (HXb.out _ (hb4)).at_ 2 rfl, (HXb.out _ (hb4)).at_ 3 rfl⟩)
          refine hK.out _ _ hS4.out (fun _ => trivial) ?_
          clear hK
          try walk_nrm
          refine wpAnyT_one (i := 17) (by kernel_rfl) rfl (fun K hK => ?_)
          try walk_nrm
          rw [if_pos (by rfl)]
          go_simp
          refine (rsameedits_yes R3 E3.length c3 R4 E4.length c4 E3 E4 z4 (hr3.below hc4) hr4 (hm3.trans hm4.symm) (by omega)).mono ?_
          rintro e z5 ⟨rfl, hc5⟩
          have hb5 := below_next hb4 hc5
          have hS5 := Lib.hid (show z5.cell? ⟨w.heap.size, 0, none⟩ = some (.int .i64 nx) ∧ z5.cell? ⟨w.heap.size, 1, none⟩ = some (.int .i64 sq) ∧ z5.cell? ⟨w.heap.size, 2, none⟩ = some (.slice A1 n1 c1) ∧ z5.cell? ⟨w.heap.size, 3, none⟩ = some (.slice B1 m1 d1) ∧ z5.cell? ⟨w.heap.size + 1, 0, none⟩ = some (.int .i64 nx2) ∧ z5.cell? ⟨w.heap.size + 1, 1, none⟩ = some (.int .i64 sq2) ∧ z5.cell? ⟨w.heap.size + 1, 2, none⟩ = some (.slice P1 k1 e1) ∧ z5.cell? ⟨w.heap.size + 1, 3, none⟩ = some (.slice Q1 j1 f1) from ⟨(HXa.out _ (hb5)).at_ 0 rfl, (HXa.out _ (hb5)).at_ 1 rfl, (HXa.out _ (hb5)).at_ 2 rfl, (HXa.out _ (hb5)).at_ 3 rfl, (HXb.out _ (hb5)).at_ 0 rfl, (HXb.out _ (hb5)).at_ 1 rfl, (HXb.out _ (hb5)).at_ 2 rfl, (HXb.out _ (hb5)).at_ 3 rfl⟩)
          refine hK.out _ _ hS5.out (fun _ => trivial) ?_
          clear hK
          try walk_nrm
          refine tkS (i := 18) hS5.out ?_; try walk_nrm
          refine tkS (i := 19) hS5.out ?_; try walk_nrm
          refine tkS (i := 20) hS5.out ?_; try walk_nrm
          refine tkS (i := 21) hS5.out ?_; try walk_nrm
          refine tkS (i := 23) hS5.out ?_; try walk_nrm
          refine tkS (i := 24) hS5.out ?_; try walk_nrm
          refine wpAnyT_one (i := 22) (by kernel_rfl) rfl (fun K hK => ?_)
          try walk_nrm
          rw [if_pos (by rfl)]
          go_simp
          refine (CE.out _ hb5).mono ?_
          rintro e z6 ⟨rfl, hc6⟩
          have hb6 := below_next hb5 hc6
          have hS6 := Lib.hid (show z6.cell? ⟨w.heap.size, 0, none⟩ = some (.int .i64 nx) ∧ z6.cell? ⟨w.heap.size, 1, none⟩ = some (.int .i64 sq) ∧ z6.cell? ⟨w.heap.size, 2, none⟩ = some (.slice A1 n1 c1) ∧ z6.cell? ⟨w.heap.size, 3, none⟩ = some (.slice B1 m1 d1) ∧ z6.cell? ⟨w.heap.size + 1, 0, none⟩ = some (.int .i64 nx2) ∧ z6.cell? ⟨w.heap.size + 1, 1, none⟩ = some (.int .i64 sq2) ∧ z6.cell? ⟨w.heap.size + 1, 2, none⟩ = some (.slice P1 k1 e1) ∧ z6.cell? ⟨w.heap.size + 1, 3, none⟩ = some (.slice Q1 j1 f1) from ⟨(HXa.out _ (hb6)).at_ 0 rfl, (HXa.out _ (hb6)).at_ 1 rfl, (HXa.out _ (hb6)).at_ 2 rfl, (HXa.out _ (hb6)).at_ 3 rfl, (HXb.out _ (hb6)).at_ 0 rfl, (HXb.out _ (hb6)).at_ 1 rfl, (HXb.out _ (hb6)).at_ 2 rfl, (HXb.out _ (hb6)).at_ 3 rfl⟩)
          refine hK.out _ _ hS6.out (fun _ => trivial) ?_
          clear hK
          try walk_nrm
          refine wpAnyT_one (i := 25) (by kernel_rfl) rfl (fun K hK => ?_)
          try walk_nrm
          rw [if_pos (by rfl)]
          go_simp
          refine (CF.out _ hb6).mono ?_
          rintro e z7 ⟨rfl, hc7⟩
          have hb7 := below_next hb6 hc7
          have hS7 := Lib.hid (show z7.cell? ⟨w.heap.size, 0, none⟩ = some (.int .i64 nx) ∧ z7.cell? ⟨w.heap.size, 1, none⟩ = some (.int .i64 sq) ∧ z7.cell? ⟨w.heap.size, 2, none⟩ = some (.slice A1 n1 c1) ∧ z7.cell? ⟨w.heap.size, 3, none⟩ = some (.slice B1 m1 d1) ∧ z7.cell? ⟨w.heap.size + 1, 0, none⟩ = some (.int .i64 nx2) ∧ z7.cell? ⟨w.heap.size + 1, 1, none⟩ = some (.int .i64 sq2) ∧ z7.cell? ⟨w.heap.size + 1, 2, none⟩ = some (.slice P1 k1 e1) ∧ z7.cell? ⟨w.heap.size + 1, 3, none⟩ = some (.slice Q1 j1 f1) from ⟨(HXa.out _ (hb7)).at_ 0 rfl, (HXa.out _ (hb7)).at_ 1 rfl, (HXa.out _ (hb7)).at_ 2 rfl, (HXa.out _ (hb7)).at_ 3 rfl, (HXb.out _ (hb7)).at_ 0 rfl, (HXb.out _ (hb7)).at_ 1 rfl, (HXb.out _ (hb7)).at_ 2 rfl, (HXb.out _ (hb7)).at_ 3 rfl⟩)
          refine hK.out _ _ hS7.out (fun _ => trivial) ?_
          clear hK
          try walk_nrm
          refine tkS (i := 26) hS7.out ?_; try walk_nrm
          refine tkS (i := 27) hS7.out ?_; try walk_nrm
          refine tkS (i := 28) hS7.out ?_; try walk_nrm
          refine tkS (i := 29) hS7.out ?_; try walk_nrm
          refine tkS (i := 30) hS7.out ?_; try walk_nrm
          refine wpAnyT_one (i := 31) (by kernel_rfl) rfl (fun K hK => ?_)
          try walk_nrm
          rw [if_pos (by rfl)]
          go_simp
          refine (CV.out _ hb7).mono ?_
          rintro e z8 ⟨rfl, hc8⟩
          have hb8 := below_next hb7 hc8
          have hS8 := Lib.hid (show z8.cell? ⟨w.heap.size, 0, none⟩ = some (.int .i64 nx) ∧ z8.cell? ⟨w.heap.size, 1, none⟩ = some (.int .i64 sq) ∧ z8.cell? ⟨w.heap.size, 2, none⟩ = some (.slice A1 n1 c1) ∧ z8.cell? ⟨w.heap.size, 3, none⟩ = some (.slice B1 m1 d1) ∧ z8.cell? ⟨w.heap.size + 1, 0, none⟩ = some (.int .i64 nx2) ∧ z8.cell? ⟨w.heap.size + 1, 1, none⟩ = some (.int .i64 sq2) ∧ z8.cell? ⟨w.heap.size + 1, 2, none⟩ = some (.slice P1 k1 e1) ∧ z8.cell? ⟨w.heap.size + 1, 3, none⟩ = some (.slice Q1 j1 f1) from ⟨(HXa.out _ (hb8)).at_ 0 rfl, (HXa.out _ (hb8)).at_ 1 rfl, (HXa.out _ (hb8)).at_ 2 rfl, (HXa.out _ (hb8)).at_ 3 rfl, (HXb.out _ (hb8)).at_ 0 rfl, (HXb.out _ (hb8)).at_ 1 rfl, (HXb.out _ (hb8)).at_ 2 rfl, (HXb.out _ (hb8)).at_ 3 rfl⟩)
          refine hK.out _ _ hS8.out (fun _ => trivial) ?_
          clear hK
          try walk_nrm
          refine tkS (i := 32) hS8.out ?_; try walk_nrm
          refine tkS (i := 33) hS8.out ?_; try walk_nrm
          refine wpAnyT_one (i := 34) (by kernel_rfl) rfl (fun K hK => ?_)
          try walk_nrm
          rw [if_pos (by rfl)]
          go_simp
          refine (awake_any z8).mono ?_
          rintro e z9 ⟨rfl, hc9⟩
          have hb9 := below_next hb8 hc9
          have hS9 := Lib.hid (show z9.cell? ⟨w.heap.size, 0, none⟩ = some (.int .i64 nx) ∧ z9.cell? ⟨w.heap.size, 1, none⟩ = some (.int .i64 sq) ∧ z9.cell? ⟨w.heap.size, 2, none⟩ = some (.slice A1 n1 c1) ∧ z9.cell? ⟨w.heap.size, 3, none⟩ = some (.slice B1 m1 d1) ∧ z9.cell? ⟨w.heap.size + 1, 0, none⟩ = some (.int .i64 nx2) ∧ z9.cell? ⟨w.heap.size + 1, 1, none⟩ = some (.int .i64 sq2) ∧ z9.cell? ⟨w.heap.size + 1, 2, none⟩ = some (.slice P1 k1 e1) ∧ z9.cell? ⟨w.heap.size + 1, 3, none⟩ = some (.slice Q1 j1 f1) from ⟨(HXa.out _ (hb9)).at_ 0 rfl, (HXa.out _ (hb9)).at_ 1 rfl, (HXa.out _ (hb9)).at_ 2 rfl, (HXa.out _ (hb9)).at_ 3 rfl, (HXb.out _ (hb9)).at_ 0 rfl, (HXb.out _ (hb9)).at_ 1 rfl, (HXb.out _ (hb9)).at_ 2 rfl, (HXb.out _ (hb9)).at_ 3 rfl⟩)
          refine hK.out _ _ hS9.out (fun _ => trivial) ?_
          clear hK
          try walk_nrm
          refine tkS (i := 35) hS9.out ?_; try walk_nrm
          refine tkS (i := 36) hS9.out ?_; try walk_nrm
          refine wpAnyT_done (by kernel_rfl) ?_ _
          have HE := Lib.hid (below_next HBl.out hb9)
          go_wp2
          go_ret
          exact ⟨rfl, HE.out⟩
end Go.Proofs.YthfcjlndaajkfaaGreat
