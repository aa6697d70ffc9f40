/- slices.Insert of one table. slices.Delete of one log. slices.Delete of one table. slices.Clone of logs, of tables. edit.own: a version in memory of its own. -/
import Derived.Test.YthfcjlndaajkfaaGreatG10
import Derived.Test.YthfcjlndaajkfaaGreatG08
import Derived.Test.YthfcjlndaajkfaaGreatG05
import Derived.Deep.RegionHeldLaw
import Derived.Deep.CutBlock
import Derived.Deep.DeepCutAuto
namespace Go.Proofs.YthfcjlndaajkfaaGreat
open Go.RowKit
set_option linter.unusedVariables false
set_option linter.unusedSimpArgs false
set_option maxRecDepth 100000 in
theorem ovtable (a b : Addr) (la ca lb cb : Nat) (w : World) (hne : a.block ≠ b.block) (tA tB : TypeId) (kA kB : Nat) (hsa : w.shape? a.block = some (tA, kA)) (hsb : w.shape? b.block = some (tB, kB)) (hkB : kB ≠ 0) (hfa : w.frozen? a = false) (hfe : w.frozen? ⟨a.block, kA, none⟩ = false) :
    (callFunc 97 #[.slice (some a) la ca, .slice (some b) lb cb]).run Tryz.prog w = .ok (.value (.bool false)) w := by
  obtain ⟨i0, hi, hz0, hz1, hz2⟩ := info_parts manyAT.info
  rw [run_callFunc_extern Tryz.func97 (by kernel_rfl) (by kernel_rfl) (by kernel_rfl) (e := Extern.SlicesOverlaps.overlaps #[23, 23] #[4]) (by kernel_rfl),
    Lib.run_overlaps_apart w 23 4 35 Tryz.underlying23 9 (fun v => by simp [sizeOf, typeInfo, hi, hz1]) a b la ca lb cb hne tA tB kA kB hsa hsb hkB hfa hfe]
  rfl
set_option maxRecDepth 100000 in
set_option maxHeartbeats 8000000 in
theorem instable_any (base : Nat) (A : Option Addr) (n c : Nat) (vs : List Value) (i vb vc vbase : Nat) (news : List Value) (w : World) (h : OwnC 9 w base 35 A n c vs) (hi : i ≤ n) (hn : n ≤ 100000) (hone : ∀ u ∈ vs, u.oneCell' = true) (hv : OwnC 9 w vbase 35 (some ⟨vb, 0, none⟩) 1 vc news) (h1 : ∀ u ∈ news, u.oneCell' = true) (hvb : blkOf A ≠ some vb) (hbase : base ≤ w.heap.size) :
    Calls Tryz.prog 73 #[.slice A n c, .int .i64 (i : Int), .slice (some ⟨vb, 0, none⟩) 1 vc] w (GivesIns 9 35 w base A n (vs.take (i * 9) ++ news ++ vs.drop (i * 9))) := by
  have HO := hd_ h
  have HV := hd_ hv
  have HN := hd_ (And.intro hone h1)
  have HVB := hd_ hvb
  have HBs := hd_ hbase
  have hcap := h.fits
  have hcb := h.capLe
  have hnl := hv.1
  have HNl := hd_ (show news.length = 9 by rw [hnl, Nat.one_mul])
  clear hone h1 hvb hbase hnl hv
  by_cases hin : i = n
  · -- at the end
    subst hin
    have hvl : vs.length = i * 9 := h.1
    have HE := hd_ (show vs.take (i * 9) ++ news ++ vs.drop (i * 9) = vs ++ news by rw [List.take_of_length_le (by omega), drop_all (by omega), List.append_nil])
    rw [HE.out]
    have HR := hd_ (HV.out.rd)
    have hsl : ∃ x, (Instr.slice 23 (.slice A i c) (some (.int .i64 (i : Int))) none none).run Tryz.prog w = .ok x w := by
      rcases h.2 with ⟨hv0, h0⟩ | ⟨g, c', cur, hv0, _⟩
      · subst h0
        injection hv0 with e1 _ e3
        subst e1 e3
        exact ⟨_, run_nil0 manyAT w⟩
      · injection hv0 with e1 _ _
        subst e1
        by_cases hic : c = i
        · subst hic
          obtain ⟨o, ho⟩ := run_tailN manyAT g c c (c : Int) rfl rfl hcb w
          exact ⟨_, ho⟩
        · exact ⟨_, run_tail manyAT g i c i 0 (c - i) (i : Int) rfl rfl (by omega) (by omega) (by omega) hcb w⟩
    obtain ⟨x, hx⟩ := hsl
    have ee : ((i : Int) == (i : Int)) = true := by simp
    clear h hcap hcb hvl hi
    go_enter Tryz.func73, Tryz.ntmps73
    go_wp2_with (at_builtin; refine wpList_appC manyAT rfl (.tmp 23) (.tmp 24) rfl rfl HO.out ⟨vb, 0, none⟩ 1 vc news HN.out.2 rfl HR.out (by omega) HBs.out ?_; intro B d v hg; have HG := hd_ hg; clear hg)
    go_ret
    exact ⟨B, d, rfl, HG.out.own, by rw [← ownBlock_eq A i c]; exact HG.out.grew, by
      have hb := HG.out.blk
      rw [ownBlock_eq, ownBlock_eq] at hb
      rcases hb with hb | hb
      · exact .inl hb
      · exact .inr fun g hg => by rw [hb] at hg; injection hg with hg; omega⟩
  · obtain ⟨q, hq⟩ : ∃ q, n = i + (q + 1) := ⟨n - i - 1, by omega⟩
    obtain ⟨g, hA, hg1, hg2⟩ := h.form (by omega)
    subst hA
    have hvl : vs.length = (i + (q + 1)) * 9 := by rw [← hq]; exact h.1
    have hvg : vb ≠ g := fun e => HVB.out (by rw [e]; rfl)
    have HQ := hd_ hq
    have HVl := hd_ hvl
    have HVG := hd_ hvg
    have HHG := hd_ (And.intro hg1 hg2)
    have hcn : ¬ ((i : Int) = (n : Int)) := by omega
    have ee : ((i : Int) == (n : Int)) = false := by rw [beq_eq_false_iff_ne]; omega
    have hw1 : IntKind.i64.wrap ((i : Int) + 1) = (i : Int) + 1 := by rw [IntKind.wrap_i64]; omega
    have hw2 : IntKind.i64.wrap ((n : Int) + 1) = (n : Int) + 1 := by rw [IntKind.wrap_i64]; omega
    have hDl : (vs.drop (i * 9)).length = (q + 1) * 9 := by rw [List.length_drop, hvl, Nat.add_mul]; omega
    have HD := hd_ hDl
    have HDone := hd_ (show ∀ u ∈ vs.drop (i * 9), u.oneCell' = true from fun u hu => HN.out.1 u (List.mem_of_mem_drop hu))
    obtain ⟨res, hres⟩ : ∃ res, res = vs.take (i * 9) ++ news ++ vs.drop (i * 9) := ⟨_, rfl⟩
    rw [← hres]
    have ht0 := run_tail manyAT g n c i (q + 1) (c - i) (i : Int) rfl hq (by omega) (by omega) (by omega) hcb w
    clear hDl hvg hin
    by_cases hroom : n + 1 ≤ c
    · -- there is room
      have hrm : ¬ ((c : Int) < (n : Int) + 1) := by omega
      obtain ⟨xs, hxl, hO1⟩ := h.one_more hroom
      have hO1d : OwnC 9 w.drew base 35 (some ⟨g, 0, none⟩) (n + 1) c (vs ++ xs) := hO1
      have hh := run_headS manyAT g n c (n + 1) ((n : Int) + 1) (by omega) hroom hcb w
      have ht1 := run_tail manyAT g (n + 1) c (i + 1) (q + 1) (c - (i + 1)) ((i : Int) + 1) (by omega) (by omega) (by omega) (by omega) (by omega) hcb
      have ht2 := run_tail manyAT g (n + 1) c i (q + 2) (c - i) (i : Int) rfl (by omega) (by omega) (by omega) (by omega) hcb
      have hov := ovtable ⟨vb, 0, none⟩ ⟨g, (i + 1) * 9, none⟩ 1 vc (q + 1) (c - (i + 1)) w HVG.out _ _ _ _ HV.out.shape h.shape (by have h0 : 0 < c * 9 := Nat.mul_pos (by omega) (by omega); omega) (HV.out.freeAt 0) (HV.out.freeAt _)
      have e1 : (i + 1) * 9 + (q + 1) * 9 ≤ (n + 1) * 9 := by rw [← Nat.add_mul]; exact Nat.mul_le_mul_right _ (by omega)
      have hcp1 := run_copyS (w := w.drew) manyAT ((i + 1) * 9) (q + 1) (c - (i + 1)) ⟨g, i * 9, none⟩ (q + 2) (c - i) (q + 1) (vs.drop (i * 9)) (by simp only [Nat.min_def]; split <;> omega) HD.out
        (fun j v hj => by rw [Addr.add_lit]; exact HO.out.drew.cellAt (by rwa [List.getElem?_drop] at hj)) HDone.out hO1d (by rw [HD.out]; exact e1)
      obtain ⟨r1, G1⟩ := OwnC.laid (vs.drop (i * 9)) ((i + 1) * 9) hO1d (by rw [HD.out]; exact e1)
      obtain ⟨v1, hv1⟩ : ∃ v1, v1 = w.drew.setCells g ((i + 1) * 9) (vs.drop (i * 9)) := ⟨_, rfl⟩
      rw [← hv1] at hcp1 r1 G1
      have hVn : RdC 9 v1 (some ⟨vb, 0, none⟩) 1 news := (HV.out.drew.grown G1 (.inr fun g' e1 e2 => by injection e1 with e1; injection e2 with e2; exact HVG.out (by rw [e1]; exact e2))).rd
      have e2 : i * 9 + 1 * 9 ≤ (n + 1) * 9 := by rw [← Nat.add_mul]; exact Nat.mul_le_mul_right _ (by omega)
      have hcp2 := run_copyS (w := v1) manyAT (i * 9) (q + 2) (c - i) ⟨vb, 0, none⟩ 1 vc 1 news (by simp only [Nat.min_def]; split <;> omega) hVn.1
        (fun j v hj => by
          rw [Addr.add_lit]
          obtain ⟨b', o', e, _, hc'⟩ := hVn.2 (by omega)
          injection e with e
          injection e with e1 e2
          subst e1 e2
          exact hc' j v hj) HN.out.2 r1 (by rw [hVn.1]; exact e2)
      obtain ⟨r2, G2⟩ := OwnC.laid news (i * 9) r1 (by rw [hVn.1]; exact e2)
      rw [laid_two HVl.out hxl HNl.out, ← hres] at r2
      have hGG : w.grownBy (v1.setCells g (i * 9) news) (some g) := (show w.grownBy w.drew (some g) from ⟨rfl, rfl, rfl, Nat.le_refl _, fun _ _ _ => rfl⟩).trans (G1.trans G2)
      have HF := hd_ (show GivesIns 9 35 w base (some ⟨g, 0, none⟩) n res (.returned (.slice (some ⟨g, 0, none⟩) (n + 1) c)) (v1.setCells g (i * 9) news) from ⟨some ⟨g, 0, none⟩, c, rfl, r2, hGG, .inl rfl⟩)
      have HC1 := hd_ hcp1
      have HC2 := hd_ hcp2
      clear hcp1 hcp2 r1 r2 G1 G2 hGG hVn e1 e2 hO1 hO1d h hv1 hxl HO HV hvl hg1 hg2 hroom hq
      have ht1w := ht1 w
      have ht1d := ht1 w.drew
      have ht2d := ht2 w.drew
      have ht2v := ht2 v1
      have hc2 := HC2.out 3
      clear ht1 ht2 hres
      go_enter Tryz.func73, Tryz.ntmps73
      go_wp2_with (simp only [hov])
      go_region_law (refine step_copyR (by simp [Region.wanted]) 77 rfl (.tmp 73) (.tmp 76) rfl rfl rfl HC1.out ?_)
      all_goals
        go_wp2
        go_ret
        exact HF.out
    · -- there is none
      have hrm : (c : Int) < (n : Int) + 1 := by omega
      obtain ⟨cap', v1, hz1, hZ, hG1⟩ := run_app_fresh (Tn := 3) manyAT Tryz.underlying3 (h.first hi) (q + 2) (by omega) (by omega) HBs.out .i64
      have hcap1 := hZ.fits
      have hcapb := hZ.capLe
      have hk1 : i + (q + 2) = n + 1 := by omega
      rw [hk1] at hZ hz1 hcap1
      have hzl : (zs (.agg #[.int .i64 0, .int .i64 0, .slice none 0 0, .int .i64 0, .int .i64 0, .int .i64 0, .string ⟨#[]⟩, .string ⟨#[]⟩, .int .i64 0]) (q + 2)).length = (q + 2) * 9 := by rw [zs_length]; rfl
      have ht1 := run_tail manyAT w.heap.size (n + 1) cap' i (q + 2) (cap' - i) (i : Int) rfl (by omega) (by omega) (by omega) (by omega) hcapb
      have ht2 := run_tail manyAT w.heap.size (n + 1) cap' (i + 1) (q + 1) (cap' - (i + 1)) ((i : Int) + 1) (by omega) (by omega) (by omega) (by omega) (by omega) hcapb
      have hh := run_headS manyAT g n c i (i : Int) rfl (by omega) hcb w
      have hVn : RdC 9 v1 (some ⟨vb, 0, none⟩) 1 news := (HV.out.grown hG1 (.inl rfl)).rd
      have e2 : i * 9 + 1 * 9 ≤ (n + 1) * 9 := by rw [← Nat.add_mul]; exact Nat.mul_le_mul_right _ (by omega)
      have e1 : (i + 1) * 9 + (q + 1) * 9 ≤ (n + 1) * 9 := by rw [← Nat.add_mul]; exact Nat.mul_le_mul_right _ (by omega)
      have hcp1 := run_copyS (w := v1) manyAT (i * 9) (q + 2) (cap' - i) ⟨vb, 0, none⟩ 1 vc 1 news (by simp only [Nat.min_def]; split <;> omega) hVn.1
        (fun j v hj => by
          rw [Addr.add_lit]
          obtain ⟨b', o', e, _, hc'⟩ := hVn.2 (by omega)
          injection e with e
          injection e with e1 e2
          subst e1 e2
          exact hc' j v hj) HN.out.2 hZ (by rw [hVn.1]; exact e2)
      obtain ⟨r1, G1⟩ := OwnC.laid news (i * 9) hZ (by rw [hVn.1]; exact e2)
      obtain ⟨v2, hv2⟩ : ∃ v2, v2 = v1.setCells w.heap.size (i * 9) news := ⟨_, rfl⟩
      rw [← hv2] at hcp1 r1 G1
      have hGo : w.grownBy v2.drew (some w.heap.size) := ⟨(G1.os).trans hG1.os, (G1.tape).trans hG1.tape, (G1.output).trans hG1.output, Nat.le_trans hG1.size G1.size, fun k hk hne => by
        have h1 := G1.block k (Nat.lt_of_lt_of_le hk hG1.size) hne
        exact h1.trans (hG1.block k hk (by simp))⟩
      have hsrc : OwnC 9 v2.drew base 35 (some ⟨g, 0, none⟩) n c vs := HO.out.grown hGo (.inr fun g' e1 e2 => by injection e1 with e1; injection e2 with e2; have := HHG.out.2; have e2 : g = g' := e2; omega)
      have hcp2 := run_copyS (w := v2.drew) manyAT ((i + 1) * 9) (q + 1) (cap' - (i + 1)) ⟨g, i * 9, none⟩ (q + 1) (c - i) (q + 1) (vs.drop (i * 9)) (by simp only [Nat.min_def]; split <;> omega) HD.out
        (fun j v hj => by rw [Addr.add_lit]; exact hsrc.cellAt (by rwa [List.getElem?_drop] at hj)) HDone.out r1.drew (by rw [HD.out]; exact e1)
      obtain ⟨r2, G2⟩ := OwnC.laid (vs.drop (i * 9)) ((i + 1) * 9) r1.drew (by rw [HD.out]; exact e1)
      rw [laid_new HVl.out hzl HNl.out, ← hres] at r2
      have hGG : w.grownBy (v2.drew.setCells w.heap.size ((i + 1) * 9) (vs.drop (i * 9))) (some g) := ⟨(G2.os).trans hGo.os, (G2.tape).trans hGo.tape, (G2.output).trans hGo.output, Nat.le_trans hGo.size G2.size, fun k hk hne => by
        have hkw : (some k : Option Nat) ≠ some w.heap.size := fun e => by injection e with e; omega
        exact (G2.block k (Nat.lt_of_lt_of_le hk hGo.size) hkw).trans (hGo.block k hk hkw)⟩
      have HF := hd_ (show GivesIns 9 35 w base (some ⟨g, 0, none⟩) n res (.returned (.slice (some ⟨w.heap.size, 0, none⟩) (n + 1) cap')) (v2.drew.setCells w.heap.size ((i + 1) * 9) (vs.drop (i * 9))) from ⟨some ⟨w.heap.size, 0, none⟩, cap', rfl, r2, hGG, .inr fun g' e => by injection e with e; have e : w.heap.size = g' := e; omega⟩)
      have HC2 := hd_ hcp2
      have hc1 := hcp1 3
      have HZ1 := hd_ (show ∀ ty, (Builtin.append_ #[23, 3] ty #[.slice (some ⟨g, 0, none⟩) i c, .int .i64 ((q + 2 : Nat) : Int)]).run Tryz.prog w = .ok (.slice (some ⟨w.heap.size, 0, none⟩) (n + 1) cap') v1 from hz1)
      have hw3 : IntKind.i64.wrap ((n : Int) + 1 - (i : Int)) = ((q + 2 : Nat) : Int) := by rw [IntKind.wrap_i64]; omega
      generalize hqq : ((q + 2 : Nat) : Int) = qq at *
      have ht1v := ht1 v1
      have ht2v := ht2 v2.drew
      have ht3v := run_tail manyAT g n c i (q + 1) (c - i) (i : Int) rfl (by omega) (by omega) (by omega) (by omega) hcb v2.drew
      have hci : ¬ (c = i) := by omega
      have hni : n - i = q + 1 := by omega
      clear hcp1 hcp2 r1 r2 G1 G2 hGG hGo hsrc hVn e1 e2 hG1 hZ h hv2 HO HV hvl hg1 hg2 hroom hq ht1 ht2 hz1 hres hqq hk1 hzl
      go_enter Tryz.func73, Tryz.ntmps73
      go_wp2_with (at_builtin; refine wpList_appR rfl (.tmp 34) (.tmp 39) rfl rfl rfl HZ1.out ?_)
      go_region_law (refine step_copyR (by simp [Region.wanted]) 54 rfl (.tmp 50) (.tmp 53) rfl rfl rfl HC2.out ?_)
      all_goals
        go_wp2
        go_ret
        exact HF.out
end Go.Proofs.YthfcjlndaajkfaaGreat
namespace Go.Proofs.YthfcjlndaajkfaaGreat
open Go.RowKit
set_option maxRecDepth 100000 in
theorem clearlog (W : World) (base b n cap m c : Nat) (vs : List Value) (h : OwnC 4 W base 62 (some ⟨b, 0, none⟩) n cap vs) (hm : 0 < m) (hc : n + m ≤ cap) :
    ∃ W', (∀ ty, (Builtin.clear_ #[22] ty #[.slice (some ⟨b, n * 4, none⟩) m c]).run Tryz.prog W = .ok (.tuple #[]) W') ∧ OwnC 4 W' base 62 (some ⟨b, 0, none⟩) n cap vs ∧ W.grownBy W' (some b) := by
  have ht : Tryz.prog.underlying 22 = some (.slice 62) := Tryz.underlying22
  have hv : ∀ w, (zeroValue 62).run Tryz.prog w = .ok (.agg #[.int .i64 0, .int .i64 0, .slice none 0 0, .int .i64 0]) w := fun w => by kernel_rfl
  obtain ⟨news, hnews⟩ : ∃ news, (Builtin.zeroCells (Value.agg #[.int .i64 0, .int .i64 0, .slice none 0 0, .int .i64 0]).cells m).toList = news := ⟨_, rfl⟩
  have hlen : news.length = m * 4 := by rw [← hnews]; simp [Builtin.zeroCells, Value.cells]
  have hone : ∀ u ∈ news, u.oneCell' = true := by
    intro u hu
    rw [← hnews] at hu
    simp only [Builtin.zeroCells, Value.cells, Array.toList_map, List.mem_map] at hu
    obtain ⟨i, _, rfl⟩ := hu
    have : i % 4 < 4 := Nat.mod_lt _ (by omega)
    show ((#[Value.int .i64 0, .int .i64 0, .slice none 0 0, .int .i64 0] : Array Value)[i % 4]!).oneCell' = true
    match i % 4, this with
    | 0, _ => rfl
    | 1, _ => rfl
    | 2, _ => rfl
    | 3, _ => rfl
  have hcell : ∀ j, j < news.length → (W.cell? ⟨b, n * 4 + j, none⟩).isSome = true ∧ W.frozen? ⟨b, n * 4 + j, none⟩ = false := by
    intro j hj
    rcases h.2 with ⟨hv, _⟩ | ⟨g', cp, cur, hv, hb, hg, hnc, hcm, hs, ht⟩
    · cases hv
    · injection hv with e1 e2 e3
      injection e1 with e1
      injection e1 with e1
      subst e1 e3
      refine ⟨?_, Joins.unfrozen_of_block hg _⟩
      rw [Joins.cell_of_block hg, Array.getElem?_eq_getElem (by rw [hs]; omega)]
      rfl
  have hst := run_storeCells_cells (P := Tryz.prog) b (n * 4) news 0 W (fun j hj => by rw [Nat.add_zero]; exact (hcell j hj).1) (fun j hj => by rw [Nat.add_zero]; exact (hcell j hj).2) hone
  simp only [Nat.add_zero] at hst
  refine ⟨W.setCells b (n * 4) news, fun ty => ?_, OwnC.behinds news (n * 4) W h (Nat.le_refl _), grown_setCells b news (n * 4) W⟩
  obtain ⟨k, rfl⟩ : ∃ k, m = k + 1 := ⟨m - 1, by omega⟩
  simp [Builtin.clear_, run_underlying ht, hv, hnews, hst]
set_option maxRecDepth 100000 in
set_option maxHeartbeats 4000000 in
theorem dellog_any (base b cap i : Nat) (l : List Ed.Lg) (w : World) (h : OwnC 4 w base 62 (some ⟨b, 0, none⟩) l.length cap (Ed.lflat l)) (hi : i < l.length) (hl : l.length ≤ 1000000) :
    Calls Tryz.prog 101 #[.slice (some ⟨b, 0, none⟩) l.length cap, .int .i64 (i : Int), .int .i64 ((i : Int) + 1)] w fun e w' => e = .returned (.slice (some ⟨b, 0, none⟩) (l.length - 1) cap) ∧ OwnC 4 w' base 62 (some ⟨b, 0, none⟩) (l.length - 1) cap (Ed.lflat (Ed.cut l i)) ∧ w.grownBy w' (some b) := by
  have HO := hd_ h
  have hfit := h.fits
  obtain ⟨j, hj⟩ : ∃ j : Nat, j = i + 1 := ⟨_, rfl⟩
  rw [show (i : Int) + 1 = (j : Int) by omega]
  have hij : i ≤ j := by omega
  have hjl : j ≤ l.length := by omega
  have hiji : (i : Int) ≤ (j : Int) := by omega
  have hjli : (j : Int) ≤ (l.length : Int) := by omega
  have hlci : (l.length : Int) ≤ (cap : Int) := by omega
  have hic : i ≤ cap := by omega
  have hne : ((i : Int) == (j : Int)) = false := by rw [beq_eq_false_iff_ne]; omega
  have hne2 : ¬ (i : Int) = (j : Int) := by omega
  have Hj := hd_ hj
  clear h hj
  go_enter Tryz.func101, Tryz.ntmps101
  have hne3 : (some (⟨b, 0, none⟩ : Addr)) ≠ none := by simp
  have hown1 := (HO.out.takeN hne3 (k := i) (by omega)).drew
  rw [Ed.log_take] at hown1
  have hcellD : ∀ u v, (Ed.lflat (l.drop j))[u]? = some v → w.drew.cell? ⟨b, j * 4 + u, none⟩ = some v := fun u v hv => by
    obtain ⟨b', o', e, _, hc⟩ := HO.out.rd.2 (by omega)
    injection e with e
    injection e with e1 e2
    subst e1 e2
    rw [← Ed.log_drop, List.getElem?_drop] at hv
    have := hc _ v hv
    rwa [Nat.zero_add] at this
  have hlenD : (Ed.lflat (l.drop j)).length = (l.length - j) * 4 := by rw [Ed.log_length, List.length_drop]
  have honeD : ∀ u ∈ Ed.lflat (l.drop j), u.oneCell' = true := by
    intro u hu
    obtain ⟨x, _, hx⟩ := List.mem_flatMap.1 hu
    exact Ed.lcells_one x u hx
  by_cases hjc : j = cap
  · subst hjc
    have hll : l.length - j = 0 := by omega
    go_wp2_with fail
    go_region_law (refine step_fits manyL (by simp [Region.wanted]) 26 rfl (.tmp 22) (.tmp 25) rfl rfl hown1 ⟨b, 0, none⟩ 0 0 [] (by simp) rfl rfl (by simp) (by omega) ?_; intro w5 ho5 hg5)
    all_goals
      have hKl : i = l.length - 1 := by have := Hj.out; omega
      rw [Nat.add_zero, List.append_nil] at ho5
      have ho5 : OwnC 4 w5 base 62 (some ⟨b, 0, none⟩) i j (Ed.lflat (Ed.cut l i)) := by
        have hc : Ed.cut l i = l.take i := by unfold Ed.cut; rw [List.drop_of_length_le (by have := Hj.out; omega), List.append_nil]
        rw [hc]; exact ho5
      obtain ⟨w6, hclr, ho6, hg6⟩ := clearlog w5 base b i j (l.length - i) (j - i) _ ho5 (by omega) (by omega)
      have hKL : i ≤ l.length := by omega
      have hKi : (i : Int) ≤ (l.length : Int) := by omega
      have hKc2 : ¬ j = i := by have := Hj.out; omega
      have HF := hd_ (show OwnC 4 w6 base 62 (some ⟨b, 0, none⟩) (l.length - 1) j (Ed.lflat (Ed.cut l i)) ∧ w.grownBy w6 (some b) by
        rw [← hKl]
        exact ⟨ho6, (show w.grownBy w.drew (some b) from ⟨rfl, rfl, rfl, Nat.le_refl _, fun _ _ _ => rfl⟩).trans (hg5.trans hg6)⟩)
      have HKl := hd_ hKl
      clear ho5 ho6 hg5 hg6 hcellD hown1 hKl
      go_wp2
      go_ret
      exact ⟨by rw [← HKl.out]; rfl, HF.out⟩
  · have hjc2 : ¬ cap = j := fun e => hjc e.symm
    have hjc3 : ¬ cap - j = 0 := by omega
    go_wp2_with fail
    go_region_law (refine step_fits manyL (by simp [Region.wanted]) 26 rfl (.tmp 22) (.tmp 25) rfl rfl hown1 ⟨b, j * 4, none⟩ (l.length - j) (cap - j) (Ed.lflat (l.drop j)) honeD rfl hlenD (fun u v hv => by rw [Addr.add_lit]; exact hcellD u v hv) (by omega) ?_; intro w5 ho5 hg5)
    all_goals
      obtain ⟨K, hK⟩ : ∃ K : Nat, K = i + (l.length - j) := ⟨_, rfl⟩
      have hKl : K = l.length - 1 := by have := Hj.out; omega
      rw [← hK] at ho5 ⊢
      rw [← Ed.log_append] at ho5
      have ho5 : OwnC 4 w5 base 62 (some ⟨b, 0, none⟩) K cap (Ed.lflat (Ed.cut l i)) := by
        have hc : Ed.cut l i = l.take i ++ l.drop j := by unfold Ed.cut; rw [Hj.out]
        rw [hc]; exact ho5
      obtain ⟨w6, hclr, ho6, hg6⟩ := clearlog w5 base b K cap (l.length - K) (cap - K) _ ho5 (by omega) (by omega)
      have hKL : K ≤ l.length := by omega
      have hKi : (K : Int) ≤ (l.length : Int) := by omega
      have hKc : K ≤ cap := by omega
      have hKc2 : ¬ cap = K := by omega
      have HF := hd_ (show OwnC 4 w6 base 62 (some ⟨b, 0, none⟩) (l.length - 1) cap (Ed.lflat (Ed.cut l i)) ∧ w.grownBy w6 (some b) by
        rw [← hKl]
        exact ⟨ho6, (show w.grownBy w.drew (some b) from ⟨rfl, rfl, rfl, Nat.le_refl _, fun _ _ _ => rfl⟩).trans (hg5.trans hg6)⟩)
      have HKl := hd_ hKl
      clear ho5 ho6 hg5 hg6 hK hcellD hown1 hKl
      go_wp2
      go_ret
      exact ⟨by rw [← HKl.out]; rfl, HF.out⟩
end Go.Proofs.YthfcjlndaajkfaaGreat
namespace Go.Proofs.YthfcjlndaajkfaaGreat
open Go.RowKit
set_option maxRecDepth 100000 in
theorem cleartable (W : World) (base b n cap m c : Nat) (vs : List Value) (h : OwnC 9 W base 35 (some ⟨b, 0, none⟩) n cap vs) (hm : 0 < m) (hc : n + m ≤ cap) :
    ∃ W', (∀ ty, (Builtin.clear_ #[23] ty #[.slice (some ⟨b, n * 9, none⟩) m c]).run Tryz.prog W = .ok (.tuple #[]) W') ∧ OwnC 9 W' base 35 (some ⟨b, 0, none⟩) n cap vs ∧ W.grownBy W' (some b) := by
  have ht : Tryz.prog.underlying 23 = some (.slice 35) := Tryz.underlying23
  have hv : ∀ w, (zeroValue 35).run Tryz.prog w = .ok (.agg #[.int .i64 0, .int .i64 0, .slice none 0 0, .int .i64 0, .int .i64 0, .int .i64 0, .string ⟨#[]⟩, .string ⟨#[]⟩, .int .i64 0]) w := fun w => by kernel_rfl
  obtain ⟨news, hnews⟩ : ∃ news, (Builtin.zeroCells (Value.agg #[.int .i64 0, .int .i64 0, .slice none 0 0, .int .i64 0, .int .i64 0, .int .i64 0, .string ⟨#[]⟩, .string ⟨#[]⟩, .int .i64 0]).cells m).toList = news := ⟨_, rfl⟩
  have hlen : news.length = m * 9 := by rw [← hnews]; simp [Builtin.zeroCells, Value.cells]
  have hone : ∀ u ∈ news, u.oneCell' = true := by
    intro u hu
    rw [← hnews] at hu
    simp only [Builtin.zeroCells, Value.cells, Array.toList_map, List.mem_map] at hu
    obtain ⟨i, _, rfl⟩ := hu
    have : i % 9 < 9 := Nat.mod_lt _ (by omega)
    show ((#[Value.int .i64 0, .int .i64 0, .slice none 0 0, .int .i64 0, .int .i64 0, .int .i64 0, .string ⟨#[]⟩, .string ⟨#[]⟩, .int .i64 0] : Array Value)[i % 9]!).oneCell' = true
    match i % 9, this with
    | 0, _ => rfl
    | 1, _ => rfl
    | 2, _ => rfl
    | 3, _ => rfl
    | 4, _ => rfl
    | 5, _ => rfl
    | 6, _ => rfl
    | 7, _ => rfl
    | 8, _ => rfl
  have hcell : ∀ j, j < news.length → (W.cell? ⟨b, n * 9 + j, none⟩).isSome = true ∧ W.frozen? ⟨b, n * 9 + j, none⟩ = false := by
    intro j hj
    rcases h.2 with ⟨hv, _⟩ | ⟨g', cp, cur, hv, hb, hg, hnc, hcm, hs, ht⟩
    · cases hv
    · injection hv with e1 e2 e3
      injection e1 with e1
      injection e1 with e1
      subst e1 e3
      refine ⟨?_, Joins.unfrozen_of_block hg _⟩
      rw [Joins.cell_of_block hg, Array.getElem?_eq_getElem (by rw [hs]; omega)]
      rfl
  have hst := run_storeCells_cells (P := Tryz.prog) b (n * 9) news 0 W (fun j hj => by rw [Nat.add_zero]; exact (hcell j hj).1) (fun j hj => by rw [Nat.add_zero]; exact (hcell j hj).2) hone
  simp only [Nat.add_zero] at hst
  refine ⟨W.setCells b (n * 9) news, fun ty => ?_, OwnC.behinds news (n * 9) W h (Nat.le_refl _), grown_setCells b news (n * 9) W⟩
  obtain ⟨k, rfl⟩ : ∃ k, m = k + 1 := ⟨m - 1, by omega⟩
  simp [Builtin.clear_, run_underlying ht, hv, hnews, hst]
set_option maxRecDepth 100000 in
set_option maxHeartbeats 4000000 in
theorem deltable_any (base b cap i : Nat) (l : List Pk.Tb) (w : World) (h : OwnC 9 w base 35 (some ⟨b, 0, none⟩) l.length cap (Pk.flat l)) (hi : i < l.length) (hl : l.length ≤ 1000000) :
    Calls Tryz.prog 76 #[.slice (some ⟨b, 0, none⟩) l.length cap, .int .i64 (i : Int), .int .i64 ((i : Int) + 1)] w fun e w' => e = .returned (.slice (some ⟨b, 0, none⟩) (l.length - 1) cap) ∧ OwnC 9 w' base 35 (some ⟨b, 0, none⟩) (l.length - 1) cap (Pk.flat (Ed.cut l i)) ∧ w.grownBy w' (some b) := by
  have HO := hd_ h
  have hfit := h.fits
  obtain ⟨j, hj⟩ : ∃ j : Nat, j = i + 1 := ⟨_, rfl⟩
  rw [show (i : Int) + 1 = (j : Int) by omega]
  have hij : i ≤ j := by omega
  have hjl : j ≤ l.length := by omega
  have hiji : (i : Int) ≤ (j : Int) := by omega
  have hjli : (j : Int) ≤ (l.length : Int) := by omega
  have hlci : (l.length : Int) ≤ (cap : Int) := by omega
  have hic : i ≤ cap := by omega
  have hne : ((i : Int) == (j : Int)) = false := by rw [beq_eq_false_iff_ne]; omega
  have hne2 : ¬ (i : Int) = (j : Int) := by omega
  have Hj := hd_ hj
  clear h hj
  go_enter Tryz.func76, Tryz.ntmps76
  have hne3 : (some (⟨b, 0, none⟩ : Addr)) ≠ none := by simp
  have hown1 := (HO.out.takeN hne3 (k := i) (by omega)).drew
  rw [Ed.table_take] at hown1
  have hcellD : ∀ u v, (Pk.flat (l.drop j))[u]? = some v → w.drew.cell? ⟨b, j * 9 + u, none⟩ = some v := fun u v hv => by
    obtain ⟨b', o', e, _, hc⟩ := HO.out.rd.2 (by omega)
    injection e with e
    injection e with e1 e2
    subst e1 e2
    rw [← Ed.table_drop, List.getElem?_drop] at hv
    have := hc _ v hv
    rwa [Nat.zero_add] at this
  have hlenD : (Pk.flat (l.drop j)).length = (l.length - j) * 9 := by rw [Ed.table_length, List.length_drop]
  have honeD : ∀ u ∈ Pk.flat (l.drop j), u.oneCell' = true := by
    intro u hu
    obtain ⟨x, _, hx⟩ := List.mem_flatMap.1 hu
    exact Pk.cells_one x u hx
  by_cases hjc : j = cap
  · subst hjc
    have hll : l.length - j = 0 := by omega
    go_wp2_with fail
    go_region_law (refine step_fits manyAT (by simp [Region.wanted]) 26 rfl (.tmp 22) (.tmp 25) rfl rfl hown1 ⟨b, 0, none⟩ 0 0 [] (by simp) rfl rfl (by simp) (by omega) ?_; intro w5 ho5 hg5)
    all_goals
      have hKl : i = l.length - 1 := by have := Hj.out; omega
      rw [Nat.add_zero, List.append_nil] at ho5
      have ho5 : OwnC 9 w5 base 35 (some ⟨b, 0, none⟩) i j (Pk.flat (Ed.cut l i)) := by
        have hc : Ed.cut l i = l.take i := by unfold Ed.cut; rw [List.drop_of_length_le (by have := Hj.out; omega), List.append_nil]
        rw [hc]; exact ho5
      obtain ⟨w6, hclr, ho6, hg6⟩ := cleartable w5 base b i j (l.length - i) (j - i) _ ho5 (by omega) (by omega)
      have hKL : i ≤ l.length := by omega
      have hKi : (i : Int) ≤ (l.length : Int) := by omega
      have hKc2 : ¬ j = i := by have := Hj.out; omega
      have HF := hd_ (show OwnC 9 w6 base 35 (some ⟨b, 0, none⟩) (l.length - 1) j (Pk.flat (Ed.cut l i)) ∧ w.grownBy w6 (some b) by
        rw [← hKl]
        exact ⟨ho6, (show w.grownBy w.drew (some b) from ⟨rfl, rfl, rfl, Nat.le_refl _, fun _ _ _ => rfl⟩).trans (hg5.trans hg6)⟩)
      have HKl := hd_ hKl
      clear ho5 ho6 hg5 hg6 hcellD hown1 hKl
      go_wp2
      go_ret
      exact ⟨by rw [← HKl.out]; rfl, HF.out⟩
  · have hjc2 : ¬ cap = j := fun e => hjc e.symm
    have hjc3 : ¬ cap - j = 0 := by omega
    go_wp2_with fail
    go_region_law (refine step_fits manyAT (by simp [Region.wanted]) 26 rfl (.tmp 22) (.tmp 25) rfl rfl hown1 ⟨b, j * 9, none⟩ (l.length - j) (cap - j) (Pk.flat (l.drop j)) honeD rfl hlenD (fun u v hv => by rw [Addr.add_lit]; exact hcellD u v hv) (by omega) ?_; intro w5 ho5 hg5)
    all_goals
      obtain ⟨K, hK⟩ : ∃ K : Nat, K = i + (l.length - j) := ⟨_, rfl⟩
      have hKl : K = l.length - 1 := by have := Hj.out; omega
      rw [← hK] at ho5 ⊢
      rw [← Ed.table_append] at ho5
      have ho5 : OwnC 9 w5 base 35 (some ⟨b, 0, none⟩) K cap (Pk.flat (Ed.cut l i)) := by
        have hc : Ed.cut l i = l.take i ++ l.drop j := by unfold Ed.cut; rw [Hj.out]
        rw [hc]; exact ho5
      obtain ⟨w6, hclr, ho6, hg6⟩ := cleartable w5 base b K cap (l.length - K) (cap - K) _ ho5 (by omega) (by omega)
      have hKL : K ≤ l.length := by omega
      have hKi : (K : Int) ≤ (l.length : Int) := by omega
      have hKc : K ≤ cap := by omega
      have hKc2 : ¬ cap = K := by omega
      have HF := hd_ (show OwnC 9 w6 base 35 (some ⟨b, 0, none⟩) (l.length - 1) cap (Pk.flat (Ed.cut l i)) ∧ w.grownBy w6 (some b) by
        rw [← hKl]
        exact ⟨ho6, (show w.grownBy w.drew (some b) from ⟨rfl, rfl, rfl, Nat.le_refl _, fun _ _ _ => rfl⟩).trans (hg5.trans hg6)⟩)
      have HKl := hd_ hKl
      clear ho5 ho6 hg5 hg6 hK hcellD hown1 hKl
      go_wp2
      go_ret
      exact ⟨by rw [← HKl.out]; rfl, HF.out⟩
end Go.Proofs.YthfcjlndaajkfaaGreat
namespace Go.Proofs.YthfcjlndaajkfaaGreat
open Go.RowKit
set_option maxRecDepth 100000 in
theorem nillog_yes (c : Nat) (v : World) : (binOp .eql 22 (.slice none 0 c) (.slice none 0 0)).run Tryz.prog v = .ok (.bool true) v := by kernel_rfl
set_option maxRecDepth 100000 in
theorem nillog_no (a : Addr) (n c : Nat) (v : World) : (binOp .eql 22 (.slice (some a) n c) (.slice none 0 0)).run Tryz.prog v = .ok (.bool false) v := by kernel_rfl
set_option maxRecDepth 100000 in
set_option maxHeartbeats 4000000 in
theorem clonelog_any (A : Option Addr) (n c : Nat) (vs : List Value) (w : World) (hr : RdC 4 w A n vs) (h1 : ∀ u ∈ vs, u.oneCell' = true) (hn : n ≤ 100000) :
    Calls Tryz.prog 66 #[.slice A n c] w (GivesC 4 62 w n vs) := by
  cases A with
  | none =>
    have h0 : n = 0 := by
      rcases Nat.eq_zero_or_pos n with h | h
      · exact h
      · obtain ⟨b, o, e, _⟩ := hr.2 h
        cases e
    subst h0
    have hv : vs = [] := List.eq_nil_of_length_eq_zero (by rw [hr.1, Nat.zero_mul])
    subst hv
    have hq := nillog_yes c w
    go_enter Tryz.func66, Tryz.ntmps66
    go_wp2
    go_ret
    exact ⟨none, 0, rfl, OwnC.none_ _ _ _ _, Below.refl _ _⟩
  | some a =>
    have hal : Below w.heap.size w (w.alloc (.cells #[] 62)) := (Below.refl _ _).alloc (Nat.le_refl _) _
    have HO := hd_ (OwnC.empty 4 w 62 w.heap.size (Nat.le_refl _))
    have HR := hd_ (hr.below hal)
    have HB := hd_ hal
    clear hr hal
    have hq := nillog_no a n c w
    go_enter Tryz.func66, Tryz.ntmps66
    go_wp2_with (at_builtin; refine wpList_appN manyL rfl (.tmp 5) (.tmp 6) rfl rfl HO.out (some a) n c vs h1 rfl HR.out (by omega) HB.out.size ?_; intro B d v hg; have HG := hd_ hg; clear hg)
    go_ret
    have h := HG.out.own
    rw [Nat.zero_add, List.nil_append] at h
    exact ⟨B, d, rfl, h, HB.out.grown HG.out.grew HB.out.size (fun g hg => by rw [ownBlock_eq] at hg; injection hg with hg; rw [← hg]; exact Nat.le_refl _)⟩
set_option maxRecDepth 100000 in
theorem niltable_yes (c : Nat) (v : World) : (binOp .eql 23 (.slice none 0 c) (.slice none 0 0)).run Tryz.prog v = .ok (.bool true) v := by kernel_rfl
set_option maxRecDepth 100000 in
theorem niltable_no (a : Addr) (n c : Nat) (v : World) : (binOp .eql 23 (.slice (some a) n c) (.slice none 0 0)).run Tryz.prog v = .ok (.bool false) v := by kernel_rfl
set_option maxRecDepth 100000 in
set_option maxHeartbeats 4000000 in
theorem clonetable_any (A : Option Addr) (n c : Nat) (vs : List Value) (w : World) (hr : RdC 9 w A n vs) (h1 : ∀ u ∈ vs, u.oneCell' = true) (hn : n ≤ 100000) :
    Calls Tryz.prog 62 #[.slice A n c] w (GivesC 9 35 w n vs) := by
  cases A with
  | none =>
    have h0 : n = 0 := by
      rcases Nat.eq_zero_or_pos n with h | h
      · exact h
      · obtain ⟨b, o, e, _⟩ := hr.2 h
        cases e
    subst h0
    have hv : vs = [] := List.eq_nil_of_length_eq_zero (by rw [hr.1, Nat.zero_mul])
    subst hv
    have hq := niltable_yes c w
    go_enter Tryz.func62, Tryz.ntmps62
    go_wp2
    go_ret
    exact ⟨none, 0, rfl, OwnC.none_ _ _ _ _, Below.refl _ _⟩
  | some a =>
    have hal : Below w.heap.size w (w.alloc (.cells #[] 35)) := (Below.refl _ _).alloc (Nat.le_refl _) _
    have HO := hd_ (OwnC.empty 9 w 35 w.heap.size (Nat.le_refl _))
    have HR := hd_ (hr.below hal)
    have HB := hd_ hal
    clear hr hal
    have hq := niltable_no a n c w
    go_enter Tryz.func62, Tryz.ntmps62
    go_wp2_with (at_builtin; refine wpList_appN manyAT rfl (.tmp 5) (.tmp 6) rfl rfl HO.out (some a) n c vs h1 rfl HR.out (by omega) HB.out.size ?_; intro B d v hg; have HG := hd_ hg; clear hg)
    go_ret
    have h := HG.out.own
    rw [Nat.zero_add, List.nil_append] at h
    exact ⟨B, d, rfl, h, HB.out.grown HG.out.grew HB.out.size (fun g hg => by rw [ownBlock_eq] at hg; injection hg with hg; rw [← hg]; exact Nat.le_refl _)⟩
end Go.Proofs.YthfcjlndaajkfaaGreat
namespace Go.Proofs.YthfcjlndaajkfaaGreat
open Go.RowKit
set_option linter.unusedVariables false
set_option maxRecDepth 100000 in
theorem enter_cll (args : Array Value) (w : World) : (callFunc 66 args).run Tryz.prog w = .ok (.enter 66 args) w := run_enter Tryz.func66 (by kernel_rfl) (by kernel_rfl) args w
set_option maxRecDepth 100000 in
theorem enter_clt (args : Array Value) (w : World) : (callFunc 62 args).run Tryz.prog w = .ok (.enter 62 args) w := run_enter Tryz.func62 (by kernel_rfl) (by kernel_rfl) args w
set_option maxRecDepth 100000 in
theorem enter_ownp (args : Array Value) (w : World) : (callFunc 28 args).run Tryz.prog w = .ok (.enter 28 args) w := run_enter Tryz.func28 (by kernel_rfl) (by kernel_rfl) args w
/-- A version, and what lies behind it, in memory of the call's own. -/
def GivesV (w : World) (nx sq : Int) (n m : Nat) (ls : List Ed.Lo) (ts : List Ed.Ta) (e : Ending) (w' : World) : Prop :=
  ∃ A c L B d M, e = .returned (.agg #[.int .i64 nx, .int .i64 sq, .slice A n c, .slice B m d]) ∧ OwV w' w.heap.size A n c L B m d M ∧ L.map Ed.loOf = ls ∧ M.map Ed.taOf = ts ∧ Below w.heap.size w w'
/-- In the midst of it: both rows lie in memory of the call's own; of so many logs, and tables, the pairs do, too. -/
structure Mid (w wx : World) (nx sq : Int) (A : Option Addr) (n c : Nat) (B : Option Addr) (m d : Nat) (L F : List (Ed.Lg × List (Int × Int))) (M G : List (Pk.Tb × List (Int × Int))) (k j : Nat) : Prop where
  box : Holds wx w.heap.size [.int .i64 nx, .int .i64 sq, .slice A n c, .slice B m d]
  res : Holds wx (w.heap.size + 1) [.int .i64 0, .int .i64 0, .slice none 0 0, .slice none 0 0]
  lrow : OwnC 4 wx (w.heap.size + 2) 62 A n c (Ed.lflat ((F ++ L.drop k).map (·.1)))
  trow : OwnC 9 wx (w.heap.size + 2) 35 B m d (Pk.flat ((G ++ M.drop j).map (·.1)))
  ab : Off A B
  fl : F.length = k
  gl : G.length = j
  lf : F.map Ed.loOf = (L.take k).map Ed.loOf
  tf : G.map Ed.taOf = (M.take j).map Ed.taOf
  lfit : ∀ x ∈ F, x.1.fits
  tfit : ∀ x ∈ G, x.1.fits
  lp : ∀ x ∈ F, OwP wx (w.heap.size + 2) x.1.P x.1.pn x.1.pc x.2 ∧ Off x.1.P A ∧ Off x.1.P B
  tp : ∀ x ∈ G, OwP wx (w.heap.size + 2) x.1.P x.1.pn x.1.pc x.2 ∧ Off x.1.P A ∧ Off x.1.P B
  bel : Below w.heap.size w wx
theorem Mid.below {w wx wy : World} {nx sq : Int} {A B : Option Addr} {n c m d k j : Nat} {L F : List (Ed.Lg × List (Int × Int))} {M G : List (Pk.Tb × List (Int × Int))} (h : Mid w wx nx sq A n c B m d L F M G k j) (hb : Below wx.heap.size wx wy) : Mid w wy nx sq A n c B m d L F M G k j :=
  ⟨h.box.below hb, h.res.below hb, h.lrow.below hb, h.trow.below hb, h.ab, h.fl, h.gl, h.lf, h.tf, h.lfit, h.tfit, fun x hx => ⟨(h.lp x hx).1.below hb, (h.lp x hx).2⟩, fun x hx => ⟨(h.tp x hx).1.below hb, (h.tp x hx).2⟩, below_next h.bel hb⟩
theorem Mid.log {w wx : World} {nx sq : Int} {A B : Option Addr} {n c m d k j g : Nat} {L F : List (Ed.Lg × List (Int × Int))} {M G : List (Pk.Tb × List (Int × Int))} (h : Mid w wx nx sq A n c B m d L F M G k j) {x : Ed.Lg × List (Int × Int)} {P : Option Addr} {pc : Nat} (hg : A = some ⟨g, 0, none⟩) (hx : L[k]? = some x) (hxf : x.1.fits)
    (hP : OwP wx (w.heap.size + 2) P x.1.pn pc x.2) (hPA : Off P A) (hPB : Off P B) :
    Mid w (((wx.setCell ⟨g, k * 4, none⟩ (.int .i64 x.1.id)).setCell ⟨g, k * 4 + 1, none⟩ (.int .i64 x.1.ep)).setCell ⟨g, k * 4 + 2, none⟩ (.slice P x.1.pn pc)) nx sq A n c B m d L (F ++ [({ x.1 with P := P, pc := pc }, x.2)]) M G (k + 1) j := by
  subst hg
  have hk : k < L.length := (List.getElem?_eq_some_iff.1 hx).1
  have hkx : ((F ++ L.drop k).map (·.1))[k]? = some x.1 := by
    rw [List.map_append, List.getElem?_append_right (by rw [List.length_map, h.fl]; exact Nat.le_refl _), List.length_map, h.fl, Nat.sub_self, List.getElem?_map, List.getElem?_drop, Nat.add_zero, hx]
    rfl
  have c0 : (Ed.lflat ((F ++ L.drop k).map (·.1)))[k * 4]? = some (.int .i64 x.1.id) := Pk.flatMap_at (f := Ed.Lg.cells) (s := 4) (fun _ => rfl) (j := 0) hkx rfl
  have c1 : (Ed.lflat ((F ++ L.drop k).map (·.1)))[k * 4 + 1]? = some (.int .i64 x.1.ep) := Pk.flatMap_at (f := Ed.Lg.cells) (s := 4) (fun _ => rfl) (j := 1) hkx rfl
  obtain ⟨r1, g1⟩ := h.lrow.set1 (k * 4) (.int .i64 x.1.id)
  rw [set_same c0] at r1
  obtain ⟨r2, g2⟩ := r1.set1 (k * 4 + 1) (.int .i64 x.1.ep)
  rw [set_same c1] at r2
  obtain ⟨r3, g3⟩ := r2.set1 (k * 4 + 2) (.slice P x.1.pn pc)
  have hG := g1.trans (g2.trans g3)
  have hrow : (Ed.lflat ((F ++ L.drop k).map (·.1))).set (k * 4 + 2) (.slice P x.1.pn pc) = Ed.lflat ((F ++ [(({ x.1 with P := P, pc := pc } : Ed.Lg), x.2)] ++ L.drop (k + 1)).map (·.1)) := by
    unfold Ed.lflat
    rw [Ed.flat_set (f := Ed.Lg.cells) (s := 4) (fun _ => rfl) (by omega) hkx (x' := { x.1 with P := P, pc := pc }) rfl]
    congr 1
    rw [List.drop_eq_getElem_cons hk, List.map_append, List.map_cons, List.set_append_right _ _ (by rw [List.length_map, h.fl]; exact Nat.le_refl _), List.length_map, h.fl, Nat.sub_self, List.set_cons_zero, List.map_append, List.map_append]
    simp
  rw [hrow] at r3
  have hgw : ∀ b, wx.heap.size ≤ b → False ∨ True := fun _ _ => .inr trivial
  have hgl := h.lrow.lt g rfl
  have hne0 : w.heap.size ≠ g := by omega
  have hne1 : w.heap.size + 1 ≠ g := by omega
  have hoff : ∀ (Q : Option Addr), Off Q (some ⟨g, 0, none⟩) → ∀ g', some g = some g' → blkOf Q ≠ some g' := fun Q hQ g' e1 e2 => by
    injection e1 with e1
    subst e1
    exact hQ g e2 rfl
  have hF' : ∀ y ∈ F ++ [(({ x.1 with P := P, pc := pc } : Ed.Lg), x.2)], (OwP (((wx.setCell ⟨g, k * 4, none⟩ (.int .i64 x.1.id)).setCell ⟨g, k * 4 + 1, none⟩ (.int .i64 x.1.ep)).setCell ⟨g, k * 4 + 2, none⟩ (.slice P x.1.pn pc)) (w.heap.size + 2) y.1.P y.1.pn y.1.pc y.2 ∧ Off y.1.P (some (⟨g, 0, none⟩ : Addr)) ∧ Off y.1.P B) := by
    intro y hy
    rcases List.mem_append.1 hy with hy | hy
    · obtain ⟨p1, p2, p3⟩ := h.lp y hy
      exact ⟨p1.grown hG (hoff _ p2), p2, p3⟩
    · rw [List.mem_singleton] at hy
      subst hy
      exact ⟨hP.grown hG (hoff _ hPA), hPA, hPB⟩
  have hff : (F ++ [(({ x.1 with P := P, pc := pc } : Ed.Lg), x.2)]).map Ed.loOf = (L.take (k + 1)).map Ed.loOf := by
    rw [List.map_append, h.lf, List.take_add_one, hx, List.map_append]
    rfl
  exact ⟨((h.box.other hne0).other hne0).other hne0, ((h.res.other hne1).other hne1).other hne1, r3, h.trow.grown hG (.inr fun g2 e => by rw [ownBlock_eq]; exact hoff _ h.ab.symm g2 e), h.ab, by rw [List.length_append, h.fl]; rfl, h.gl, hff, h.tf, fun y hy => by
    rcases List.mem_append.1 hy with hy | hy
    · exact h.lfit y hy
    · rw [List.mem_singleton] at hy; subst hy; exact hxf, h.tfit, hF', fun y hy => by
    obtain ⟨p1, p2, p3⟩ := h.tp y hy
    exact ⟨p1.grown hG (hoff _ p2), p2, p3⟩, h.bel.grown hG h.bel.size (fun g' e => by injection e with e; have := hgl.1; omega)⟩
theorem Mid.table {w wx : World} {nx sq : Int} {A B : Option Addr} {n c m d k j g : Nat} {L F : List (Ed.Lg × List (Int × Int))} {M G : List (Pk.Tb × List (Int × Int))} (h : Mid w wx nx sq A n c B m d L F M G k j) {x : Pk.Tb × List (Int × Int)} {P : Option Addr} {pc : Nat} (hg : B = some ⟨g, 0, none⟩) (hx : M[j]? = some x) (hxf : x.1.fits)
    (hP : OwP wx (w.heap.size + 2) P x.1.pn pc x.2) (hPA : Off P A) (hPB : Off P B) :
    Mid w (((wx.setCell ⟨g, j * 9, none⟩ (.int .i64 x.1.id)).setCell ⟨g, j * 9 + 1, none⟩ (.int .i64 x.1.ep)).setCell ⟨g, j * 9 + 2, none⟩ (.slice P x.1.pn pc)) nx sq A n c B m d L F M (G ++ [({ x.1 with P := P, pc := pc }, x.2)]) k (j + 1) := by
  subst hg
  have hk : j < M.length := (List.getElem?_eq_some_iff.1 hx).1
  have hkx : ((G ++ M.drop j).map (·.1))[j]? = some x.1 := by
    rw [List.map_append, List.getElem?_append_right (by rw [List.length_map, h.gl]; exact Nat.le_refl _), List.length_map, h.gl, Nat.sub_self, List.getElem?_map, List.getElem?_drop, Nat.add_zero, hx]
    rfl
  have c0 : (Pk.flat ((G ++ M.drop j).map (·.1)))[j * 9]? = some (.int .i64 x.1.id) := Pk.flatMap_at (f := Pk.Tb.cells) (s := 9) (fun _ => rfl) (j := 0) hkx rfl
  have c1 : (Pk.flat ((G ++ M.drop j).map (·.1)))[j * 9 + 1]? = some (.int .i64 x.1.ep) := Pk.flatMap_at (f := Pk.Tb.cells) (s := 9) (fun _ => rfl) (j := 1) hkx rfl
  obtain ⟨r1, g1⟩ := h.trow.set1 (j * 9) (.int .i64 x.1.id)
  rw [set_same c0] at r1
  obtain ⟨r2, g2⟩ := r1.set1 (j * 9 + 1) (.int .i64 x.1.ep)
  rw [set_same c1] at r2
  obtain ⟨r3, g3⟩ := r2.set1 (j * 9 + 2) (.slice P x.1.pn pc)
  have hG := g1.trans (g2.trans g3)
  have hrow : (Pk.flat ((G ++ M.drop j).map (·.1))).set (j * 9 + 2) (.slice P x.1.pn pc) = Pk.flat ((G ++ [(({ x.1 with P := P, pc := pc } : Pk.Tb), x.2)] ++ M.drop (j + 1)).map (·.1)) := by
    unfold Pk.flat
    rw [Ed.flat_set (f := Pk.Tb.cells) (s := 9) (fun _ => rfl) (by omega) hkx (x' := { x.1 with P := P, pc := pc }) rfl]
    congr 1
    rw [List.drop_eq_getElem_cons hk, List.map_append, List.map_cons, List.set_append_right _ _ (by rw [List.length_map, h.gl]; exact Nat.le_refl _), List.length_map, h.gl, Nat.sub_self, List.set_cons_zero, List.map_append, List.map_append]
    simp
  rw [hrow] at r3
  have hgw : ∀ b, wx.heap.size ≤ b → False ∨ True := fun _ _ => .inr trivial
  have hgl := h.trow.lt g rfl
  have hne0 : w.heap.size ≠ g := by omega
  have hne1 : w.heap.size + 1 ≠ g := by omega
  have hoff : ∀ (Q : Option Addr), Off Q (some ⟨g, 0, none⟩) → ∀ g', some g = some g' → blkOf Q ≠ some g' := fun Q hQ g' e1 e2 => by
    injection e1 with e1
    subst e1
    exact hQ g e2 rfl
  have hF' : ∀ y ∈ G ++ [(({ x.1 with P := P, pc := pc } : Pk.Tb), x.2)], (OwP (((wx.setCell ⟨g, j * 9, none⟩ (.int .i64 x.1.id)).setCell ⟨g, j * 9 + 1, none⟩ (.int .i64 x.1.ep)).setCell ⟨g, j * 9 + 2, none⟩ (.slice P x.1.pn pc)) (w.heap.size + 2) y.1.P y.1.pn y.1.pc y.2 ∧ Off y.1.P A ∧ Off y.1.P (some (⟨g, 0, none⟩ : Addr))) := by
    intro y hy
    rcases List.mem_append.1 hy with hy | hy
    · obtain ⟨p1, p2, p3⟩ := h.tp y hy
      exact ⟨p1.grown hG (hoff _ p3), p2, p3⟩
    · rw [List.mem_singleton] at hy
      subst hy
      exact ⟨hP.grown hG (hoff _ hPB), hPA, hPB⟩
  have hff : (G ++ [(({ x.1 with P := P, pc := pc } : Pk.Tb), x.2)]).map Ed.taOf = (M.take (j + 1)).map Ed.taOf := by
    rw [List.map_append, h.tf, List.take_add_one, hx, List.map_append]
    rfl
  exact ⟨((h.box.other hne0).other hne0).other hne0, ((h.res.other hne1).other hne1).other hne1, h.lrow.grown hG (.inr fun g2 e => by rw [ownBlock_eq]; exact hoff _ h.ab g2 e), r3, h.ab, h.fl, by rw [List.length_append, h.gl]; rfl, h.lf, hff, h.lfit, fun y hy => by
    rcases List.mem_append.1 hy with hy | hy
    · exact h.tfit y hy
    · rw [List.mem_singleton] at hy; subst hy; exact hxf, fun y hy => by
    obtain ⟨p1, p2, p3⟩ := h.lp y hy
    exact ⟨p1.grown hG (hoff _ p3), p2, p3⟩, hF', h.bel.grown hG h.bel.size (fun g' e => by injection e with e; have := hgl.1; omega)⟩
end Go.Proofs.YthfcjlndaajkfaaGreat
