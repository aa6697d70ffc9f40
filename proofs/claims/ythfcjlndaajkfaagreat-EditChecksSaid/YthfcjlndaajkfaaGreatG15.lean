/- slices.Insert of one log. slices.Insert of one table. -/
import Derived.Test.YthfcjlndaajkfaaGreatG14
namespace Go.Proofs.YthfcjlndaajkfaaGreat
open Go.RowKit
set_option linter.unusedVariables false
set_option linter.unusedSimpArgs false
set_option maxRecDepth 100000 in
theorem zslog_one (m : Nat) : ∀ u ∈ zs (.agg #[.int .i64 0, .int .i64 0, .slice none 0 0, .int .i64 0]) m, u.oneCell' = true := by
  intro u hu
  unfold zs at hu
  simp only [Builtin.zeroCells, Value.cells, Array.toList_map, List.mem_map] at hu
  obtain ⟨i, _, rfl⟩ := hu
  have : i % 4 < 4 := Nat.mod_lt _ (by omega)
  show ((#[Value.int .i64 0, .int .i64 0, .slice none 0 0, .int .i64 0] : Array Value)[i % 4]!).oneCell' = true
  match i % 4, this with
  | 0, _ => rfl
  | 1, _ => rfl
  | 2, _ => rfl
  | 3, _ => rfl
set_option maxRecDepth 100000 in
theorem ovlog (a b : Addr) (la ca lb cb : Nat) (w : World) (hne : a.block ≠ b.block) (tA tB : TypeId) (kA kB : Nat) (hsa : w.shape? a.block = some (tA, kA)) (hsb : w.shape? b.block = some (tB, kB)) (hkB : kB ≠ 0) (hfa : w.frozen? a = false) (hfe : w.frozen? ⟨a.block, kA, none⟩ = false) :
    (callFunc 95 #[.slice (some a) la ca, .slice (some b) lb cb]).run Tryz.prog w = .ok (.value (.bool false)) w := by
  obtain ⟨i0, hi, hz0, hz1, hz2⟩ := info_parts manyL.info
  rw [run_callFunc_extern Tryz.func95 (by kernel_rfl) (by kernel_rfl) (by kernel_rfl) (e := Extern.SlicesOverlaps.overlaps #[22, 22] #[4]) (by kernel_rfl),
    Lib.run_overlaps_apart w 22 4 62 Tryz.underlying22 4 (fun v => by simp [sizeOf, typeInfo, hi, hz1]) a b la ca lb cb hne tA tB kA kB hsa hsb hkB hfa hfe]
  rfl
set_option maxRecDepth 100000 in
set_option maxHeartbeats 8000000 in
theorem inslog_any (base : Nat) (A : Option Addr) (n c : Nat) (vs : List Value) (i vb vc vbase : Nat) (news : List Value) (w : World) (h : OwnC 4 w base 62 A n c vs) (hi : i ≤ n) (hn : n ≤ 100000) (hone : ∀ u ∈ vs, u.oneCell' = true) (hv : OwnC 4 w vbase 62 (some ⟨vb, 0, none⟩) 1 vc news) (h1 : ∀ u ∈ news, u.oneCell' = true) (hvb : blkOf A ≠ some vb) (hbase : base ≤ w.heap.size) :
    Calls Tryz.prog 70 #[.slice A n c, .int .i64 (i : Int), .slice (some ⟨vb, 0, none⟩) 1 vc] w (GivesIns 4 62 w base A n (vs.take (i * 4) ++ news ++ vs.drop (i * 4))) := by
  have HO := Lib.hid h
  have HV := Lib.hid hv
  have HN := Lib.hid (And.intro hone h1)
  have HVB := Lib.hid hvb
  have HBs := Lib.hid hbase
  have hcap := h.fits
  have hcb := h.capLe
  have hnl := hv.1
  have HNl := Lib.hid (show news.length = 4 by rw [hnl, Nat.one_mul])
  clear hone h1 hvb hbase hnl hv
  by_cases hin : i = n
  · -- at the end
    subst hin
    have hvl : vs.length = i * 4 := h.1
    have HE := Lib.hid (show vs.take (i * 4) ++ news ++ vs.drop (i * 4) = vs ++ news by rw [List.take_of_length_le (by omega), drop_all (by omega), List.append_nil])
    rw [HE.out]
    have HR := Lib.hid (HV.out.rd)
    have hsl : ∃ x, (Instr.slice 22 (.slice A i c) (some (.int .i64 (i : Int))) none none).run Tryz.prog w = .ok x w := by
      rcases h.2 with ⟨hv0, h0⟩ | ⟨g, c', cur, hv0, _⟩
      · subst h0
        injection hv0 with e1 _ e3
        subst e1 e3
        exact ⟨_, run_nil0 manyL w⟩
      · injection hv0 with e1 _ _
        subst e1
        by_cases hic : c = i
        · subst hic
          obtain ⟨o, ho⟩ := run_tailN manyL g c c (c : Int) rfl rfl hcb w
          exact ⟨_, ho⟩
        · exact ⟨_, run_tail manyL g i c i 0 (c - i) (i : Int) rfl rfl (by omega) (by omega) (by omega) hcb w⟩
    obtain ⟨x, hx⟩ := hsl
    have ee : ((i : Int) == (i : Int)) = true := by simp
    clear h hcap hcb hvl hi
    go_enter Tryz.func70, Tryz.ntmps70
    go_wp2_with (at_builtin; refine wpList_appC manyL rfl (.tmp 23) (.tmp 24) rfl rfl HO.out ⟨vb, 0, none⟩ 1 vc news HN.out.2 rfl HR.out (by omega) HBs.out ?_; intro B d v hg; have HG := Lib.hid hg; clear hg)
    go_ret
    exact ⟨B, d, rfl, HG.out.own, by rw [← ownBlock_eq A i c]; exact HG.out.grew, by
      have hb := HG.out.blk
      rw [ownBlock_eq, ownBlock_eq] at hb
      rcases hb with hb | hb
      · exact .inl hb
      · exact .inr fun g hg => by rw [hb] at hg; injection hg with hg; omega⟩
  · obtain ⟨q, hq⟩ : ∃ q, n = i + (q + 1) := ⟨n - i - 1, by omega⟩
    obtain ⟨g, hA, hg1, hg2⟩ := h.form (by omega)
    subst hA
    have hvl : vs.length = (i + (q + 1)) * 4 := by rw [← hq]; exact h.1
    have hvg : vb ≠ g := fun e => HVB.out (by rw [e]; rfl)
    have HQ := Lib.hid hq
    have HVl := Lib.hid hvl
    have HVG := Lib.hid hvg
    have HHG := Lib.hid (And.intro hg1 hg2)
    have hcn : ¬ ((i : Int) = (n : Int)) := by omega
    have ee : ((i : Int) == (n : Int)) = false := by rw [beq_eq_false_iff_ne]; omega
    have hw1 : IntKind.i64.wrap ((i : Int) + 1) = (i : Int) + 1 := by rw [IntKind.wrap_i64]; omega
    have hw2 : IntKind.i64.wrap ((n : Int) + 1) = (n : Int) + 1 := by rw [IntKind.wrap_i64]; omega
    have hDl : (vs.drop (i * 4)).length = (q + 1) * 4 := by rw [List.length_drop, hvl, Nat.add_mul]; omega
    have HD := Lib.hid hDl
    have HDone := Lib.hid (show ∀ u ∈ vs.drop (i * 4), u.oneCell' = true from fun u hu => HN.out.1 u (List.mem_of_mem_drop hu))
    obtain ⟨res, hres⟩ : ∃ res, res = vs.take (i * 4) ++ news ++ vs.drop (i * 4) := ⟨_, rfl⟩
    rw [← hres]
    have ht0 := run_tail manyL g n c i (q + 1) (c - i) (i : Int) rfl hq (by omega) (by omega) (by omega) hcb w
    clear hDl hvg hin
    by_cases hroom : n + 1 ≤ c
    · -- there is room
      have hrm : ¬ ((c : Int) < (n : Int) + 1) := by omega
      obtain ⟨xs, hxl, hO1⟩ := h.one_more hroom
      have hO1d : OwnC 4 w.drew base 62 (some ⟨g, 0, none⟩) (n + 1) c (vs ++ xs) := hO1
      have hh := run_headS manyL g n c (n + 1) ((n : Int) + 1) (by omega) hroom hcb w
      have ht1 := run_tail manyL g (n + 1) c (i + 1) (q + 1) (c - (i + 1)) ((i : Int) + 1) (by omega) (by omega) (by omega) (by omega) (by omega) hcb
      have ht2 := run_tail manyL g (n + 1) c i (q + 2) (c - i) (i : Int) rfl (by omega) (by omega) (by omega) (by omega) hcb
      have hov := ovlog ⟨vb, 0, none⟩ ⟨g, (i + 1) * 4, none⟩ 1 vc (q + 1) (c - (i + 1)) w HVG.out _ _ _ _ HV.out.shape h.shape (by have h0 : 0 < c * 4 := Nat.mul_pos (by omega) (by omega); omega) (HV.out.freeAt 0) (HV.out.freeAt _)
      have e1 : (i + 1) * 4 + (q + 1) * 4 ≤ (n + 1) * 4 := by rw [← Nat.add_mul]; exact Nat.mul_le_mul_right _ (by omega)
      have hcp1 := run_copyS (w := w.drew) manyL ((i + 1) * 4) (q + 1) (c - (i + 1)) ⟨g, i * 4, none⟩ (q + 2) (c - i) (q + 1) (vs.drop (i * 4)) (by simp only [Nat.min_def]; split <;> omega) HD.out
        (fun j v hj => by rw [Addr.add_lit]; exact HO.out.drew.cellAt (by rwa [List.getElem?_drop] at hj)) HDone.out hO1d (by rw [HD.out]; exact e1)
      obtain ⟨r1, G1⟩ := OwnC.laid (vs.drop (i * 4)) ((i + 1) * 4) hO1d (by rw [HD.out]; exact e1)
      obtain ⟨v1, hv1⟩ : ∃ v1, v1 = w.drew.setCells g ((i + 1) * 4) (vs.drop (i * 4)) := ⟨_, rfl⟩
      rw [← hv1] at hcp1 r1 G1
      have hVn : RdC 4 v1 (some ⟨vb, 0, none⟩) 1 news := (HV.out.drew.grown G1 (.inr fun g' e1 e2 => by injection e1 with e1; injection e2 with e2; exact HVG.out (by rw [e1]; exact e2))).rd
      have e2 : i * 4 + 1 * 4 ≤ (n + 1) * 4 := by rw [← Nat.add_mul]; exact Nat.mul_le_mul_right _ (by omega)
      have hcp2 := run_copyS (w := v1) manyL (i * 4) (q + 2) (c - i) ⟨vb, 0, none⟩ 1 vc 1 news (by simp only [Nat.min_def]; split <;> omega) hVn.1
        (fun j v hj => by
          rw [Addr.add_lit]
          obtain ⟨b', o', e, _, hc'⟩ := hVn.2 (by omega)
          injection e with e
          injection e with e1 e2
          subst e1 e2
          exact hc' j v hj) HN.out.2 r1 (by rw [hVn.1]; exact e2)
      obtain ⟨r2, G2⟩ := OwnC.laid news (i * 4) r1 (by rw [hVn.1]; exact e2)
      rw [laid_two HVl.out hxl HNl.out, ← hres] at r2
      have hGG : w.grownBy (v1.setCells g (i * 4) news) (some g) := (show w.grownBy w.drew (some g) from ⟨rfl, rfl, rfl, Nat.le_refl _, fun _ _ _ => rfl⟩).trans (G1.trans G2)
      have HF := Lib.hid (show GivesIns 4 62 w base (some ⟨g, 0, none⟩) n res (.returned (.slice (some ⟨g, 0, none⟩) (n + 1) c)) (v1.setCells g (i * 4) news) from ⟨some ⟨g, 0, none⟩, c, rfl, r2, hGG, .inl rfl⟩)
      have HC1 := Lib.hid hcp1
      have HC2 := Lib.hid hcp2
      clear hcp1 hcp2 r1 r2 G1 G2 hGG hVn e1 e2 hO1 hO1d h hv1 hxl HO HV hvl hg1 hg2 hroom hq
      have ht1w := ht1 w
      have ht1d := ht1 w.drew
      have ht2d := ht2 w.drew
      have ht2v := ht2 v1
      have hc2 := HC2.out 3
      clear ht1 ht2 hres
      go_enter Tryz.func70, Tryz.ntmps70
      go_wp2_with (simp only [hov])
      go_region_law (refine step_copyR (by simp [Region.wanted]) 77 rfl (.tmp 73) (.tmp 76) rfl rfl rfl HC1.out ?_)
      all_goals
        go_wp2
        go_ret
        exact HF.out
    · -- there is none
      have hrm : (c : Int) < (n : Int) + 1 := by omega
      obtain ⟨cap', v1, hz1, hZ, hG1⟩ := run_app_fresh (Tn := 3) manyL Tryz.underlying3 (h.first hi) (q + 2) (by omega) (by omega) HBs.out .i64
      have hcap1 := hZ.fits
      have hcapb := hZ.capLe
      have hk1 : i + (q + 2) = n + 1 := by omega
      rw [hk1] at hZ hz1 hcap1
      have hzl : (zs (.agg #[.int .i64 0, .int .i64 0, .slice none 0 0, .int .i64 0]) (q + 2)).length = (q + 2) * 4 := by rw [zs_length]; rfl
      have ht1 := run_tail manyL w.heap.size (n + 1) cap' i (q + 2) (cap' - i) (i : Int) rfl (by omega) (by omega) (by omega) (by omega) hcapb
      have ht2 := run_tail manyL w.heap.size (n + 1) cap' (i + 1) (q + 1) (cap' - (i + 1)) ((i : Int) + 1) (by omega) (by omega) (by omega) (by omega) (by omega) hcapb
      have hh := run_headS manyL g n c i (i : Int) rfl (by omega) hcb w
      have hVn : RdC 4 v1 (some ⟨vb, 0, none⟩) 1 news := (HV.out.grown hG1 (.inl rfl)).rd
      have e2 : i * 4 + 1 * 4 ≤ (n + 1) * 4 := by rw [← Nat.add_mul]; exact Nat.mul_le_mul_right _ (by omega)
      have e1 : (i + 1) * 4 + (q + 1) * 4 ≤ (n + 1) * 4 := by rw [← Nat.add_mul]; exact Nat.mul_le_mul_right _ (by omega)
      have hcp1 := run_copyS (w := v1) manyL (i * 4) (q + 2) (cap' - i) ⟨vb, 0, none⟩ 1 vc 1 news (by simp only [Nat.min_def]; split <;> omega) hVn.1
        (fun j v hj => by
          rw [Addr.add_lit]
          obtain ⟨b', o', e, _, hc'⟩ := hVn.2 (by omega)
          injection e with e
          injection e with e1 e2
          subst e1 e2
          exact hc' j v hj) HN.out.2 hZ (by rw [hVn.1]; exact e2)
      obtain ⟨r1, G1⟩ := OwnC.laid news (i * 4) hZ (by rw [hVn.1]; exact e2)
      obtain ⟨v2, hv2⟩ : ∃ v2, v2 = v1.setCells w.heap.size (i * 4) news := ⟨_, rfl⟩
      rw [← hv2] at hcp1 r1 G1
      have hGo : w.grownBy v2.drew (some w.heap.size) := ⟨(G1.os).trans hG1.os, (G1.tape).trans hG1.tape, (G1.output).trans hG1.output, Nat.le_trans hG1.size G1.size, fun k hk hne => by
        have h1 := G1.block k (Nat.lt_of_lt_of_le hk hG1.size) hne
        exact h1.trans (hG1.block k hk (by simp))⟩
      have hsrc : OwnC 4 v2.drew base 62 (some ⟨g, 0, none⟩) n c vs := HO.out.grown hGo (.inr fun g' e1 e2 => by injection e1 with e1; injection e2 with e2; have := HHG.out.2; have e2 : g = g' := e2; omega)
      have hcp2 := run_copyS (w := v2.drew) manyL ((i + 1) * 4) (q + 1) (cap' - (i + 1)) ⟨g, i * 4, none⟩ (q + 1) (c - i) (q + 1) (vs.drop (i * 4)) (by simp only [Nat.min_def]; split <;> omega) HD.out
        (fun j v hj => by rw [Addr.add_lit]; exact hsrc.cellAt (by rwa [List.getElem?_drop] at hj)) HDone.out r1.drew (by rw [HD.out]; exact e1)
      obtain ⟨r2, G2⟩ := OwnC.laid (vs.drop (i * 4)) ((i + 1) * 4) r1.drew (by rw [HD.out]; exact e1)
      rw [laid_new HVl.out hzl HNl.out, ← hres] at r2
      have hGG : w.grownBy (v2.drew.setCells w.heap.size ((i + 1) * 4) (vs.drop (i * 4))) (some g) := ⟨(G2.os).trans hGo.os, (G2.tape).trans hGo.tape, (G2.output).trans hGo.output, Nat.le_trans hGo.size G2.size, fun k hk hne => by
        have hkw : (some k : Option Nat) ≠ some w.heap.size := fun e => by injection e with e; omega
        exact (G2.block k (Nat.lt_of_lt_of_le hk hGo.size) hkw).trans (hGo.block k hk hkw)⟩
      have HF := Lib.hid (show GivesIns 4 62 w base (some ⟨g, 0, none⟩) n res (.returned (.slice (some ⟨w.heap.size, 0, none⟩) (n + 1) cap')) (v2.drew.setCells w.heap.size ((i + 1) * 4) (vs.drop (i * 4))) from ⟨some ⟨w.heap.size, 0, none⟩, cap', rfl, r2, hGG, .inr fun g' e => by injection e with e; have e : w.heap.size = g' := e; omega⟩)
      have HC2 := Lib.hid hcp2
      have hc1 := hcp1 3
      have HZ1 := Lib.hid (show ∀ ty, (Builtin.append_ #[22, 3] ty #[.slice (some ⟨g, 0, none⟩) i c, .int .i64 ((q + 2 : Nat) : Int)]).run Tryz.prog w = .ok (.slice (some ⟨w.heap.size, 0, none⟩) (n + 1) cap') v1 from hz1)
      have hw3 : IntKind.i64.wrap ((n : Int) + 1 - (i : Int)) = ((q + 2 : Nat) : Int) := by rw [IntKind.wrap_i64]; omega
      generalize hqq : ((q + 2 : Nat) : Int) = qq at *
      have ht1v := ht1 v1
      have ht2v := ht2 v2.drew
      have ht3v := run_tail manyL g n c i (q + 1) (c - i) (i : Int) rfl (by omega) (by omega) (by omega) (by omega) hcb v2.drew
      have hci : ¬ (c = i) := by omega
      have hni : n - i = q + 1 := by omega
      clear hcp1 hcp2 r1 r2 G1 G2 hGG hGo hsrc hVn e1 e2 hG1 hZ h hv2 HO HV hvl hg1 hg2 hroom hq ht1 ht2 hz1 hres hqq hk1 hzl
      go_enter Tryz.func70, Tryz.ntmps70
      go_wp2_with (at_builtin; refine wpList_appR rfl (.tmp 34) (.tmp 39) rfl rfl rfl HZ1.out ?_)
      go_region_law (refine step_copyR (by simp [Region.wanted]) 54 rfl (.tmp 50) (.tmp 53) rfl rfl rfl HC2.out ?_)
      all_goals
        go_wp2
        go_ret
        exact HF.out
end Go.Proofs.YthfcjlndaajkfaaGreat
namespace Go.Proofs.YthfcjlndaajkfaaGreat
open Go.RowKit
set_option linter.unusedVariables false
set_option linter.unusedSimpArgs false
set_option maxRecDepth 100000 in
theorem zstable_one (m : Nat) : ∀ u ∈ zs (.agg #[.int .i64 0, .int .i64 0, .slice none 0 0, .int .i64 0, .int .i64 0, .int .i64 0, .string ⟨#[]⟩, .string ⟨#[]⟩, .int .i64 0]) m, u.oneCell' = true := by
  intro u hu
  unfold zs at hu
  simp only [Builtin.zeroCells, Value.cells, Array.toList_map, List.mem_map] at hu
  obtain ⟨i, _, rfl⟩ := hu
  have : i % 9 < 9 := Nat.mod_lt _ (by omega)
  show ((#[Value.int .i64 0, .int .i64 0, .slice none 0 0, .int .i64 0, .int .i64 0, .int .i64 0, .string ⟨#[]⟩, .string ⟨#[]⟩, .int .i64 0] : Array Value)[i % 9]!).oneCell' = true
  match i % 9, this with
  | 0, _ => rfl
  | 1, _ => rfl
  | 2, _ => rfl
  | 3, _ => rfl
  | 4, _ => rfl
  | 5, _ => rfl
  | 6, _ => rfl
  | 7, _ => rfl
  | 8, _ => rfl
set_option maxRecDepth 100000 in
theorem ovtable (a b : Addr) (la ca lb cb : Nat) (w : World) (hne : a.block ≠ b.block) (tA tB : TypeId) (kA kB : Nat) (hsa : w.shape? a.block = some (tA, kA)) (hsb : w.shape? b.block = some (tB, kB)) (hkB : kB ≠ 0) (hfa : w.frozen? a = false) (hfe : w.frozen? ⟨a.block, kA, none⟩ = false) :
    (callFunc 97 #[.slice (some a) la ca, .slice (some b) lb cb]).run Tryz.prog w = .ok (.value (.bool false)) w := by
  obtain ⟨i0, hi, hz0, hz1, hz2⟩ := info_parts manyAT.info
  rw [run_callFunc_extern Tryz.func97 (by kernel_rfl) (by kernel_rfl) (by kernel_rfl) (e := Extern.SlicesOverlaps.overlaps #[23, 23] #[4]) (by kernel_rfl),
    Lib.run_overlaps_apart w 23 4 35 Tryz.underlying23 9 (fun v => by simp [sizeOf, typeInfo, hi, hz1]) a b la ca lb cb hne tA tB kA kB hsa hsb hkB hfa hfe]
  rfl
set_option maxRecDepth 100000 in
set_option maxHeartbeats 8000000 in
theorem instable_any (base : Nat) (A : Option Addr) (n c : Nat) (vs : List Value) (i vb vc vbase : Nat) (news : List Value) (w : World) (h : OwnC 9 w base 35 A n c vs) (hi : i ≤ n) (hn : n ≤ 100000) (hone : ∀ u ∈ vs, u.oneCell' = true) (hv : OwnC 9 w vbase 35 (some ⟨vb, 0, none⟩) 1 vc news) (h1 : ∀ u ∈ news, u.oneCell' = true) (hvb : blkOf A ≠ some vb) (hbase : base ≤ w.heap.size) :
    Calls Tryz.prog 73 #[.slice A n c, .int .i64 (i : Int), .slice (some ⟨vb, 0, none⟩) 1 vc] w (GivesIns 9 35 w base A n (vs.take (i * 9) ++ news ++ vs.drop (i * 9))) := by
  have HO := Lib.hid h
  have HV := Lib.hid hv
  have HN := Lib.hid (And.intro hone h1)
  have HVB := Lib.hid hvb
  have HBs := Lib.hid hbase
  have hcap := h.fits
  have hcb := h.capLe
  have hnl := hv.1
  have HNl := Lib.hid (show news.length = 9 by rw [hnl, Nat.one_mul])
  clear hone h1 hvb hbase hnl hv
  by_cases hin : i = n
  · -- at the end
    subst hin
    have hvl : vs.length = i * 9 := h.1
    have HE := Lib.hid (show vs.take (i * 9) ++ news ++ vs.drop (i * 9) = vs ++ news by rw [List.take_of_length_le (by omega), drop_all (by omega), List.append_nil])
    rw [HE.out]
    have HR := Lib.hid (HV.out.rd)
    have hsl : ∃ x, (Instr.slice 23 (.slice A i c) (some (.int .i64 (i : Int))) none none).run Tryz.prog w = .ok x w := by
      rcases h.2 with ⟨hv0, h0⟩ | ⟨g, c', cur, hv0, _⟩
      · subst h0
        injection hv0 with e1 _ e3
        subst e1 e3
        exact ⟨_, run_nil0 manyAT w⟩
      · injection hv0 with e1 _ _
        subst e1
        by_cases hic : c = i
        · subst hic
          obtain ⟨o, ho⟩ := run_tailN manyAT g c c (c : Int) rfl rfl hcb w
          exact ⟨_, ho⟩
        · exact ⟨_, run_tail manyAT g i c i 0 (c - i) (i : Int) rfl rfl (by omega) (by omega) (by omega) hcb w⟩
    obtain ⟨x, hx⟩ := hsl
    have ee : ((i : Int) == (i : Int)) = true := by simp
    clear h hcap hcb hvl hi
    go_enter Tryz.func73, Tryz.ntmps73
    go_wp2_with (at_builtin; refine wpList_appC manyAT rfl (.tmp 23) (.tmp 24) rfl rfl HO.out ⟨vb, 0, none⟩ 1 vc news HN.out.2 rfl HR.out (by omega) HBs.out ?_; intro B d v hg; have HG := Lib.hid hg; clear hg)
    go_ret
    exact ⟨B, d, rfl, HG.out.own, by rw [← ownBlock_eq A i c]; exact HG.out.grew, by
      have hb := HG.out.blk
      rw [ownBlock_eq, ownBlock_eq] at hb
      rcases hb with hb | hb
      · exact .inl hb
      · exact .inr fun g hg => by rw [hb] at hg; injection hg with hg; omega⟩
  · obtain ⟨q, hq⟩ : ∃ q, n = i + (q + 1) := ⟨n - i - 1, by omega⟩
    obtain ⟨g, hA, hg1, hg2⟩ := h.form (by omega)
    subst hA
    have hvl : vs.length = (i + (q + 1)) * 9 := by rw [← hq]; exact h.1
    have hvg : vb ≠ g := fun e => HVB.out (by rw [e]; rfl)
    have HQ := Lib.hid hq
    have HVl := Lib.hid hvl
    have HVG := Lib.hid hvg
    have HHG := Lib.hid (And.intro hg1 hg2)
    have hcn : ¬ ((i : Int) = (n : Int)) := by omega
    have ee : ((i : Int) == (n : Int)) = false := by rw [beq_eq_false_iff_ne]; omega
    have hw1 : IntKind.i64.wrap ((i : Int) + 1) = (i : Int) + 1 := by rw [IntKind.wrap_i64]; omega
    have hw2 : IntKind.i64.wrap ((n : Int) + 1) = (n : Int) + 1 := by rw [IntKind.wrap_i64]; omega
    have hDl : (vs.drop (i * 9)).length = (q + 1) * 9 := by rw [List.length_drop, hvl, Nat.add_mul]; omega
    have HD := Lib.hid hDl
    have HDone := Lib.hid (show ∀ u ∈ vs.drop (i * 9), u.oneCell' = true from fun u hu => HN.out.1 u (List.mem_of_mem_drop hu))
    obtain ⟨res, hres⟩ : ∃ res, res = vs.take (i * 9) ++ news ++ vs.drop (i * 9) := ⟨_, rfl⟩
    rw [← hres]
    have ht0 := run_tail manyAT g n c i (q + 1) (c - i) (i : Int) rfl hq (by omega) (by omega) (by omega) hcb w
    clear hDl hvg hin
    by_cases hroom : n + 1 ≤ c
    · -- there is room
      have hrm : ¬ ((c : Int) < (n : Int) + 1) := by omega
      obtain ⟨xs, hxl, hO1⟩ := h.one_more hroom
      have hO1d : OwnC 9 w.drew base 35 (some ⟨g, 0, none⟩) (n + 1) c (vs ++ xs) := hO1
      have hh := run_headS manyAT g n c (n + 1) ((n : Int) + 1) (by omega) hroom hcb w
      have ht1 := run_tail manyAT g (n + 1) c (i + 1) (q + 1) (c - (i + 1)) ((i : Int) + 1) (by omega) (by omega) (by omega) (by omega) (by omega) hcb
      have ht2 := run_tail manyAT g (n + 1) c i (q + 2) (c - i) (i : Int) rfl (by omega) (by omega) (by omega) (by omega) hcb
      have hov := ovtable ⟨vb, 0, none⟩ ⟨g, (i + 1) * 9, none⟩ 1 vc (q + 1) (c - (i + 1)) w HVG.out _ _ _ _ HV.out.shape h.shape (by have h0 : 0 < c * 9 := Nat.mul_pos (by omega) (by omega); omega) (HV.out.freeAt 0) (HV.out.freeAt _)
      have e1 : (i + 1) * 9 + (q + 1) * 9 ≤ (n + 1) * 9 := by rw [← Nat.add_mul]; exact Nat.mul_le_mul_right _ (by omega)
      have hcp1 := run_copyS (w := w.drew) manyAT ((i + 1) * 9) (q + 1) (c - (i + 1)) ⟨g, i * 9, none⟩ (q + 2) (c - i) (q + 1) (vs.drop (i * 9)) (by simp only [Nat.min_def]; split <;> omega) HD.out
        (fun j v hj => by rw [Addr.add_lit]; exact HO.out.drew.cellAt (by rwa [List.getElem?_drop] at hj)) HDone.out hO1d (by rw [HD.out]; exact e1)
      obtain ⟨r1, G1⟩ := OwnC.laid (vs.drop (i * 9)) ((i + 1) * 9) hO1d (by rw [HD.out]; exact e1)
      obtain ⟨v1, hv1⟩ : ∃ v1, v1 = w.drew.setCells g ((i + 1) * 9) (vs.drop (i * 9)) := ⟨_, rfl⟩
      rw [← hv1] at hcp1 r1 G1
      have hVn : RdC 9 v1 (some ⟨vb, 0, none⟩) 1 news := (HV.out.drew.grown G1 (.inr fun g' e1 e2 => by injection e1 with e1; injection e2 with e2; exact HVG.out (by rw [e1]; exact e2))).rd
      have e2 : i * 9 + 1 * 9 ≤ (n + 1) * 9 := by rw [← Nat.add_mul]; exact Nat.mul_le_mul_right _ (by omega)
      have hcp2 := run_copyS (w := v1) manyAT (i * 9) (q + 2) (c - i) ⟨vb, 0, none⟩ 1 vc 1 news (by simp only [Nat.min_def]; split <;> omega) hVn.1
        (fun j v hj => by
          rw [Addr.add_lit]
          obtain ⟨b', o', e, _, hc'⟩ := hVn.2 (by omega)
          injection e with e
          injection e with e1 e2
          subst e1 e2
          exact hc' j v hj) HN.out.2 r1 (by rw [hVn.1]; exact e2)
      obtain ⟨r2, G2⟩ := OwnC.laid news (i * 9) r1 (by rw [hVn.1]; exact e2)
      rw [laid_two HVl.out hxl HNl.out, ← hres] at r2
      have hGG : w.grownBy (v1.setCells g (i * 9) news) (some g) := (show w.grownBy w.drew (some g) from ⟨rfl, rfl, rfl, Nat.le_refl _, fun _ _ _ => rfl⟩).trans (G1.trans G2)
      have HF := Lib.hid (show GivesIns 9 35 w base (some ⟨g, 0, none⟩) n res (.returned (.slice (some ⟨g, 0, none⟩) (n + 1) c)) (v1.setCells g (i * 9) news) from ⟨some ⟨g, 0, none⟩, c, rfl, r2, hGG, .inl rfl⟩)
      have HC1 := Lib.hid hcp1
      have HC2 := Lib.hid hcp2
      clear hcp1 hcp2 r1 r2 G1 G2 hGG hVn e1 e2 hO1 hO1d h hv1 hxl HO HV hvl hg1 hg2 hroom hq
      have ht1w := ht1 w
      have ht1d := ht1 w.drew
      have ht2d := ht2 w.drew
      have ht2v := ht2 v1
      have hc2 := HC2.out 3
      clear ht1 ht2 hres
      go_enter Tryz.func73, Tryz.ntmps73
      go_wp2_with (simp only [hov])
      go_region_law (refine step_copyR (by simp [Region.wanted]) 77 rfl (.tmp 73) (.tmp 76) rfl rfl rfl HC1.out ?_)
      all_goals
        go_wp2
        go_ret
        exact HF.out
    · -- there is none
      have hrm : (c : Int) < (n : Int) + 1 := by omega
      obtain ⟨cap', v1, hz1, hZ, hG1⟩ := run_app_fresh (Tn := 3) manyAT Tryz.underlying3 (h.first hi) (q + 2) (by omega) (by omega) HBs.out .i64
      have hcap1 := hZ.fits
      have hcapb := hZ.capLe
      have hk1 : i + (q + 2) = n + 1 := by omega
      rw [hk1] at hZ hz1 hcap1
      have hzl : (zs (.agg #[.int .i64 0, .int .i64 0, .slice none 0 0, .int .i64 0, .int .i64 0, .int .i64 0, .string ⟨#[]⟩, .string ⟨#[]⟩, .int .i64 0]) (q + 2)).length = (q + 2) * 9 := by rw [zs_length]; rfl
      have ht1 := run_tail manyAT w.heap.size (n + 1) cap' i (q + 2) (cap' - i) (i : Int) rfl (by omega) (by omega) (by omega) (by omega) hcapb
      have ht2 := run_tail manyAT w.heap.size (n + 1) cap' (i + 1) (q + 1) (cap' - (i + 1)) ((i : Int) + 1) (by omega) (by omega) (by omega) (by omega) (by omega) hcapb
      have hh := run_headS manyAT g n c i (i : Int) rfl (by omega) hcb w
      have hVn : RdC 9 v1 (some ⟨vb, 0, none⟩) 1 news := (HV.out.grown hG1 (.inl rfl)).rd
      have e2 : i * 9 + 1 * 9 ≤ (n + 1) * 9 := by rw [← Nat.add_mul]; exact Nat.mul_le_mul_right _ (by omega)
      have e1 : (i + 1) * 9 + (q + 1) * 9 ≤ (n + 1) * 9 := by rw [← Nat.add_mul]; exact Nat.mul_le_mul_right _ (by omega)
      have hcp1 := run_copyS (w := v1) manyAT (i * 9) (q + 2) (cap' - i) ⟨vb, 0, none⟩ 1 vc 1 news (by simp only [Nat.min_def]; split <;> omega) hVn.1
        (fun j v hj => by
          rw [Addr.add_lit]
          obtain ⟨b', o', e, _, hc'⟩ := hVn.2 (by omega)
          injection e with e
          injection e with e1 e2
          subst e1 e2
          exact hc' j v hj) HN.out.2 hZ (by rw [hVn.1]; exact e2)
      obtain ⟨r1, G1⟩ := OwnC.laid news (i * 9) hZ (by rw [hVn.1]; exact e2)
      obtain ⟨v2, hv2⟩ : ∃ v2, v2 = v1.setCells w.heap.size (i * 9) news := ⟨_, rfl⟩
      rw [← hv2] at hcp1 r1 G1
      have hGo : w.grownBy v2.drew (some w.heap.size) := ⟨(G1.os).trans hG1.os, (G1.tape).trans hG1.tape, (G1.output).trans hG1.output, Nat.le_trans hG1.size G1.size, fun k hk hne => by
        have h1 := G1.block k (Nat.lt_of_lt_of_le hk hG1.size) hne
        exact h1.trans (hG1.block k hk (by simp))⟩
      have hsrc : OwnC 9 v2.drew base 35 (some ⟨g, 0, none⟩) n c vs := HO.out.grown hGo (.inr fun g' e1 e2 => by injection e1 with e1; injection e2 with e2; have := HHG.out.2; have e2 : g = g' := e2; omega)
      have hcp2 := run_copyS (w := v2.drew) manyAT ((i + 1) * 9) (q + 1) (cap' - (i + 1)) ⟨g, i * 9, none⟩ (q + 1) (c - i) (q + 1) (vs.drop (i * 9)) (by simp only [Nat.min_def]; split <;> omega) HD.out
        (fun j v hj => by rw [Addr.add_lit]; exact hsrc.cellAt (by rwa [List.getElem?_drop] at hj)) HDone.out r1.drew (by rw [HD.out]; exact e1)
      obtain ⟨r2, G2⟩ := OwnC.laid (vs.drop (i * 9)) ((i + 1) * 9) r1.drew (by rw [HD.out]; exact e1)
      rw [laid_new HVl.out hzl HNl.out, ← hres] at r2
      have hGG : w.grownBy (v2.drew.setCells w.heap.size ((i + 1) * 9) (vs.drop (i * 9))) (some g) := ⟨(G2.os).trans hGo.os, (G2.tape).trans hGo.tape, (G2.output).trans hGo.output, Nat.le_trans hGo.size G2.size, fun k hk hne => by
        have hkw : (some k : Option Nat) ≠ some w.heap.size := fun e => by injection e with e; omega
        exact (G2.block k (Nat.lt_of_lt_of_le hk hGo.size) hkw).trans (hGo.block k hk hkw)⟩
      have HF := Lib.hid (show GivesIns 9 35 w base (some ⟨g, 0, none⟩) n res (.returned (.slice (some ⟨w.heap.size, 0, none⟩) (n + 1) cap')) (v2.drew.setCells w.heap.size ((i + 1) * 9) (vs.drop (i * 9))) from ⟨some ⟨w.heap.size, 0, none⟩, cap', rfl, r2, hGG, .inr fun g' e => by injection e with e; have e : w.heap.size = g' := e; omega⟩)
      have HC2 := Lib.hid hcp2
      have hc1 := hcp1 3
      have HZ1 := Lib.hid (show ∀ ty, (Builtin.append_ #[23, 3] ty #[.slice (some ⟨g, 0, none⟩) i c, .int .i64 ((q + 2 : Nat) : Int)]).run Tryz.prog w = .ok (.slice (some ⟨w.heap.size, 0, none⟩) (n + 1) cap') v1 from hz1)
      have hw3 : IntKind.i64.wrap ((n : Int) + 1 - (i : Int)) = ((q + 2 : Nat) : Int) := by rw [IntKind.wrap_i64]; omega
      generalize hqq : ((q + 2 : Nat) : Int) = qq at *
      have ht1v := ht1 v1
      have ht2v := ht2 v2.drew
      have ht3v := run_tail manyAT g n c i (q + 1) (c - i) (i : Int) rfl (by omega) (by omega) (by omega) (by omega) hcb v2.drew
      have hci : ¬ (c = i) := by omega
      have hni : n - i = q + 1 := by omega
      clear hcp1 hcp2 r1 r2 G1 G2 hGG hGo hsrc hVn e1 e2 hG1 hZ h hv2 HO HV hvl hg1 hg2 hroom hq ht1 ht2 hz1 hres hqq hk1 hzl
      go_enter Tryz.func73, Tryz.ntmps73
      go_wp2_with (at_builtin; refine wpList_appR rfl (.tmp 34) (.tmp 39) rfl rfl rfl HZ1.out ?_)
      go_region_law (refine step_copyR (by simp [Region.wanted]) 54 rfl (.tmp 50) (.tmp 53) rfl rfl rfl HC2.out ?_)
      all_goals
        go_wp2
        go_ret
        exact HF.out
end Go.Proofs.YthfcjlndaajkfaaGreat
