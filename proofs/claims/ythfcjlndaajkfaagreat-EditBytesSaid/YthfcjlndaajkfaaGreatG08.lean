/- Words for slices.Insert: parts of a row, more room than there is, copy at a step. slices.Insert of one log. slices.Insert of one table. slices.Delete of one log. -/
import Derived.Test.YthfcjlndaajkfaaGreatG06
import Derived.SizedLaws
import Derived.Laws.Externs
namespace Go.Proofs.YthfcjlndaajkfaaGreat
open Go.RowKit
set_option linter.unusedVariables false
set_option linter.unusedSimpArgs false
/-- m elements of zeros, as cells. -/
def zs (z : Value) (m : Nat) : List Value := (Builtin.zeroCells z.cells m).toList
theorem zs_length (z : Value) (m : Nat) : (zs z m).length = m * z.cells.size := by unfold zs; rw [Array.length_toList, size_zeroCells]
section
variable {s : Nat} {w : World} {base n cap g : Nat} {vs : List Value} {S E Tn : TypeId} {z : Value} {bytes : Nat} {kn : IntKind}
set_option maxRecDepth 100000 in
/-- append(s, make([]T, m)...) where there is no room: a row of its own. -/
theorem run_app_fresh (O : Many s S E z bytes) (htn : Tryz.prog.underlying Tn = some (.int kn)) (hown : OwnC s w base E (some ⟨g, 0, none⟩) n cap vs) (m : Nat) (hroom : cap < n + m) (hlen : n + m ≤ 1000000) (hbase : base ≤ w.heap.size) (k : IntKind) :
    ∃ cap' w', (∀ ty, (Builtin.append_ #[S, Tn] ty #[.slice (some ⟨g, 0, none⟩) n cap, .int k (m : Int)]).run Tryz.prog w = .ok (.slice (some ⟨w.heap.size, 0, none⟩) (n + m) cap') w') ∧ OwnC s w' base E (some ⟨w.heap.size, 0, none⟩) (n + m) cap' (vs ++ zs z m) ∧ w.grownBy w' none := by
  obtain ⟨i, hi, hz, hs1, hb1⟩ := info_parts O.info
  subst hs1
  subst hb1
  have hbytes : (n + m) * i.bytes ≤ 140737488355328 := by
    have : (n + m) * i.bytes ≤ 1000000 * 1000 := Nat.mul_le_mul hlen O.few
    omega
  have hzs := O.zero
  have hl : (zs z m).length = m * i.size := by rw [zs_length, hzs]
  have hlen2 : (vs ++ zs z m).length = (n + m) * i.size := by rw [List.length_append, hown.1, hl, Nat.add_mul]
  have hw : IntKind.i64.wrap (m : Int) = m := by rw [IntKind.wrap_i64]; omega
  have hneg : ¬ ((m : Int) < 0) := by omega
  have h48i : ¬ (281474976710656 < (m : Int) * (i.bytes : Int)) := by
    rw [← Int.natCast_mul]
    have hmb : m * i.bytes ≤ 140737488355328 := Nat.le_trans (Nat.mul_le_mul_right _ (Nat.le_add_left m n)) hbytes
    omega
  have hnc := hown.fits
  have hm : m ≠ 0 := by omega
  have hpos := O.pos
  have hns : ¬ (m * i.size = 0) := Nat.mul_ne_zero hm (by omega)
  have hn : ¬ (n + m ≤ cap) := by omega
  have h63' : ¬ (9223372036854775807 < ((n : Int) + (m : Int))) := by omega
  have h48' : ¬ (281474976710656 < Builtin.nextslicecap (n + m) cap * i.bytes) := by
    have := growslice_fits (need := n + m) (old := cap) (bytes := i.bytes) (by omega) hbytes
    omega
  have holds : ∀ j u, vs[j]? = some u → w.cell? ((⟨g, 0, none⟩ : Addr).add j) = some u := World.ownsRow.cells (g := g) hown rfl
  have hfo := run_firstCells_some (P := Tryz.prog) w.drew i.size n ⟨g, 0, none⟩ n cap vs hown.1 (by simpa using holds)
  have hge := grownCap_ge w (n + m) cap E
  have hcm : grownCap w (n + m) cap E ≤ maxLen := grownCap_le_maxLen w (n + m) cap E (by simp only [maxLen]; omega)
  refine ⟨grownCap w (n + m) cap E, w.drew.alloc (.cells (vs.toArray ++ Builtin.zeroCells z.cells m ++ Builtin.zeroCells z.cells (grownCap w (n + m) cap E - (n + m))) E), ?_, ⟨hlen2, .inr ⟨w.heap.size, _, _, rfl, hbase, heap_alloc_new w.drew _, hge, hcm, ?_, ?_⟩⟩, ⟨rfl, rfl, rfl, by simp, fun k hk _ => heap_alloc_old w.drew _ hk⟩⟩
  · intro ty
    simp [Builtin.append_, run_underlying O.under, run_underlying htn, sizeOf, typeInfo, zeroValue, hi, hz, asInt, asIntOf, hw, hneg, hns, h48i, hn, h63', h48', Question.forced, hfo, newRow, grownCap]
  · have hvl : vs.length = n * i.size := hown.1
    simp only [Array.size_append, List.size_toArray, size_zeroCells, hzs, hvl, ← Nat.add_mul]
    congr 1
    omega
  · simp only [Array.toList_append, List.append_assoc]
    rw [← List.append_assoc, ← hlen2]
    exact List.take_left
set_option maxRecDepth 100000 in
theorem run_tail (O : Many s S E z bytes) (g n c i k d : Nat) (x : Int) (hx : x = (i : Int)) (hk : n = i + k) (hc : c = i + d) (hd : 0 < d) (hkd : k ≤ d) (hb : c ≤ 9223372036854775807) (v : World) : (Instr.slice S (.slice (some ⟨g, 0, none⟩) n c) (some (.int .i64 x)) none none).run Tryz.prog v = .ok (.slice (some ⟨g, i * s, none⟩) k d) v := by
  obtain ⟨i0, hi, hz0, hz1, hz2⟩ := info_parts O.info
  subst hx hk hc
  have h1 : ¬ ((i : Int) < 0) := by omega
  have h2 : ¬ (d = 0) := by omega
  have h3 : i + k ≤ i + d := by omega
  simp [Instr.slice, run_underlying O.under, Instr.sliceBounds, Instr.sliceBound, asIntOf, go_sem, sizeOf, typeInfo, hi, hz1, Addr.add, h1, h2, h3, hkd]
  try (intro h; exact h.symm)
set_option maxRecDepth 100000 in
theorem run_tailN (O : Many s S E z bytes) (g n i : Nat) (x : Int) (hx : x = (i : Int)) (hi2 : n = i) (hb : n ≤ 9223372036854775807) (v : World) : ∃ o, (Instr.slice S (.slice (some ⟨g, 0, none⟩) n n) (some (.int .i64 x)) none none).run Tryz.prog v = .ok (.slice (some ⟨g, o, none⟩) 0 0) v := by
  obtain ⟨i0, hi, hz0, hz1, hz2⟩ := info_parts O.info
  subst hx hi2
  exact ⟨_, by simp [Instr.slice, run_underlying O.under, Instr.sliceBounds, Instr.sliceBound, asIntOf, go_sem, sizeOf, typeInfo, hi, hz1, Addr.add]; rfl⟩
set_option maxRecDepth 100000 in
theorem run_nil0 (O : Many s S E z bytes) (v : World) : (Instr.slice S (.slice none 0 0) (some (.int .i64 0)) none none).run Tryz.prog v = .ok (.slice none 0 0) v := by
  obtain ⟨i0, hi, hz0, hz1, hz2⟩ := info_parts O.info
  simp [Instr.slice, run_underlying O.under, Instr.sliceBounds, Instr.sliceBound, asIntOf, go_sem, sizeOf, typeInfo, hi, hz1, Addr.add]
set_option maxRecDepth 100000 in
theorem run_headS (O : Many s S E z bytes) (g n c k : Nat) (x : Int) (hx : x = (k : Int)) (hk : k ≤ c) (hb : c ≤ 9223372036854775807) (v : World) : (Instr.slice S (.slice (some ⟨g, 0, none⟩) n c) none (some (.int .i64 x)) none).run Tryz.prog v = .ok (.slice (some ⟨g, 0, none⟩) k c) v := by
  obtain ⟨i0, hi, hz0, hz1, hz2⟩ := info_parts O.info
  subst hx
  have h1 : ¬ ((k : Int) < 0) := by omega
  by_cases hc0 : c = 0
  · subst hc0
    have : k = 0 := by omega
    subst this
    simp [Instr.slice, run_underlying O.under, Instr.sliceBounds, Instr.sliceBound, asIntOf, go_sem, sizeOf, typeInfo, hi, hz1, Addr.add]
  · simp [Instr.slice, run_underlying O.under, Instr.sliceBounds, Instr.sliceBound, asIntOf, go_sem, sizeOf, typeInfo, hi, hz1, Addr.add, h1, hk]
end
section
variable {ops : Array Oper} {rest : List Oper} {o : Oper} {a : Act} {Q : Exit → Act → World → Prop} {K : Act → World → Prop} {F : Prop} {w w' : World} {v vd vx : Value} {T U : TypeId}
theorem wpList_appR (hgd : o.guard = none) (d x : Operand) (ho : o.op = .call { callee := .builtin .append, args := #[d, x], argTypes := #[T, U] }) (hd : a.eval d = vd) (hx : a.eval x = vx) (hr : ∀ ty, (Builtin.append_ #[T, U] ty #[vd, vx]).run Tryz.prog w = .ok v w')
    (h : wpList Tryz.prog ops Q rest (a.put o.dst v) w') : wpList Tryz.prog ops Q (o :: rest) a w := by
  refine wpList_plain hgd fun K hK => ?_
  unfold Oper.wp execOp
  simp only [ho, resolve, invoke, builtin, Sem.run_bind, Sem.run_pure, Result.andThen_ok, List.map_toArray, List.map_cons, List.map_nil, hd, hx, hr]
  exact hK _ _ h
theorem step_copyR (hw : Region.wanted o (yielded ops a.tmps) = true) (dd : Nat) (hdd : o.dst = some dd) (d x : Operand) (ho : o.op = .call { callee := .builtin .copy, args := #[d, x], argTypes := #[T, U] }) (hd : a.eval d = vd) (hx : a.eval x = vx) (hr : ∀ ty, (Builtin.copy_ #[T, U] ty #[vd, vx]).run Tryz.prog w = .ok v w')
    (h : K (a.put (some dd) v) w') : if Region.wanted o (yielded ops a.tmps) = true then Oper.wp Tryz.prog o a w K Q else F := by
  rw [if_pos hw]
  unfold Oper.wp execOp
  simp only [ho, resolve, invoke, builtin, Sem.run_bind, Sem.run_pure, Result.andThen_ok, List.map_toArray, List.map_cons, List.map_nil, hd, hx, hr]
  rw [← hdd] at h
  exact h
end
/-- What an insertion hands back. -/
def GivesIns (s : Nat) (E : TypeId) (w : World) (base : Nat) (A : Option Addr) (n : Nat) (vs : List Value) (e : Ending) (w' : World) : Prop :=
  ∃ A' c', e = .returned (.slice A' (n + 1) c') ∧ OwnC s w' base E A' (n + 1) c' vs ∧ w.grownBy w' (blkOf A) ∧ (blkOf A' = blkOf A ∨ ∀ g, blkOf A' = some g → w.heap.size ≤ g)
theorem drop_all {l : List Value} {n : Nat} (h : l.length ≤ n) : l.drop n = [] := List.drop_eq_nil_of_le h
theorem laid_two {vs xs news : List Value} {i q s : Nat} (hl : vs.length = (i + q) * s) (hx : xs.length = s) (hn : news.length = s) :
    laidAt (laidAt (vs ++ xs) ((i + 1) * s) (vs.drop (i * s))) (i * s) news = vs.take (i * s) ++ news ++ vs.drop (i * s) := by
  have e1 : (i + 1) * s = i * s + s := Nat.succ_mul _ _
  have e2 : (i + q) * s = i * s + q * s := Nat.add_mul _ _ _
  have hD : (vs.drop (i * s)).length = q * s := by rw [List.length_drop, hl, e2]; omega
  have hT : ((vs ++ xs).take ((i + 1) * s)).length = (i + 1) * s := by rw [List.length_take, List.length_append, hl, hx, e1, e2]; omega
  have hi1 : laidAt (vs ++ xs) ((i + 1) * s) (vs.drop (i * s)) = (vs ++ xs).take ((i + 1) * s) ++ vs.drop (i * s) := by
    unfold laidAt
    rw [drop_all (l := vs ++ xs) (by rw [List.length_append, hl, hx, hD, e1, e2]; omega), List.append_nil]
  rw [hi1]
  unfold laidAt
  rw [List.take_append_of_le_length (by rw [hT, e1]; omega), List.take_take, Nat.min_eq_left (by rw [e1]; omega), List.take_append_of_le_length (by rw [hl, e2]; omega), hn, ← e1, List.drop_left' hT]
theorem laid_new {vs zz news : List Value} {i q s : Nat} (hl : vs.length = (i + q) * s) (hz : zz.length = (q + 1) * s) (hn : news.length = s) :
    laidAt (laidAt (vs.take (i * s) ++ zz) (i * s) news) ((i + 1) * s) (vs.drop (i * s)) = vs.take (i * s) ++ news ++ vs.drop (i * s) := by
  have e1 : (i + 1) * s = i * s + s := Nat.succ_mul _ _
  have e2 : (i + q) * s = i * s + q * s := Nat.add_mul _ _ _
  have e3 : (q + 1) * s = q * s + s := Nat.succ_mul _ _
  have hD : (vs.drop (i * s)).length = q * s := by rw [List.length_drop, hl, e2]; omega
  have hA : (vs.take (i * s)).length = i * s := by rw [List.length_take, hl, e2]; omega
  have hi1 : laidAt (vs.take (i * s) ++ zz) (i * s) news = vs.take (i * s) ++ news ++ zz.drop s := by
    unfold laidAt
    rw [List.take_left' hA, hn, List.drop_append, hA, drop_all (l := vs.take (i * s)) (by rw [hA]; omega), show i * s + s - i * s = s by omega, List.nil_append]
  rw [hi1]
  unfold laidAt
  have hAn : (vs.take (i * s) ++ news).length = (i + 1) * s := by rw [List.length_append, hA, hn, e1]
  rw [List.take_left' hAn, drop_all (l := List.take (i * s) vs ++ news ++ List.drop s zz) (by rw [List.length_append, List.length_append, hA, hn, List.length_drop, hz, hD, e1, e3]; omega), List.append_nil]
end Go.Proofs.YthfcjlndaajkfaaGreat
namespace Go.Proofs.YthfcjlndaajkfaaGreat
open Go.RowKit
set_option linter.unusedVariables false
set_option linter.unusedSimpArgs false
set_option maxRecDepth 100000 in
theorem ovlog (a b : Addr) (la ca lb cb : Nat) (w : World) (hne : a.block ≠ b.block) (tA tB : TypeId) (kA kB : Nat) (hsa : w.shape? a.block = some (tA, kA)) (hsb : w.shape? b.block = some (tB, kB)) (hkB : kB ≠ 0) (hfa : w.frozen? a = false) (hfe : w.frozen? ⟨a.block, kA, none⟩ = false) :
    (callFunc 95 #[.slice (some a) la ca, .slice (some b) lb cb]).run Tryz.prog w = .ok (.value (.bool false)) w := by
  obtain ⟨i0, hi, hz0, hz1, hz2⟩ := info_parts manyL.info
  rw [run_callFunc_extern Tryz.func95 (by kernel_rfl) (by kernel_rfl) (by kernel_rfl) (e := Extern.SlicesOverlaps.overlaps #[22, 22] #[4]) (by kernel_rfl),
    Lib.run_overlaps_apart w 22 4 62 Tryz.underlying22 4 (fun v => by simp [sizeOf, typeInfo, hi, hz1]) a b la ca lb cb hne tA tB kA kB hsa hsb hkB hfa hfe]
  rfl
set_option maxRecDepth 100000 in
set_option maxHeartbeats 8000000 in
theorem inslog_any (base : Nat) (A : Option Addr) (n c : Nat) (vs : List Value) (i vb vc vbase : Nat) (news : List Value) (w : World) (h : OwnC 4 w base 62 A n c vs) (hi : i ≤ n) (hn : n ≤ 100000) (hone : ∀ u ∈ vs, u.oneCell' = true) (hv : OwnC 4 w vbase 62 (some ⟨vb, 0, none⟩) 1 vc news) (h1 : ∀ u ∈ news, u.oneCell' = true) (hvb : blkOf A ≠ some vb) (hbase : base ≤ w.heap.size) :
    Calls Tryz.prog 70 #[.slice A n c, .int .i64 (i : Int), .slice (some ⟨vb, 0, none⟩) 1 vc] w (GivesIns 4 62 w base A n (vs.take (i * 4) ++ news ++ vs.drop (i * 4))) := by
  have HO := Lib.hid h
  have HV := Lib.hid hv
  have HN := Lib.hid (And.intro hone h1)
  have HVB := Lib.hid hvb
  have HBs := Lib.hid hbase
  have hcap := h.fits
  have hcb := h.capLe
  have hnl := hv.1
  have HNl := Lib.hid (show news.length = 4 by rw [hnl, Nat.one_mul])
  clear hone h1 hvb hbase hnl hv
  by_cases hin : i = n
  · -- at the end
    subst hin
    have hvl : vs.length = i * 4 := h.1
    have HE := Lib.hid (show vs.take (i * 4) ++ news ++ vs.drop (i * 4) = vs ++ news by rw [List.take_of_length_le (by omega), drop_all (by omega), List.append_nil])
    rw [HE.out]
    have HR := Lib.hid (HV.out.rd)
    have hsl : ∃ x, (Instr.slice 22 (.slice A i c) (some (.int .i64 (i : Int))) none none).run Tryz.prog w = .ok x w := by
      rcases h.2 with ⟨hv0, h0⟩ | ⟨g, c', cur, hv0, _⟩
      · subst h0
        injection hv0 with e1 _ e3
        subst e1 e3
        exact ⟨_, run_nil0 manyL w⟩
      · injection hv0 with e1 _ _
        subst e1
        by_cases hic : c = i
        · subst hic
          obtain ⟨o, ho⟩ := run_tailN manyL g c c (c : Int) rfl rfl hcb w
          exact ⟨_, ho⟩
        · exact ⟨_, run_tail manyL g i c i 0 (c - i) (i : Int) rfl rfl (by omega) (by omega) (by omega) hcb w⟩
    obtain ⟨x, hx⟩ := hsl
    have ee : ((i : Int) == (i : Int)) = true := by simp
    clear h hcap hcb hvl hi
    go_enter Tryz.func70, Tryz.ntmps70
    go_wp2_with (at_builtin; refine wpList_appC manyL rfl (.tmp 23) (.tmp 24) rfl rfl HO.out ⟨vb, 0, none⟩ 1 vc news HN.out.2 rfl HR.out (by omega) HBs.out ?_; intro B d v hg; have HG := Lib.hid hg; clear hg)
    go_ret
    exact ⟨B, d, rfl, HG.out.own, by rw [← ownBlock_eq A i c]; exact HG.out.grew, by
      have hb := HG.out.blk
      rw [ownBlock_eq, ownBlock_eq] at hb
      rcases hb with hb | hb
      · exact .inl hb
      · exact .inr fun g hg => by rw [hb] at hg; injection hg with hg; omega⟩
  · obtain ⟨q, hq⟩ : ∃ q, n = i + (q + 1) := ⟨n - i - 1, by omega⟩
    obtain ⟨g, hA, hg1, hg2⟩ := h.form (by omega)
    subst hA
    have hvl : vs.length = (i + (q + 1)) * 4 := by rw [← hq]; exact h.1
    have hvg : vb ≠ g := fun e => HVB.out (by rw [e]; rfl)
    have HQ := Lib.hid hq
    have HVl := Lib.hid hvl
    have HVG := Lib.hid hvg
    have HHG := Lib.hid (And.intro hg1 hg2)
    have hcn : ¬ ((i : Int) = (n : Int)) := by omega
    have ee : ((i : Int) == (n : Int)) = false := by rw [beq_eq_false_iff_ne]; omega
    have hw1 : IntKind.i64.wrap ((i : Int) + 1) = (i : Int) + 1 := by rw [IntKind.wrap_i64]; omega
    have hw2 : IntKind.i64.wrap ((n : Int) + 1) = (n : Int) + 1 := by rw [IntKind.wrap_i64]; omega
    have hDl : (vs.drop (i * 4)).length = (q + 1) * 4 := by rw [List.length_drop, hvl, Nat.add_mul]; omega
    have HD := Lib.hid hDl
    have HDone := Lib.hid (show ∀ u ∈ vs.drop (i * 4), u.oneCell' = true from fun u hu => HN.out.1 u (List.mem_of_mem_drop hu))
    obtain ⟨res, hres⟩ : ∃ res, res = vs.take (i * 4) ++ news ++ vs.drop (i * 4) := ⟨_, rfl⟩
    rw [← hres]
    have ht0 := run_tail manyL g n c i (q + 1) (c - i) (i : Int) rfl hq (by omega) (by omega) (by omega) hcb w
    clear hDl hvg hin
    by_cases hroom : n + 1 ≤ c
    · -- there is room
      have hrm : ¬ ((c : Int) < (n : Int) + 1) := by omega
      obtain ⟨xs, hxl, hO1⟩ := h.one_more hroom
      have hO1d : OwnC 4 w.drew base 62 (some ⟨g, 0, none⟩) (n + 1) c (vs ++ xs) := hO1
      have hh := run_headS manyL g n c (n + 1) ((n : Int) + 1) (by omega) hroom hcb w
      have ht1 := run_tail manyL g (n + 1) c (i + 1) (q + 1) (c - (i + 1)) ((i : Int) + 1) (by omega) (by omega) (by omega) (by omega) (by omega) hcb
      have ht2 := run_tail manyL g (n + 1) c i (q + 2) (c - i) (i : Int) rfl (by omega) (by omega) (by omega) (by omega) hcb
      have hov := ovlog ⟨vb, 0, none⟩ ⟨g, (i + 1) * 4, none⟩ 1 vc (q + 1) (c - (i + 1)) w HVG.out _ _ _ _ HV.out.shape h.shape (by have h0 : 0 < c * 4 := Nat.mul_pos (by omega) (by omega); omega) (HV.out.freeAt 0) (HV.out.freeAt _)
      have e1 : (i + 1) * 4 + (q + 1) * 4 ≤ (n + 1) * 4 := by rw [← Nat.add_mul]; exact Nat.mul_le_mul_right _ (by omega)
      have hcp1 := run_copyS (w := w.drew) manyL ((i + 1) * 4) (q + 1) (c - (i + 1)) ⟨g, i * 4, none⟩ (q + 2) (c - i) (q + 1) (vs.drop (i * 4)) (by simp only [Nat.min_def]; split <;> omega) HD.out
        (fun j v hj => by rw [Addr.add_lit]; exact HO.out.drew.cellAt (by rwa [List.getElem?_drop] at hj)) HDone.out hO1d (by rw [HD.out]; exact e1)
      obtain ⟨r1, G1⟩ := OwnC.laid (vs.drop (i * 4)) ((i + 1) * 4) hO1d (by rw [HD.out]; exact e1)
      obtain ⟨v1, hv1⟩ : ∃ v1, v1 = w.drew.setCells g ((i + 1) * 4) (vs.drop (i * 4)) := ⟨_, rfl⟩
      rw [← hv1] at hcp1 r1 G1
      have hVn : RdC 4 v1 (some ⟨vb, 0, none⟩) 1 news := (HV.out.drew.grown G1 (.inr fun g' e1 e2 => by injection e1 with e1; injection e2 with e2; exact HVG.out (by rw [e1]; exact e2))).rd
      have e2 : i * 4 + 1 * 4 ≤ (n + 1) * 4 := by rw [← Nat.add_mul]; exact Nat.mul_le_mul_right _ (by omega)
      have hcp2 := run_copyS (w := v1) manyL (i * 4) (q + 2) (c - i) ⟨vb, 0, none⟩ 1 vc 1 news (by simp only [Nat.min_def]; split <;> omega) hVn.1
        (fun j v hj => by
          rw [Addr.add_lit]
          obtain ⟨b', o', e, _, hc'⟩ := hVn.2 (by omega)
          injection e with e
          injection e with e1 e2
          subst e1 e2
          exact hc' j v hj) HN.out.2 r1 (by rw [hVn.1]; exact e2)
      obtain ⟨r2, G2⟩ := OwnC.laid news (i * 4) r1 (by rw [hVn.1]; exact e2)
      rw [laid_two HVl.out hxl HNl.out, ← hres] at r2
      have hGG : w.grownBy (v1.setCells g (i * 4) news) (some g) := (show w.grownBy w.drew (some g) from ⟨rfl, rfl, rfl, Nat.le_refl _, fun _ _ _ => rfl⟩).trans (G1.trans G2)
      have HF := Lib.hid (show GivesIns 4 62 w base (some ⟨g, 0, none⟩) n res (.returned (.slice (some ⟨g, 0, none⟩) (n + 1) c)) (v1.setCells g (i * 4) news) from ⟨some ⟨g, 0, none⟩, c, rfl, r2, hGG, .inl rfl⟩)
      have HC1 := Lib.hid hcp1
      have HC2 := Lib.hid hcp2
      clear hcp1 hcp2 r1 r2 G1 G2 hGG hVn e1 e2 hO1 hO1d h hv1 hxl HO HV hvl hg1 hg2 hroom hq
      have ht1w := ht1 w
      have ht1d := ht1 w.drew
      have ht2d := ht2 w.drew
      have ht2v := ht2 v1
      have hc2 := HC2.out 3
      clear ht1 ht2 hres
      go_enter Tryz.func70, Tryz.ntmps70
      go_wp2_with (simp only [hov])
      go_region_law (refine step_copyR (by simp [Region.wanted]) 77 rfl (.tmp 73) (.tmp 76) rfl rfl rfl HC1.out ?_)
      all_goals
        go_wp2
        go_ret
        exact HF.out
    · -- there is none
      have hrm : (c : Int) < (n : Int) + 1 := by omega
      obtain ⟨cap', v1, hz1, hZ, hG1⟩ := run_app_fresh (Tn := 3) manyL Tryz.underlying3 (h.first hi) (q + 2) (by omega) (by omega) HBs.out .i64
      have hcap1 := hZ.fits
      have hcapb := hZ.capLe
      have hk1 : i + (q + 2) = n + 1 := by omega
      rw [hk1] at hZ hz1 hcap1
      have hzl : (zs (.agg #[.int .i64 0, .int .i64 0, .slice none 0 0, .int .i64 0]) (q + 2)).length = (q + 2) * 4 := by rw [zs_length]; rfl
      have ht1 := run_tail manyL w.heap.size (n + 1) cap' i (q + 2) (cap' - i) (i : Int) rfl (by omega) (by omega) (by omega) (by omega) hcapb
      have ht2 := run_tail manyL w.heap.size (n + 1) cap' (i + 1) (q + 1) (cap' - (i + 1)) ((i : Int) + 1) (by omega) (by omega) (by omega) (by omega) (by omega) hcapb
      have hh := run_headS manyL g n c i (i : Int) rfl (by omega) hcb w
      have hVn : RdC 4 v1 (some ⟨vb, 0, none⟩) 1 news := (HV.out.grown hG1 (.inl rfl)).rd
      have e2 : i * 4 + 1 * 4 ≤ (n + 1) * 4 := by rw [← Nat.add_mul]; exact Nat.mul_le_mul_right _ (by omega)
      have e1 : (i + 1) * 4 + (q + 1) * 4 ≤ (n + 1) * 4 := by rw [← Nat.add_mul]; exact Nat.mul_le_mul_right _ (by omega)
      have hcp1 := run_copyS (w := v1) manyL (i * 4) (q + 2) (cap' - i) ⟨vb, 0, none⟩ 1 vc 1 news (by simp only [Nat.min_def]; split <;> omega) hVn.1
        (fun j v hj => by
          rw [Addr.add_lit]
          obtain ⟨b', o', e, _, hc'⟩ := hVn.2 (by omega)
          injection e with e
          injection e with e1 e2
          subst e1 e2
          exact hc' j v hj) HN.out.2 hZ (by rw [hVn.1]; exact e2)
      obtain ⟨r1, G1⟩ := OwnC.laid news (i * 4) hZ (by rw [hVn.1]; exact e2)
      obtain ⟨v2, hv2⟩ : ∃ v2, v2 = v1.setCells w.heap.size (i * 4) news := ⟨_, rfl⟩
      rw [← hv2] at hcp1 r1 G1
      have hGo : w.grownBy v2.drew (some w.heap.size) := ⟨(G1.os).trans hG1.os, (G1.tape).trans hG1.tape, (G1.output).trans hG1.output, Nat.le_trans hG1.size G1.size, fun k hk hne => by
        have h1 := G1.block k (Nat.lt_of_lt_of_le hk hG1.size) hne
        exact h1.trans (hG1.block k hk (by simp))⟩
      have hsrc : OwnC 4 v2.drew base 62 (some ⟨g, 0, none⟩) n c vs := HO.out.grown hGo (.inr fun g' e1 e2 => by injection e1 with e1; injection e2 with e2; have := HHG.out.2; have e2 : g = g' := e2; omega)
      have hcp2 := run_copyS (w := v2.drew) manyL ((i + 1) * 4) (q + 1) (cap' - (i + 1)) ⟨g, i * 4, none⟩ (q + 1) (c - i) (q + 1) (vs.drop (i * 4)) (by simp only [Nat.min_def]; split <;> omega) HD.out
        (fun j v hj => by rw [Addr.add_lit]; exact hsrc.cellAt (by rwa [List.getElem?_drop] at hj)) HDone.out r1.drew (by rw [HD.out]; exact e1)
      obtain ⟨r2, G2⟩ := OwnC.laid (vs.drop (i * 4)) ((i + 1) * 4) r1.drew (by rw [HD.out]; exact e1)
      rw [laid_new HVl.out hzl HNl.out, ← hres] at r2
      have hGG : w.grownBy (v2.drew.setCells w.heap.size ((i + 1) * 4) (vs.drop (i * 4))) (some g) := ⟨(G2.os).trans hGo.os, (G2.tape).trans hGo.tape, (G2.output).trans hGo.output, Nat.le_trans hGo.size G2.size, fun k hk hne => by
        have hkw : (some k : Option Nat) ≠ some w.heap.size := fun e => by injection e with e; omega
        exact (G2.block k (Nat.lt_of_lt_of_le hk hGo.size) hkw).trans (hGo.block k hk hkw)⟩
      have HF := Lib.hid (show GivesIns 4 62 w base (some ⟨g, 0, none⟩) n res (.returned (.slice (some ⟨w.heap.size, 0, none⟩) (n + 1) cap')) (v2.drew.setCells w.heap.size ((i + 1) * 4) (vs.drop (i * 4))) from ⟨some ⟨w.heap.size, 0, none⟩, cap', rfl, r2, hGG, .inr fun g' e => by injection e with e; have e : w.heap.size = g' := e; omega⟩)
      have HC2 := Lib.hid hcp2
      have hc1 := hcp1 3
      have HZ1 := Lib.hid (show ∀ ty, (Builtin.append_ #[22, 3] ty #[.slice (some ⟨g, 0, none⟩) i c, .int .i64 ((q + 2 : Nat) : Int)]).run Tryz.prog w = .ok (.slice (some ⟨w.heap.size, 0, none⟩) (n + 1) cap') v1 from hz1)
      have hw3 : IntKind.i64.wrap ((n : Int) + 1 - (i : Int)) = ((q + 2 : Nat) : Int) := by rw [IntKind.wrap_i64]; omega
      generalize hqq : ((q + 2 : Nat) : Int) = qq at *
      have ht1v := ht1 v1
      have ht2v := ht2 v2.drew
      have ht3v := run_tail manyL g n c i (q + 1) (c - i) (i : Int) rfl (by omega) (by omega) (by omega) (by omega) hcb v2.drew
      have hci : ¬ (c = i) := by omega
      have hni : n - i = q + 1 := by omega
      clear hcp1 hcp2 r1 r2 G1 G2 hGG hGo hsrc hVn e1 e2 hG1 hZ h hv2 HO HV hvl hg1 hg2 hroom hq ht1 ht2 hz1 hres hqq hk1 hzl
      go_enter Tryz.func70, Tryz.ntmps70
      go_wp2_with (at_builtin; refine wpList_appR rfl (.tmp 34) (.tmp 39) rfl rfl rfl HZ1.out ?_)
      go_region_law (refine step_copyR (by simp [Region.wanted]) 54 rfl (.tmp 50) (.tmp 53) rfl rfl rfl HC2.out ?_)
      all_goals
        go_wp2
        go_ret
        exact HF.out
end Go.Proofs.YthfcjlndaajkfaaGreat
namespace Go.Proofs.YthfcjlndaajkfaaGreat
open Go.RowKit
set_option linter.unusedVariables false
set_option linter.unusedSimpArgs false
set_option maxRecDepth 100000 in
theorem ovtable (a b : Addr) (la ca lb cb : Nat) (w : World) (hne : a.block ≠ b.block) (tA tB : TypeId) (kA kB : Nat) (hsa : w.shape? a.block = some (tA, kA)) (hsb : w.shape? b.block = some (tB, kB)) (hkB : kB ≠ 0) (hfa : w.frozen? a = false) (hfe : w.frozen? ⟨a.block, kA, none⟩ = false) :
    (callFunc 97 #[.slice (some a) la ca, .slice (some b) lb cb]).run Tryz.prog w = .ok (.value (.bool false)) w := by
  obtain ⟨i0, hi, hz0, hz1, hz2⟩ := info_parts manyAT.info
  rw [run_callFunc_extern Tryz.func97 (by kernel_rfl) (by kernel_rfl) (by kernel_rfl) (e := Extern.SlicesOverlaps.overlaps #[23, 23] #[4]) (by kernel_rfl),
    Lib.run_overlaps_apart w 23 4 35 Tryz.underlying23 9 (fun v => by simp [sizeOf, typeInfo, hi, hz1]) a b la ca lb cb hne tA tB kA kB hsa hsb hkB hfa hfe]
  rfl
set_option maxRecDepth 100000 in
set_option maxHeartbeats 8000000 in
theorem instable_any (base : Nat) (A : Option Addr) (n c : Nat) (vs : List Value) (i vb vc vbase : Nat) (news : List Value) (w : World) (h : OwnC 9 w base 35 A n c vs) (hi : i ≤ n) (hn : n ≤ 100000) (hone : ∀ u ∈ vs, u.oneCell' = true) (hv : OwnC 9 w vbase 35 (some ⟨vb, 0, none⟩) 1 vc news) (h1 : ∀ u ∈ news, u.oneCell' = true) (hvb : blkOf A ≠ some vb) (hbase : base ≤ w.heap.size) :
    Calls Tryz.prog 73 #[.slice A n c, .int .i64 (i : Int), .slice (some ⟨vb, 0, none⟩) 1 vc] w (GivesIns 9 35 w base A n (vs.take (i * 9) ++ news ++ vs.drop (i * 9))) := by
  have HO := Lib.hid h
  have HV := Lib.hid hv
  have HN := Lib.hid (And.intro hone h1)
  have HVB := Lib.hid hvb
  have HBs := Lib.hid hbase
  have hcap := h.fits
  have hcb := h.capLe
  have hnl := hv.1
  have HNl := Lib.hid (show news.length = 9 by rw [hnl, Nat.one_mul])
  clear hone h1 hvb hbase hnl hv
  by_cases hin : i = n
  · -- at the end
    subst hin
    have hvl : vs.length = i * 9 := h.1
    have HE := Lib.hid (show vs.take (i * 9) ++ news ++ vs.drop (i * 9) = vs ++ news by rw [List.take_of_length_le (by omega), drop_all (by omega), List.append_nil])
    rw [HE.out]
    have HR := Lib.hid (HV.out.rd)
    have hsl : ∃ x, (Instr.slice 23 (.slice A i c) (some (.int .i64 (i : Int))) none none).run Tryz.prog w = .ok x w := by
      rcases h.2 with ⟨hv0, h0⟩ | ⟨g, c', cur, hv0, _⟩
      · subst h0
        injection hv0 with e1 _ e3
        subst e1 e3
        exact ⟨_, run_nil0 manyAT w⟩
      · injection hv0 with e1 _ _
        subst e1
        by_cases hic : c = i
        · subst hic
          obtain ⟨o, ho⟩ := run_tailN manyAT g c c (c : Int) rfl rfl hcb w
          exact ⟨_, ho⟩
        · exact ⟨_, run_tail manyAT g i c i 0 (c - i) (i : Int) rfl rfl (by omega) (by omega) (by omega) hcb w⟩
    obtain ⟨x, hx⟩ := hsl
    have ee : ((i : Int) == (i : Int)) = true := by simp
    clear h hcap hcb hvl hi
    go_enter Tryz.func73, Tryz.ntmps73
    go_wp2_with (at_builtin; refine wpList_appC manyAT rfl (.tmp 23) (.tmp 24) rfl rfl HO.out ⟨vb, 0, none⟩ 1 vc news HN.out.2 rfl HR.out (by omega) HBs.out ?_; intro B d v hg; have HG := Lib.hid hg; clear hg)
    go_ret
    exact ⟨B, d, rfl, HG.out.own, by rw [← ownBlock_eq A i c]; exact HG.out.grew, by
      have hb := HG.out.blk
      rw [ownBlock_eq, ownBlock_eq] at hb
      rcases hb with hb | hb
      · exact .inl hb
      · exact .inr fun g hg => by rw [hb] at hg; injection hg with hg; omega⟩
  · obtain ⟨q, hq⟩ : ∃ q, n = i + (q + 1) := ⟨n - i - 1, by omega⟩
    obtain ⟨g, hA, hg1, hg2⟩ := h.form (by omega)
    subst hA
    have hvl : vs.length = (i + (q + 1)) * 9 := by rw [← hq]; exact h.1
    have hvg : vb ≠ g := fun e => HVB.out (by rw [e]; rfl)
    have HQ := Lib.hid hq
    have HVl := Lib.hid hvl
    have HVG := Lib.hid hvg
    have HHG := Lib.hid (And.intro hg1 hg2)
    have hcn : ¬ ((i : Int) = (n : Int)) := by omega
    have ee : ((i : Int) == (n : Int)) = false := by rw [beq_eq_false_iff_ne]; omega
    have hw1 : IntKind.i64.wrap ((i : Int) + 1) = (i : Int) + 1 := by rw [IntKind.wrap_i64]; omega
    have hw2 : IntKind.i64.wrap ((n : Int) + 1) = (n : Int) + 1 := by rw [IntKind.wrap_i64]; omega
    have hDl : (vs.drop (i * 9)).length = (q + 1) * 9 := by rw [List.length_drop, hvl, Nat.add_mul]; omega
    have HD := Lib.hid hDl
    have HDone := Lib.hid (show ∀ u ∈ vs.drop (i * 9), u.oneCell' = true from fun u hu => HN.out.1 u (List.mem_of_mem_drop hu))
    obtain ⟨res, hres⟩ : ∃ res, res = vs.take (i * 9) ++ news ++ vs.drop (i * 9) := ⟨_, rfl⟩
    rw [← hres]
    have ht0 := run_tail manyAT g n c i (q + 1) (c - i) (i : Int) rfl hq (by omega) (by omega) (by omega) hcb w
    clear hDl hvg hin
    by_cases hroom : n + 1 ≤ c
    · -- there is room
      have hrm : ¬ ((c : Int) < (n : Int) + 1) := by omega
      obtain ⟨xs, hxl, hO1⟩ := h.one_more hroom
      have hO1d : OwnC 9 w.drew base 35 (some ⟨g, 0, none⟩) (n + 1) c (vs ++ xs) := hO1
      have hh := run_headS manyAT g n c (n + 1) ((n : Int) + 1) (by omega) hroom hcb w
      have ht1 := run_tail manyAT g (n + 1) c (i + 1) (q + 1) (c - (i + 1)) ((i : Int) + 1) (by omega) (by omega) (by omega) (by omega) (by omega) hcb
      have ht2 := run_tail manyAT g (n + 1) c i (q + 2) (c - i) (i : Int) rfl (by omega) (by omega) (by omega) (by omega) hcb
      have hov := ovtable ⟨vb, 0, none⟩ ⟨g, (i + 1) * 9, none⟩ 1 vc (q + 1) (c - (i + 1)) w HVG.out _ _ _ _ HV.out.shape h.shape (by have h0 : 0 < c * 9 := Nat.mul_pos (by omega) (by omega); omega) (HV.out.freeAt 0) (HV.out.freeAt _)
      have e1 : (i + 1) * 9 + (q + 1) * 9 ≤ (n + 1) * 9 := by rw [← Nat.add_mul]; exact Nat.mul_le_mul_right _ (by omega)
      have hcp1 := run_copyS (w := w.drew) manyAT ((i + 1) * 9) (q + 1) (c - (i + 1)) ⟨g, i * 9, none⟩ (q + 2) (c - i) (q + 1) (vs.drop (i * 9)) (by simp only [Nat.min_def]; split <;> omega) HD.out
        (fun j v hj => by rw [Addr.add_lit]; exact HO.out.drew.cellAt (by rwa [List.getElem?_drop] at hj)) HDone.out hO1d (by rw [HD.out]; exact e1)
      obtain ⟨r1, G1⟩ := OwnC.laid (vs.drop (i * 9)) ((i + 1) * 9) hO1d (by rw [HD.out]; exact e1)
      obtain ⟨v1, hv1⟩ : ∃ v1, v1 = w.drew.setCells g ((i + 1) * 9) (vs.drop (i * 9)) := ⟨_, rfl⟩
      rw [← hv1] at hcp1 r1 G1
      have hVn : RdC 9 v1 (some ⟨vb, 0, none⟩) 1 news := (HV.out.drew.grown G1 (.inr fun g' e1 e2 => by injection e1 with e1; injection e2 with e2; exact HVG.out (by rw [e1]; exact e2))).rd
      have e2 : i * 9 + 1 * 9 ≤ (n + 1) * 9 := by rw [← Nat.add_mul]; exact Nat.mul_le_mul_right _ (by omega)
      have hcp2 := run_copyS (w := v1) manyAT (i * 9) (q + 2) (c - i) ⟨vb, 0, none⟩ 1 vc 1 news (by simp only [Nat.min_def]; split <;> omega) hVn.1
        (fun j v hj => by
          rw [Addr.add_lit]
          obtain ⟨b', o', e, _, hc'⟩ := hVn.2 (by omega)
          injection e with e
          injection e with e1 e2
          subst e1 e2
          exact hc' j v hj) HN.out.2 r1 (by rw [hVn.1]; exact e2)
      obtain ⟨r2, G2⟩ := OwnC.laid news (i * 9) r1 (by rw [hVn.1]; exact e2)
      rw [laid_two HVl.out hxl HNl.out, ← hres] at r2
      have hGG : w.grownBy (v1.setCells g (i * 9) news) (some g) := (show w.grownBy w.drew (some g) from ⟨rfl, rfl, rfl, Nat.le_refl _, fun _ _ _ => rfl⟩).trans (G1.trans G2)
      have HF := Lib.hid (show GivesIns 9 35 w base (some ⟨g, 0, none⟩) n res (.returned (.slice (some ⟨g, 0, none⟩) (n + 1) c)) (v1.setCells g (i * 9) news) from ⟨some ⟨g, 0, none⟩, c, rfl, r2, hGG, .inl rfl⟩)
      have HC1 := Lib.hid hcp1
      have HC2 := Lib.hid hcp2
      clear hcp1 hcp2 r1 r2 G1 G2 hGG hVn e1 e2 hO1 hO1d h hv1 hxl HO HV hvl hg1 hg2 hroom hq
      have ht1w := ht1 w
      have ht1d := ht1 w.drew
      have ht2d := ht2 w.drew
      have ht2v := ht2 v1
      have hc2 := HC2.out 3
      clear ht1 ht2 hres
      go_enter Tryz.func73, Tryz.ntmps73
      go_wp2_with (simp only [hov])
      go_region_law (refine step_copyR (by simp [Region.wanted]) 77 rfl (.tmp 73) (.tmp 76) rfl rfl rfl HC1.out ?_)
      all_goals
        go_wp2
        go_ret
        exact HF.out
    · -- there is none
      have hrm : (c : Int) < (n : Int) + 1 := by omega
      obtain ⟨cap', v1, hz1, hZ, hG1⟩ := run_app_fresh (Tn := 3) manyAT Tryz.underlying3 (h.first hi) (q + 2) (by omega) (by omega) HBs.out .i64
      have hcap1 := hZ.fits
      have hcapb := hZ.capLe
      have hk1 : i + (q + 2) = n + 1 := by omega
      rw [hk1] at hZ hz1 hcap1
      have hzl : (zs (.agg #[.int .i64 0, .int .i64 0, .slice none 0 0, .int .i64 0, .int .i64 0, .int .i64 0, .string ⟨#[]⟩, .string ⟨#[]⟩, .int .i64 0]) (q + 2)).length = (q + 2) * 9 := by rw [zs_length]; rfl
      have ht1 := run_tail manyAT w.heap.size (n + 1) cap' i (q + 2) (cap' - i) (i : Int) rfl (by omega) (by omega) (by omega) (by omega) hcapb
      have ht2 := run_tail manyAT w.heap.size (n + 1) cap' (i + 1) (q + 1) (cap' - (i + 1)) ((i : Int) + 1) (by omega) (by omega) (by omega) (by omega) (by omega) hcapb
      have hh := run_headS manyAT g n c i (i : Int) rfl (by omega) hcb w
      have hVn : RdC 9 v1 (some ⟨vb, 0, none⟩) 1 news := (HV.out.grown hG1 (.inl rfl)).rd
      have e2 : i * 9 + 1 * 9 ≤ (n + 1) * 9 := by rw [← Nat.add_mul]; exact Nat.mul_le_mul_right _ (by omega)
      have e1 : (i + 1) * 9 + (q + 1) * 9 ≤ (n + 1) * 9 := by rw [← Nat.add_mul]; exact Nat.mul_le_mul_right _ (by omega)
      have hcp1 := run_copyS (w := v1) manyAT (i * 9) (q + 2) (cap' - i) ⟨vb, 0, none⟩ 1 vc 1 news (by simp only [Nat.min_def]; split <;> omega) hVn.1
        (fun j v hj => by
          rw [Addr.add_lit]
          obtain ⟨b', o', e, _, hc'⟩ := hVn.2 (by omega)
          injection e with e
          injection e with e1 e2
          subst e1 e2
          exact hc' j v hj) HN.out.2 hZ (by rw [hVn.1]; exact e2)
      obtain ⟨r1, G1⟩ := OwnC.laid news (i * 9) hZ (by rw [hVn.1]; exact e2)
      obtain ⟨v2, hv2⟩ : ∃ v2, v2 = v1.setCells w.heap.size (i * 9) news := ⟨_, rfl⟩
      rw [← hv2] at hcp1 r1 G1
      have hGo : w.grownBy v2.drew (some w.heap.size) := ⟨(G1.os).trans hG1.os, (G1.tape).trans hG1.tape, (G1.output).trans hG1.output, Nat.le_trans hG1.size G1.size, fun k hk hne => by
        have h1 := G1.block k (Nat.lt_of_lt_of_le hk hG1.size) hne
        exact h1.trans (hG1.block k hk (by simp))⟩
      have hsrc : OwnC 9 v2.drew base 35 (some ⟨g, 0, none⟩) n c vs := HO.out.grown hGo (.inr fun g' e1 e2 => by injection e1 with e1; injection e2 with e2; have := HHG.out.2; have e2 : g = g' := e2; omega)
      have hcp2 := run_copyS (w := v2.drew) manyAT ((i + 1) * 9) (q + 1) (cap' - (i + 1)) ⟨g, i * 9, none⟩ (q + 1) (c - i) (q + 1) (vs.drop (i * 9)) (by simp only [Nat.min_def]; split <;> omega) HD.out
        (fun j v hj => by rw [Addr.add_lit]; exact hsrc.cellAt (by rwa [List.getElem?_drop] at hj)) HDone.out r1.drew (by rw [HD.out]; exact e1)
      obtain ⟨r2, G2⟩ := OwnC.laid (vs.drop (i * 9)) ((i + 1) * 9) r1.drew (by rw [HD.out]; exact e1)
      rw [laid_new HVl.out hzl HNl.out, ← hres] at r2
      have hGG : w.grownBy (v2.drew.setCells w.heap.size ((i + 1) * 9) (vs.drop (i * 9))) (some g) := ⟨(G2.os).trans hGo.os, (G2.tape).trans hGo.tape, (G2.output).trans hGo.output, Nat.le_trans hGo.size G2.size, fun k hk hne => by
        have hkw : (some k : Option Nat) ≠ some w.heap.size := fun e => by injection e with e; omega
        exact (G2.block k (Nat.lt_of_lt_of_le hk hGo.size) hkw).trans (hGo.block k hk hkw)⟩
      have HF := Lib.hid (show GivesIns 9 35 w base (some ⟨g, 0, none⟩) n res (.returned (.slice (some ⟨w.heap.size, 0, none⟩) (n + 1) cap')) (v2.drew.setCells w.heap.size ((i + 1) * 9) (vs.drop (i * 9))) from ⟨some ⟨w.heap.size, 0, none⟩, cap', rfl, r2, hGG, .inr fun g' e => by injection e with e; have e : w.heap.size = g' := e; omega⟩)
      have HC2 := Lib.hid hcp2
      have hc1 := hcp1 3
      have HZ1 := Lib.hid (show ∀ ty, (Builtin.append_ #[23, 3] ty #[.slice (some ⟨g, 0, none⟩) i c, .int .i64 ((q + 2 : Nat) : Int)]).run Tryz.prog w = .ok (.slice (some ⟨w.heap.size, 0, none⟩) (n + 1) cap') v1 from hz1)
      have hw3 : IntKind.i64.wrap ((n : Int) + 1 - (i : Int)) = ((q + 2 : Nat) : Int) := by rw [IntKind.wrap_i64]; omega
      generalize hqq : ((q + 2 : Nat) : Int) = qq at *
      have ht1v := ht1 v1
      have ht2v := ht2 v2.drew
      have ht3v := run_tail manyAT g n c i (q + 1) (c - i) (i : Int) rfl (by omega) (by omega) (by omega) (by omega) hcb v2.drew
      have hci : ¬ (c = i) := by omega
      have hni : n - i = q + 1 := by omega
      clear hcp1 hcp2 r1 r2 G1 G2 hGG hGo hsrc hVn e1 e2 hG1 hZ h hv2 HO HV hvl hg1 hg2 hroom hq ht1 ht2 hz1 hres hqq hk1 hzl
      go_enter Tryz.func73, Tryz.ntmps73
      go_wp2_with (at_builtin; refine wpList_appR rfl (.tmp 34) (.tmp 39) rfl rfl rfl HZ1.out ?_)
      go_region_law (refine step_copyR (by simp [Region.wanted]) 54 rfl (.tmp 50) (.tmp 53) rfl rfl rfl HC2.out ?_)
      all_goals
        go_wp2
        go_ret
        exact HF.out
end Go.Proofs.YthfcjlndaajkfaaGreat
namespace Go.Proofs.YthfcjlndaajkfaaGreat
open Go.RowKit
set_option maxRecDepth 100000 in
theorem clearlog (W : World) (base b n cap m c : Nat) (vs : List Value) (h : OwnC 4 W base 62 (some ⟨b, 0, none⟩) n cap vs) (hm : 0 < m) (hc : n + m ≤ cap) :
    ∃ W', (∀ ty, (Builtin.clear_ #[22] ty #[.slice (some ⟨b, n * 4, none⟩) m c]).run Tryz.prog W = .ok (.tuple #[]) W') ∧ OwnC 4 W' base 62 (some ⟨b, 0, none⟩) n cap vs ∧ W.grownBy W' (some b) := by
  have ht : Tryz.prog.underlying 22 = some (.slice 62) := Tryz.underlying22
  have hv : ∀ w, (zeroValue 62).run Tryz.prog w = .ok (.agg #[.int .i64 0, .int .i64 0, .slice none 0 0, .int .i64 0]) w := fun w => by kernel_rfl
  obtain ⟨news, hnews⟩ : ∃ news, (Builtin.zeroCells (Value.agg #[.int .i64 0, .int .i64 0, .slice none 0 0, .int .i64 0]).cells m).toList = news := ⟨_, rfl⟩
  have hlen : news.length = m * 4 := by rw [← hnews]; simp [Builtin.zeroCells, Value.cells]
  have hone : ∀ u ∈ news, u.oneCell' = true := by
    intro u hu
    rw [← hnews] at hu
    simp only [Builtin.zeroCells, Value.cells, Array.toList_map, List.mem_map] at hu
    obtain ⟨i, _, rfl⟩ := hu
    have : i % 4 < 4 := Nat.mod_lt _ (by omega)
    show ((#[Value.int .i64 0, .int .i64 0, .slice none 0 0, .int .i64 0] : Array Value)[i % 4]!).oneCell' = true
    match i % 4, this with
    | 0, _ => rfl
    | 1, _ => rfl
    | 2, _ => rfl
    | 3, _ => rfl
  have hcell : ∀ j, j < news.length → (W.cell? ⟨b, n * 4 + j, none⟩).isSome = true ∧ W.frozen? ⟨b, n * 4 + j, none⟩ = false := by
    intro j hj
    rcases h.2 with ⟨hv, _⟩ | ⟨g', cp, cur, hv, hb, hg, hnc, hcm, hs, ht⟩
    · cases hv
    · injection hv with e1 e2 e3
      injection e1 with e1
      injection e1 with e1
      subst e1 e3
      refine ⟨?_, Joins.unfrozen_of_block hg _⟩
      rw [Joins.cell_of_block hg, Array.getElem?_eq_getElem (by rw [hs]; omega)]
      rfl
  have hst := run_storeCells_cells (P := Tryz.prog) b (n * 4) news 0 W (fun j hj => by rw [Nat.add_zero]; exact (hcell j hj).1) (fun j hj => by rw [Nat.add_zero]; exact (hcell j hj).2) hone
  simp only [Nat.add_zero] at hst
  refine ⟨W.setCells b (n * 4) news, fun ty => ?_, OwnC.behinds news (n * 4) W h (Nat.le_refl _), grown_setCells b news (n * 4) W⟩
  obtain ⟨k, rfl⟩ : ∃ k, m = k + 1 := ⟨m - 1, by omega⟩
  simp [Builtin.clear_, run_underlying ht, hv, hnews, hst]
set_option maxRecDepth 100000 in
set_option maxHeartbeats 4000000 in
theorem dellog_any (base b cap i : Nat) (l : List Ed.Lg) (w : World) (h : OwnC 4 w base 62 (some ⟨b, 0, none⟩) l.length cap (Ed.lflat l)) (hi : i < l.length) (hl : l.length ≤ 1000000) :
    Calls Tryz.prog 101 #[.slice (some ⟨b, 0, none⟩) l.length cap, .int .i64 (i : Int), .int .i64 ((i : Int) + 1)] w fun e w' => e = .returned (.slice (some ⟨b, 0, none⟩) (l.length - 1) cap) ∧ OwnC 4 w' base 62 (some ⟨b, 0, none⟩) (l.length - 1) cap (Ed.lflat (Ed.cut l i)) ∧ w.grownBy w' (some b) := by
  have HO := Lib.hid h
  have hfit := h.fits
  obtain ⟨j, hj⟩ : ∃ j : Nat, j = i + 1 := ⟨_, rfl⟩
  rw [show (i : Int) + 1 = (j : Int) by omega]
  have hij : i ≤ j := by omega
  have hjl : j ≤ l.length := by omega
  have hiji : (i : Int) ≤ (j : Int) := by omega
  have hjli : (j : Int) ≤ (l.length : Int) := by omega
  have hlci : (l.length : Int) ≤ (cap : Int) := by omega
  have hic : i ≤ cap := by omega
  have hne : ((i : Int) == (j : Int)) = false := by rw [beq_eq_false_iff_ne]; omega
  have hne2 : ¬ (i : Int) = (j : Int) := by omega
  have Hj := Lib.hid hj
  clear h hj
  go_enter Tryz.func101, Tryz.ntmps101
  have hne3 : (some (⟨b, 0, none⟩ : Addr)) ≠ none := by simp
  have hown1 := (HO.out.takeN hne3 (k := i) (by omega)).drew
  rw [Ed.log_take] at hown1
  have hcellD : ∀ u v, (Ed.lflat (l.drop j))[u]? = some v → w.drew.cell? ⟨b, j * 4 + u, none⟩ = some v := fun u v hv => by
    obtain ⟨b', o', e, _, hc⟩ := HO.out.rd.2 (by omega)
    injection e with e
    injection e with e1 e2
    subst e1 e2
    rw [← Ed.log_drop, List.getElem?_drop] at hv
    have := hc _ v hv
    rwa [Nat.zero_add] at this
  have hlenD : (Ed.lflat (l.drop j)).length = (l.length - j) * 4 := by rw [Ed.log_length, List.length_drop]
  have honeD : ∀ u ∈ Ed.lflat (l.drop j), u.oneCell' = true := by
    intro u hu
    obtain ⟨x, _, hx⟩ := List.mem_flatMap.1 hu
    exact Ed.lcells_one x u hx
  by_cases hjc : j = cap
  · subst hjc
    have hll : l.length - j = 0 := by omega
    go_wp2_with fail
    go_region_law (refine step_fits manyL (by simp [Region.wanted]) 26 rfl (.tmp 22) (.tmp 25) rfl rfl hown1 ⟨b, 0, none⟩ 0 0 [] (by simp) rfl rfl (by simp) (by omega) ?_; intro w5 ho5 hg5)
    all_goals
      have hKl : i = l.length - 1 := by have := Hj.out; omega
      rw [Nat.add_zero, List.append_nil] at ho5
      have ho5 : OwnC 4 w5 base 62 (some ⟨b, 0, none⟩) i j (Ed.lflat (Ed.cut l i)) := by
        have hc : Ed.cut l i = l.take i := by unfold Ed.cut; rw [List.drop_of_length_le (by have := Hj.out; omega), List.append_nil]
        rw [hc]; exact ho5
      obtain ⟨w6, hclr, ho6, hg6⟩ := clearlog w5 base b i j (l.length - i) (j - i) _ ho5 (by omega) (by omega)
      have hKL : i ≤ l.length := by omega
      have hKi : (i : Int) ≤ (l.length : Int) := by omega
      have hKc2 : ¬ j = i := by have := Hj.out; omega
      have HF := Lib.hid (show OwnC 4 w6 base 62 (some ⟨b, 0, none⟩) (l.length - 1) j (Ed.lflat (Ed.cut l i)) ∧ w.grownBy w6 (some b) by
        rw [← hKl]
        exact ⟨ho6, (show w.grownBy w.drew (some b) from ⟨rfl, rfl, rfl, Nat.le_refl _, fun _ _ _ => rfl⟩).trans (hg5.trans hg6)⟩)
      have HKl := Lib.hid hKl
      clear ho5 ho6 hg5 hg6 hcellD hown1 hKl
      go_wp2
      go_ret
      exact ⟨by rw [← HKl.out]; rfl, HF.out⟩
  · have hjc2 : ¬ cap = j := fun e => hjc e.symm
    have hjc3 : ¬ cap - j = 0 := by omega
    go_wp2_with fail
    go_region_law (refine step_fits manyL (by simp [Region.wanted]) 26 rfl (.tmp 22) (.tmp 25) rfl rfl hown1 ⟨b, j * 4, none⟩ (l.length - j) (cap - j) (Ed.lflat (l.drop j)) honeD rfl hlenD (fun u v hv => by rw [Addr.add_lit]; exact hcellD u v hv) (by omega) ?_; intro w5 ho5 hg5)
    all_goals
      obtain ⟨K, hK⟩ : ∃ K : Nat, K = i + (l.length - j) := ⟨_, rfl⟩
      have hKl : K = l.length - 1 := by have := Hj.out; omega
      rw [← hK] at ho5 ⊢
      rw [← Ed.log_append] at ho5
      have ho5 : OwnC 4 w5 base 62 (some ⟨b, 0, none⟩) K cap (Ed.lflat (Ed.cut l i)) := by
        have hc : Ed.cut l i = l.take i ++ l.drop j := by unfold Ed.cut; rw [Hj.out]
        rw [hc]; exact ho5
      obtain ⟨w6, hclr, ho6, hg6⟩ := clearlog w5 base b K cap (l.length - K) (cap - K) _ ho5 (by omega) (by omega)
      have hKL : K ≤ l.length := by omega
      have hKi : (K : Int) ≤ (l.length : Int) := by omega
      have hKc : K ≤ cap := by omega
      have hKc2 : ¬ cap = K := by omega
      have HF := Lib.hid (show OwnC 4 w6 base 62 (some ⟨b, 0, none⟩) (l.length - 1) cap (Ed.lflat (Ed.cut l i)) ∧ w.grownBy w6 (some b) by
        rw [← hKl]
        exact ⟨ho6, (show w.grownBy w.drew (some b) from ⟨rfl, rfl, rfl, Nat.le_refl _, fun _ _ _ => rfl⟩).trans (hg5.trans hg6)⟩)
      have HKl := Lib.hid hKl
      clear ho5 ho6 hg5 hg6 hK hcellD hown1 hKl
      go_wp2
      go_ret
      exact ⟨by rw [← HKl.out]; rfl, HF.out⟩
end Go.Proofs.YthfcjlndaajkfaaGreat
