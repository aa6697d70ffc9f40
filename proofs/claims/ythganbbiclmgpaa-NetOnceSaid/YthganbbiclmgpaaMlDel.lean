/- slices.Delete of one mail, out of a row of the net's own. -/
import Derived.Test.YthganbbiclmgpaaMlNet
import Derived.Lib.SliceRun
namespace Go.Proofs.Ythganbbiclmgpaa
open Go.RowKit
set_option maxRecDepth 100000 in
theorem clear_own (W : World) (base b n cap m c : Nat) (vs : List Value) (h : OwnC 3 W base 28 (some ⟨b, 0, none⟩) n cap vs) (hm : 0 < m) (hc : n + m ≤ cap) :
    ∃ W', (∀ ty, (Builtin.clear_ #[75] ty #[.slice (some ⟨b, n * 3, none⟩) m c]).run Try.prog W = .ok (.tuple #[]) W') ∧ OwnC 3 W' base 28 (some ⟨b, 0, none⟩) n cap vs ∧ W.grownBy W' (some b) := by
  have ht : Try.prog.underlying 75 = some (.slice 28) := Try.underlying75
  have hv : ∀ w, (zeroValue 28).run Try.prog w = .ok (.agg #[.int .i64 0, .int .i64 0, .string ⟨#[]⟩]) w := fun w => by kernel_rfl
  obtain ⟨news, hnews⟩ : ∃ news, (Builtin.zeroCells (Value.agg #[.int .i64 0, .int .i64 0, .string ⟨#[]⟩]).cells m).toList = news := ⟨_, rfl⟩
  have hlen : news.length = m * 3 := by rw [← hnews]; simp [Builtin.zeroCells, Value.cells]
  have hone : ∀ u ∈ news, u.oneCell' = true := by
    intro u hu
    rw [← hnews] at hu
    simp only [Builtin.zeroCells, Value.cells, Array.toList_map, List.mem_map] at hu
    obtain ⟨i, _, rfl⟩ := hu
    have : i % 3 < 3 := Nat.mod_lt _ (by omega)
    show ((#[Value.int .i64 0, .int .i64 0, .string ⟨#[]⟩] : Array Value)[i % 3]!).oneCell' = true
    match i % 3, this with
    | 0, _ => rfl
    | 1, _ => rfl
    | 2, _ => rfl
  have hcell : ∀ j, j < news.length → (W.cell? ⟨b, n * 3 + j, none⟩).isSome = true ∧ W.frozen? ⟨b, n * 3 + j, none⟩ = false := by
    intro j hj
    rcases h.2 with ⟨hv, _⟩ | ⟨g', cp, cur, hv, hb, hg, hnc, hcm, hs, ht⟩
    · cases hv
    · injection hv with e1 e2 e3
      injection e1 with e1
      injection e1 with e1
      subst e1 e3
      refine ⟨?_, Joins.unfrozen_of_block hg _⟩
      rw [Joins.cell_of_block hg, Array.getElem?_eq_getElem (by rw [hs]; omega)]
      rfl
  have hst := run_storeCells_cells (P := Try.prog) b (n * 3) news 0 W (fun j hj => by rw [Nat.add_zero]; exact (hcell j hj).1) (fun j hj => by rw [Nat.add_zero]; exact (hcell j hj).2) hone
  simp only [Nat.add_zero] at hst
  refine ⟨W.setCells b (n * 3) news, fun ty => ?_, OwnC.behinds news (n * 3) W h (Nat.le_refl _), grown_setCells b news (n * 3) W⟩
  obtain ⟨k, rfl⟩ : ∃ k, m = k + 1 := ⟨m - 1, by omega⟩
  simp [Builtin.clear_, run_underlying ht, hv, hnews, hst]
/-- append where there is room, at a step of a drawn region. -/
theorem step_fits {s : Nat} {w : World} {base n cap g : Nat} {vs : List Value} {S E : TypeId} {z : Value} {bytes : Nat} (O : Many s S E z bytes) {ops : Array Oper} {o : Oper} {a : Act} {K : Act → World → Prop} {Q : Exit → Act → World → Prop} {F : Prop} (hw : Region.wanted o (yielded ops a.tmps) = true) (d : Nat) (hd : o.dst = some d) (s1 x : Operand)
    (ho : o.op = .call { callee := .builtin .append, args := #[s1, x], argTypes := #[S, S] })
    (hs : a.eval s1 = .slice (some ⟨g, 0, none⟩) n cap) (hown : OwnC s w base E (some ⟨g, 0, none⟩) n cap vs) (ad : Addr) (m c : Nat) (news : List Value) (h1 : ∀ u ∈ news, u.oneCell' = true) (hx : a.eval x = .slice (some ad) m c) (hl : news.length = m * s) (hr : ∀ j u, news[j]? = some u → w.cell? (ad.add j) = some u) (hroom : n + m ≤ cap)
    (h : ∀ w', OwnC s w' base E (some ⟨g, 0, none⟩) (n + m) cap (vs ++ news) → w.grownBy w' (some g) → K (a.put (some d) (.slice (some ⟨g, 0, none⟩) (n + m) cap)) w') :
    if Region.wanted o (yielded ops a.tmps) = true then Oper.wp Try.prog o a w K Q else F := by
  rw [if_pos hw]
  obtain ⟨i, hi, hz0, hz1, hz2⟩ := info_parts O.info
  obtain ⟨w', hrun, ho2, hg2⟩ := run_append_fits (P := Try.prog) w base S o.type E i s O.under hi hz1 g n cap vs hown ad m c news hl hr h1 hroom
  unfold Oper.wp execOp
  simp only [ho, resolve, invoke, builtin, Sem.run_bind, Sem.run_pure, Result.andThen_ok, List.map_toArray, List.map_cons, List.map_nil, hs, hx, hrun]
  have h2 := h w' ho2 hg2
  rw [← hd] at h2
  exact h2
/-- What stays behind one mail is taken. -/
def Ml.cut (l : List Ml.M) (i : Nat) : List Ml.M := l.take i ++ l.drop (i + 1)
theorem Ml.cut_length {l : List Ml.M} {i : Nat} (h : i < l.length) : (Ml.cut l i).length = l.length - 1 := by
  unfold Ml.cut
  rw [List.length_append, List.length_take, List.length_drop]
  omega
set_option maxRecDepth 100000 in
set_option maxHeartbeats 4000000 in
theorem delete_any (base b cap i : Nat) (l : List Ml.M) (w : World) (h : OwnC 3 w base 28 (some ⟨b, 0, none⟩) l.length cap (Ml.flat l)) (hi : i < l.length) (hl : l.length ≤ 1000000) :
    Calls Try.prog 41 #[.slice (some ⟨b, 0, none⟩) l.length cap, .int .i64 (i : Int), .int .i64 ((i : Int) + 1)] w fun e w' => e = .returned (.slice (some ⟨b, 0, none⟩) (l.length - 1) cap) ∧ OwnC 3 w' base 28 (some ⟨b, 0, none⟩) (l.length - 1) cap (Ml.flat (Ml.cut l i)) ∧ w.grownBy w' (some b) := by
  have HO := Lib.hid h
  have hfit := h.fits
  obtain ⟨j, hj⟩ : ∃ j : Nat, j = i + 1 := ⟨_, rfl⟩
  rw [show (i : Int) + 1 = (j : Int) by omega]
  have hij : i ≤ j := by omega
  have hjl : j ≤ l.length := by omega
  have hiji : (i : Int) ≤ (j : Int) := by omega
  have hjli : (j : Int) ≤ (l.length : Int) := by omega
  have hlci : (l.length : Int) ≤ (cap : Int) := by omega
  have hic : i ≤ cap := by omega
  have hne : ((i : Int) == (j : Int)) = false := by rw [beq_eq_false_iff_ne]; omega
  have hne2 : ¬ (i : Int) = (j : Int) := by omega
  have Hj := Lib.hid hj
  clear h hj
  go_enter Try.func41, Try.ntmps41
  have hne3 : (some (⟨b, 0, none⟩ : Addr)) ≠ none := by simp
  have hown1 := (HO.out.take hne3 (k := i) (by omega)).drew
  rw [Ml.flat_take] at hown1
  have hcellD : ∀ u v, (Ml.flat (l.drop j))[u]? = some v → w.drew.cell? ⟨b, j * 3 + u, none⟩ = some v := fun u v hv => by
    obtain ⟨b', o', e, _, hc⟩ := HO.out.rd.2 (by omega)
    injection e with e
    injection e with e1 e2
    subst e1 e2
    rw [← Ml.flat_drop, List.getElem?_drop] at hv
    have := hc _ v hv
    rwa [Nat.zero_add] at this
  have hlenD : (Ml.flat (l.drop j)).length = (l.length - j) * 3 := by rw [Ml.flat_length, List.length_drop]
  have honeD : ∀ u ∈ Ml.flat (l.drop j), u.oneCell' = true := by
    intro u hu
    obtain ⟨x, _, hx⟩ := List.mem_flatMap.1 hu
    exact Ml.cells_one x u hx
  by_cases hjc : j = cap
  · subst hjc
    have hll : l.length - j = 0 := by omega
    go_wp2_with fail
    go_region_law (refine step_fits manyR (by simp [Region.wanted]) 26 rfl (.tmp 22) (.tmp 25) rfl rfl hown1 ⟨b, 0, none⟩ 0 0 [] (by simp) rfl rfl (by simp) (by omega) ?_; intro w5 ho5 hg5)
    all_goals
      have hKl : i = l.length - 1 := by have := Hj.out; omega
      rw [Nat.add_zero, List.append_nil] at ho5
      have ho5 : OwnC 3 w5 base 28 (some ⟨b, 0, none⟩) i j (Ml.flat (Ml.cut l i)) := by
        have hc : Ml.cut l i = l.take i := by unfold Ml.cut; rw [List.drop_of_length_le (by have := Hj.out; omega), List.append_nil]
        rw [hc]; exact ho5
      obtain ⟨w6, hclr, ho6, hg6⟩ := clear_own w5 base b i j (l.length - i) (j - i) _ ho5 (by omega) (by omega)
      have hKL : i ≤ l.length := by omega
      have hKi : (i : Int) ≤ (l.length : Int) := by omega
      have hKc2 : ¬ j = i := by have := Hj.out; omega
      have HF := Lib.hid (show OwnC 3 w6 base 28 (some ⟨b, 0, none⟩) (l.length - 1) j (Ml.flat (Ml.cut l i)) ∧ w.grownBy w6 (some b) by
        rw [← hKl]
        exact ⟨ho6, (show w.grownBy w.drew (some b) from ⟨rfl, rfl, rfl, Nat.le_refl _, fun _ _ _ => rfl⟩).trans (hg5.trans hg6)⟩)
      have HKl := Lib.hid hKl
      clear ho5 ho6 hg5 hg6 hcellD hown1 hKl
      go_wp2
      go_ret
      exact ⟨by rw [← HKl.out]; rfl, HF.out⟩
  · have hjc2 : ¬ cap = j := fun e => hjc e.symm
    have hjc3 : ¬ cap - j = 0 := by omega
    go_wp2_with fail
    go_region_law (refine step_fits manyR (by simp [Region.wanted]) 26 rfl (.tmp 22) (.tmp 25) rfl rfl hown1 ⟨b, j * 3, none⟩ (l.length - j) (cap - j) (Ml.flat (l.drop j)) honeD rfl hlenD (fun u v hv => by rw [Addr.add_lit]; exact hcellD u v hv) (by omega) ?_; intro w5 ho5 hg5)
    all_goals
      obtain ⟨K, hK⟩ : ∃ K : Nat, K = i + (l.length - j) := ⟨_, rfl⟩
      have hKl : K = l.length - 1 := by have := Hj.out; omega
      rw [← hK] at ho5 ⊢
      rw [← Ml.flat_append] at ho5
      have ho5 : OwnC 3 w5 base 28 (some ⟨b, 0, none⟩) K cap (Ml.flat (Ml.cut l i)) := by
        have hc : Ml.cut l i = l.take i ++ l.drop j := by unfold Ml.cut; rw [Hj.out]
        rw [hc]; exact ho5
      obtain ⟨w6, hclr, ho6, hg6⟩ := clear_own w5 base b K cap (l.length - K) (cap - K) _ ho5 (by omega) (by omega)
      have hKL : K ≤ l.length := by omega
      have hKi : (K : Int) ≤ (l.length : Int) := by omega
      have hKc : K ≤ cap := by omega
      have hKc2 : ¬ cap = K := by omega
      have HF := Lib.hid (show OwnC 3 w6 base 28 (some ⟨b, 0, none⟩) (l.length - 1) cap (Ml.flat (Ml.cut l i)) ∧ w.grownBy w6 (some b) by
        rw [← hKl]
        exact ⟨ho6, (show w.grownBy w.drew (some b) from ⟨rfl, rfl, rfl, Nat.le_refl _, fun _ _ _ => rfl⟩).trans (hg5.trans hg6)⟩)
      have HKl := Lib.hid hKl
      clear ho5 ho6 hg5 hg6 hK hcellD hown1 hKl
      go_wp2
      go_ret
      exact ⟨by rw [← HKl.out]; rfl, HF.out⟩
end Go.Proofs.Ythganbbiclmgpaa
