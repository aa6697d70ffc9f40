/- slices.Delete of one log. slices.Delete of one table. slices.Clone of logs, of tables. edit.own: a version in memory of its own. -/
import Derived.Test.YthfcjlndaajkfaaGreatG13
import Derived.Test.YthfcjlndaajkfaaGreatG07
import Derived.Deep.RegionHeldLaw
import Derived.Deep.CutBlock
import Derived.Deep.DeepCutAuto
namespace Go.Proofs.YthfcjlndaajkfaaGreat
open Go.RowKit
set_option maxRecDepth 100000 in
theorem clearlog (W : World) (base b n cap m c : Nat) (vs : List Value) (h : OwnC 4 W base 62 (some ⟨b, 0, none⟩) n cap vs) (hm : 0 < m) (hc : n + m ≤ cap) :
    ∃ W', (∀ ty, (Builtin.clear_ #[22] ty #[.slice (some ⟨b, n * 4, none⟩) m c]).run Tryz.prog W = .ok (.tuple #[]) W') ∧ OwnC 4 W' base 62 (some ⟨b, 0, none⟩) n cap vs ∧ W.grownBy W' (some b) := by
  have ht : Tryz.prog.underlying 22 = some (.slice 62) := Tryz.underlying22
  have hv : ∀ w, (zeroValue 62).run Tryz.prog w = .ok (.agg #[.int .i64 0, .int .i64 0, .slice none 0 0, .int .i64 0]) w := fun w => by kernel_rfl
  obtain ⟨news, hnews⟩ : ∃ news, (Builtin.zeroCells (Value.agg #[.int .i64 0, .int .i64 0, .slice none 0 0, .int .i64 0]).cells m).toList = news := ⟨_, rfl⟩
  have hlen : news.length = m * 4 := by rw [← hnews]; simp [Builtin.zeroCells, Value.cells]
  have hone : ∀ u ∈ news, u.oneCell' = true := by
    intro u hu
    rw [← hnews] at hu
    simp only [Builtin.zeroCells, Value.cells, Array.toList_map, List.mem_map] at hu
    obtain ⟨i, _, rfl⟩ := hu
    have : i % 4 < 4 := Nat.mod_lt _ (by omega)
    show ((#[Value.int .i64 0, .int .i64 0, .slice none 0 0, .int .i64 0] : Array Value)[i % 4]!).oneCell' = true
    match i % 4, this with
    | 0, _ => rfl
    | 1, _ => rfl
    | 2, _ => rfl
    | 3, _ => rfl
  have hcell : ∀ j, j < news.length → (W.cell? ⟨b, n * 4 + j, none⟩).isSome = true ∧ W.frozen? ⟨b, n * 4 + j, none⟩ = false := by
    intro j hj
    rcases h.2 with ⟨hv, _⟩ | ⟨g', cp, cur, hv, hb, hg, hnc, hcm, hs, ht⟩
    · cases hv
    · injection hv with e1 e2 e3
      injection e1 with e1
      injection e1 with e1
      subst e1 e3
      refine ⟨?_, Joins.unfrozen_of_block hg _⟩
      rw [Joins.cell_of_block hg, Array.getElem?_eq_getElem (by rw [hs]; omega)]
      rfl
  have hst := run_storeCells_cells (P := Tryz.prog) b (n * 4) news 0 W (fun j hj => by rw [Nat.add_zero]; exact (hcell j hj).1) (fun j hj => by rw [Nat.add_zero]; exact (hcell j hj).2) hone
  simp only [Nat.add_zero] at hst
  refine ⟨W.setCells b (n * 4) news, fun ty => ?_, OwnC.behinds news (n * 4) W h (Nat.le_refl _), grown_setCells b news (n * 4) W⟩
  obtain ⟨k, rfl⟩ : ∃ k, m = k + 1 := ⟨m - 1, by omega⟩
  simp [Builtin.clear_, run_underlying ht, hv, hnews, hst]
set_option maxRecDepth 100000 in
set_option maxHeartbeats 4000000 in
theorem dellog_any (base b cap i : Nat) (l : List Ed.Lg) (w : World) (h : OwnC 4 w base 62 (some ⟨b, 0, none⟩) l.length cap (Ed.lflat l)) (hi : i < l.length) (hl : l.length ≤ 1000000) :
    Calls Tryz.prog 101 #[.slice (some ⟨b, 0, none⟩) l.length cap, .int .i64 (i : Int), .int .i64 ((i : Int) + 1)] w fun e w' => e = .returned (.slice (some ⟨b, 0, none⟩) (l.length - 1) cap) ∧ OwnC 4 w' base 62 (some ⟨b, 0, none⟩) (l.length - 1) cap (Ed.lflat (Ed.cut l i)) ∧ w.grownBy w' (some b) := by
  have HO := Lib.hid h
  have hfit := h.fits
  obtain ⟨j, hj⟩ : ∃ j : Nat, j = i + 1 := ⟨_, rfl⟩
  rw [show (i : Int) + 1 = (j : Int) by omega]
  have hij : i ≤ j := by omega
  have hjl : j ≤ l.length := by omega
  have hiji : (i : Int) ≤ (j : Int) := by omega
  have hjli : (j : Int) ≤ (l.length : Int) := by omega
  have hlci : (l.length : Int) ≤ (cap : Int) := by omega
  have hic : i ≤ cap := by omega
  have hne : ((i : Int) == (j : Int)) = false := by rw [beq_eq_false_iff_ne]; omega
  have hne2 : ¬ (i : Int) = (j : Int) := by omega
  have Hj := Lib.hid hj
  clear h hj
  go_enter Tryz.func101, Tryz.ntmps101
  have hne3 : (some (⟨b, 0, none⟩ : Addr)) ≠ none := by simp
  have hown1 := (HO.out.takeN hne3 (k := i) (by omega)).drew
  rw [Ed.log_take] at hown1
  have hcellD : ∀ u v, (Ed.lflat (l.drop j))[u]? = some v → w.drew.cell? ⟨b, j * 4 + u, none⟩ = some v := fun u v hv => by
    obtain ⟨b', o', e, _, hc⟩ := HO.out.rd.2 (by omega)
    injection e with e
    injection e with e1 e2
    subst e1 e2
    rw [← Ed.log_drop, List.getElem?_drop] at hv
    have := hc _ v hv
    rwa [Nat.zero_add] at this
  have hlenD : (Ed.lflat (l.drop j)).length = (l.length - j) * 4 := by rw [Ed.log_length, List.length_drop]
  have honeD : ∀ u ∈ Ed.lflat (l.drop j), u.oneCell' = true := by
    intro u hu
    obtain ⟨x, _, hx⟩ := List.mem_flatMap.1 hu
    exact Ed.lcells_one x u hx
  by_cases hjc : j = cap
  · subst hjc
    have hll : l.length - j = 0 := by omega
    go_wp2_with fail
    go_region_law (refine step_fits manyL (by simp [Region.wanted]) 26 rfl (.tmp 22) (.tmp 25) rfl rfl hown1 ⟨b, 0, none⟩ 0 0 [] (by simp) rfl rfl (by simp) (by omega) ?_; intro w5 ho5 hg5)
    all_goals
      have hKl : i = l.length - 1 := by have := Hj.out; omega
      rw [Nat.add_zero, List.append_nil] at ho5
      have ho5 : OwnC 4 w5 base 62 (some ⟨b, 0, none⟩) i j (Ed.lflat (Ed.cut l i)) := by
        have hc : Ed.cut l i = l.take i := by unfold Ed.cut; rw [List.drop_of_length_le (by have := Hj.out; omega), List.append_nil]
        rw [hc]; exact ho5
      obtain ⟨w6, hclr, ho6, hg6⟩ := clearlog w5 base b i j (l.length - i) (j - i) _ ho5 (by omega) (by omega)
      have hKL : i ≤ l.length := by omega
      have hKi : (i : Int) ≤ (l.length : Int) := by omega
      have hKc2 : ¬ j = i := by have := Hj.out; omega
      have HF := Lib.hid (show OwnC 4 w6 base 62 (some ⟨b, 0, none⟩) (l.length - 1) j (Ed.lflat (Ed.cut l i)) ∧ w.grownBy w6 (some b) by
        rw [← hKl]
        exact ⟨ho6, (show w.grownBy w.drew (some b) from ⟨rfl, rfl, rfl, Nat.le_refl _, fun _ _ _ => rfl⟩).trans (hg5.trans hg6)⟩)
      have HKl := Lib.hid hKl
      clear ho5 ho6 hg5 hg6 hcellD hown1 hKl
      go_wp2
      go_ret
      exact ⟨by rw [← HKl.out]; rfl, HF.out⟩
  · have hjc2 : ¬ cap = j := fun e => hjc e.symm
    have hjc3 : ¬ cap - j = 0 := by omega
    go_wp2_with fail
    go_region_law (refine step_fits manyL (by simp [Region.wanted]) 26 rfl (.tmp 22) (.tmp 25) rfl rfl hown1 ⟨b, j * 4, none⟩ (l.length - j) (cap - j) (Ed.lflat (l.drop j)) honeD rfl hlenD (fun u v hv => by rw [Addr.add_lit]; exact hcellD u v hv) (by omega) ?_; intro w5 ho5 hg5)
    all_goals
      obtain ⟨K, hK⟩ : ∃ K : Nat, K = i + (l.length - j) := ⟨_, rfl⟩
      have hKl : K = l.length - 1 := by have := Hj.out; omega
      rw [← hK] at ho5 ⊢
      rw [← Ed.log_append] at ho5
      have ho5 : OwnC 4 w5 base 62 (some ⟨b, 0, none⟩) K cap (Ed.lflat (Ed.cut l i)) := by
        have hc : Ed.cut l i = l.take i ++ l.drop j := by unfold Ed.cut; rw [Hj.out]
        rw [hc]; exact ho5
      obtain ⟨w6, hclr, ho6, hg6⟩ := clearlog w5 base b K cap (l.length - K) (cap - K) _ ho5 (by omega) (by omega)
      have hKL : K ≤ l.length := by omega
      have hKi : (K : Int) ≤ (l.length : Int) := by omega
      have hKc : K ≤ cap := by omega
      have hKc2 : ¬ cap = K := by omega
      have HF := Lib.hid (show OwnC 4 w6 base 62 (some ⟨b, 0, none⟩) (l.length - 1) cap (Ed.lflat (Ed.cut l i)) ∧ w.grownBy w6 (some b) by
        rw [← hKl]
        exact ⟨ho6, (show w.grownBy w.drew (some b) from ⟨rfl, rfl, rfl, Nat.le_refl _, fun _ _ _ => rfl⟩).trans (hg5.trans hg6)⟩)
      have HKl := Lib.hid hKl
      clear ho5 ho6 hg5 hg6 hK hcellD hown1 hKl
      go_wp2
      go_ret
      exact ⟨by rw [← HKl.out]; rfl, HF.out⟩
end Go.Proofs.YthfcjlndaajkfaaGreat
namespace Go.Proofs.YthfcjlndaajkfaaGreat
open Go.RowKit
set_option maxRecDepth 100000 in
theorem cleartable (W : World) (base b n cap m c : Nat) (vs : List Value) (h : OwnC 9 W base 35 (some ⟨b, 0, none⟩) n cap vs) (hm : 0 < m) (hc : n + m ≤ cap) :
    ∃ W', (∀ ty, (Builtin.clear_ #[23] ty #[.slice (some ⟨b, n * 9, none⟩) m c]).run Tryz.prog W = .ok (.tuple #[]) W') ∧ OwnC 9 W' base 35 (some ⟨b, 0, none⟩) n cap vs ∧ W.grownBy W' (some b) := by
  have ht : Tryz.prog.underlying 23 = some (.slice 35) := Tryz.underlying23
  have hv : ∀ w, (zeroValue 35).run Tryz.prog w = .ok (.agg #[.int .i64 0, .int .i64 0, .slice none 0 0, .int .i64 0, .int .i64 0, .int .i64 0, .string ⟨#[]⟩, .string ⟨#[]⟩, .int .i64 0]) w := fun w => by kernel_rfl
  obtain ⟨news, hnews⟩ : ∃ news, (Builtin.zeroCells (Value.agg #[.int .i64 0, .int .i64 0, .slice none 0 0, .int .i64 0, .int .i64 0, .int .i64 0, .string ⟨#[]⟩, .string ⟨#[]⟩, .int .i64 0]).cells m).toList = news := ⟨_, rfl⟩
  have hlen : news.length = m * 9 := by rw [← hnews]; simp [Builtin.zeroCells, Value.cells]
  have hone : ∀ u ∈ news, u.oneCell' = true := by
    intro u hu
    rw [← hnews] at hu
    simp only [Builtin.zeroCells, Value.cells, Array.toList_map, List.mem_map] at hu
    obtain ⟨i, _, rfl⟩ := hu
    have : i % 9 < 9 := Nat.mod_lt _ (by omega)
    show ((#[Value.int .i64 0, .int .i64 0, .slice none 0 0, .int .i64 0, .int .i64 0, .int .i64 0, .string ⟨#[]⟩, .string ⟨#[]⟩, .int .i64 0] : Array Value)[i % 9]!).oneCell' = true
    match i % 9, this with
    | 0, _ => rfl
    | 1, _ => rfl
    | 2, _ => rfl
    | 3, _ => rfl
    | 4, _ => rfl
    | 5, _ => rfl
    | 6, _ => rfl
    | 7, _ => rfl
    | 8, _ => rfl
  have hcell : ∀ j, j < news.length → (W.cell? ⟨b, n * 9 + j, none⟩).isSome = true ∧ W.frozen? ⟨b, n * 9 + j, none⟩ = false := by
    intro j hj
    rcases h.2 with ⟨hv, _⟩ | ⟨g', cp, cur, hv, hb, hg, hnc, hcm, hs, ht⟩
    · cases hv
    · injection hv with e1 e2 e3
      injection e1 with e1
      injection e1 with e1
      subst e1 e3
      refine ⟨?_, Joins.unfrozen_of_block hg _⟩
      rw [Joins.cell_of_block hg, Array.getElem?_eq_getElem (by rw [hs]; omega)]
      rfl
  have hst := run_storeCells_cells (P := Tryz.prog) b (n * 9) news 0 W (fun j hj => by rw [Nat.add_zero]; exact (hcell j hj).1) (fun j hj => by rw [Nat.add_zero]; exact (hcell j hj).2) hone
  simp only [Nat.add_zero] at hst
  refine ⟨W.setCells b (n * 9) news, fun ty => ?_, OwnC.behinds news (n * 9) W h (Nat.le_refl _), grown_setCells b news (n * 9) W⟩
  obtain ⟨k, rfl⟩ : ∃ k, m = k + 1 := ⟨m - 1, by omega⟩
  simp [Builtin.clear_, run_underlying ht, hv, hnews, hst]
set_option maxRecDepth 100000 in
set_option maxHeartbeats 4000000 in
theorem deltable_any (base b cap i : Nat) (l : List Pk.Tb) (w : World) (h : OwnC 9 w base 35 (some ⟨b, 0, none⟩) l.length cap (Pk.flat l)) (hi : i < l.length) (hl : l.length ≤ 1000000) :
    Calls Tryz.prog 76 #[.slice (some ⟨b, 0, none⟩) l.length cap, .int .i64 (i : Int), .int .i64 ((i : Int) + 1)] w fun e w' => e = .returned (.slice (some ⟨b, 0, none⟩) (l.length - 1) cap) ∧ OwnC 9 w' base 35 (some ⟨b, 0, none⟩) (l.length - 1) cap (Pk.flat (Ed.cut l i)) ∧ w.grownBy w' (some b) := by
  have HO := Lib.hid h
  have hfit := h.fits
  obtain ⟨j, hj⟩ : ∃ j : Nat, j = i + 1 := ⟨_, rfl⟩
  rw [show (i : Int) + 1 = (j : Int) by omega]
  have hij : i ≤ j := by omega
  have hjl : j ≤ l.length := by omega
  have hiji : (i : Int) ≤ (j : Int) := by omega
  have hjli : (j : Int) ≤ (l.length : Int) := by omega
  have hlci : (l.length : Int) ≤ (cap : Int) := by omega
  have hic : i ≤ cap := by omega
  have hne : ((i : Int) == (j : Int)) = false := by rw [beq_eq_false_iff_ne]; omega
  have hne2 : ¬ (i : Int) = (j : Int) := by omega
  have Hj := Lib.hid hj
  clear h hj
  go_enter Tryz.func76, Tryz.ntmps76
  have hne3 : (some (⟨b, 0, none⟩ : Addr)) ≠ none := by simp
  have hown1 := (HO.out.takeN hne3 (k := i) (by omega)).drew
  rw [Ed.table_take] at hown1
  have hcellD : ∀ u v, (Pk.flat (l.drop j))[u]? = some v → w.drew.cell? ⟨b, j * 9 + u, none⟩ = some v := fun u v hv => by
    obtain ⟨b', o', e, _, hc⟩ := HO.out.rd.2 (by omega)
    injection e with e
    injection e with e1 e2
    subst e1 e2
    rw [← Ed.table_drop, List.getElem?_drop] at hv
    have := hc _ v hv
    rwa [Nat.zero_add] at this
  have hlenD : (Pk.flat (l.drop j)).length = (l.length - j) * 9 := by rw [Ed.table_length, List.length_drop]
  have honeD : ∀ u ∈ Pk.flat (l.drop j), u.oneCell' = true := by
    intro u hu
    obtain ⟨x, _, hx⟩ := List.mem_flatMap.1 hu
    exact Pk.cells_one x u hx
  by_cases hjc : j = cap
  · subst hjc
    have hll : l.length - j = 0 := by omega
    go_wp2_with fail
    go_region_law (refine step_fits manyAT (by simp [Region.wanted]) 26 rfl (.tmp 22) (.tmp 25) rfl rfl hown1 ⟨b, 0, none⟩ 0 0 [] (by simp) rfl rfl (by simp) (by omega) ?_; intro w5 ho5 hg5)
    all_goals
      have hKl : i = l.length - 1 := by have := Hj.out; omega
      rw [Nat.add_zero, List.append_nil] at ho5
      have ho5 : OwnC 9 w5 base 35 (some ⟨b, 0, none⟩) i j (Pk.flat (Ed.cut l i)) := by
        have hc : Ed.cut l i = l.take i := by unfold Ed.cut; rw [List.drop_of_length_le (by have := Hj.out; omega), List.append_nil]
        rw [hc]; exact ho5
      obtain ⟨w6, hclr, ho6, hg6⟩ := cleartable w5 base b i j (l.length - i) (j - i) _ ho5 (by omega) (by omega)
      have hKL : i ≤ l.length := by omega
      have hKi : (i : Int) ≤ (l.length : Int) := by omega
      have hKc2 : ¬ j = i := by have := Hj.out; omega
      have HF := Lib.hid (show OwnC 9 w6 base 35 (some ⟨b, 0, none⟩) (l.length - 1) j (Pk.flat (Ed.cut l i)) ∧ w.grownBy w6 (some b) by
        rw [← hKl]
        exact ⟨ho6, (show w.grownBy w.drew (some b) from ⟨rfl, rfl, rfl, Nat.le_refl _, fun _ _ _ => rfl⟩).trans (hg5.trans hg6)⟩)
      have HKl := Lib.hid hKl
      clear ho5 ho6 hg5 hg6 hcellD hown1 hKl
      go_wp2
      go_ret
      exact ⟨by rw [← HKl.out]; rfl, HF.out⟩
  · have hjc2 : ¬ cap = j := fun e => hjc e.symm
    have hjc3 : ¬ cap - j = 0 := by omega
    go_wp2_with fail
    go_region_law (refine step_fits manyAT (by simp [Region.wanted]) 26 rfl (.tmp 22) (.tmp 25) rfl rfl hown1 ⟨b, j * 9, none⟩ (l.length - j) (cap - j) (Pk.flat (l.drop j)) honeD rfl hlenD (fun u v hv => by rw [Addr.add_lit]; exact hcellD u v hv) (by omega) ?_; intro w5 ho5 hg5)
    all_goals
      obtain ⟨K, hK⟩ : ∃ K : Nat, K = i + (l.length - j) := ⟨_, rfl⟩
      have hKl : K = l.length - 1 := by have := Hj.out; omega
      rw [← hK] at ho5 ⊢
      rw [← Ed.table_append] at ho5
      have ho5 : OwnC 9 w5 base 35 (some ⟨b, 0, none⟩) K cap (Pk.flat (Ed.cut l i)) := by
        have hc : Ed.cut l i = l.take i ++ l.drop j := by unfold Ed.cut; rw [Hj.out]
        rw [hc]; exact ho5
      obtain ⟨w6, hclr, ho6, hg6⟩ := cleartable w5 base b K cap (l.length - K) (cap - K) _ ho5 (by omega) (by omega)
      have hKL : K ≤ l.length := by omega
      have hKi : (K : Int) ≤ (l.length : Int) := by omega
      have hKc : K ≤ cap := by omega
      have hKc2 : ¬ cap = K := by omega
      have HF := Lib.hid (show OwnC 9 w6 base 35 (some ⟨b, 0, none⟩) (l.length - 1) cap (Pk.flat (Ed.cut l i)) ∧ w.grownBy w6 (some b) by
        rw [← hKl]
        exact ⟨ho6, (show w.grownBy w.drew (some b) from ⟨rfl, rfl, rfl, Nat.le_refl _, fun _ _ _ => rfl⟩).trans (hg5.trans hg6)⟩)
      have HKl := Lib.hid hKl
      clear ho5 ho6 hg5 hg6 hK hcellD hown1 hKl
      go_wp2
      go_ret
      exact ⟨by rw [← HKl.out]; rfl, HF.out⟩
end Go.Proofs.YthfcjlndaajkfaaGreat
namespace Go.Proofs.YthfcjlndaajkfaaGreat
open Go.RowKit
set_option maxRecDepth 100000 in
theorem nillog_yes (c : Nat) (v : World) : (binOp .eql 22 (.slice none 0 c) (.slice none 0 0)).run Tryz.prog v = .ok (.bool true) v := by kernel_rfl
set_option maxRecDepth 100000 in
theorem nillog_no (a : Addr) (n c : Nat) (v : World) : (binOp .eql 22 (.slice (some a) n c) (.slice none 0 0)).run Tryz.prog v = .ok (.bool false) v := by kernel_rfl
set_option maxRecDepth 100000 in
set_option maxHeartbeats 4000000 in
theorem clonelog_any (A : Option Addr) (n c : Nat) (vs : List Value) (w : World) (hr : RdC 4 w A n vs) (h1 : ∀ u ∈ vs, u.oneCell' = true) (hn : n ≤ 100000) :
    Calls Tryz.prog 66 #[.slice A n c] w (GivesC 4 62 w n vs) := by
  cases A with
  | none =>
    have h0 : n = 0 := by
      rcases Nat.eq_zero_or_pos n with h | h
      · exact h
      · obtain ⟨b, o, e, _⟩ := hr.2 h
        cases e
    subst h0
    have hv : vs = [] := List.eq_nil_of_length_eq_zero (by rw [hr.1, Nat.zero_mul])
    subst hv
    have hq := nillog_yes c w
    go_enter Tryz.func66, Tryz.ntmps66
    go_wp2
    go_ret
    exact ⟨none, 0, rfl, OwnC.none_ _ _ _ _, Below.refl _ _⟩
  | some a =>
    have hal : Below w.heap.size w (w.alloc (.cells #[] 62)) := (Below.refl _ _).alloc (Nat.le_refl _) _
    have HO := Lib.hid (OwnC.empty 4 w 62 w.heap.size (Nat.le_refl _))
    have HR := Lib.hid (hr.below hal)
    have HB := Lib.hid hal
    clear hr hal
    have hq := nillog_no a n c w
    go_enter Tryz.func66, Tryz.ntmps66
    go_wp2_with (at_builtin; refine wpList_appN manyL rfl (.tmp 5) (.tmp 6) rfl rfl HO.out (some a) n c vs h1 rfl HR.out (by omega) HB.out.size ?_; intro B d v hg; have HG := Lib.hid hg; clear hg)
    go_ret
    have h := HG.out.own
    rw [Nat.zero_add, List.nil_append] at h
    exact ⟨B, d, rfl, h, HB.out.grown HG.out.grew HB.out.size (fun g hg => by rw [ownBlock_eq] at hg; injection hg with hg; rw [← hg]; exact Nat.le_refl _)⟩
set_option maxRecDepth 100000 in
theorem niltable_yes (c : Nat) (v : World) : (binOp .eql 23 (.slice none 0 c) (.slice none 0 0)).run Tryz.prog v = .ok (.bool true) v := by kernel_rfl
set_option maxRecDepth 100000 in
theorem niltable_no (a : Addr) (n c : Nat) (v : World) : (binOp .eql 23 (.slice (some a) n c) (.slice none 0 0)).run Tryz.prog v = .ok (.bool false) v := by kernel_rfl
set_option maxRecDepth 100000 in
set_option maxHeartbeats 4000000 in
theorem clonetable_any (A : Option Addr) (n c : Nat) (vs : List Value) (w : World) (hr : RdC 9 w A n vs) (h1 : ∀ u ∈ vs, u.oneCell' = true) (hn : n ≤ 100000) :
    Calls Tryz.prog 62 #[.slice A n c] w (GivesC 9 35 w n vs) := by
  cases A with
  | none =>
    have h0 : n = 0 := by
      rcases Nat.eq_zero_or_pos n with h | h
      · exact h
      · obtain ⟨b, o, e, _⟩ := hr.2 h
        cases e
    subst h0
    have hv : vs = [] := List.eq_nil_of_length_eq_zero (by rw [hr.1, Nat.zero_mul])
    subst hv
    have hq := niltable_yes c w
    go_enter Tryz.func62, Tryz.ntmps62
    go_wp2
    go_ret
    exact ⟨none, 0, rfl, OwnC.none_ _ _ _ _, Below.refl _ _⟩
  | some a =>
    have hal : Below w.heap.size w (w.alloc (.cells #[] 35)) := (Below.refl _ _).alloc (Nat.le_refl _) _
    have HO := Lib.hid (OwnC.empty 9 w 35 w.heap.size (Nat.le_refl _))
    have HR := Lib.hid (hr.below hal)
    have HB := Lib.hid hal
    clear hr hal
    have hq := niltable_no a n c w
    go_enter Tryz.func62, Tryz.ntmps62
    go_wp2_with (at_builtin; refine wpList_appN manyAT rfl (.tmp 5) (.tmp 6) rfl rfl HO.out (some a) n c vs h1 rfl HR.out (by omega) HB.out.size ?_; intro B d v hg; have HG := Lib.hid hg; clear hg)
    go_ret
    have h := HG.out.own
    rw [Nat.zero_add, List.nil_append] at h
    exact ⟨B, d, rfl, h, HB.out.grown HG.out.grew HB.out.size (fun g hg => by rw [ownBlock_eq] at hg; injection hg with hg; rw [← hg]; exact Nat.le_refl _)⟩
end Go.Proofs.YthfcjlndaajkfaaGreat
namespace Go.Proofs.YthfcjlndaajkfaaGreat
open Go.RowKit
set_option linter.unusedVariables false
set_option maxRecDepth 100000 in
theorem enter_cll (args : Array Value) (w : World) : (callFunc 66 args).run Tryz.prog w = .ok (.enter 66 args) w := run_enter Tryz.func66 (by kernel_rfl) (by kernel_rfl) args w
set_option maxRecDepth 100000 in
theorem enter_clt (args : Array Value) (w : World) : (callFunc 62 args).run Tryz.prog w = .ok (.enter 62 args) w := run_enter Tryz.func62 (by kernel_rfl) (by kernel_rfl) args w
set_option maxRecDepth 100000 in
theorem enter_ownp (args : Array Value) (w : World) : (callFunc 28 args).run Tryz.prog w = .ok (.enter 28 args) w := run_enter Tryz.func28 (by kernel_rfl) (by kernel_rfl) args w
/-- A version, and what lies behind it, in memory of the call's own. -/
def GivesV (w : World) (nx sq : Int) (n m : Nat) (ls : List Ed.Lo) (ts : List Ed.Ta) (e : Ending) (w' : World) : Prop :=
  ∃ A c L B d M, e = .returned (.agg #[.int .i64 nx, .int .i64 sq, .slice A n c, .slice B m d]) ∧ OwV w' w.heap.size A n c L B m d M ∧ L.map Ed.loOf = ls ∧ M.map Ed.taOf = ts ∧ Below w.heap.size w w'
/-- In the midst of it: both rows lie in memory of the call's own; of so many logs, and tables, the pairs do, too. -/
structure Mid (w wx : World) (nx sq : Int) (A : Option Addr) (n c : Nat) (B : Option Addr) (m d : Nat) (L F : List (Ed.Lg × List (Int × Int))) (M G : List (Pk.Tb × List (Int × Int))) (k j : Nat) : Prop where
  box : Holds wx w.heap.size [.int .i64 nx, .int .i64 sq, .slice A n c, .slice B m d]
  res : Holds wx (w.heap.size + 1) [.int .i64 0, .int .i64 0, .slice none 0 0, .slice none 0 0]
  lrow : OwnC 4 wx (w.heap.size + 2) 62 A n c (Ed.lflat ((F ++ L.drop k).map (·.1)))
  trow : OwnC 9 wx (w.heap.size + 2) 35 B m d (Pk.flat ((G ++ M.drop j).map (·.1)))
  ab : Off A B
  fl : F.length = k
  gl : G.length = j
  lf : F.map Ed.loOf = (L.take k).map Ed.loOf
  tf : G.map Ed.taOf = (M.take j).map Ed.taOf
  lfit : ∀ x ∈ F, x.1.fits
  tfit : ∀ x ∈ G, x.1.fits
  lp : ∀ x ∈ F, OwP wx (w.heap.size + 2) x.1.P x.1.pn x.1.pc x.2 ∧ Off x.1.P A ∧ Off x.1.P B
  tp : ∀ x ∈ G, OwP wx (w.heap.size + 2) x.1.P x.1.pn x.1.pc x.2 ∧ Off x.1.P A ∧ Off x.1.P B
  bel : Below w.heap.size w wx
theorem Mid.below {w wx wy : World} {nx sq : Int} {A B : Option Addr} {n c m d k j : Nat} {L F : List (Ed.Lg × List (Int × Int))} {M G : List (Pk.Tb × List (Int × Int))} (h : Mid w wx nx sq A n c B m d L F M G k j) (hb : Below wx.heap.size wx wy) : Mid w wy nx sq A n c B m d L F M G k j :=
  ⟨h.box.below hb, h.res.below hb, h.lrow.below hb, h.trow.below hb, h.ab, h.fl, h.gl, h.lf, h.tf, h.lfit, h.tfit, fun x hx => ⟨(h.lp x hx).1.below hb, (h.lp x hx).2⟩, fun x hx => ⟨(h.tp x hx).1.below hb, (h.tp x hx).2⟩, below_next h.bel hb⟩
theorem Mid.log {w wx : World} {nx sq : Int} {A B : Option Addr} {n c m d k j g : Nat} {L F : List (Ed.Lg × List (Int × Int))} {M G : List (Pk.Tb × List (Int × Int))} (h : Mid w wx nx sq A n c B m d L F M G k j) {x : Ed.Lg × List (Int × Int)} {P : Option Addr} {pc : Nat} (hg : A = some ⟨g, 0, none⟩) (hx : L[k]? = some x) (hxf : x.1.fits)
    (hP : OwP wx (w.heap.size + 2) P x.1.pn pc x.2) (hPA : Off P A) (hPB : Off P B) :
    Mid w (((wx.setCell ⟨g, k * 4, none⟩ (.int .i64 x.1.id)).setCell ⟨g, k * 4 + 1, none⟩ (.int .i64 x.1.ep)).setCell ⟨g, k * 4 + 2, none⟩ (.slice P x.1.pn pc)) nx sq A n c B m d L (F ++ [({ x.1 with P := P, pc := pc }, x.2)]) M G (k + 1) j := by
  subst hg
  have hk : k < L.length := (List.getElem?_eq_some_iff.1 hx).1
  have hkx : ((F ++ L.drop k).map (·.1))[k]? = some x.1 := by
    rw [List.map_append, List.getElem?_append_right (by rw [List.length_map, h.fl]; exact Nat.le_refl _), List.length_map, h.fl, Nat.sub_self, List.getElem?_map, List.getElem?_drop, Nat.add_zero, hx]
    rfl
  have c0 : (Ed.lflat ((F ++ L.drop k).map (·.1)))[k * 4]? = some (.int .i64 x.1.id) := Pk.flatMap_at (f := Ed.Lg.cells) (s := 4) (fun _ => rfl) (j := 0) hkx rfl
  have c1 : (Ed.lflat ((F ++ L.drop k).map (·.1)))[k * 4 + 1]? = some (.int .i64 x.1.ep) := Pk.flatMap_at (f := Ed.Lg.cells) (s := 4) (fun _ => rfl) (j := 1) hkx rfl
  obtain ⟨r1, g1⟩ := h.lrow.set1 (k * 4) (.int .i64 x.1.id)
  rw [set_same c0] at r1
  obtain ⟨r2, g2⟩ := r1.set1 (k * 4 + 1) (.int .i64 x.1.ep)
  rw [set_same c1] at r2
  obtain ⟨r3, g3⟩ := r2.set1 (k * 4 + 2) (.slice P x.1.pn pc)
  have hG := g1.trans (g2.trans g3)
  have hrow : (Ed.lflat ((F ++ L.drop k).map (·.1))).set (k * 4 + 2) (.slice P x.1.pn pc) = Ed.lflat ((F ++ [(({ x.1 with P := P, pc := pc } : Ed.Lg), x.2)] ++ L.drop (k + 1)).map (·.1)) := by
    unfold Ed.lflat
    rw [Ed.flat_set (f := Ed.Lg.cells) (s := 4) (fun _ => rfl) (by omega) hkx (x' := { x.1 with P := P, pc := pc }) rfl]
    congr 1
    rw [List.drop_eq_getElem_cons hk, List.map_append, List.map_cons, List.set_append_right _ _ (by rw [List.length_map, h.fl]; exact Nat.le_refl _), List.length_map, h.fl, Nat.sub_self, List.set_cons_zero, List.map_append, List.map_append]
    simp
  rw [hrow] at r3
  have hgw : ∀ b, wx.heap.size ≤ b → False ∨ True := fun _ _ => .inr trivial
  have hgl := h.lrow.lt g rfl
  have hne0 : w.heap.size ≠ g := by omega
  have hne1 : w.heap.size + 1 ≠ g := by omega
  have hoff : ∀ (Q : Option Addr), Off Q (some ⟨g, 0, none⟩) → ∀ g', some g = some g' → blkOf Q ≠ some g' := fun Q hQ g' e1 e2 => by
    injection e1 with e1
    subst e1
    exact hQ g e2 rfl
  have hF' : ∀ y ∈ F ++ [(({ x.1 with P := P, pc := pc } : Ed.Lg), x.2)], (OwP (((wx.setCell ⟨g, k * 4, none⟩ (.int .i64 x.1.id)).setCell ⟨g, k * 4 + 1, none⟩ (.int .i64 x.1.ep)).setCell ⟨g, k * 4 + 2, none⟩ (.slice P x.1.pn pc)) (w.heap.size + 2) y.1.P y.1.pn y.1.pc y.2 ∧ Off y.1.P (some (⟨g, 0, none⟩ : Addr)) ∧ Off y.1.P B) := by
    intro y hy
    rcases List.mem_append.1 hy with hy | hy
    · obtain ⟨p1, p2, p3⟩ := h.lp y hy
      exact ⟨p1.grown hG (hoff _ p2), p2, p3⟩
    · rw [List.mem_singleton] at hy
      subst hy
      exact ⟨hP.grown hG (hoff _ hPA), hPA, hPB⟩
  have hff : (F ++ [(({ x.1 with P := P, pc := pc } : Ed.Lg), x.2)]).map Ed.loOf = (L.take (k + 1)).map Ed.loOf := by
    rw [List.map_append, h.lf, List.take_add_one, hx, List.map_append]
    rfl
  exact ⟨((h.box.other hne0).other hne0).other hne0, ((h.res.other hne1).other hne1).other hne1, r3, h.trow.grown hG (.inr fun g2 e => by rw [ownBlock_eq]; exact hoff _ h.ab.symm g2 e), h.ab, by rw [List.length_append, h.fl]; rfl, h.gl, hff, h.tf, fun y hy => by
    rcases List.mem_append.1 hy with hy | hy
    · exact h.lfit y hy
    · rw [List.mem_singleton] at hy; subst hy; exact hxf, h.tfit, hF', fun y hy => by
    obtain ⟨p1, p2, p3⟩ := h.tp y hy
    exact ⟨p1.grown hG (hoff _ p2), p2, p3⟩, h.bel.grown hG h.bel.size (fun g' e => by injection e with e; have := hgl.1; omega)⟩
theorem Mid.table {w wx : World} {nx sq : Int} {A B : Option Addr} {n c m d k j g : Nat} {L F : List (Ed.Lg × List (Int × Int))} {M G : List (Pk.Tb × List (Int × Int))} (h : Mid w wx nx sq A n c B m d L F M G k j) {x : Pk.Tb × List (Int × Int)} {P : Option Addr} {pc : Nat} (hg : B = some ⟨g, 0, none⟩) (hx : M[j]? = some x) (hxf : x.1.fits)
    (hP : OwP wx (w.heap.size + 2) P x.1.pn pc x.2) (hPA : Off P A) (hPB : Off P B) :
    Mid w (((wx.setCell ⟨g, j * 9, none⟩ (.int .i64 x.1.id)).setCell ⟨g, j * 9 + 1, none⟩ (.int .i64 x.1.ep)).setCell ⟨g, j * 9 + 2, none⟩ (.slice P x.1.pn pc)) nx sq A n c B m d L F M (G ++ [({ x.1 with P := P, pc := pc }, x.2)]) k (j + 1) := by
  subst hg
  have hk : j < M.length := (List.getElem?_eq_some_iff.1 hx).1
  have hkx : ((G ++ M.drop j).map (·.1))[j]? = some x.1 := by
    rw [List.map_append, List.getElem?_append_right (by rw [List.length_map, h.gl]; exact Nat.le_refl _), List.length_map, h.gl, Nat.sub_self, List.getElem?_map, List.getElem?_drop, Nat.add_zero, hx]
    rfl
  have c0 : (Pk.flat ((G ++ M.drop j).map (·.1)))[j * 9]? = some (.int .i64 x.1.id) := Pk.flatMap_at (f := Pk.Tb.cells) (s := 9) (fun _ => rfl) (j := 0) hkx rfl
  have c1 : (Pk.flat ((G ++ M.drop j).map (·.1)))[j * 9 + 1]? = some (.int .i64 x.1.ep) := Pk.flatMap_at (f := Pk.Tb.cells) (s := 9) (fun _ => rfl) (j := 1) hkx rfl
  obtain ⟨r1, g1⟩ := h.trow.set1 (j * 9) (.int .i64 x.1.id)
  rw [set_same c0] at r1
  obtain ⟨r2, g2⟩ := r1.set1 (j * 9 + 1) (.int .i64 x.1.ep)
  rw [set_same c1] at r2
  obtain ⟨r3, g3⟩ := r2.set1 (j * 9 + 2) (.slice P x.1.pn pc)
  have hG := g1.trans (g2.trans g3)
  have hrow : (Pk.flat ((G ++ M.drop j).map (·.1))).set (j * 9 + 2) (.slice P x.1.pn pc) = Pk.flat ((G ++ [(({ x.1 with P := P, pc := pc } : Pk.Tb), x.2)] ++ M.drop (j + 1)).map (·.1)) := by
    unfold Pk.flat
    rw [Ed.flat_set (f := Pk.Tb.cells) (s := 9) (fun _ => rfl) (by omega) hkx (x' := { x.1 with P := P, pc := pc }) rfl]
    congr 1
    rw [List.drop_eq_getElem_cons hk, List.map_append, List.map_cons, List.set_append_right _ _ (by rw [List.length_map, h.gl]; exact Nat.le_refl _), List.length_map, h.gl, Nat.sub_self, List.set_cons_zero, List.map_append, List.map_append]
    simp
  rw [hrow] at r3
  have hgw : ∀ b, wx.heap.size ≤ b → False ∨ True := fun _ _ => .inr trivial
  have hgl := h.trow.lt g rfl
  have hne0 : w.heap.size ≠ g := by omega
  have hne1 : w.heap.size + 1 ≠ g := by omega
  have hoff : ∀ (Q : Option Addr), Off Q (some ⟨g, 0, none⟩) → ∀ g', some g = some g' → blkOf Q ≠ some g' := fun Q hQ g' e1 e2 => by
    injection e1 with e1
    subst e1
    exact hQ g e2 rfl
  have hF' : ∀ y ∈ G ++ [(({ x.1 with P := P, pc := pc } : Pk.Tb), x.2)], (OwP (((wx.setCell ⟨g, j * 9, none⟩ (.int .i64 x.1.id)).setCell ⟨g, j * 9 + 1, none⟩ (.int .i64 x.1.ep)).setCell ⟨g, j * 9 + 2, none⟩ (.slice P x.1.pn pc)) (w.heap.size + 2) y.1.P y.1.pn y.1.pc y.2 ∧ Off y.1.P A ∧ Off y.1.P (some (⟨g, 0, none⟩ : Addr))) := by
    intro y hy
    rcases List.mem_append.1 hy with hy | hy
    · obtain ⟨p1, p2, p3⟩ := h.tp y hy
      exact ⟨p1.grown hG (hoff _ p3), p2, p3⟩
    · rw [List.mem_singleton] at hy
      subst hy
      exact ⟨hP.grown hG (hoff _ hPB), hPA, hPB⟩
  have hff : (G ++ [(({ x.1 with P := P, pc := pc } : Pk.Tb), x.2)]).map Ed.taOf = (M.take (j + 1)).map Ed.taOf := by
    rw [List.map_append, h.tf, List.take_add_one, hx, List.map_append]
    rfl
  exact ⟨((h.box.other hne0).other hne0).other hne0, ((h.res.other hne1).other hne1).other hne1, h.lrow.grown hG (.inr fun g2 e => by rw [ownBlock_eq]; exact hoff _ h.ab g2 e), r3, h.ab, h.fl, by rw [List.length_append, h.gl]; rfl, h.lf, hff, h.lfit, fun y hy => by
    rcases List.mem_append.1 hy with hy | hy
    · exact h.tfit y hy
    · rw [List.mem_singleton] at hy; subst hy; exact hxf, fun y hy => by
    obtain ⟨p1, p2, p3⟩ := h.lp y hy
    exact ⟨p1.grown hG (hoff _ p3), p2, p3⟩, hF', h.bel.grown hG h.bel.size (fun g' e => by injection e with e; have := hgl.1; omega)⟩
end Go.Proofs.YthfcjlndaajkfaaGreat
