/- slices.Delete of one table. slices.Clone of logs, of tables. edit.own: a version in memory of its own. edit.own, walked. edit.do: words; calls of two and three arguments at a step of a drawn region. edit.do: the next number; up to which all stands in tables. One log, one table more. -/
import Derived.Test.YthfcjlndaajkfaaGreatG06
import Derived.Test.YthfcjlndaajkfaaGreatG05
import Derived.Deep.RegionHeldLaw
import Derived.Deep.CutBlock
import Derived.Deep.DeepCutAuto
import Derived.Test.YthfcjlndaajkfaaGreatG07
import Derived.Test.YthfcjlndaajkfaaGreatG08
namespace Go.Proofs.YthfcjlndaajkfaaGreat
open Go.RowKit
set_option maxRecDepth 100000 in
theorem cleartable (W : World) (base b n cap m c : Nat) (vs : List Value) (h : OwnC 9 W base 35 (some ⟨b, 0, none⟩) n cap vs) (hm : 0 < m) (hc : n + m ≤ cap) :
    ∃ W', (∀ ty, (Builtin.clear_ #[23] ty #[.slice (some ⟨b, n * 9, none⟩) m c]).run Tryz.prog W = .ok (.tuple #[]) W') ∧ OwnC 9 W' base 35 (some ⟨b, 0, none⟩) n cap vs ∧ W.grownBy W' (some b) := by
  have ht : Tryz.prog.underlying 23 = some (.slice 35) := Tryz.underlying23
  have hv : ∀ w, (zeroValue 35).run Tryz.prog w = .ok (.agg #[.int .i64 0, .int .i64 0, .slice none 0 0, .int .i64 0, .int .i64 0, .int .i64 0, .string ⟨#[]⟩, .string ⟨#[]⟩, .int .i64 0]) w := fun w => by kernel_rfl
  obtain ⟨news, hnews⟩ : ∃ news, (Builtin.zeroCells (Value.agg #[.int .i64 0, .int .i64 0, .slice none 0 0, .int .i64 0, .int .i64 0, .int .i64 0, .string ⟨#[]⟩, .string ⟨#[]⟩, .int .i64 0]).cells m).toList = news := ⟨_, rfl⟩
  have hlen : news.length = m * 9 := by rw [← hnews]; simp [Builtin.zeroCells, Value.cells]
  have hone : ∀ u ∈ news, u.oneCell' = true := by
    intro u hu
    rw [← hnews] at hu
    simp only [Builtin.zeroCells, Value.cells, Array.toList_map, List.mem_map] at hu
    obtain ⟨i, _, rfl⟩ := hu
    have : i % 9 < 9 := Nat.mod_lt _ (by omega)
    show ((#[Value.int .i64 0, .int .i64 0, .slice none 0 0, .int .i64 0, .int .i64 0, .int .i64 0, .string ⟨#[]⟩, .string ⟨#[]⟩, .int .i64 0] : Array Value)[i % 9]!).oneCell' = true
    match i % 9, this with
    | 0, _ => rfl
    | 1, _ => rfl
    | 2, _ => rfl
    | 3, _ => rfl
    | 4, _ => rfl
    | 5, _ => rfl
    | 6, _ => rfl
    | 7, _ => rfl
    | 8, _ => rfl
  have hcell : ∀ j, j < news.length → (W.cell? ⟨b, n * 9 + j, none⟩).isSome = true ∧ W.frozen? ⟨b, n * 9 + j, none⟩ = false := by
    intro j hj
    rcases h.2 with ⟨hv, _⟩ | ⟨g', cp, cur, hv, hb, hg, hnc, hcm, hs, ht⟩
    · cases hv
    · injection hv with e1 e2 e3
      injection e1 with e1
      injection e1 with e1
      subst e1 e3
      refine ⟨?_, Joins.unfrozen_of_block hg _⟩
      rw [Joins.cell_of_block hg, Array.getElem?_eq_getElem (by rw [hs]; omega)]
      rfl
  have hst := run_storeCells_cells (P := Tryz.prog) b (n * 9) news 0 W (fun j hj => by rw [Nat.add_zero]; exact (hcell j hj).1) (fun j hj => by rw [Nat.add_zero]; exact (hcell j hj).2) hone
  simp only [Nat.add_zero] at hst
  refine ⟨W.setCells b (n * 9) news, fun ty => ?_, OwnC.behinds news (n * 9) W h (Nat.le_refl _), grown_setCells b news (n * 9) W⟩
  obtain ⟨k, rfl⟩ : ∃ k, m = k + 1 := ⟨m - 1, by omega⟩
  simp [Builtin.clear_, run_underlying ht, hv, hnews, hst]
set_option maxRecDepth 100000 in
set_option maxHeartbeats 4000000 in
theorem deltable_any (base b cap i : Nat) (l : List Pk.Tb) (w : World) (h : OwnC 9 w base 35 (some ⟨b, 0, none⟩) l.length cap (Pk.flat l)) (hi : i < l.length) (hl : l.length ≤ 1000000) :
    Calls Tryz.prog 76 #[.slice (some ⟨b, 0, none⟩) l.length cap, .int .i64 (i : Int), .int .i64 ((i : Int) + 1)] w fun e w' => e = .returned (.slice (some ⟨b, 0, none⟩) (l.length - 1) cap) ∧ OwnC 9 w' base 35 (some ⟨b, 0, none⟩) (l.length - 1) cap (Pk.flat (Ed.cut l i)) ∧ w.grownBy w' (some b) := by
  have HO := Lib.hid h
  have hfit := h.fits
  obtain ⟨j, hj⟩ : ∃ j : Nat, j = i + 1 := ⟨_, rfl⟩
  rw [show (i : Int) + 1 = (j : Int) by omega]
  have hij : i ≤ j := by omega
  have hjl : j ≤ l.length := by omega
  have hiji : (i : Int) ≤ (j : Int) := by omega
  have hjli : (j : Int) ≤ (l.length : Int) := by omega
  have hlci : (l.length : Int) ≤ (cap : Int) := by omega
  have hic : i ≤ cap := by omega
  have hne : ((i : Int) == (j : Int)) = false := by rw [beq_eq_false_iff_ne]; omega
  have hne2 : ¬ (i : Int) = (j : Int) := by omega
  have Hj := Lib.hid hj
  clear h hj
  go_enter Tryz.func76, Tryz.ntmps76
  have hne3 : (some (⟨b, 0, none⟩ : Addr)) ≠ none := by simp
  have hown1 := (HO.out.takeN hne3 (k := i) (by omega)).drew
  rw [Ed.table_take] at hown1
  have hcellD : ∀ u v, (Pk.flat (l.drop j))[u]? = some v → w.drew.cell? ⟨b, j * 9 + u, none⟩ = some v := fun u v hv => by
    obtain ⟨b', o', e, _, hc⟩ := HO.out.rd.2 (by omega)
    injection e with e
    injection e with e1 e2
    subst e1 e2
    rw [← Ed.table_drop, List.getElem?_drop] at hv
    have := hc _ v hv
    rwa [Nat.zero_add] at this
  have hlenD : (Pk.flat (l.drop j)).length = (l.length - j) * 9 := by rw [Ed.table_length, List.length_drop]
  have honeD : ∀ u ∈ Pk.flat (l.drop j), u.oneCell' = true := by
    intro u hu
    obtain ⟨x, _, hx⟩ := List.mem_flatMap.1 hu
    exact Pk.cells_one x u hx
  by_cases hjc : j = cap
  · subst hjc
    have hll : l.length - j = 0 := by omega
    go_wp2_with fail
    go_region_law (refine step_fits manyAT (by simp [Region.wanted]) 26 rfl (.tmp 22) (.tmp 25) rfl rfl hown1 ⟨b, 0, none⟩ 0 0 [] (by simp) rfl rfl (by simp) (by omega) ?_; intro w5 ho5 hg5)
    all_goals
      have hKl : i = l.length - 1 := by have := Hj.out; omega
      rw [Nat.add_zero, List.append_nil] at ho5
      have ho5 : OwnC 9 w5 base 35 (some ⟨b, 0, none⟩) i j (Pk.flat (Ed.cut l i)) := by
        have hc : Ed.cut l i = l.take i := by unfold Ed.cut; rw [List.drop_of_length_le (by have := Hj.out; omega), List.append_nil]
        rw [hc]; exact ho5
      obtain ⟨w6, hclr, ho6, hg6⟩ := cleartable w5 base b i j (l.length - i) (j - i) _ ho5 (by omega) (by omega)
      have hKL : i ≤ l.length := by omega
      have hKi : (i : Int) ≤ (l.length : Int) := by omega
      have hKc2 : ¬ j = i := by have := Hj.out; omega
      have HF := Lib.hid (show OwnC 9 w6 base 35 (some ⟨b, 0, none⟩) (l.length - 1) j (Pk.flat (Ed.cut l i)) ∧ w.grownBy w6 (some b) by
        rw [← hKl]
        exact ⟨ho6, (show w.grownBy w.drew (some b) from ⟨rfl, rfl, rfl, Nat.le_refl _, fun _ _ _ => rfl⟩).trans (hg5.trans hg6)⟩)
      have HKl := Lib.hid hKl
      clear ho5 ho6 hg5 hg6 hcellD hown1 hKl
      go_wp2
      go_ret
      exact ⟨by rw [← HKl.out]; rfl, HF.out⟩
  · have hjc2 : ¬ cap = j := fun e => hjc e.symm
    have hjc3 : ¬ cap - j = 0 := by omega
    go_wp2_with fail
    go_region_law (refine step_fits manyAT (by simp [Region.wanted]) 26 rfl (.tmp 22) (.tmp 25) rfl rfl hown1 ⟨b, j * 9, none⟩ (l.length - j) (cap - j) (Pk.flat (l.drop j)) honeD rfl hlenD (fun u v hv => by rw [Addr.add_lit]; exact hcellD u v hv) (by omega) ?_; intro w5 ho5 hg5)
    all_goals
      obtain ⟨K, hK⟩ : ∃ K : Nat, K = i + (l.length - j) := ⟨_, rfl⟩
      have hKl : K = l.length - 1 := by have := Hj.out; omega
      rw [← hK] at ho5 ⊢
      rw [← Ed.table_append] at ho5
      have ho5 : OwnC 9 w5 base 35 (some ⟨b, 0, none⟩) K cap (Pk.flat (Ed.cut l i)) := by
        have hc : Ed.cut l i = l.take i ++ l.drop j := by unfold Ed.cut; rw [Hj.out]
        rw [hc]; exact ho5
      obtain ⟨w6, hclr, ho6, hg6⟩ := cleartable w5 base b K cap (l.length - K) (cap - K) _ ho5 (by omega) (by omega)
      have hKL : K ≤ l.length := by omega
      have hKi : (K : Int) ≤ (l.length : Int) := by omega
      have hKc : K ≤ cap := by omega
      have hKc2 : ¬ cap = K := by omega
      have HF := Lib.hid (show OwnC 9 w6 base 35 (some ⟨b, 0, none⟩) (l.length - 1) cap (Pk.flat (Ed.cut l i)) ∧ w.grownBy w6 (some b) by
        rw [← hKl]
        exact ⟨ho6, (show w.grownBy w.drew (some b) from ⟨rfl, rfl, rfl, Nat.le_refl _, fun _ _ _ => rfl⟩).trans (hg5.trans hg6)⟩)
      have HKl := Lib.hid hKl
      clear ho5 ho6 hg5 hg6 hK hcellD hown1 hKl
      go_wp2
      go_ret
      exact ⟨by rw [← HKl.out]; rfl, HF.out⟩
end Go.Proofs.YthfcjlndaajkfaaGreat
namespace Go.Proofs.YthfcjlndaajkfaaGreat
open Go.RowKit
set_option maxRecDepth 100000 in
theorem nillog_yes (c : Nat) (v : World) : (binOp .eql 22 (.slice none 0 c) (.slice none 0 0)).run Tryz.prog v = .ok (.bool true) v := by kernel_rfl
set_option maxRecDepth 100000 in
theorem nillog_no (a : Addr) (n c : Nat) (v : World) : (binOp .eql 22 (.slice (some a) n c) (.slice none 0 0)).run Tryz.prog v = .ok (.bool false) v := by kernel_rfl
set_option maxRecDepth 100000 in
set_option maxHeartbeats 4000000 in
theorem clonelog_any (A : Option Addr) (n c : Nat) (vs : List Value) (w : World) (hr : RdC 4 w A n vs) (h1 : ∀ u ∈ vs, u.oneCell' = true) (hn : n ≤ 100000) :
    Calls Tryz.prog 66 #[.slice A n c] w (GivesC 4 62 w n vs) := by
  cases A with
  | none =>
    have h0 : n = 0 := by
      rcases Nat.eq_zero_or_pos n with h | h
      · exact h
      · obtain ⟨b, o, e, _⟩ := hr.2 h
        cases e
    subst h0
    have hv : vs = [] := List.eq_nil_of_length_eq_zero (by rw [hr.1, Nat.zero_mul])
    subst hv
    have hq := nillog_yes c w
    go_enter Tryz.func66, Tryz.ntmps66
    go_wp2
    go_ret
    exact ⟨none, 0, rfl, OwnC.none_ _ _ _ _, Below.refl _ _⟩
  | some a =>
    have hal : Below w.heap.size w (w.alloc (.cells #[] 62)) := (Below.refl _ _).alloc (Nat.le_refl _) _
    have HO := Lib.hid (OwnC.empty 4 w 62 w.heap.size (Nat.le_refl _))
    have HR := Lib.hid (hr.below hal)
    have HB := Lib.hid hal
    clear hr hal
    have hq := nillog_no a n c w
    go_enter Tryz.func66, Tryz.ntmps66
    go_wp2_with (at_builtin; refine wpList_appN manyL rfl (.tmp 5) (.tmp 6) rfl rfl HO.out (some a) n c vs h1 rfl HR.out (by omega) HB.out.size ?_; intro B d v hg; have HG := Lib.hid hg; clear hg)
    go_ret
    have h := HG.out.own
    rw [Nat.zero_add, List.nil_append] at h
    exact ⟨B, d, rfl, h, HB.out.grown HG.out.grew HB.out.size (fun g hg => by rw [ownBlock_eq] at hg; injection hg with hg; rw [← hg]; exact Nat.le_refl _)⟩
set_option maxRecDepth 100000 in
theorem niltable_yes (c : Nat) (v : World) : (binOp .eql 23 (.slice none 0 c) (.slice none 0 0)).run Tryz.prog v = .ok (.bool true) v := by kernel_rfl
set_option maxRecDepth 100000 in
theorem niltable_no (a : Addr) (n c : Nat) (v : World) : (binOp .eql 23 (.slice (some a) n c) (.slice none 0 0)).run Tryz.prog v = .ok (.bool false) v := by kernel_rfl
set_option maxRecDepth 100000 in
set_option maxHeartbeats 4000000 in
theorem clonetable_any (A : Option Addr) (n c : Nat) (vs : List Value) (w : World) (hr : RdC 9 w A n vs) (h1 : ∀ u ∈ vs, u.oneCell' = true) (hn : n ≤ 100000) :
    Calls Tryz.prog 62 #[.slice A n c] w (GivesC 9 35 w n vs) := by
  cases A with
  | none =>
    have h0 : n = 0 := by
      rcases Nat.eq_zero_or_pos n with h | h
      · exact h
      · obtain ⟨b, o, e, _⟩ := hr.2 h
        cases e
    subst h0
    have hv : vs = [] := List.eq_nil_of_length_eq_zero (by rw [hr.1, Nat.zero_mul])
    subst hv
    have hq := niltable_yes c w
    go_enter Tryz.func62, Tryz.ntmps62
    go_wp2
    go_ret
    exact ⟨none, 0, rfl, OwnC.none_ _ _ _ _, Below.refl _ _⟩
  | some a =>
    have hal : Below w.heap.size w (w.alloc (.cells #[] 35)) := (Below.refl _ _).alloc (Nat.le_refl _) _
    have HO := Lib.hid (OwnC.empty 9 w 35 w.heap.size (Nat.le_refl _))
    have HR := Lib.hid (hr.below hal)
    have HB := Lib.hid hal
    clear hr hal
    have hq := niltable_no a n c w
    go_enter Tryz.func62, Tryz.ntmps62
    go_wp2_with (at_builtin; refine wpList_appN manyAT rfl (.tmp 5) (.tmp 6) rfl rfl HO.out (some a) n c vs h1 rfl HR.out (by omega) HB.out.size ?_; intro B d v hg; have HG := Lib.hid hg; clear hg)
    go_ret
    have h := HG.out.own
    rw [Nat.zero_add, List.nil_append] at h
    exact ⟨B, d, rfl, h, HB.out.grown HG.out.grew HB.out.size (fun g hg => by rw [ownBlock_eq] at hg; injection hg with hg; rw [← hg]; exact Nat.le_refl _)⟩
end Go.Proofs.YthfcjlndaajkfaaGreat
namespace Go.Proofs.YthfcjlndaajkfaaGreat
open Go.RowKit
set_option linter.unusedVariables false
set_option maxRecDepth 100000 in
theorem enter_cll (args : Array Value) (w : World) : (callFunc 66 args).run Tryz.prog w = .ok (.enter 66 args) w := run_enter Tryz.func66 (by kernel_rfl) (by kernel_rfl) args w
set_option maxRecDepth 100000 in
theorem enter_clt (args : Array Value) (w : World) : (callFunc 62 args).run Tryz.prog w = .ok (.enter 62 args) w := run_enter Tryz.func62 (by kernel_rfl) (by kernel_rfl) args w
set_option maxRecDepth 100000 in
theorem enter_ownp (args : Array Value) (w : World) : (callFunc 28 args).run Tryz.prog w = .ok (.enter 28 args) w := run_enter Tryz.func28 (by kernel_rfl) (by kernel_rfl) args w
/-- A version, and what lies behind it, in memory of the call's own. -/
def GivesV (w : World) (nx sq : Int) (n m : Nat) (ls : List Ed.Lo) (ts : List Ed.Ta) (e : Ending) (w' : World) : Prop :=
  ∃ A c L B d M, e = .returned (.agg #[.int .i64 nx, .int .i64 sq, .slice A n c, .slice B m d]) ∧ OwV w' w.heap.size A n c L B m d M ∧ L.map Ed.loOf = ls ∧ M.map Ed.taOf = ts ∧ Below w.heap.size w w'
/-- In the midst of it: both rows lie in memory of the call's own; of so many logs, and tables, the pairs do, too. -/
structure Mid (w wx : World) (nx sq : Int) (A : Option Addr) (n c : Nat) (B : Option Addr) (m d : Nat) (L F : List (Ed.Lg × List (Int × Int))) (M G : List (Pk.Tb × List (Int × Int))) (k j : Nat) : Prop where
  box : Holds wx w.heap.size [.int .i64 nx, .int .i64 sq, .slice A n c, .slice B m d]
  res : Holds wx (w.heap.size + 1) [.int .i64 0, .int .i64 0, .slice none 0 0, .slice none 0 0]
  lrow : OwnC 4 wx (w.heap.size + 2) 62 A n c (Ed.lflat ((F ++ L.drop k).map (·.1)))
  trow : OwnC 9 wx (w.heap.size + 2) 35 B m d (Pk.flat ((G ++ M.drop j).map (·.1)))
  ab : Off A B
  fl : F.length = k
  gl : G.length = j
  lf : F.map Ed.loOf = (L.take k).map Ed.loOf
  tf : G.map Ed.taOf = (M.take j).map Ed.taOf
  lfit : ∀ x ∈ F, x.1.fits
  tfit : ∀ x ∈ G, x.1.fits
  lp : ∀ x ∈ F, OwP wx (w.heap.size + 2) x.1.P x.1.pn x.1.pc x.2 ∧ Off x.1.P A ∧ Off x.1.P B
  tp : ∀ x ∈ G, OwP wx (w.heap.size + 2) x.1.P x.1.pn x.1.pc x.2 ∧ Off x.1.P A ∧ Off x.1.P B
  bel : Below w.heap.size w wx
theorem Mid.below {w wx wy : World} {nx sq : Int} {A B : Option Addr} {n c m d k j : Nat} {L F : List (Ed.Lg × List (Int × Int))} {M G : List (Pk.Tb × List (Int × Int))} (h : Mid w wx nx sq A n c B m d L F M G k j) (hb : Below wx.heap.size wx wy) : Mid w wy nx sq A n c B m d L F M G k j :=
  ⟨h.box.below hb, h.res.below hb, h.lrow.below hb, h.trow.below hb, h.ab, h.fl, h.gl, h.lf, h.tf, h.lfit, h.tfit, fun x hx => ⟨(h.lp x hx).1.below hb, (h.lp x hx).2⟩, fun x hx => ⟨(h.tp x hx).1.below hb, (h.tp x hx).2⟩, below_next h.bel hb⟩
theorem Mid.log {w wx : World} {nx sq : Int} {A B : Option Addr} {n c m d k j g : Nat} {L F : List (Ed.Lg × List (Int × Int))} {M G : List (Pk.Tb × List (Int × Int))} (h : Mid w wx nx sq A n c B m d L F M G k j) {x : Ed.Lg × List (Int × Int)} {P : Option Addr} {pc : Nat} (hg : A = some ⟨g, 0, none⟩) (hx : L[k]? = some x) (hxf : x.1.fits)
    (hP : OwP wx (w.heap.size + 2) P x.1.pn pc x.2) (hPA : Off P A) (hPB : Off P B) :
    Mid w (((wx.setCell ⟨g, k * 4, none⟩ (.int .i64 x.1.id)).setCell ⟨g, k * 4 + 1, none⟩ (.int .i64 x.1.ep)).setCell ⟨g, k * 4 + 2, none⟩ (.slice P x.1.pn pc)) nx sq A n c B m d L (F ++ [({ x.1 with P := P, pc := pc }, x.2)]) M G (k + 1) j := by
  subst hg
  have hk : k < L.length := (List.getElem?_eq_some_iff.1 hx).1
  have hkx : ((F ++ L.drop k).map (·.1))[k]? = some x.1 := by
    rw [List.map_append, List.getElem?_append_right (by rw [List.length_map, h.fl]; exact Nat.le_refl _), List.length_map, h.fl, Nat.sub_self, List.getElem?_map, List.getElem?_drop, Nat.add_zero, hx]
    rfl
  have c0 : (Ed.lflat ((F ++ L.drop k).map (·.1)))[k * 4]? = some (.int .i64 x.1.id) := Pk.flatMap_at (f := Ed.Lg.cells) (s := 4) (fun _ => rfl) (j := 0) hkx rfl
  have c1 : (Ed.lflat ((F ++ L.drop k).map (·.1)))[k * 4 + 1]? = some (.int .i64 x.1.ep) := Pk.flatMap_at (f := Ed.Lg.cells) (s := 4) (fun _ => rfl) (j := 1) hkx rfl
  obtain ⟨r1, g1⟩ := h.lrow.set1 (k * 4) (.int .i64 x.1.id)
  rw [set_same c0] at r1
  obtain ⟨r2, g2⟩ := r1.set1 (k * 4 + 1) (.int .i64 x.1.ep)
  rw [set_same c1] at r2
  obtain ⟨r3, g3⟩ := r2.set1 (k * 4 + 2) (.slice P x.1.pn pc)
  have hG := g1.trans (g2.trans g3)
  have hrow : (Ed.lflat ((F ++ L.drop k).map (·.1))).set (k * 4 + 2) (.slice P x.1.pn pc) = Ed.lflat ((F ++ [(({ x.1 with P := P, pc := pc } : Ed.Lg), x.2)] ++ L.drop (k + 1)).map (·.1)) := by
    unfold Ed.lflat
    rw [Ed.flat_set (f := Ed.Lg.cells) (s := 4) (fun _ => rfl) (by omega) hkx (x' := { x.1 with P := P, pc := pc }) rfl]
    congr 1
    rw [List.drop_eq_getElem_cons hk, List.map_append, List.map_cons, List.set_append_right _ _ (by rw [List.length_map, h.fl]; exact Nat.le_refl _), List.length_map, h.fl, Nat.sub_self, List.set_cons_zero, List.map_append, List.map_append]
    simp
  rw [hrow] at r3
  have hgw : ∀ b, wx.heap.size ≤ b → False ∨ True := fun _ _ => .inr trivial
  have hgl := h.lrow.lt g rfl
  have hne0 : w.heap.size ≠ g := by omega
  have hne1 : w.heap.size + 1 ≠ g := by omega
  have hoff : ∀ (Q : Option Addr), Off Q (some ⟨g, 0, none⟩) → ∀ g', some g = some g' → blkOf Q ≠ some g' := fun Q hQ g' e1 e2 => by
    injection e1 with e1
    subst e1
    exact hQ g e2 rfl
  have hF' : ∀ y ∈ F ++ [(({ x.1 with P := P, pc := pc } : Ed.Lg), x.2)], (OwP (((wx.setCell ⟨g, k * 4, none⟩ (.int .i64 x.1.id)).setCell ⟨g, k * 4 + 1, none⟩ (.int .i64 x.1.ep)).setCell ⟨g, k * 4 + 2, none⟩ (.slice P x.1.pn pc)) (w.heap.size + 2) y.1.P y.1.pn y.1.pc y.2 ∧ Off y.1.P (some (⟨g, 0, none⟩ : Addr)) ∧ Off y.1.P B) := by
    intro y hy
    rcases List.mem_append.1 hy with hy | hy
    · obtain ⟨p1, p2, p3⟩ := h.lp y hy
      exact ⟨p1.grown hG (hoff _ p2), p2, p3⟩
    · rw [List.mem_singleton] at hy
      subst hy
      exact ⟨hP.grown hG (hoff _ hPA), hPA, hPB⟩
  have hff : (F ++ [(({ x.1 with P := P, pc := pc } : Ed.Lg), x.2)]).map Ed.loOf = (L.take (k + 1)).map Ed.loOf := by
    rw [List.map_append, h.lf, List.take_add_one, hx, List.map_append]
    rfl
  exact ⟨((h.box.other hne0).other hne0).other hne0, ((h.res.other hne1).other hne1).other hne1, r3, h.trow.grown hG (.inr fun g2 e => by rw [ownBlock_eq]; exact hoff _ h.ab.symm g2 e), h.ab, by rw [List.length_append, h.fl]; rfl, h.gl, hff, h.tf, fun y hy => by
    rcases List.mem_append.1 hy with hy | hy
    · exact h.lfit y hy
    · rw [List.mem_singleton] at hy; subst hy; exact hxf, h.tfit, hF', fun y hy => by
    obtain ⟨p1, p2, p3⟩ := h.tp y hy
    exact ⟨p1.grown hG (hoff _ p2), p2, p3⟩, h.bel.grown hG h.bel.size (fun g' e => by injection e with e; have := hgl.1; omega)⟩
theorem Mid.table {w wx : World} {nx sq : Int} {A B : Option Addr} {n c m d k j g : Nat} {L F : List (Ed.Lg × List (Int × Int))} {M G : List (Pk.Tb × List (Int × Int))} (h : Mid w wx nx sq A n c B m d L F M G k j) {x : Pk.Tb × List (Int × Int)} {P : Option Addr} {pc : Nat} (hg : B = some ⟨g, 0, none⟩) (hx : M[j]? = some x) (hxf : x.1.fits)
    (hP : OwP wx (w.heap.size + 2) P x.1.pn pc x.2) (hPA : Off P A) (hPB : Off P B) :
    Mid w (((wx.setCell ⟨g, j * 9, none⟩ (.int .i64 x.1.id)).setCell ⟨g, j * 9 + 1, none⟩ (.int .i64 x.1.ep)).setCell ⟨g, j * 9 + 2, none⟩ (.slice P x.1.pn pc)) nx sq A n c B m d L F M (G ++ [({ x.1 with P := P, pc := pc }, x.2)]) k (j + 1) := by
  subst hg
  have hk : j < M.length := (List.getElem?_eq_some_iff.1 hx).1
  have hkx : ((G ++ M.drop j).map (·.1))[j]? = some x.1 := by
    rw [List.map_append, List.getElem?_append_right (by rw [List.length_map, h.gl]; exact Nat.le_refl _), List.length_map, h.gl, Nat.sub_self, List.getElem?_map, List.getElem?_drop, Nat.add_zero, hx]
    rfl
  have c0 : (Pk.flat ((G ++ M.drop j).map (·.1)))[j * 9]? = some (.int .i64 x.1.id) := Pk.flatMap_at (f := Pk.Tb.cells) (s := 9) (fun _ => rfl) (j := 0) hkx rfl
  have c1 : (Pk.flat ((G ++ M.drop j).map (·.1)))[j * 9 + 1]? = some (.int .i64 x.1.ep) := Pk.flatMap_at (f := Pk.Tb.cells) (s := 9) (fun _ => rfl) (j := 1) hkx rfl
  obtain ⟨r1, g1⟩ := h.trow.set1 (j * 9) (.int .i64 x.1.id)
  rw [set_same c0] at r1
  obtain ⟨r2, g2⟩ := r1.set1 (j * 9 + 1) (.int .i64 x.1.ep)
  rw [set_same c1] at r2
  obtain ⟨r3, g3⟩ := r2.set1 (j * 9 + 2) (.slice P x.1.pn pc)
  have hG := g1.trans (g2.trans g3)
  have hrow : (Pk.flat ((G ++ M.drop j).map (·.1))).set (j * 9 + 2) (.slice P x.1.pn pc) = Pk.flat ((G ++ [(({ x.1 with P := P, pc := pc } : Pk.Tb), x.2)] ++ M.drop (j + 1)).map (·.1)) := by
    unfold Pk.flat
    rw [Ed.flat_set (f := Pk.Tb.cells) (s := 9) (fun _ => rfl) (by omega) hkx (x' := { x.1 with P := P, pc := pc }) rfl]
    congr 1
    rw [List.drop_eq_getElem_cons hk, List.map_append, List.map_cons, List.set_append_right _ _ (by rw [List.length_map, h.gl]; exact Nat.le_refl _), List.length_map, h.gl, Nat.sub_self, List.set_cons_zero, List.map_append, List.map_append]
    simp
  rw [hrow] at r3
  have hgw : ∀ b, wx.heap.size ≤ b → False ∨ True := fun _ _ => .inr trivial
  have hgl := h.trow.lt g rfl
  have hne0 : w.heap.size ≠ g := by omega
  have hne1 : w.heap.size + 1 ≠ g := by omega
  have hoff : ∀ (Q : Option Addr), Off Q (some ⟨g, 0, none⟩) → ∀ g', some g = some g' → blkOf Q ≠ some g' := fun Q hQ g' e1 e2 => by
    injection e1 with e1
    subst e1
    exact hQ g e2 rfl
  have hF' : ∀ y ∈ G ++ [(({ x.1 with P := P, pc := pc } : Pk.Tb), x.2)], (OwP (((wx.setCell ⟨g, j * 9, none⟩ (.int .i64 x.1.id)).setCell ⟨g, j * 9 + 1, none⟩ (.int .i64 x.1.ep)).setCell ⟨g, j * 9 + 2, none⟩ (.slice P x.1.pn pc)) (w.heap.size + 2) y.1.P y.1.pn y.1.pc y.2 ∧ Off y.1.P A ∧ Off y.1.P (some (⟨g, 0, none⟩ : Addr))) := by
    intro y hy
    rcases List.mem_append.1 hy with hy | hy
    · obtain ⟨p1, p2, p3⟩ := h.tp y hy
      exact ⟨p1.grown hG (hoff _ p3), p2, p3⟩
    · rw [List.mem_singleton] at hy
      subst hy
      exact ⟨hP.grown hG (hoff _ hPB), hPA, hPB⟩
  have hff : (G ++ [(({ x.1 with P := P, pc := pc } : Pk.Tb), x.2)]).map Ed.taOf = (M.take (j + 1)).map Ed.taOf := by
    rw [List.map_append, h.tf, List.take_add_one, hx, List.map_append]
    rfl
  exact ⟨((h.box.other hne0).other hne0).other hne0, ((h.res.other hne1).other hne1).other hne1, h.lrow.grown hG (.inr fun g2 e => by rw [ownBlock_eq]; exact hoff _ h.ab g2 e), r3, h.ab, h.fl, by rw [List.length_append, h.gl]; rfl, h.lf, hff, h.lfit, fun y hy => by
    rcases List.mem_append.1 hy with hy | hy
    · exact h.tfit y hy
    · rw [List.mem_singleton] at hy; subst hy; exact hxf, fun y hy => by
    obtain ⟨p1, p2, p3⟩ := h.lp y hy
    exact ⟨p1.grown hG (hoff _ p3), p2, p3⟩, hF', h.bel.grown hG h.bel.size (fun g' e => by injection e with e; have := hgl.1; omega)⟩
end Go.Proofs.YthfcjlndaajkfaaGreat
namespace Go.Proofs.YthfcjlndaajkfaaGreat
open Go.RowKit
set_option linter.unusedVariables false
set_option maxRecDepth 100000 in
set_option maxHeartbeats 16000000 in
theorem own_any (nx sq : Int) (A0 : Option Addr) (n c0 : Nat) (B0 : Option Addr) (m d0 : Nat) (L : List (Ed.Lg × List (Int × Int))) (M : List (Pk.Tb × List (Int × Int))) (w : World) (hL : RdLs w A0 n L) (hM : RdTs w B0 m M) (hn : n ≤ 100000) (hm : m ≤ 100000) (hlp : ∀ x ∈ L, x.1.pn ≤ 100000) (htp : ∀ x ∈ M, x.1.pn ≤ 100000) :
    Calls Tryz.prog 42 #[.agg #[.int .i64 nx, .int .i64 sq, .slice A0 n c0, .slice B0 m d0]] w (GivesV w nx sq n m (L.map Ed.loOf) (M.map Ed.taOf)) := by
  have hb2 : Below w.heap.size w ((w.alloc (.cells #[.int .i64 nx, .int .i64 sq, .slice A0 n c0, .slice B0 m d0] 25)).alloc (.cells #[.int .i64 0, .int .i64 0, .slice none 0 0, .slice none 0 0] 25)) := ((Below.refl _ _).alloc (Nat.le_refl _) _).alloc (by simp) _
  have HX := Lib.hid ((Holds.new w #[.int .i64 nx, .int .i64 sq, .slice A0 n c0, .slice B0 m d0] 25).alloc (.cells #[.int .i64 0, .int .i64 0, .slice none 0 0, .slice none 0 0] 25))
  have HY := Lib.hid (Holds.new (w.alloc (.cells #[.int .i64 nx, .int .i64 sq, .slice A0 n c0, .slice B0 m d0] 25)) #[.int .i64 0, .int .i64 0, .slice none 0 0, .slice none 0 0] 25)
  have HS := Lib.hid (show ((w.alloc (.cells #[.int .i64 nx, .int .i64 sq, .slice A0 n c0, .slice B0 m d0] 25)).alloc (.cells #[.int .i64 0, .int .i64 0, .slice none 0 0, .slice none 0 0] 25)).heap.size = w.heap.size + 2 by simp)
  have HB := Lib.hid hb2
  have HRL := Lib.hid hL
  have HRT := Lib.hid hM
  have Hlp := Lib.hid hlp
  have Htp := Lib.hid htp
  clear hb2 hL hM hlp htp
  go_enter Tryz.func42, Tryz.ntmps42
  go_upto_region 1 with fail
  generalize ((w.alloc (.cells #[.int .i64 nx, .int .i64 sq, .slice A0 n c0, .slice B0 m d0] 25)).alloc (.cells #[.int .i64 0, .int .i64 0, .slice none 0 0, .slice none 0 0] 25)) = u at *
  replace HX : Hid (Holds u w.heap.size [.int .i64 nx, .int .i64 sq, .slice A0 n c0, .slice B0 m d0]) := HX
  replace HY : Hid (Holds u (w.heap.size + 1) [.int .i64 0, .int .i64 0, .slice none 0 0, .slice none 0 0]) := Lib.hid (by have := HY.out; simpa using this)
  go_cut [12] from 5 to 12 (fun s12 wx => ∃ A ca B db, Hid (Mid w wx nx sq A n ca B m db L [] M [] 0 0))
  case first =>
    have hbd : Below u.heap.size u u.drew := (Below.refl _ _).drew
    have x2 := (HX.out.below hbd).at_ 2 rfl
    have x3 := (HX.out.below hbd).at_ 3 rfl
    have HBd := Lib.hid hbd
    clear hbd
    go_region_law (first
      | (refine step_call1 (by simp [Region.wanted]) 7 rfl (.tmp 6) rfl rfl enter_cll ((clonelog_any A0 n c0 _ u.drew (HRL.out.2.1.below (below_next HB.out HBd.out)) (Ed.lflat_one _) hn).mono ?_); rintro e v1 ⟨A1, c1, rfl, hO1, hb1⟩; have HO1 := Lib.hid hO1; have HB1 := Lib.hid (show Below u.heap.size u v1 from below_next HBd.out hb1); have x3v := (HX.out.below HB1.out).at_ 3 rfl; clear hO1 hb1; refine ⟨_, rfl, ?_⟩)
      | (refine step_call1 (by simp [Region.wanted]) 10 rfl (.tmp 9) rfl rfl enter_clt ((clonetable_any B0 m d0 _ v1 (HRT.out.1.2.1.below (below_next HB.out HB1.out)) (Pk.flat_one _) hm).mono ?_); rintro e v2 ⟨B1, d1, rfl, hO2, hb2⟩; have HO2 := Lib.hid hO2; have HB2 := Lib.hid hb2; have HB3 := Lib.hid (show Below u.heap.size u v2 from below_next HB1.out hb2); have x2w := (HX.out.below HB3.out).at_ 2 rfl; have x3w := (HX.out.below HB3.out).at_ 3 rfl; have f2w := (HX.out.below HB3.out).2.2 2; have f3w := (HX.out.below HB3.out).2.2 3; clear hO2 hb2; refine ⟨_, rfl, ?_⟩))
    all_goals
      have HG1 := Lib.hid ((grown_cell v2 w.heap.size 2 (.slice A1 n c1)).trans (grown_cell _ w.heap.size 3 (.slice B1 m d1)))
      have hbase : w.heap.size + 2 ≤ u.heap.size := by rw [HS.out]; exact Nat.le_refl _
      have HN := Lib.hid (show Mid w ((v2.setCell ⟨w.heap.size, 2, none⟩ (.slice A1 n c1)).setCell ⟨w.heap.size, 3, none⟩ (.slice B1 m d1)) nx sq A1 n c1 B1 m d1 L [] M [] 0 0 from
        ⟨((HX.out.below HB3.out).set 2 _ (by simp)).set 3 _ (by simp), ((HY.out.below HB3.out).other (by omega)).other (by omega),
         ((HO1.out.below HB2.out).base_ hbase).grown HG1.out (.inr fun g e1 e2 => by rw [ownBlock_eq] at e2; have h := (HO1.out.lt g e2).1; have h2 : u.drew.heap.size = u.heap.size := rfl; injection e1 with e1; omega),
         (HO2.out.base_ (show w.heap.size + 2 ≤ v1.heap.size from Nat.le_trans hbase HB1.out.size)).grown HG1.out (.inr fun g e1 e2 => by rw [ownBlock_eq] at e2; have h := (HO2.out.lt g e2).1; have h2 := HB1.out.size; injection e1 with e1; omega),
         (fun g e1 e2 => by have h1 := (HO1.out.lt g e1).2; have h2 := (HO2.out.lt g e2).1; omega),
         rfl, rfl, rfl, rfl, (fun x hx => nomatch hx), (fun x hx => nomatch hx), (fun x hx => nomatch hx), (fun x hx => nomatch hx),
         ((below_next HB.out HB3.out).setCell (Nat.le_refl _) _).setCell (Nat.le_refl _) _⟩)
      go_wp2_with fail
      go_meet
      case rel => exact ⟨A1, c1, B1, d1, HN⟩
  case rest =>
  obtain ⟨A, ca, B, db, HMs⟩ := hcut
  clear HX HY HS HB
  have x2 := HMs.out.box.at_ 2 rfl
  go_wp2_with fail
  clear x2
  go_loopw [16] (fun ii wr => ∃ (k : Nat) (F : List (Ed.Lg × List (Int × Int))), k ≤ n ∧ ii = .int .i64 (k : Int) ∧ Hid (Mid w wr nx sq A n ca B m db L F M [] k 0)) (fun ii _ => n - (intOf ii).toNat)
  case atStart => exact ⟨0, [], by omega, rfl, HMs⟩
  case round =>
    clear HMs
    obtain ⟨k, F, hk, rfl, HM1⟩ := hrel
    by_cases hlt : k < n
    · have hki : (k : Int) < (n : Int) := by omega
      have hk0 : (0 : Int) ≤ (k : Int) := by omega
      obtain ⟨y, hy⟩ : ∃ y, L[k]? = some y := ⟨_, List.getElem?_eq_getElem (by rw [HRL.out.len]; exact hlt)⟩
      have hp : PairsOk w y.1.P y.1.pn y.1.pc y.2 := (HRL.out.2.2 y (List.mem_of_getElem? hy)).2
      obtain ⟨g, hAg, _, hgl⟩ := HM1.out.lrow.form (by omega)
      have HPx := Lib.hid (hp.below HM1.out.bel)
      have hpn := Hlp.out y (List.mem_of_getElem? hy)
      have HFx := Lib.hid ((HRL.out.2.2 y (List.mem_of_getElem? hy)).1)
      have HY := Lib.hid hy
      have hkx : Hid (((F ++ L.drop k).map (·.1))[k]? = some y.1) := Lib.hid (by
        rw [List.map_append, List.getElem?_append_right (by rw [List.length_map, HM1.out.fl]; exact Nat.le_refl _), List.length_map, HM1.out.fl, Nat.sub_self, List.getElem?_map, List.getElem?_drop, Nat.add_zero, hy]
        rfl)
      clear hy hp
      subst hAg
      have HG := Lib.hid hgl
      clear hgl
      obtain ⟨y, ps⟩ := y
      dsimp only at hpn HPx HFx hkx
      have hC : ∀ v, Below wr.heap.size wr v → (v.cell? ⟨g, k * 4, none⟩ = some (.int .i64 y.id) ∧ v.cell? ⟨g, k * 4 + 1, none⟩ = some (.int .i64 y.ep) ∧ v.cell? ⟨g, k * 4 + 2, none⟩ = some (.slice y.P y.pn y.pc)) := fun v hv =>
        ⟨(HM1.out.lrow.below hv).cellAt (Pk.flatMap_at (f := Ed.Lg.cells) (s := 4) (fun _ => rfl) (j := 0) hkx.out rfl), (HM1.out.lrow.below hv).cellAt (Pk.flatMap_at (f := Ed.Lg.cells) (s := 4) (fun _ => rfl) (j := 1) hkx.out rfl), (HM1.out.lrow.below hv).cellAt (Pk.flatMap_at (f := Ed.Lg.cells) (s := 4) (fun _ => rfl) (j := 2) hkx.out rfl)⟩
      have HC := Lib.hid hC
      clear hC
      have hbd : Below wr.heap.size wr wr.drew := (Below.refl _ _).drew
      obtain ⟨y0, y1, y2⟩ := HC.out wr.drew hbd
      have xb := (HM1.out.below hbd).box.at_ 2 rfl
      have xb0 := HM1.out.box.at_ 2 rfl
      go_wp2_with fail
      go_region_law (refine step_call1 (by simp [Region.wanted]) 28 rfl (.tmp 27) rfl rfl enter_ownp ((ownplace_any y.id y.ep y.P y.pn y.pc ps wr.drew (HPx.out.1.below (Below.refl wr.heap.size wr).drew) hpn).mono ?_); rintro e v ⟨P2, d2, rfl, hO, hbv⟩; have HV := Lib.hid (show Below wr.heap.size wr v from below_next (Below.refl wr.heap.size wr).drew hbv); have HO := Lib.hid (show OwP v wr.heap.size P2 y.pn d2 ps from ⟨HPx.out.1.1, hO⟩); have yv := HC.out v HV.out; have y0v := yv.1; have y1v := yv.2.1; have y2v := yv.2.2; have f0v := (HM1.out.below HV.out).lrow.freeAt (k * 4); have f1v := (HM1.out.below HV.out).lrow.freeAt (k * 4 + 1); have f2v := (HM1.out.below HV.out).lrow.freeAt (k * 4 + 2); have xv := (HM1.out.below HV.out).box.at_ 2 rfl; clear hO hbv yv; refine ⟨_, rfl, ?_⟩)
      all_goals
        clear y0 y1 y2 xb xb0
        have HN := Lib.hid ((HM1.out.below HV.out).log (x := (y, ps)) (P := P2) (pc := d2) rfl HY.out HFx.out (HO.out.base_ (show w.heap.size + 2 ≤ wr.heap.size from by have := HM1.out.res.1; omega))
          (fun g1 h1 h2 => by have := (HO.out.lt g1 h1).1; have := (HM1.out.lrow.lt g1 h2).2; omega) (fun g1 h1 h2 => by have := (HO.out.lt g1 h1).1; have := (HM1.out.trow.lt g1 h2).2; omega))
        dsimp only at HN
        go_wp2
        go_roundw
        case rel => exact ⟨k + 1, F ++ [(({ y with P := P2, pc := d2 } : Ed.Lg), ps)], by omega, by go_num, HN⟩
        case measure => simp [intOf]; omega
    · have hki : ¬ (k : Int) < (n : Int) := by omega
      have hkn : n = k := by omega
      clear hlt hk
      subst hkn
      obtain ⟨F0, hF0⟩ : ∃ F0, F0 = F := ⟨F, rfl⟩
      subst hF0
      have HMt := HM1
      have x3 := HMt.out.box.at_ 3 rfl
      go_wp2_with fail
      clear x3 HM1
      go_loopw [35] (fun ii wr => ∃ (k : Nat) (F : List (Pk.Tb × List (Int × Int))), k ≤ m ∧ ii = .int .i64 (k : Int) ∧ Hid (Mid w wr nx sq A n ca B m db L F0 M F n k)) (fun ii _ => m - (intOf ii).toNat)
      case atStart => exact ⟨0, [], by omega, rfl, HMt⟩
      case round =>
        clear HMt
        obtain ⟨k, F, hk, rfl, HM1⟩ := hrel
        by_cases hlt : k < m
        · have hki : (k : Int) < (m : Int) := by omega
          have hk0 : (0 : Int) ≤ (k : Int) := by omega
          obtain ⟨y, hy⟩ : ∃ y, M[k]? = some y := ⟨_, List.getElem?_eq_getElem (by rw [HRT.out.len]; exact hlt)⟩
          have hp : PairsOk w y.1.P y.1.pn y.1.pc y.2 := HRT.out.2 y (List.mem_of_getElem? hy)
          obtain ⟨g, hAg, _, hgl⟩ := HM1.out.trow.form (by omega)
          have HPx := Lib.hid (hp.below HM1.out.bel)
          have hpn := Htp.out y (List.mem_of_getElem? hy)
          have HFx := Lib.hid (HRT.out.1.2.2 y.1 (List.mem_map.2 ⟨y, List.mem_of_getElem? hy, rfl⟩))
          have HY := Lib.hid hy
          have hkx : Hid (((F ++ M.drop k).map (·.1))[k]? = some y.1) := Lib.hid (by
            rw [List.map_append, List.getElem?_append_right (by rw [List.length_map, HM1.out.gl]; exact Nat.le_refl _), List.length_map, HM1.out.gl, Nat.sub_self, List.getElem?_map, List.getElem?_drop, Nat.add_zero, hy]
            rfl)
          clear hy hp
          subst hAg
          have HG := Lib.hid hgl
          clear hgl
          obtain ⟨y, ps⟩ := y
          dsimp only at hpn HPx HFx hkx
          have hC : ∀ v, Below wr.heap.size wr v → (v.cell? ⟨g, k * 9, none⟩ = some (.int .i64 y.id) ∧ v.cell? ⟨g, k * 9 + 1, none⟩ = some (.int .i64 y.ep) ∧ v.cell? ⟨g, k * 9 + 2, none⟩ = some (.slice y.P y.pn y.pc)) := fun v hv =>
            ⟨(HM1.out.trow.below hv).cellAt (Pk.flatMap_at (f := Pk.Tb.cells) (s := 9) (fun _ => rfl) (j := 0) hkx.out rfl), (HM1.out.trow.below hv).cellAt (Pk.flatMap_at (f := Pk.Tb.cells) (s := 9) (fun _ => rfl) (j := 1) hkx.out rfl), (HM1.out.trow.below hv).cellAt (Pk.flatMap_at (f := Pk.Tb.cells) (s := 9) (fun _ => rfl) (j := 2) hkx.out rfl)⟩
          have HC := Lib.hid hC
          clear hC
          have hbd : Below wr.heap.size wr wr.drew := (Below.refl _ _).drew
          obtain ⟨y0, y1, y2⟩ := HC.out wr.drew hbd
          have xb := (HM1.out.below hbd).box.at_ 3 rfl
          have xb0 := HM1.out.box.at_ 3 rfl
          go_wp2_with fail
          go_region_law (refine step_call1 (by simp [Region.wanted]) 47 rfl (.tmp 46) rfl rfl enter_ownp ((ownplace_any y.id y.ep y.P y.pn y.pc ps wr.drew (HPx.out.1.below (Below.refl wr.heap.size wr).drew) hpn).mono ?_); rintro e v ⟨P2, d2, rfl, hO, hbv⟩; have HV := Lib.hid (show Below wr.heap.size wr v from below_next (Below.refl wr.heap.size wr).drew hbv); have HO := Lib.hid (show OwP v wr.heap.size P2 y.pn d2 ps from ⟨HPx.out.1.1, hO⟩); have yv := HC.out v HV.out; have y0v := yv.1; have y1v := yv.2.1; have y2v := yv.2.2; have f0v := (HM1.out.below HV.out).trow.freeAt (k * 9); have f1v := (HM1.out.below HV.out).trow.freeAt (k * 9 + 1); have f2v := (HM1.out.below HV.out).trow.freeAt (k * 9 + 2); have xv := (HM1.out.below HV.out).box.at_ 3 rfl; clear hO hbv yv; refine ⟨_, rfl, ?_⟩)
          all_goals
            clear y0 y1 y2 xb xb0
            have HN := Lib.hid ((HM1.out.below HV.out).table (x := (y, ps)) (P := P2) (pc := d2) rfl HY.out HFx.out (HO.out.base_ (show w.heap.size + 2 ≤ wr.heap.size from by have := HM1.out.res.1; omega))
              (fun g1 h1 h2 => by have := (HO.out.lt g1 h1).1; have := (HM1.out.lrow.lt g1 h2).2; omega) (fun g1 h1 h2 => by have := (HO.out.lt g1 h1).1; have := (HM1.out.trow.lt g1 h2).2; omega))
            dsimp only at HN
            go_wp2
            go_roundw
            case rel => exact ⟨k + 1, F ++ [(({ y with P := P2, pc := d2 } : Pk.Tb), ps)], by omega, by go_num, HN⟩
            case measure => simp [intOf]; omega
        · have hki : ¬ (k : Int) < (m : Int) := by omega
          have hkn : m = k := by omega
          clear hlt hk
          subst hkn
          obtain ⟨x0, x1, x2, x3⟩ := HM1.out.box.all4
          obtain ⟨y0, y1, y2, y3⟩ := HM1.out.res.all4
          obtain ⟨f0, f1, f2, f3⟩ := HM1.out.res.free4
          have hdl : L.drop n = [] := List.drop_of_length_le (by rw [HRL.out.len]; exact Nat.le_refl _)
          have hdm : M.drop m = [] := List.drop_of_length_le (by rw [HRT.out.len]; exact Nat.le_refl _)
          have htl : L.take n = L := List.take_of_length_le (by rw [HRL.out.len]; exact Nat.le_refl _)
          have htm : M.take m = M := List.take_of_length_le (by rw [HRT.out.len]; exact Nat.le_refl _)
          have HO := Lib.hid (show OwV wr (w.heap.size + 2) A n ca F0 B m db F by
            have h1 := HM1.out.lrow
            have h2 := HM1.out.trow
            rw [hdl, List.append_nil] at h1
            rw [hdm, List.append_nil] at h2
            exact ⟨⟨HM1.out.fl, h1, HM1.out.lfit, fun x hx => (HM1.out.lp x hx).1, fun x hx => (HM1.out.lp x hx).2.1⟩, ⟨HM1.out.gl, h2, HM1.out.tfit, fun x hx => (HM1.out.tp x hx).1, fun x hx => (HM1.out.tp x hx).2.2⟩, HM1.out.ab, fun x hx => (HM1.out.lp x hx).2.2, fun x hx => (HM1.out.tp x hx).2.1⟩)
          have HLf := Lib.hid (show F0.map Ed.loOf = L.map Ed.loOf by have h := HM1.out.lf; rwa [htl] at h)
          have HTf := Lib.hid (show F.map Ed.taOf = M.map Ed.taOf by have h := HM1.out.tf; rwa [htm] at h)
          have HZ := Lib.hid ((((HM1.out.res.set 0 (.int .i64 nx) (by simp)).set 1 (.int .i64 sq) (by simp)).set 2 (.slice A n ca) (by simp)).set 3 (.slice B m db) (by simp))
          have HGr := Lib.hid ((grown_cell wr (w.heap.size + 1) 0 (.int .i64 nx)).trans ((grown_cell _ (w.heap.size + 1) 1 (.int .i64 sq)).trans ((grown_cell _ (w.heap.size + 1) 2 (.slice A n ca)).trans (grown_cell _ (w.heap.size + 1) 3 (.slice B m db)))))
          have HBe := Lib.hid (HM1.out.bel.grown HGr.out HM1.out.bel.size (fun g' e => by injection e with e; omega))
          have HOf := Lib.hid ((HO.out.grown HGr.out (fun g e => by injection e with e; omega)).base_ (show w.heap.size ≤ w.heap.size + 2 by omega))
          clear hdl hdm htl htm HO
          go_wp2_with fail
          clear x0 x1 x2 x3 y0 y1 y2 y3 f0 f1 f2 f3 HM1 HGr
          generalize (((wr.setCell ⟨w.heap.size + 1, 0, none⟩ (.int .i64 nx)).setCell ⟨w.heap.size + 1, 1, none⟩ (.int .i64 sq)).setCell ⟨w.heap.size + 1, 2, none⟩ (.slice A n ca)).setCell ⟨w.heap.size + 1, 3, none⟩ (.slice B m db) = q at *
          obtain ⟨y0, y1, y2, y3⟩ := HZ.out.all4
          refine bodyPost_ret (v := .agg #[.int .i64 nx, .int .i64 sq, .slice A n ca, .slice B m db]) ?_ rfl ⟨A, ca, F0, B, db, F, rfl, HOf.out, HLf.out, HTf.out, HBe.out⟩
          simp [results, Tryz.results42, go_sem, y0, y1, y2, y3]
end Go.Proofs.YthfcjlndaajkfaaGreat
namespace Go.Proofs.YthfcjlndaajkfaaGreat
open Go.RowKit
set_option linter.unusedVariables false
theorem step_call3 {w : World} {ops : Array Oper} {o : Oper} {a : Act} {K : Act → World → Prop} {Q : Exit → Act → World → Prop} {E : Prop} {F : FuncId} {vx vy vz : Value} {T U R : TypeId} (hw : Region.wanted o (yielded ops a.tmps) = true) (d : Nat) (hd : o.dst = some d) (x y z : Operand)
    (ho : o.op = .call { callee := .value (.func F), args := #[x, y, z], argTypes := #[T, U, R] }) (hx : a.eval x = vx) (hy : a.eval y = vy) (hz : a.eval z = vz) (hcF : ∀ (args : Array Value) (wx : World), (callFunc F args).run Tryz.prog wx = .ok (.enter F args) wx)
    (h : Calls Tryz.prog F #[vx, vy, vz] w fun e w' => ∃ v, e = .returned v ∧ K (a.put (some d) v) w') :
    if Region.wanted o (yielded ops a.tmps) = true then Oper.wp Tryz.prog o a w K Q else E := by
  rw [if_pos hw]
  unfold Oper.wp execOp
  have e1 : a.eval (.func F) = .func (.func F) #[] #[] := rfl
  simp only [ho, resolve, invoke, Deferred.ofValue, e1, Sem.run_bind, Sem.run_pure, Result.andThen_ok, List.map_toArray, List.map_cons, List.map_nil, hx, hy, hz]
  simp only [Array.empty_append, Array.append_empty, hcF]
  refine h.mono ?_
  rintro e w' ⟨v, rfl, hk⟩
  rw [← hd] at hk
  exact hk
set_option maxRecDepth 100000 in
theorem enter_insl (args : Array Value) (w : World) : (callFunc 70 args).run Tryz.prog w = .ok (.enter 70 args) w := run_enter Tryz.func70 (by kernel_rfl) (by kernel_rfl) args w
set_option maxRecDepth 100000 in
theorem enter_inst (args : Array Value) (w : World) : (callFunc 73 args).run Tryz.prog w = .ok (.enter 73 args) w := run_enter Tryz.func73 (by kernel_rfl) (by kernel_rfl) args w
/-- What comes of an edit, done to a version behind a pointer. -/
def GivesDo (w : World) (base vb : Nat) (r : Option Ed.Ve) (e : Ending) (w' : World) : Prop :=
  Below base w w' ∧ match r with
  | none => e = .returned (.bool false)
  | some v => e = .returned (.bool true) ∧ ∃ A n c L B m d M, StV w' base vb v.nx v.sq A n c L B m d M ∧ L.map Ed.loOf = v.ls ∧ M.map Ed.taOf = v.ts
theorem Ed.lids (L : List (Ed.Lg × List (Int × Int))) : (L.map Ed.loOf).map (·.p.id) = L.map (·.1.id) := by rw [List.map_map]; rfl
theorem Ed.tids (M : List (Pk.Tb × List (Int × Int))) : (M.map Ed.taOf).map (·.p.id) = M.map (·.1.id) := by rw [List.map_map]; rfl
theorem Ed.find_lt {ids : List Int} {x : Int} {k : Nat} (h : Ed.find ids x = some k) : k < ids.length := by
  unfold Ed.find at h
  rw [List.findIdx?_eq_some_iff_getElem] at h
  exact h.1
theorem Ed.map_put {α β : Type} (f : α → β) (L : List α) (k : Nat) (x : α) : (Ed.put L k x).map f = Ed.put (L.map f) k (f x) := by unfold Ed.put; rw [List.map_append, List.map_cons, List.map_take, List.map_drop]
theorem Ed.map_cut {α β : Type} (f : α → β) (L : List α) (k : Nat) : (Ed.cut L k).map f = Ed.cut (L.map f) k := by unfold Ed.cut; rw [List.map_append, List.map_take, List.map_drop]
theorem Ed.pos_le (ids : List Int) (x : Int) : Ed.pos ids x ≤ ids.length := by unfold Ed.pos; exact (List.takeWhile_sublist _).length_le
end Go.Proofs.YthfcjlndaajkfaaGreat
namespace Go.Proofs.YthfcjlndaajkfaaGreat
open Go.RowKit
set_option linter.unusedVariables false
set_option maxRecDepth 100000 in
set_option maxHeartbeats 8000000 in
theorem do1_any {w : World} {base vb : Nat} {nx sq : Int} {A : Option Addr} {n c : Nat} {L : List (Ed.Lg × List (Int × Int))} {B : Option Addr} {m d : Nat} {M : List (Pk.Tb × List (Int × Int))} (hst : StV w base vb nx sq A n c L B m d M) (hbw : base ≤ w.heap.size) (id nn pid pep : Int) (P : Option Addr) (pn pc : Nat) (ps : List (Int × Int)) (tid tep : Int) (Q : Option Addr) (qn qc : Nat) (sz lv ct : Int) (lo hi : ByteArray) (tp : Int) (qs : List (Int × Int)) :
    Calls Tryz.prog 48 #[.pointer (some ⟨vb, 0, none⟩), .agg #[.int .i64 1, .int .i64 id, .int .i64 nn, .int .i64 pid, .int .i64 pep, .slice P pn pc, .int .i64 tid, .int .i64 tep, .slice Q qn qc, .int .i64 sz, .int .i64 lv, .int .i64 ct, .string lo, .string hi, .int .i64 tp]] w (GivesDo w base vb (Ed.do1 (⟨nx, sq, L.map Ed.loOf, M.map Ed.taOf⟩ : Ed.Ve) (⟨1, id, nn, ⟨pid, pep, ps⟩, ⟨⟨tid, tep, qs⟩, sz, lv, ct, lo, hi, tp⟩⟩ : Ed.Et))) := by
  have hal : Below w.heap.size w (w.alloc (.cells #[.int .i64 1, .int .i64 id, .int .i64 nn, .int .i64 pid, .int .i64 pep, .slice P pn pc, .int .i64 tid, .int .i64 tep, .slice Q qn qc, .int .i64 sz, .int .i64 lv, .int .i64 ct, .string lo, .string hi, .int .i64 tp] 37)) := (Below.refl _ _).alloc (Nat.le_refl _) _
  have hvb := hst.box.1
  have HX := Lib.hid (Holds.new w #[.int .i64 1, .int .i64 id, .int .i64 nn, .int .i64 pid, .int .i64 pep, .slice P pn pc, .int .i64 tid, .int .i64 tep, .slice Q qn qc, .int .i64 sz, .int .i64 lv, .int .i64 ct, .string lo, .string hi, .int .i64 tp] 37)
  have HS := Lib.hid (hst.below hal)
  have HB := Lib.hid (show Below base w (w.alloc (.cells #[.int .i64 1, .int .i64 id, .int .i64 nn, .int .i64 pid, .int .i64 pep, .slice P pn pc, .int .i64 tid, .int .i64 tep, .slice Q qn qc, .int .i64 sz, .int .i64 lv, .int .i64 ct, .string lo, .string hi, .int .i64 tp] 37)) from hal.mono hbw)
  clear hal
  have hd : Ed.do1 (⟨nx, sq, L.map Ed.loOf, M.map Ed.taOf⟩ : Ed.Ve) (⟨1, id, nn, ⟨pid, pep, ps⟩, ⟨⟨tid, tep, qs⟩, sz, lv, ct, lo, hi, tp⟩⟩ : Ed.Et) = if nx ≤ nn then some { (⟨nx, sq, L.map Ed.loOf, M.map Ed.taOf⟩ : Ed.Ve) with nx := nn } else none := rfl
  rw [hd]
  clear hd
  go_enter Tryz.func48, Tryz.ntmps48
  go_upto_region 1 with fail
  generalize (w.alloc (.cells #[.int .i64 1, .int .i64 id, .int .i64 nn, .int .i64 pid, .int .i64 pep, .slice P pn pc, .int .i64 tid, .int .i64 tep, .slice Q qn qc, .int .i64 sz, .int .i64 lv, .int .i64 ct, .string lo, .string hi, .int .i64 tp] 37)) = u at *
  replace HX : Hid (Holds u w.heap.size [.int .i64 1, .int .i64 id, .int .i64 nn, .int .i64 pid, .int .i64 pep, .slice P pn pc, .int .i64 tid, .int .i64 tep, .slice Q qn qc, .int .i64 sz, .int .i64 lv, .int .i64 ct, .string lo, .string hi, .int .i64 tp]) := HX
  have x0 := HX.out.at_ 0 rfl
  have xd2 : u.drew.cell? ⟨w.heap.size, 2, none⟩ = some (.int .i64 nn) := HX.out.at_ 2 rfl
  have v0 : u.drew.cell? ⟨vb, 0, none⟩ = some (.int .i64 nx) := HS.out.box.at_ 0 rfl
  have f0 : u.drew.frozen? ⟨vb, 0, none⟩ = false := HS.out.box.2.2 0
  have HF := Lib.hid (show StV (u.drew.setCell ⟨vb, 0, none⟩ (.int .i64 nn)) base vb nn sq A n c L B m d M from (show StV u.drew base vb nx sq A n c L B m d M from HS.out.below ((Below.refl _ _).drew)).nx_ nn)
  have HBf := Lib.hid (show Below base w (u.drew.setCell ⟨vb, 0, none⟩ (.int .i64 nn)) from HB.out.drew.setCell hst.lo _)
  by_cases hq : nx ≤ nn
  · rw [if_pos hq]
    go_wp2_with fail
    go_region
    all_goals
      go_wp2
      go_ret
      exact ⟨HBf.out, rfl, A, n, c, L, B, m, d, M, HF.out, rfl, rfl⟩
  · rw [if_neg hq]
    go_wp2_with fail
    go_region
    all_goals
      go_wp2
      go_ret
      exact ⟨HBf.out, rfl⟩
set_option maxRecDepth 100000 in
set_option maxHeartbeats 8000000 in
theorem do2_any {w : World} {base vb : Nat} {nx sq : Int} {A : Option Addr} {n c : Nat} {L : List (Ed.Lg × List (Int × Int))} {B : Option Addr} {m d : Nat} {M : List (Pk.Tb × List (Int × Int))} (hst : StV w base vb nx sq A n c L B m d M) (hbw : base ≤ w.heap.size) (id nn pid pep : Int) (P : Option Addr) (pn pc : Nat) (ps : List (Int × Int)) (tid tep : Int) (Q : Option Addr) (qn qc : Nat) (sz lv ct : Int) (lo hi : ByteArray) (tp : Int) (qs : List (Int × Int)) :
    Calls Tryz.prog 48 #[.pointer (some ⟨vb, 0, none⟩), .agg #[.int .i64 2, .int .i64 id, .int .i64 nn, .int .i64 pid, .int .i64 pep, .slice P pn pc, .int .i64 tid, .int .i64 tep, .slice Q qn qc, .int .i64 sz, .int .i64 lv, .int .i64 ct, .string lo, .string hi, .int .i64 tp]] w (GivesDo w base vb (Ed.do1 (⟨nx, sq, L.map Ed.loOf, M.map Ed.taOf⟩ : Ed.Ve) (⟨2, id, nn, ⟨pid, pep, ps⟩, ⟨⟨tid, tep, qs⟩, sz, lv, ct, lo, hi, tp⟩⟩ : Ed.Et))) := by
  have hal : Below w.heap.size w (w.alloc (.cells #[.int .i64 2, .int .i64 id, .int .i64 nn, .int .i64 pid, .int .i64 pep, .slice P pn pc, .int .i64 tid, .int .i64 tep, .slice Q qn qc, .int .i64 sz, .int .i64 lv, .int .i64 ct, .string lo, .string hi, .int .i64 tp] 37)) := (Below.refl _ _).alloc (Nat.le_refl _) _
  have hvb := hst.box.1
  have HX := Lib.hid (Holds.new w #[.int .i64 2, .int .i64 id, .int .i64 nn, .int .i64 pid, .int .i64 pep, .slice P pn pc, .int .i64 tid, .int .i64 tep, .slice Q qn qc, .int .i64 sz, .int .i64 lv, .int .i64 ct, .string lo, .string hi, .int .i64 tp] 37)
  have HS := Lib.hid (hst.below hal)
  have HB := Lib.hid (show Below base w (w.alloc (.cells #[.int .i64 2, .int .i64 id, .int .i64 nn, .int .i64 pid, .int .i64 pep, .slice P pn pc, .int .i64 tid, .int .i64 tep, .slice Q qn qc, .int .i64 sz, .int .i64 lv, .int .i64 ct, .string lo, .string hi, .int .i64 tp] 37)) from hal.mono hbw)
  clear hal
  have hd : Ed.do1 (⟨nx, sq, L.map Ed.loOf, M.map Ed.taOf⟩ : Ed.Ve) (⟨2, id, nn, ⟨pid, pep, ps⟩, ⟨⟨tid, tep, qs⟩, sz, lv, ct, lo, hi, tp⟩⟩ : Ed.Et) = if sq ≤ nn then some { (⟨nx, sq, L.map Ed.loOf, M.map Ed.taOf⟩ : Ed.Ve) with sq := nn } else none := rfl
  rw [hd]
  clear hd
  go_enter Tryz.func48, Tryz.ntmps48
  go_upto_region 1 with fail
  generalize (w.alloc (.cells #[.int .i64 2, .int .i64 id, .int .i64 nn, .int .i64 pid, .int .i64 pep, .slice P pn pc, .int .i64 tid, .int .i64 tep, .slice Q qn qc, .int .i64 sz, .int .i64 lv, .int .i64 ct, .string lo, .string hi, .int .i64 tp] 37)) = u at *
  replace HX : Hid (Holds u w.heap.size [.int .i64 2, .int .i64 id, .int .i64 nn, .int .i64 pid, .int .i64 pep, .slice P pn pc, .int .i64 tid, .int .i64 tep, .slice Q qn qc, .int .i64 sz, .int .i64 lv, .int .i64 ct, .string lo, .string hi, .int .i64 tp]) := HX
  have x0 := HX.out.at_ 0 rfl
  have xd2 : u.drew.cell? ⟨w.heap.size, 2, none⟩ = some (.int .i64 nn) := HX.out.at_ 2 rfl
  have v0 : u.drew.cell? ⟨vb, 1, none⟩ = some (.int .i64 sq) := HS.out.box.at_ 1 rfl
  have f0 : u.drew.frozen? ⟨vb, 1, none⟩ = false := HS.out.box.2.2 1
  have HF := Lib.hid (show StV (u.drew.setCell ⟨vb, 1, none⟩ (.int .i64 nn)) base vb nx nn A n c L B m d M from (show StV u.drew base vb nx sq A n c L B m d M from HS.out.below ((Below.refl _ _).drew)).sq_ nn)
  have HBf := Lib.hid (show Below base w (u.drew.setCell ⟨vb, 1, none⟩ (.int .i64 nn)) from HB.out.drew.setCell hst.lo _)
  by_cases hq : sq ≤ nn
  · rw [if_pos hq]
    go_wp2_with fail
    go_region
    all_goals
      go_wp2
      go_ret
      exact ⟨HBf.out, rfl, A, n, c, L, B, m, d, M, HF.out, rfl, rfl⟩
  · rw [if_neg hq]
    go_wp2_with fail
    go_region
    all_goals
      go_wp2
      go_ret
      exact ⟨HBf.out, rfl⟩
end Go.Proofs.YthfcjlndaajkfaaGreat
namespace Go.Proofs.YthfcjlndaajkfaaGreat
open Go.RowKit
set_option linter.unusedVariables false
theorem OwnC.newC {s : Nat} {w : World} {E : TypeId} {base : Nat} (vs : List Value) (n : Nat) (hn : vs.length = n * s) (hb : base ≤ w.heap.size) (hm : n ≤ 100000) : OwnC s (w.alloc (.cells vs.toArray E)) base E (some ⟨w.heap.size, 0, none⟩) n n vs := by
  have := World.ownsRow_lit (base := base) (e := E) (size := s) w vs.toArray n hb (by simp only [maxLen]; omega) (by simpa using hn)
  unfold OwnC
  simpa using this
theorem inslog_st {W : World} {base vb : Nat} {nx sq : Int} {A : Option Addr} {n c : Nat} {L : List (Ed.Lg × List (Int × Int))} {B : Option Addr} {m d : Nat} {M : List (Pk.Tb × List (Int × Int))} (hst : StV W base vb nx sq A n c L B m d M) (hbw : base ≤ W.heap.size) (x : Ed.Lg) (k : Nat) (hk : k ≤ n) (hn : n ≤ 50000) :
    Calls Tryz.prog 70 #[.slice A n c, .int .i64 (k : Int), .slice (some ⟨W.heap.size, 0, none⟩) 1 1] (W.alloc (.cells x.cells.toArray 62)) (GivesIns 4 62 (W.alloc (.cells x.cells.toArray 62)) base A n ((Ed.lflat (L.map (·.1))).take (k * 4) ++ x.cells ++ (Ed.lflat (L.map (·.1))).drop (k * 4))) := by
  have hal : Below W.heap.size W (W.alloc (.cells x.cells.toArray 62)) := (Below.refl _ _).alloc (Nat.le_refl _) _
  exact inslog_any base A n c (Ed.lflat (L.map (·.1))) k W.heap.size 1 W.heap.size x.cells _ ((hst.below hal).own.ls.row) hk (by omega) (Ed.lflat_one _) (OwnC.newC x.cells 1 rfl (Nat.le_refl _) (by omega)) (Ed.lcells_one x) (fun e => by have := (hst.own.ls.row.lt _ e).2; omega) (Nat.le_trans hbw hal.size)
theorem instable_st {W : World} {base vb : Nat} {nx sq : Int} {A : Option Addr} {n c : Nat} {L : List (Ed.Lg × List (Int × Int))} {B : Option Addr} {m d : Nat} {M : List (Pk.Tb × List (Int × Int))} (hst : StV W base vb nx sq A n c L B m d M) (hbw : base ≤ W.heap.size) (x : Pk.Tb) (k : Nat) (hk : k ≤ m) (hn : m ≤ 50000) :
    Calls Tryz.prog 73 #[.slice B m d, .int .i64 (k : Int), .slice (some ⟨W.heap.size, 0, none⟩) 1 1] (W.alloc (.cells x.cells.toArray 35)) (GivesIns 9 35 (W.alloc (.cells x.cells.toArray 35)) base B m ((Pk.flat (M.map (·.1))).take (k * 9) ++ x.cells ++ (Pk.flat (M.map (·.1))).drop (k * 9))) := by
  have hal : Below W.heap.size W (W.alloc (.cells x.cells.toArray 35)) := (Below.refl _ _).alloc (Nat.le_refl _) _
  exact instable_any base B m d (Pk.flat (M.map (·.1))) k W.heap.size 1 W.heap.size x.cells _ ((hst.below hal).own.ts.row) hk (by omega) (Pk.flat_one _) (OwnC.newC x.cells 1 rfl (Nat.le_refl _) (by omega)) (Pk.cells_one x) (fun e => by have := (hst.own.ts.row.lt _ e).2; omega) (Nat.le_trans hbw hal.size)
end Go.Proofs.YthfcjlndaajkfaaGreat
