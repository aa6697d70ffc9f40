/- edit.apart: do the tables of every level from 1 on lie apart? What Check looks at, plain. Edits in memory, plain; versions whose logs and tables stand in order. Which tables may be: the document's IsTable of layer 15. -/
import Derived.Test.YthfcjlndaajkfaaGreatG15
import Derived.Test.YthfcjlndaajkfaaGreatG03
import Derived.BigQuiet
import Derived.Test.YthfcjlndaajkfaaGreatG04
import Derived.Test.YthfcjlndaajkfaaGreatG05
import Derived.Test.YthfcjlndaajkfaaGreatG06
import Derived.Test.YthfcjlndaajkfaaGreatG07
import Derived.Test.YthfcjlndaajkfaaGreatG08
import Derived.Test.YthfcjlndaajkfaaGreatG12
import Derived.Test.YthfcjlndaajkfaaGreatG13
import Derived.Test.YthfcjlndaajkfaaGreatG02
namespace Go.Proofs.YthfcjlndaajkfaaGreat
open Go.RowKit
set_option linter.unusedVariables false
/-- Have two tables of one level, from 1 on, keys between one another's ends? -/
def clashT (a b : Pk.Tb) : Bool := decide (0 < a.lv) && decide (b.lv = a.lv) && (!Pk.lt b.hi a.lo && !Pk.lt a.hi b.lo)
theorem clashT_symm {a b : Pk.Tb} (h : clashT a b = false) : clashT b a = false := by
  rw [← Bool.not_eq_true] at *
  intro e
  apply h
  unfold clashT at *
  simp only [Bool.and_eq_true, decide_eq_true_eq] at *
  obtain ⟨⟨h1, h2⟩, h3, h4⟩ := e
  exact ⟨⟨by omega, h2.symm⟩, h4, h3⟩
theorem apartB_pairs (M : List (Pk.Tb × List (Int × Int))) : Ed.apartB (M.map Ed.taOf) = true ↔ (M.map (·.1)).Pairwise fun a b => clashT a b = false := by
  rw [Ed.apartB_iff, List.pairwise_iff_getElem]
  constructor
  · intro h i j hi hj hij
    have hi' : i < M.length := by simpa using hi
    have hj' : j < M.length := by simpa using hj
    have h1 := h j i (Ed.taOf M[j]) (Ed.taOf M[i]) hij (by simp [hj']) (by simp [hi'])
    simpa using clashT_symm (a := M[j].1) (b := M[i].1) h1
  · intro h i k a b hk ha hb
    obtain ⟨hi, e1⟩ := List.getElem?_eq_some_iff.1 ha
    obtain ⟨hk2, e2⟩ := List.getElem?_eq_some_iff.1 hb
    have hi' : i < M.length := by simpa using hi
    have hk' : k < M.length := by simpa using hk2
    have h1 := h k i (by simpa using hk') (by simpa using hi') hk
    rw [← e1, ← e2]
    rw [List.getElem_map, List.getElem_map] at h1 ⊢
    exact clashT_symm h1
/-- A neighbour that is met: of a level, from 1 on, with a lowest key up to the highest ahead. -/
def meets (x y : Pk.Tb) : Bool := decide (0 < y.lv) && decide (x.lv = y.lv) && !Pk.lt x.hi y.lo
theorem meets_no {ys : List Pk.Tb} {i : Nat} {x y : Pk.Tb} (hx : ys[i]? = some x) (hy : ys[i + 1]? = some y) (hs : ys.Pairwise fun a b => ¬ ahead b a) (hk : ∀ t ∈ ys, Pk.lt t.hi t.lo = false) (hm : meets x y = true) : ¬ ys.Pairwise fun a b => clashT a b = false := by
  intro h
  rw [List.pairwise_iff_getElem] at h hs
  obtain ⟨hi, e1⟩ := List.getElem?_eq_some_iff.1 hx
  obtain ⟨hj, e2⟩ := List.getElem?_eq_some_iff.1 hy
  have h1 := h i (i + 1) hi hj (by omega)
  have h2 := hs i (i + 1) hi hj (by omega)
  rw [e1, e2] at h1 h2
  unfold meets at hm
  simp only [Bool.and_eq_true, decide_eq_true_eq] at hm
  obtain ⟨⟨m1, m2⟩, m3⟩ := hm
  have h3 : Pk.lt y.lo x.lo = false := by
    rw [← Bool.not_eq_true, Pk.lt_iff]
    exact fun e => h2 (.inr ⟨m2.symm, e⟩)
  have h4 : Pk.lt y.hi x.lo = false := by
    rw [← Bool.not_eq_true, Pk.lt_iff] at *
    intro e
    have a2 : Pk.kb y.lo ≤ Pk.kb y.hi := List.not_lt.1 (by
      have := hk y (by rw [← e2]; exact List.getElem_mem _)
      rw [← Bool.not_eq_true, Pk.lt_iff] at this
      exact this)
    exact h3 (Std.lt_of_le_of_lt a2 e)
  unfold clashT at h1
  rw [decide_eq_true (by omega), decide_eq_true m2.symm, h4, m3] at h1
  cases h1
theorem meets_all {ys : List Pk.Tb} (hs : ys.Pairwise fun a b => ¬ ahead b a) (h : ∀ (i : Nat) (x y : Pk.Tb), ys[i]? = some x → ys[i + 1]? = some y → meets x y = false) : ys.Pairwise fun a b => clashT a b = false := by
  rw [List.pairwise_iff_getElem] at hs ⊢
  have key : ∀ (d i : Nat) (hi : i < ys.length) (hj : i + d + 1 < ys.length), 0 < ys[i].lv → ys[i + d + 1].lv = ys[i].lv → Pk.lt ys[i].hi ys[i + d + 1].lo = true := by
    intro d
    induction d with
    | zero =>
      intro i hi hj h1 h2
      have := h i _ _ (List.getElem?_eq_getElem hi) (List.getElem?_eq_getElem hj)
      unfold meets at this
      rw [decide_eq_true (by omega), decide_eq_true h2.symm] at this
      simpa using this
    | succ d ih =>
      intro i hi hj h1 h2
      have hm : i + d + 1 < ys.length := by omega
      have s1 := hs i (i + d + 1) hi hm (by omega)
      have s2 := hs (i + d + 1) (i + (d + 1) + 1) hm hj (by omega)
      have l1 : ¬ ys[i + d + 1].lv < ys[i].lv := fun e => s1 (.inl e)
      have l2 : ¬ ys[i + (d + 1) + 1].lv < ys[i + d + 1].lv := fun e => s2 (.inl e)
      have h3 := ih i hi hm h1 (by omega)
      rw [Pk.lt_iff] at h3 ⊢
      have : Pk.kb ys[i + d + 1].lo ≤ Pk.kb ys[i + (d + 1) + 1].lo := List.not_lt.1 fun e => s2 (.inr ⟨by omega, e⟩)
      exact Std.lt_of_lt_of_le h3 this
  intro i j hi hj hij
  obtain ⟨d, rfl⟩ : ∃ d, j = i + d + 1 := ⟨j - i - 1, by omega⟩
  unfold clashT
  by_cases h1 : 0 < ys[i].lv
  · by_cases h2 : ys[i + d + 1].lv = ys[i].lv
    · rw [key d i hi hj h1 h2]; simp
    · rw [decide_eq_false h2]; simp
  · rw [decide_eq_false h1]; simp
set_option maxRecDepth 100000 in
set_option maxHeartbeats 16000000 in
theorem apart_any (B : Option Addr) (m d : Nat) (M : List (Pk.Tb × List (Int × Int))) (w : World) (hM : RdTs w B m M) (hm : m ≤ 128) (hok : ∀ x ∈ M, 0 ≤ x.1.lv ∧ x.1.lv ≤ 1000 ∧ Pk.lt x.1.hi x.1.lo = false) :
    Calls Tryz.prog 35 #[.slice B m d] w fun e w' => e = .returned (.bool (Ed.apartB (M.map Ed.taOf))) ∧ Below w.heap.size w w' := by
  have HC := hd_ (clonetable_any B m d _ w hM.1.2.1 (Pk.flat_one _) (by omega))
  have HMl := hd_ hM.len
  have HK := hd_ hok
  have HT := hd_ (apartB_pairs M)
  clear hM hok
  generalize Ed.apartB (M.map Ed.taOf) = ans at *
  go_enter Tryz.func35, Tryz.ntmps35
  go_wp2_with fail
  refine HC.out.mono ?_
  rintro e v ⟨R, rc, rfl, hO, hbv⟩
  have HBv := hd_ hbv
  have HS := hd_ (sort_tabs R w.heap.size m rc (M.map (·.1)) v (by rw [List.length_map]; exact HMl.out) hO (fun x hx => by
    obtain ⟨y, hy, rfl⟩ := List.mem_map.1 hx
    exact ⟨(HK.out y hy).1, (HK.out y hy).2.1⟩) (by omega))
  have HOv := hd_ hO
  clear hO hbv HC
  go_wp2_with fail
  refine HS.out.mono ?_
  rintro e u ⟨rfl, ys, hp, hs, hOu, hg⟩
  have HP := hd_ hp
  have HSo := hd_ hs
  have HBu := hd_ (show Below w.heap.size w u from HBv.out.grown hg HBv.out.size (fun g e => (HOv.out.blk g e).1))
  have HR := hd_ hOu.rd
  have HYl := hd_ (show ys.length = m by rw [hp.length_eq, List.length_map]; exact HMl.out)
  have HKy := hd_ (show ∀ t ∈ ys, Pk.lt t.hi t.lo = false from fun t ht => by
    obtain ⟨y, hy, rfl⟩ := List.mem_map.1 (hp.mem_iff.1 ht)
    exact (HK.out y hy).2.2)
  have HAns := hd_ (show ans = true ↔ ys.Pairwise fun a b => clashT a b = false from HT.out.trans (hp.pairwise_iff (fun h => clashT_symm h)).symm)
  clear hp hs hOu hg HS HOv HBv HT HK HMl HP
  go_wp2_with fail
  go_loopw [4] (fun ii wr => ∃ (k : Nat), k ≤ m ∧ ii = .int .i64 ((k : Int) + 1) ∧ Hid (∀ (i : Nat) (x y : Pk.Tb), i < k → ys[i]? = some x → ys[i + 1]? = some y → meets x y = false) ∧ Hid (Below u.heap.size u wr)) (fun ii _ => m + 1 - (intOf ii).toNat)
  case atStart => exact ⟨0, by omega, rfl, hd_ (fun i x y h => by omega), hd_ (Below.refl _ _)⟩
  case round =>
    obtain ⟨k, hk, rfl, HI, HB⟩ := hrel
    by_cases hlt : k + 1 < m
    · have hki : (k : Int) + 1 < (m : Int) := by omega
      have hki0 : (k : Int) < (m : Int) := by omega
      have hk0 : (0 : Int) ≤ (k : Int) + 1 := by omega
      obtain ⟨x, hx⟩ : ∃ x, ys[k]? = some x := ⟨_, List.getElem?_eq_getElem (by rw [HYl.out]; omega)⟩
      obtain ⟨y, hy⟩ : ∃ y, ys[k + 1]? = some y := ⟨_, List.getElem?_eq_getElem (by rw [HYl.out]; omega)⟩
      have HX := hd_ hx
      have HY := hd_ hy
      obtain ⟨b, o, hR, hb, hc⟩ := HR.out.2 (by omega)
      have hcx : ∀ (j : Nat) (q : Value), x.cells[j]? = some q → wr.cell? ⟨b, o + (k * 9 + j), none⟩ = some q := fun j q hq => (HB.out.cell hb).trans (hc _ _ (Pk.flatMap_at (f := Pk.Tb.cells) (s := 9) (fun _ => rfl) hx hq))
      have hcy : ∀ (j : Nat) (q : Value), y.cells[j]? = some q → wr.cell? ⟨b, o + ((k + 1) * 9 + j), none⟩ = some q := fun j q hq => (HB.out.cell hb).trans (hc _ _ (Pk.flatMap_at (f := Pk.Tb.cells) (s := 9) (fun _ => rfl) hy hq))
      have HF := hd_ (show meets x y = true → false = ans from fun hm => by
        rcases hq : ans with _ | _
        · rfl
        · exact absurd (HAns.out.1 hq) (meets_no hx hy HSo.out HKy.out hm))
      have HN := hd_ (show meets x y = false → ∀ (i : Nat) (x y : Pk.Tb), i < k + 1 → ys[i]? = some x → ys[i + 1]? = some y → meets x y = false from fun hm i x' y' hi hx' hy' => by
        by_cases e : i = k
        · subst e
          rw [hx] at hx'; rw [hy] at hy'
          injection hx' with hx'; injection hy' with hy'
          rw [← hx', ← hy']; exact hm
        · exact HI.out i x' y' (by omega) hx' hy')
      clear hc hx hy hb
      subst hR
      obtain ⟨id, ep, P, pn, pc, sz, lv, ct, lo, hi, tp⟩ := x
      obtain ⟨id2, ep2, P2, pn2, pc2, sz2, lv2, ct2, lo2, hi2, tp2⟩ := y
      have x4 : wr.cell? ⟨b, o + k * 9 + 4, none⟩ = some (.int .i64 lv) := hcx 4 _ rfl
      have x7 : wr.cell? ⟨b, o + k * 9 + 7, none⟩ = some (.string hi) := hcx 7 _ rfl
      have y4 : wr.cell? ⟨b, o + (k + 1) * 9 + 4, none⟩ = some (.int .i64 lv2) := hcy 4 _ rfl
      have y6 : wr.cell? ⟨b, o + (k + 1) * 9 + 6, none⟩ = some (.string lo2) := hcy 6 _ rfl
      clear hcx hcy
      have hme : meets ⟨id, ep, P, pn, pc, sz, lv, ct, lo, hi, tp⟩ ⟨id2, ep2, P2, pn2, pc2, sz2, lv2, ct2, lo2, hi2, tp2⟩ = (decide (0 < lv2) && decide (lv = lv2) && !Pk.lt hi lo2) := rfl
      have hle := Pk.le_eq lo2 hi
      rw [hme] at HF HN
      clear hme
      generalize Pk.lt hi lo2 = q1 at *
      by_cases h1 : 0 < lv2
      · have d1 : decide (0 < lv2) = true := decide_eq_true h1
        rw [d1] at HF HN
        by_cases h2 : lv = lv2
        · have d2 : (lv == lv2) = true := by simp [h2]
          rw [decide_eq_true h2] at HF HN
          cases q1 with
          | false =>
            have l1 : (Op.bytesLess lo2.toList hi.toList || lo2.toList == hi.toList) = true := hle
            have HF2 := hd_ (HF.out rfl)
            clear hle h2
            go_wp2_with fail
            go_big_quiet (fail)
            go_wp2
            go_ret
            exact ⟨by rw [← HF2.out]; rfl, below_drewN (below_next HBu.out HB.out) _⟩
          | true =>
            have l1 : (Op.bytesLess lo2.toList hi.toList || lo2.toList == hi.toList) = false := hle
            have HN2 := hd_ (HN.out rfl)
            clear hle h2
            go_wp2_with fail
            go_big_quiet (fail)
            go_wp2
            go_roundw
            case rel => exact ⟨k + 1, by omega, by go_num, HN2, hd_ (below_drewN HB.out _)⟩
            case measure => simp [intOf]; omega
        · have d2 : (lv == lv2) = false := beq_eq_false_iff_ne.2 h2
          rw [decide_eq_false h2] at HN
          have HN2 := hd_ (HN.out rfl)
          clear hle h2
          go_wp2_with fail
          go_big_quiet (fail)
          go_wp2
          go_roundw
          case rel => exact ⟨k + 1, by omega, by go_num, HN2, hd_ (below_drewN HB.out _)⟩
          case measure => simp [intOf]; omega
      · have d1 : decide (0 < lv2) = false := decide_eq_false h1
        rw [d1] at HN
        have HN2 := hd_ (HN.out rfl)
        clear hle
        go_wp2_with fail
        go_big_quiet (fail)
        go_wp2
        go_roundw
        case rel => exact ⟨k + 1, by omega, by go_num, HN2, hd_ (below_drewN HB.out _)⟩
        case measure => simp [intOf]; omega
    · have hki : ¬ (k : Int) + 1 < (m : Int) := by omega
      have HF := hd_ (show true = ans from (HAns.out.2 (meets_all HSo.out (fun i x y hx hy => HI.out i x y (by have := (List.getElem?_eq_some_iff.1 hy).1; rw [HYl.out] at this; omega) hx hy))).symm)
      clear hlt
      go_wp2
      go_ret
      exact ⟨by rw [← HF.out]; rfl, below_next HBu.out HB.out⟩
end Go.Proofs.YthfcjlndaajkfaaGreat
namespace Go.Proofs.YthfcjlndaajkfaaGreat
open Go.RowKit
namespace Ed
theorem okU_eq (v : Ve) : okU v.nx (v.ls.map (·.p) ++ v.ts.map (·.p)) = (v.ids.all (fun x => decide (x < v.nx)) && decide v.ids.Nodup && decide v.plots.Nodup) := by
  have e1 : (v.ls.map (·.p) ++ v.ts.map (·.p)).map (·.id) = v.ids := by unfold Ve.ids; rw [List.map_append, List.map_map, List.map_map]; rfl
  have e2 : ((v.ls.map (·.p) ++ v.ts.map (·.p)).map fun p => fl p.ps).flatten = v.plots := by unfold Ve.plots; rw [List.map_append, List.map_map, List.map_map, List.flatten_append]; rfl
  have e3 : (v.ls.map (·.p) ++ v.ts.map (·.p)).all (fun p => decide (p.id < v.nx)) = v.ids.all (fun x => decide (x < v.nx)) := by rw [← e1, List.all_map]; rfl
  have e4 : decide (keys (v.ls.map (·.p) ++ v.ts.map (·.p))).Nodup = (decide v.ids.Nodup && decide v.plots.Nodup) := by
    rw [← e1, ← e2, Bool.eq_iff_iff, Bool.and_eq_true, decide_eq_true_iff, decide_eq_true_iff, decide_eq_true_iff]
    exact keys_nodup _
  unfold okU
  rw [e3, e4, Bool.and_assoc]
theorem ok_eq (v : Ve) : v.ok = (from_ v.nx 1 2147483647 && from_ v.sq 0 1099511627776 && decide (v.ls.length ≤ 32) && decide (v.ts.length ≤ 128) && okLs v.ls && okTs v.sq v.ts && okU v.nx (v.ls.map (·.p) ++ v.ts.map (·.p)) && apartB v.ts) := by
  rw [okU_eq]
  unfold Ve.ok head
  simp only [Bool.and_assoc]
theorem okP_q {p : Pl} (h : p.ok = true) : Q64 p.id ∧ p.ps.length ≤ 64 ∧ ∀ z ∈ fl p.ps, Q64 z := by
  unfold Pl.ok okP at h
  simp only [Bool.and_eq_true, from_iff, List.all_eq_true] at h
  obtain ⟨⟨⟨⟨h1, h2⟩, h3⟩, h4⟩, h5⟩ := h
  refine ⟨by unfold Q64; omega, by omega, fun z hz => ?_⟩
  have := h4 z hz
  unfold Q64; omega
theorem okT_q {t : Ta} (h : t.ok = true) : t.p.ok = true ∧ 0 ≤ t.lv ∧ t.lv ≤ 1000 ∧ Pk.lt t.hi t.lo = false := by
  unfold Ta.ok okT at h
  simp only [Bool.and_eq_true, from_iff, Bool.not_eq_true'] at h
  obtain ⟨⟨⟨⟨⟨⟨⟨h1, h2⟩, h3⟩, h4⟩, h5⟩, h6⟩, h7⟩, h8⟩ := h
  exact ⟨h1, by omega, by omega, h8⟩
theorem okLs_q {L : List Lo} (h : okLs L = true) : ∀ l ∈ L, l.p.ok = true := by
  intro l hl
  obtain ⟨i, hi⟩ := List.getElem?_of_mem hl
  have h1 := okLs_at h (List.getElem?_eq_some_iff.1 hi).1
  rw [lokAt_eq hi] at h1
  simp only [Bool.and_eq_true] at h1
  exact h1.1.1
theorem okTs_q {s : Int} {L : List Ta} (h : okTs s L = true) : ∀ t ∈ L, t.ok = true := by
  intro l hl
  obtain ⟨i, hi⟩ := List.getElem?_of_mem hl
  have h1 := okTs_at h (List.getElem?_eq_some_iff.1 hi).1
  rw [tokAt_eq hi] at h1
  simp only [Bool.and_eq_true] at h1
  exact h1.1.1
/-- How little the last log's seal may be. -/
theorem lok_last {L : List Lo} {k : Nat} {l : Lo} (h : L[k]? = some l) (hk : k + 1 = L.length) : lokAt L k = (l.p.ok && from_ l.se (-1) 1099511627776 && decide (before (L.map (·.p.id)) k < l.p.id)) := by
  rw [lokAt_eq h, decide_eq_true hk, Bool.true_and]
  have : (decide (l.se = -1) || from_ l.se 0 1099511627776) = from_ l.se (-1) 1099511627776 := by
    rw [Bool.eq_iff_iff, Bool.or_eq_true, decide_eq_true_iff, from_iff, from_iff]
    omega
  rw [this]
theorem lok_ahead {L : List Lo} {k : Nat} {l : Lo} (h : L[k]? = some l) (hk : ¬ k + 1 = L.length) : lokAt L k = (l.p.ok && from_ l.se 0 1099511627776 && decide (before (L.map (·.p.id)) k < l.p.id)) := by
  rw [lokAt_eq h, decide_eq_false hk, Bool.false_and, Bool.false_or]
end Ed
end Go.Proofs.YthfcjlndaajkfaaGreat
namespace Go.Proofs.YthfcjlndaajkfaaGreat
open Go.RowKit
namespace Ed
/-- An edit, as memory holds it. -/
structure Er where
  kd : Int
  id : Int
  nn : Int
  pid : Int
  pep : Int
  P : Option Addr
  pn : Nat
  pc : Nat
  t : Pk.Tb
def Er.cells (x : Er) : List Value := [.int .i64 x.kd, .int .i64 x.id, .int .i64 x.nn, .int .i64 x.pid, .int .i64 x.pep, .slice x.P x.pn x.pc, .int .i64 x.t.id, .int .i64 x.t.ep, .slice x.t.P x.t.pn x.t.pc, .int .i64 x.t.sz, .int .i64 x.t.lv, .int .i64 x.t.ct, .string x.t.lo, .string x.t.hi, .int .i64 x.t.tp]
def eflat (l : List Er) : List Value := l.flatMap Er.cells
abbrev Ex := Er × (List (Int × Int) × List (Int × Int))
def etOf (x : Ex) : Et := ⟨x.1.kd, x.1.id, x.1.nn, ⟨x.1.pid, x.1.pep, x.2.1⟩, taOf (x.1.t, x.2.2)⟩
/-- What is known of an edit in memory: its pairs, its texts. -/
def ExOk (w : World) (x : Ex) : Prop := PairsOk w x.1.P x.1.pn x.1.pc x.2.1 ∧ PairsOk w x.1.t.P x.1.t.pn x.1.t.pc x.2.2 ∧ x.1.t.fits
theorem ExOk.below {w w' : World} {x : Ex} (h : ExOk w x) (hb : Below w.heap.size w w') : ExOk w' x := ⟨h.1.below hb, h.2.1.below hb, h.2.2⟩
/-- The numbers of a version's logs, and tables, stand in order. -/
structure Sane (v : Ve) : Prop where
  ls : (v.ls.map (·.p.id)).Pairwise (· < ·)
  lb : ∀ y ∈ v.ls.map (·.p.id), 0 ≤ y ∧ y ≤ 2147483647
  ts : (v.ts.map (·.p.id)).Pairwise (· < ·)
  tb : ∀ y ∈ v.ts.map (·.p.id), 0 ≤ y ∧ y ≤ 2147483647
theorem sorted_of {l : List Int} (h : ∀ i x, l[i]? = some x → before l i < x) : l.Pairwise (· < ·) := by
  rw [List.pairwise_iff_getElem]
  have key : ∀ (d i : Nat) (hi : i < l.length) (hj : i + d + 1 < l.length), l[i] < l[i + d + 1] := by
    intro d
    induction d with
    | zero =>
      intro i hi hj
      have := h (i + 1) _ (List.getElem?_eq_getElem hj)
      rwa [before_succ (List.getElem?_eq_getElem hi)] at this
    | succ d ih =>
      intro i hi hj
      have h1 := ih i hi (by omega)
      have h2 := h (i + d + 1 + 1) _ (List.getElem?_eq_getElem hj)
      rw [before_succ (List.getElem?_eq_getElem (by omega))] at h2
      have : l[i + (d + 1) + 1] = l[i + d + 1 + 1] := rfl
      omega
  intro i j hi hj hij
  obtain ⟨d, rfl⟩ : ∃ d, j = i + d + 1 := ⟨j - i - 1, by omega⟩
  exact key d i hi hj
theorem pl_id {p : Pl} (h : p.ok = true) : 1 ≤ p.id ∧ p.id ≤ 2147483647 := by
  unfold Pl.ok okP at h
  simp only [Bool.and_eq_true, from_iff] at h
  exact h.1.1.1.1
theorem Sane.of_ok {v : Ve} (h : v.ok = true) : Sane v := by
  rw [ok_eq] at h
  simp only [Bool.and_eq_true] at h
  have hL := h.1.1.1.2
  have hT := h.1.1.2
  refine ⟨sorted_of fun i x hx => ?_, fun y hy => ?_, sorted_of fun i x hx => ?_, fun y hy => ?_⟩
  · rw [List.getElem?_map] at hx
    obtain ⟨l, hl, rfl⟩ := Option.map_eq_some_iff.1 hx
    have h1 := okLs_at hL (List.getElem?_eq_some_iff.1 hl).1
    rw [lokAt_eq hl] at h1
    simp only [Bool.and_eq_true, decide_eq_true_eq] at h1
    exact h1.2
  · obtain ⟨l, hl, rfl⟩ := List.mem_map.1 hy
    have := pl_id (okLs_q hL l hl)
    omega
  · rw [List.getElem?_map] at hx
    obtain ⟨l, hl, rfl⟩ := Option.map_eq_some_iff.1 hx
    have h1 := okTs_at hT (List.getElem?_eq_some_iff.1 hl).1
    rw [tokAt_eq hl] at h1
    simp only [Bool.and_eq_true, decide_eq_true_eq] at h1
    exact h1.2
  · obtain ⟨l, hl, rfl⟩ := List.mem_map.1 hy
    have := pl_id (okT_q (okTs_q hT l hl)).1
    omega
theorem put_map {α β : Type} (f : α → β) (L : List α) (k : Nat) (x : α) : (put L k x).map f = put (L.map f) k (f x) := by unfold put; rw [List.map_append, List.map_cons, List.map_take, List.map_drop]
theorem cut_map {α β : Type} (f : α → β) (L : List α) (k : Nat) : (cut L k).map f = cut (L.map f) k := by unfold cut; rw [List.map_append, List.map_take, List.map_drop]
theorem cut_sub {α : Type} (L : List α) (k : Nat) : (cut L k).Sublist L := by
  unfold cut
  have h := (List.Sublist.refl (L.take k)).append (List.drop_sublist_drop_left L (Nat.le_succ k))
  rwa [List.take_append_drop] at h
theorem put_mem {α : Type} {L : List α} {k : Nat} {x y : α} (h : y ∈ put L k x) : y = x ∨ y ∈ L := by
  unfold put at h
  rcases List.mem_append.1 h with h | h
  · exact .inr (List.mem_of_mem_take h)
  · rcases List.mem_cons.1 h with h | h
    · exact .inl h
    · exact .inr (List.mem_of_mem_drop h)
theorem put_sorted : ∀ {ids : List Int} {x : Int}, ids.Pairwise (· < ·) → x ∉ ids → (put ids (pos ids x) x).Pairwise (· < ·)
  | [], x, _, _ => by simp [put, pos]
  | y :: r, x, h, hx => by
    rw [List.pairwise_cons] at h
    by_cases hy : y < x
    · have e : put (y :: r) (pos (y :: r) x) x = y :: put r (pos r x) x := by
        unfold put pos
        rw [List.takeWhile_cons, if_pos (by simp [hy])]
        rfl
      rw [e, List.pairwise_cons]
      refine ⟨fun z hz => ?_, put_sorted h.2 (fun hm => hx (List.mem_cons_of_mem _ hm))⟩
      rcases put_mem hz with rfl | hz
      · exact hy
      · exact h.1 z hz
    · have e : put (y :: r) (pos (y :: r) x) x = x :: y :: r := by
        unfold put pos
        rw [List.takeWhile_cons, if_neg (by simp [hy])]
        rfl
      have hxy : x < y := by
        have : x ≠ y := fun e => hx (by rw [e]; exact List.mem_cons_self ..)
        omega
      rw [e, List.pairwise_cons]
      refine ⟨fun z hz => ?_, List.pairwise_cons.2 h⟩
      rcases List.mem_cons.1 hz with rfl | hz
      · exact hxy
      · have := h.1 z hz; omega
theorem find_none {ids : List Int} {x : Int} (h : find ids x = none) : x ∉ ids := by
  unfold find at h
  rw [List.findIdx?_eq_none_iff] at h
  intro hm
  have := h x hm
  simp at this
theorem put_len {α : Type} (L : List α) (k : Nat) (x : α) : (put L k x).length = L.length + 1 := by
  unfold put
  rw [List.length_append, List.length_cons, List.length_take, List.length_drop]
  omega
theorem cut_len {α : Type} (L : List α) (k : Nat) : (cut L k).length ≤ L.length := (cut_sub L k).length_le
theorem kinds {e : Et} (h : e.ok = true) : e.kd = 1 ∨ e.kd = 2 ∨ e.kd = 3 ∨ e.kd = 4 ∨ e.kd = 5 ∨ e.kd = 6 ∨ e.kd = 7 := by
  unfold Et.ok at h
  repeat' split at h
  all_goals first | omega | cases h
theorem ok3 {e : Et} (h : e.ok = true) (hk : e.kd = 3) : e.p.ok = true := by
  unfold Et.ok at h
  rw [hk, if_neg (by decide), if_neg (by decide), if_pos rfl] at h
  simp only [Bool.and_eq_true] at h
  exact h.1.1.1
theorem ok6 {e : Et} (h : e.ok = true) (hk : e.kd = 6) : e.t.ok = true := by
  unfold Et.ok at h
  rw [hk, if_neg (by decide), if_neg (by decide), if_neg (by decide), if_neg (by decide), if_neg (by decide), if_pos rfl] at h
  simp only [Bool.and_eq_true] at h
  exact h.1.1.1
theorem ok4 {e : Et} (h : e.ok = true) (hk : e.kd = 4) : -9223372036854775808 ≤ e.n ∧ e.n ≤ 9223372036854775807 := by
  unfold Et.ok at h
  rw [hk, if_neg (by decide), if_neg (by decide), if_neg (by decide), if_pos rfl] at h
  have h1 : from_ e.n 0 1099511627776 = true := by
    simp only [Bool.and_eq_true] at h
    exact h.1.1.2
  rw [from_iff] at h1
  omega
theorem ok5 {e : Et} (h : e.ok = true) (hk : e.kd = 5) : -9223372036854775808 ≤ e.n ∧ e.n ≤ 9223372036854775807 := by
  unfold Et.ok at h
  rw [hk, if_neg (by decide), if_neg (by decide), if_neg (by decide), if_neg (by decide), if_pos rfl] at h
  have h1 : e.n = 0 := by
    simp only [Bool.and_eq_true, decide_eq_true_eq] at h
    exact h.1.1.2
  omega
theorem Sane.do1 {v v' : Ve} {e : Et} (h : Sane v) (ho : e.ok = true) (hd : do1 v e = some v') : Sane v' ∧ v'.ls.length ≤ v.ls.length + 1 ∧ v'.ts.length ≤ v.ts.length + 1 := by
  unfold Ed.do1 at hd
  split at hd
  · split at hd
    · injection hd with hd; subst hd; exact ⟨⟨h.ls, h.lb, h.ts, h.tb⟩, Nat.le_succ _, Nat.le_succ _⟩
    · cases hd
  split at hd
  · split at hd
    · injection hd with hd; subst hd; exact ⟨⟨h.ls, h.lb, h.ts, h.tb⟩, Nat.le_succ _, Nat.le_succ _⟩
    · cases hd
  split at hd
  · rename_i hk
    split at hd
    · cases hd
    · rename_i hf
      injection hd with hd; subst hd
      refine ⟨⟨?_, ?_, h.ts, h.tb⟩, Nat.le_of_eq (put_len _ _ _), Nat.le_succ _⟩
      · dsimp only; rw [put_map]; exact put_sorted h.ls (find_none hf)
      · dsimp only; rw [put_map]
        intro y hy
        rcases put_mem hy with rfl | hy
        · have := pl_id (ok3 ho hk); exact ⟨by show 0 ≤ e.p.id; omega, by show e.p.id ≤ _; omega⟩
        · exact h.lb y hy
  split at hd
  · split at hd
    · cases hd
    · split at hd
      · cases hd
      · rename_i k _ _ l hl
        split at hd
        · injection hd with hd; subst hd
          have e1 : (v.ls.set k ⟨l.p, e.n⟩).map (·.p.id) = v.ls.map (·.p.id) := by
            rw [List.map_set]
            refine List.ext_getElem? fun i => ?_
            rw [List.getElem?_set]
            split
            · rename_i hi; subst hi
              rw [List.length_map, List.getElem?_map, hl]
              rw [if_pos (List.getElem?_eq_some_iff.1 hl).1]; rfl
            · rfl
          refine ⟨⟨by dsimp only; rw [e1]; exact h.ls, by dsimp only; rw [e1]; exact h.lb, h.ts, h.tb⟩, by dsimp only; rw [List.length_set]; exact Nat.le_succ _, Nat.le_succ _⟩
        · cases hd
  split at hd
  · split at hd
    · cases hd
    · injection hd with hd; subst hd
      refine ⟨⟨?_, ?_, h.ts, h.tb⟩, Nat.le_trans (cut_len _ _) (Nat.le_succ _), Nat.le_succ _⟩
      · dsimp only; rw [cut_map]; exact h.ls.sublist (cut_sub _ _)
      · dsimp only; rw [cut_map]; exact fun y hy => h.lb y ((cut_sub _ _).mem hy)
  split at hd
  · rename_i hk
    split at hd
    · cases hd
    · rename_i hf
      injection hd with hd; subst hd
      refine ⟨⟨h.ls, h.lb, ?_, ?_⟩, Nat.le_succ _, Nat.le_of_eq (put_len _ _ _)⟩
      · dsimp only; rw [put_map]; exact put_sorted h.ts (find_none hf)
      · dsimp only; rw [put_map]
        intro y hy
        rcases put_mem hy with rfl | hy
        · have := pl_id (okT_q (ok6 ho hk)).1; exact ⟨by omega, by omega⟩
        · exact h.tb y hy
  · split at hd
    · cases hd
    · injection hd with hd; subst hd
      refine ⟨⟨h.ls, h.lb, ?_, ?_⟩, Nat.le_succ _, Nat.le_trans (cut_len _ _) (Nat.le_succ _)⟩
      · dsimp only; rw [cut_map]; exact h.ts.sublist (cut_sub _ _)
      · dsimp only; rw [cut_map]; exact fun y hy => h.tb y ((cut_sub _ _).mem hy)
end Ed
/-- A slice that reads as edits. -/
def RdEs (w : World) (A : Option Addr) (n : Nat) (E : List Ed.Ex) : Prop := E.length = n ∧ RdC 15 w A n (Ed.eflat (E.map (·.1))) ∧ ∀ x ∈ E, Ed.ExOk w x
theorem RdEs.below {w w' : World} {A : Option Addr} {n : Nat} {E : List Ed.Ex} (h : RdEs w A n E) (hb : Below w.heap.size w w') : RdEs w' A n E := ⟨h.1, h.2.1.below hb, fun x hx => (h.2.2 x hx).below hb⟩
theorem RdEs.at_ {w : World} {A : Option Addr} {n k : Nat} {E : List Ed.Ex} {x : Ed.Ex} (h : RdEs w A n E) (hx : E[k]? = some x) : ∃ b o, A = some ⟨b, o, none⟩ ∧ Ed.ExOk w x ∧ ∀ w', Below w.heap.size w w' → ∀ (j : Nat) (q : Value), x.1.cells[j]? = some q → w'.cell? ⟨b, o + (k * 15 + j), none⟩ = some q := by
  have hk : k < n := by rw [← h.1]; exact (List.getElem?_eq_some_iff.1 hx).1
  obtain ⟨b, o, rfl, hb, hc⟩ := h.2.1.2 (by omega)
  have hm : (E.map (·.1))[k]? = some x.1 := by rw [List.getElem?_map, hx]; rfl
  exact ⟨b, o, rfl, h.2.2 x (List.mem_of_getElem? hx), fun w' hb' j q hq => (hb'.cell hb).trans (hc _ _ (Pk.flatMap_at (f := Ed.Er.cells) (s := 15) (fun _ => rfl) hm hq))⟩
/-- edit.mayBe, whichever the kind. -/
theorem may_any (x : Ed.Ex) (w : World) (h : Ed.ExOk w x) : Calls Tryz.prog 47 #[.agg x.1.cells.toArray] w fun e w' => e = .returned (.bool (Ed.etOf x).ok) ∧ Below w.heap.size w w' := by
  obtain ⟨⟨kd, id, nn, pid, pep, P, pn, pc, ⟨tid, tep, Q, qn, qc, sz, lv, ct, lo, hi, tp⟩⟩, ps, qs⟩ := x
  obtain ⟨hP, hQ, hfit⟩ := h
  have hls : lo.size ≤ 9223372036854775807 ∧ hi.size ≤ 9223372036854775807 := ⟨hfit.1, hfit.2.1⟩
  by_cases h1 : kd = 1
  · subst h1; exact may1_any id nn pid pep P pn pc ps tid tep Q qn qc sz lv ct lo hi tp qs w hP hQ hls hfit
  by_cases h2 : kd = 2
  · subst h2; exact may2_any id nn pid pep P pn pc ps tid tep Q qn qc sz lv ct lo hi tp qs w hP hQ hls hfit
  by_cases h3 : kd = 3
  · subst h3; exact may3_any id nn pid pep P pn pc ps tid tep Q qn qc sz lv ct lo hi tp qs w hP hQ hls hfit
  by_cases h4 : kd = 4
  · subst h4; exact may4_any id nn pid pep P pn pc ps tid tep Q qn qc sz lv ct lo hi tp qs w hP hQ hls hfit
  by_cases h5 : kd = 5
  · subst h5; exact may5_any id nn pid pep P pn pc ps tid tep Q qn qc sz lv ct lo hi tp qs w hP hQ hls hfit
  by_cases h6 : kd = 6
  · subst h6; exact may6_any id nn pid pep P pn pc ps tid tep Q qn qc sz lv ct lo hi tp qs w hP hQ hls hfit
  by_cases h7 : kd = 7
  · subst h7; exact may7_any id nn pid pep P pn pc ps tid tep Q qn qc sz lv ct lo hi tp qs w hP hQ hls hfit
  exact may0_any kd ⟨h1, h2, h3, h4, h5, h6, h7⟩ id nn pid pep P pn pc ps tid tep Q qn qc sz lv ct lo hi tp qs w hP hQ hls hfit
/-- edit.do of an edit that may be. -/
theorem do_any {w : World} {base vb : Nat} {nx sq : Int} {A : Option Addr} {n c : Nat} {L : List (Ed.Lg × List (Int × Int))} {B : Option Addr} {m d : Nat} {M : List (Pk.Tb × List (Int × Int))} (hst : StV w base vb nx sq A n c L B m d M) (hbw : base ≤ w.heap.size) (x : Ed.Ex) (h : Ed.ExOk w x) (ho : (Ed.etOf x).ok = true) (hs : Ed.Sane ⟨nx, sq, L.map Ed.loOf, M.map Ed.taOf⟩) (hn : n ≤ 50000) (hm : m ≤ 50000) :
    Calls Tryz.prog 48 #[.pointer (some ⟨vb, 0, none⟩), .agg x.1.cells.toArray] w (GivesDo w base vb (Ed.do1 ⟨nx, sq, L.map Ed.loOf, M.map Ed.taOf⟩ (Ed.etOf x))) := by
  have hk := Ed.kinds ho
  have l1 := hs.ls
  have l2 := hs.lb
  have t1 := hs.ts
  have t2 := hs.tb
  dsimp only at l1 l2 t1 t2
  rw [Ed.lids] at l1 l2
  rw [Ed.tids] at t1 t2
  have o3 := Ed.ok3 ho
  have o4 := Ed.ok4 ho
  have o6 := Ed.ok6 ho
  have o5 := Ed.ok5 ho
  clear ho
  obtain ⟨⟨kd, id, nn, pid, pep, P, pn, pc, ⟨tid, tep, Q, qn, qc, sz, lv, ct, lo, hi, tp⟩⟩, ps, qs⟩ := x
  obtain ⟨hP, hQ, hfit⟩ := h
  rcases hk with hk | hk | hk | hk | hk | hk | hk <;> replace hk : kd = _ := hk <;> subst hk
  · exact do1_any hst hbw id nn pid pep P pn pc ps tid tep Q qn qc sz lv ct lo hi tp qs
  · exact do2_any hst hbw id nn pid pep P pn pc ps tid tep Q qn qc sz lv ct lo hi tp qs
  · have h3 : (⟨pid, pep, ps⟩ : Ed.Pl).ok = true := o3 rfl
    have h4 := (Ed.okP_q h3).2.1
    have h5 : ps.length = pn := hP.1.1
    exact do3_any hst hbw id nn pid pep P pn pc ps tid tep Q qn qc sz lv ct lo hi tp qs hn hP (by have h4 : ps.length ≤ 64 := h4; omega) (Ed.pl_id h3) l1 l2
  · exact do4_any hst hbw id nn pid pep P pn pc ps tid tep Q qn qc sz lv ct lo hi tp qs (by omega) (o4 rfl)
  · exact do5_any hst hbw id nn pid pep P pn pc ps tid tep Q qn qc sz lv ct lo hi tp qs (by omega) (o5 rfl)
  · have h3 := Ed.okT_q (o6 rfl)
    have h4 := (Ed.okP_q h3.1).2.1
    have h5 : qs.length = qn := hQ.1.1
    exact do6_any hst hbw id nn pid pep P pn pc ps tid tep Q qn qc sz lv ct lo hi tp qs hm hQ (by have h4 : qs.length ≤ 64 := h4; omega) (Ed.pl_id h3.1) hfit t1 t2
  · exact do7_any hst hbw id nn pid pep P pn pc ps tid tep Q qn qc sz lv ct lo hi tp qs (by omega)
end Go.Proofs.YthfcjlndaajkfaaGreat
namespace Go.Proofs.YthfcjlndaajkfaaGreat
open Go.RowKit
set_option maxRecDepth 100000 in
set_option maxHeartbeats 8000000 in
theorem ristable_any (t : Pk.Tb) (ps : List (Int × Int)) (w : World) (hr : RdPs w t.P t.pn ps) (hf : t.fits) (hn : t.pn ≤ 9223372036854775807) :
    Calls Tryz.prog 39 #[.agg t.cells.toArray] w fun e w' => e = .returned (.bool (Ed.okT t ps)) ∧ Below w.heap.size w w' := by
  obtain ⟨id, ep, P, pn, pc, sz, lv, ct, lo, hi, tp⟩ := t
  have hls : lo.size ≤ 9223372036854775807 := hf.1
  have hhs : hi.size ≤ 9223372036854775807 := hf.2.1
  have hr : RdPs w P pn ps := hr
  have hn : pn ≤ 9223372036854775807 := hn
  have HL := hd_ hr.1
  show Calls _ _ #[.agg #[.int .i64 id, .int .i64 ep, .slice P pn pc, .int .i64 sz, .int .i64 lv, .int .i64 ct, .string lo, .string hi, .int .i64 tp]] _ _
  have HB0 := hd_ (show Below w.heap.size w (w.alloc (.cells #[.int .i64 id, .int .i64 ep, .slice P pn pc, .int .i64 sz, .int .i64 lv, .int .i64 ct, .string lo, .string hi, .int .i64 tp] 35)) from (Below.refl _ _).alloc (Nat.le_refl _) _)
  have HZ := hd_ (Holds.new w #[.int .i64 id, .int .i64 ep, .slice P pn pc, .int .i64 sz, .int .i64 lv, .int .i64 ct, .string lo, .string hi, .int .i64 tp] 35)
  have HPl := hd_ (isplace_any id ep P pn pc ps (w.alloc (.cells #[.int .i64 id, .int .i64 ep, .slice P pn pc, .int .i64 sz, .int .i64 lv, .int .i64 ct, .string lo, .string hi, .int .i64 tp] 35)) (hr.below HB0.out) hn)
  clear hr hf
  generalize hans : Ed.okT ⟨id, ep, P, pn, pc, sz, lv, ct, lo, hi, tp⟩ ps = ans
  have hans : (Ed.okP id ep ps && Ed.from_ sz 12 (864 * (ps.length : Int)) && Ed.from_ lv 0 3 && Ed.from_ ct 1 1048576 && Ed.from_ tp 1 1099511627776 && Ed.from_ (lo.size : Int) 1 64 && Ed.from_ (hi.size : Int) 1 64 && !Pk.lt hi lo) = ans := hans
  rw [HL.out] at hans
  have HA := hd_ hans
  clear hans
  go_enter Tryz.func39, Tryz.ntmps39
  go_upto_region 1 with fail
  generalize (w.alloc (.cells #[.int .i64 id, .int .i64 ep, .slice P pn pc, .int .i64 sz, .int .i64 lv, .int .i64 ct, .string lo, .string hi, .int .i64 tp] 35)) = u at *
  replace HZ : Hid (Holds u w.heap.size [.int .i64 id, .int .i64 ep, .slice P pn pc, .int .i64 sz, .int .i64 lv, .int .i64 ct, .string lo, .string hi, .int .i64 tp]) := HZ
  have z0 := HZ.out.at_ 0 rfl
  have z1 := HZ.out.at_ 1 rfl
  have z2 := HZ.out.at_ 2 rfl
  have hpn : Ed.okP id ep ps = true → pn ≤ 64 := fun h => by
    unfold Ed.okP at h
    rw [Bool.and_eq_true, Bool.and_eq_true, Bool.and_eq_true] at h
    have := (Ed.from_iff.1 h.1.1.2).2
    have := HL.out
    omega
  go_wp2_with fail
  refine HPl.out.mono ?_
  rintro e v1 ⟨rfl, hb1⟩
  have HB1 := hd_ (below_next HB0.out hb1)
  have HZ1 := hd_ (HZ.out.below hb1)
  clear z0 z1 z2 hb1 HPl HZ
  obtain ⟨z0, z1, z2, z3, z4, z5, z6, z7, z8⟩ := HZ1.out.all9
  clear HZ1
  generalize hk0 : Ed.okP id ep ps = k0 at *
  clear hk0
  have G1 := from_any sz 12 (864 * (pn : Int)) v1
  have G2 := from_any lv 0 3 v1
  have G3 := from_any ct 1 1048576 v1
  have G4 := from_any tp 1 1099511627776 v1
  have G5 := from_any (lo.size : Int) 1 64 v1
  have G6 := from_any (hi.size : Int) 1 64 v1
  have hlt : Pk.lt hi lo = Op.bytesLess hi.toList lo.toList := rfl
  rw [hlt] at HA
  clear hlt
  generalize Ed.from_ sz 12 (864 * (pn : Int)) = k1 at *
  generalize Ed.from_ lv 0 3 = k2 at *
  generalize Ed.from_ ct 1 1048576 = k3 at *
  generalize Ed.from_ tp 1 1099511627776 = k4 at *
  generalize Ed.from_ (lo.size : Int) 1 64 = k5 at *
  generalize Ed.from_ (hi.size : Int) 1 64 = k6 at *
  have F1 := hd_ G1
  have F2 := hd_ G2
  have F3 := hd_ G3
  have F4 := hd_ G4
  have F5 := hd_ G5
  have F6 := hd_ G6
  clear G1 G2 G3 G4 G5 G6 HL
  cases k0 with
  | false =>
    have HF := hd_ (show false = ans by rw [← HA.out]; rfl)
    clear hpn
    go_wp2
    go_ret
    exact ⟨by rw [← HF.out]; rfl, HB1.out⟩
  | true =>
  have hpn64 : pn ≤ 64 := hpn rfl
  clear hpn
  cases k1 with
  | false =>
    have HF := hd_ (show false = ans by rw [← HA.out]; rfl)
    go_wp2_with fail
    refine F1.out.mono ?_
    rintro e y1 ⟨rfl, rfl⟩
    go_wp2
    go_ret
    exact ⟨by rw [← HF.out]; rfl, HB1.out⟩
  | true =>
  cases k2 with
  | false =>
    have HF := hd_ (show false = ans by rw [← HA.out]; rfl)
    go_wp2_with fail
    refine F1.out.mono ?_
    rintro e y1 ⟨rfl, rfl⟩
    go_wp2_with fail
    refine F2.out.mono ?_
    rintro e y2 ⟨rfl, rfl⟩
    go_wp2
    go_ret
    exact ⟨by rw [← HF.out]; rfl, HB1.out⟩
  | true =>
  cases k3 with
  | false =>
    have HF := hd_ (show false = ans by rw [← HA.out]; rfl)
    go_wp2_with fail
    refine F1.out.mono ?_
    rintro e y1 ⟨rfl, rfl⟩
    go_wp2_with fail
    refine F2.out.mono ?_
    rintro e y2 ⟨rfl, rfl⟩
    go_wp2_with fail
    refine F3.out.mono ?_
    rintro e y3 ⟨rfl, rfl⟩
    go_wp2
    go_ret
    exact ⟨by rw [← HF.out]; rfl, HB1.out⟩
  | true =>
  cases k4 with
  | false =>
    have HF := hd_ (show false = ans by rw [← HA.out]; rfl)
    go_wp2_with fail
    refine F1.out.mono ?_
    rintro e y1 ⟨rfl, rfl⟩
    go_wp2_with fail
    refine F2.out.mono ?_
    rintro e y2 ⟨rfl, rfl⟩
    go_wp2_with fail
    refine F3.out.mono ?_
    rintro e y3 ⟨rfl, rfl⟩
    go_wp2_with fail
    refine F4.out.mono ?_
    rintro e y4 ⟨rfl, rfl⟩
    go_wp2
    go_ret
    exact ⟨by rw [← HF.out]; rfl, HB1.out⟩
  | true =>
  cases k5 with
  | false =>
    have HF := hd_ (show false = ans by rw [← HA.out]; rfl)
    go_wp2_with fail
    refine F1.out.mono ?_
    rintro e y1 ⟨rfl, rfl⟩
    go_wp2_with fail
    refine F2.out.mono ?_
    rintro e y2 ⟨rfl, rfl⟩
    go_wp2_with fail
    refine F3.out.mono ?_
    rintro e y3 ⟨rfl, rfl⟩
    go_wp2_with fail
    refine F4.out.mono ?_
    rintro e y4 ⟨rfl, rfl⟩
    go_wp2_with fail
    refine F5.out.mono ?_
    rintro e y5 ⟨rfl, rfl⟩
    go_wp2
    go_ret
    exact ⟨by rw [← HF.out]; rfl, HB1.out⟩
  | true =>
  cases k6 with
  | false =>
    have HF := hd_ (show false = ans by rw [← HA.out]; rfl)
    go_wp2_with fail
    refine F1.out.mono ?_
    rintro e y1 ⟨rfl, rfl⟩
    go_wp2_with fail
    refine F2.out.mono ?_
    rintro e y2 ⟨rfl, rfl⟩
    go_wp2_with fail
    refine F3.out.mono ?_
    rintro e y3 ⟨rfl, rfl⟩
    go_wp2_with fail
    refine F4.out.mono ?_
    rintro e y4 ⟨rfl, rfl⟩
    go_wp2_with fail
    refine F5.out.mono ?_
    rintro e y5 ⟨rfl, rfl⟩
    go_wp2_with fail
    refine F6.out.mono ?_
    rintro e y6 ⟨rfl, rfl⟩
    go_wp2
    go_ret
    exact ⟨by rw [← HF.out]; rfl, HB1.out⟩
  | true =>
  cases g0 : Op.bytesLess hi.toList lo.toList with
  | true =>
    have HF := hd_ (show false = ans by rw [← HA.out, g0]; rfl)
    go_wp2_with fail
    refine F1.out.mono ?_
    rintro e y1 ⟨rfl, rfl⟩
    go_wp2_with fail
    refine F2.out.mono ?_
    rintro e y2 ⟨rfl, rfl⟩
    go_wp2_with fail
    refine F3.out.mono ?_
    rintro e y3 ⟨rfl, rfl⟩
    go_wp2_with fail
    refine F4.out.mono ?_
    rintro e y4 ⟨rfl, rfl⟩
    go_wp2_with fail
    refine F5.out.mono ?_
    rintro e y5 ⟨rfl, rfl⟩
    go_wp2_with fail
    refine F6.out.mono ?_
    rintro e y6 ⟨rfl, rfl⟩
    go_wp2
    go_ret
    exact ⟨by rw [← HF.out]; rfl, HB1.out⟩
  | false =>
    have HF := hd_ (show true = ans by rw [← HA.out, g0]; rfl)
    go_wp2_with fail
    refine F1.out.mono ?_
    rintro e y1 ⟨rfl, rfl⟩
    go_wp2_with fail
    refine F2.out.mono ?_
    rintro e y2 ⟨rfl, rfl⟩
    go_wp2_with fail
    refine F3.out.mono ?_
    rintro e y3 ⟨rfl, rfl⟩
    go_wp2_with fail
    refine F4.out.mono ?_
    rintro e y4 ⟨rfl, rfl⟩
    go_wp2_with fail
    refine F5.out.mono ?_
    rintro e y5 ⟨rfl, rfl⟩
    go_wp2_with fail
    refine F6.out.mono ?_
    rintro e y6 ⟨rfl, rfl⟩
    go_wp2
    go_ret
    exact ⟨by rw [← HF.out]; rfl, HB1.out⟩
end Go.Proofs.YthfcjlndaajkfaaGreat
