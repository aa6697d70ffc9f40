/- slices.SortFunc of tables, by level and lowest key. edit.apart: do the tables of every level from 1 on lie apart? What Check looks at, plain. Edits in memory, plain; versions whose logs and tables stand in order. Edits' bytes, plain; bytes that a call puts behind others. -/
import Derived.Test.YthfcjlndaajkfaaGreatEdShelf
import Derived.Test.YthfcjlndaajkfaaGreatG09
import Derived.Test.YthfcjlndaajkfaaGreatG03
import Derived.BigQuiet
import Derived.Test.YthfcjlndaajkfaaGreatG11
import Derived.Test.YthfcjlndaajkfaaGreatG04
import Derived.Test.YthfcjlndaajkfaaGreatG05
import Derived.Test.YthfcjlndaajkfaaGreatG06
import Derived.Test.YthfcjlndaajkfaaGreatG10
import Derived.Test.YthfcjlndaajkfaaGreatN08
namespace Go.Proofs.YthfcjlndaajkfaaGreat
open Go.RowKit
open Go.Shelf
set_option linter.unusedVariables false
theorem compareBytes_eq : ∀ a b : List UInt8, Lib.compareBytes a b = if a < b then -1 else if b < a then 1 else 0
  | [], [] => rfl
  | [], _ :: _ => by simp [Lib.compareBytes]
  | _ :: _, [] => by simp [Lib.compareBytes]
  | a :: x, b :: y => by
    rw [Lib.compareBytes, compareBytes_eq x y]
    by_cases h1 : a < b
    · simp [h1, List.cons_lt_cons_iff]
    · by_cases h2 : b < a
      · have h3 : ¬ a = b := fun e => by rw [e] at h2; exact absurd h2 (by simp)
        simp [h1, h2, h3, List.cons_lt_cons_iff]
      · have h3 : a = b := by
          have e1 : ¬ a.toNat < b.toNat := h1
          have e2 : ¬ b.toNat < a.toNat := h2
          exact UInt8.toNat_inj.1 (by omega)
        subst h3
        simp
theorem compareBytes_neg (a b : List UInt8) : Lib.compareBytes a b < 0 ↔ a < b := by
  rw [compareBytes_eq]
  by_cases h1 : a < b
  · simp [h1]
  · by_cases h2 : b < a <;> simp [h1, h2]
/-- A table with a level that is small. -/
abbrev Tl := { x : Pk.Tb // 0 ≤ x.lv ∧ x.lv ≤ 1000 }
instance : Inhabited Tl := ⟨⟨⟨0, 0, none, 0, 0, 0, 0, 0, ⟨#[]⟩, ⟨#[]⟩, 0⟩, by decide⟩⟩
def encT (x : Tl) : List Value := x.1.cells
def cmpA (x y : Tl) : Int := if x.1.lv = y.1.lv then Lib.compareBytes (Pk.kb x.1.lo) (Pk.kb y.1.lo) else x.1.lv - y.1.lv
/-- Does a table come ahead of another? -/
def ahead (x y : Pk.Tb) : Prop := x.lv < y.lv ∨ (x.lv = y.lv ∧ Pk.kb x.lo < Pk.kb y.lo)
theorem ltA (x y : Tl) : ltOf cmpA x y = true ↔ ahead x.1 y.1 := by
  unfold ltOf cmpA ahead
  rw [decide_eq_true_iff]
  split
  · rename_i h
    rw [compareBytes_neg]
    exact ⟨fun e => .inr ⟨h, e⟩, fun e => by rcases e with e | e; omega; exact e.2⟩
  · rename_i h
    exact ⟨fun e => .inl (by omega), fun e => by rcases e with e | e; omega; exact absurd e.1 h⟩
theorem swoA : Sort.SWO (ltOf cmpA) where
  irrefl x := by
    rw [← Bool.not_eq_true, ltA]
    rintro (h | ⟨_, h⟩)
    · omega
    · exact List.lt_irrefl _ h
  trans x y z h1 h2 := by
    rw [ltA] at *
    rcases h1 with h1 | ⟨e1, h1⟩ <;> rcases h2 with h2 | ⟨e2, h2⟩
    · exact .inl (by omega)
    · exact .inl (by omega)
    · exact .inl (by omega)
    · exact .inr ⟨by omega, List.lt_trans h1 h2⟩
  ntrans x y z h1 h2 := by
    rw [← Bool.not_eq_true, ltA] at *
    rintro (h | ⟨e, h⟩)
    · by_cases g : x.1.lv < y.1.lv
      · exact h1 (.inl g)
      · exact h2 (.inl (by omega))
    · by_cases g : x.1.lv < y.1.lv
      · exact h1 (.inl g)
      · by_cases g2 : y.1.lv < z.1.lv
        · exact h2 (.inl g2)
        · have a1 : Pk.kb y.1.lo ≤ Pk.kb x.1.lo := List.not_lt.1 fun e => h1 (.inr ⟨by omega, e⟩)
          have a2 : Pk.kb z.1.lo ≤ Pk.kb y.1.lo := List.not_lt.1 fun e => h2 (.inr ⟨by omega, e⟩)
          exact absurd h (List.not_lt.2 (List.le_trans a2 a1))
set_option maxRecDepth 100000 in
set_option maxHeartbeats 4000000 in
theorem apart1_any (x y : Tl) (W : World) : Calls Tryz.prog 64 #[.agg x.1.cells.toArray, .agg y.1.cells.toArray] W fun e w' => e = .returned (.int .i64 (cmpA x y)) ∧ ∃ q os', w' = Sort.grow (W.drewN q) os' := by
  obtain ⟨⟨id, ep, P, pn, pc, sz, lv, ct, lo, hi, tp⟩, hx0, hx1⟩ := x
  obtain ⟨⟨id2, ep2, P2, pn2, pc2, sz2, lv2, ct2, lo2, hi2, tp2⟩, hy0, hy1⟩ := y
  replace hx0 : 0 ≤ lv := hx0
  replace hx1 : lv ≤ 1000 := hx1
  replace hy0 : 0 ≤ lv2 := hy0
  replace hy1 : lv2 ≤ 1000 := hy1
  show Calls _ _ #[.agg #[.int .i64 id, .int .i64 ep, .slice P pn pc, .int .i64 sz, .int .i64 lv, .int .i64 ct, .string lo, .string hi, .int .i64 tp], .agg #[.int .i64 id2, .int .i64 ep2, .slice P2 pn2 pc2, .int .i64 sz2, .int .i64 lv2, .int .i64 ct2, .string lo2, .string hi2, .int .i64 tp2]] _ _
  generalize hans : cmpA _ _ = ans
  have HA := Lib.hid (show (if lv = lv2 then Lib.compareBytes (Pk.kb lo) (Pk.kb lo2) else lv - lv2) = ans from hans)
  clear hans
  have HS := Lib.hid (fun (u : World) => (show Calls Tryz.prog 65 #[.string lo, .string lo2] u fun e w' => e = .returned (.int .i64 (Lib.compareBytes (Pk.kb lo) (Pk.kb lo2))) ∧ w' = u from Tryz.strings_Compare lo lo2 u))
  generalize Lib.compareBytes (Pk.kb lo) (Pk.kb lo2) = cb at *
  have HG : Hid (∃ q os', ((W.alloc (.cells #[.int .i64 id, .int .i64 ep, .slice P pn pc, .int .i64 sz, .int .i64 lv, .int .i64 ct, .string lo, .string hi, .int .i64 tp] 35)).alloc (.cells #[.int .i64 id2, .int .i64 ep2, .slice P2 pn2 pc2, .int .i64 sz2, .int .i64 lv2, .int .i64 ct2, .string lo2, .string hi2, .int .i64 tp2] 35)) = Sort.grow (W.drewN q) os') := Lib.hid ⟨0, _, by rw [Sort.alloc_eq_grow, Sort.alloc_eq_grow, Sort.grow_grow]; rfl⟩
  go_enter Tryz.func64, Tryz.ntmps64
  by_cases h0 : lv = lv2
  · subst h0
    have HF := Lib.hid (show cb = ans by rw [← HA.out, if_pos rfl])
    go_wp2_with fail
    refine (HS.out _).mono ?_
    rintro e v1 ⟨rfl, rfl⟩
    go_wp2
    go_ret
    exact ⟨by rw [← HF.out]; rfl, HG.out⟩
  · have HF := Lib.hid (show lv - lv2 = ans by rw [← HA.out, if_neg h0])
    have e0 : (lv != lv2) = true := by simp [h0]
    have e1 : (lv == lv2) = false := beq_eq_false_iff_ne.2 h0
    go_wp2
    go_ret
    exact ⟨by rw [← HF.out]; rfl, HG.out⟩
set_option maxRecDepth 100000 in
theorem insert_none (cap : Nat) (w : World) : Calls Tryz.prog 105 #[.slice none 0 cap, .int .i64 0, .int .i64 0, .func (.func 64) #[] #[]] w fun e w' => e = .returned (.tuple #[]) ∧ w = w' := by
  go_enter Tryz.func105, Tryz.ntmps105
  go_wp2_with fail
  go_loop [8] (fun i => i = .int .i64 1) (fun _ => 0)
  case atStart => rfl
  case round =>
    subst hrel
    go_wp2
    go_end0
    exact ⟨rfl, rfl⟩
set_option maxRecDepth 100000 in
theorem pdq_none (cap : Nat) (w : World) (l : Int) : Calls Tryz.prog 91 #[.slice none 0 cap, .int .i64 0, .int .i64 0, .int .i64 l, .func (.func 64) #[] #[]] w fun e w' => e = .returned (.tuple #[]) ∧ w = w' := by
  go_enter Tryz.func91, Tryz.ntmps91
  go_wp2_with fail
  go_loop [1, 2] (fun x y => x = .int .i64 0 ∧ y = .int .i64 0) (fun _ _ => 0)
  case atStart => exact ⟨rfl, rfl⟩
  case round =>
    obtain ⟨rfl, rfl⟩ := hrel
    go_wp2_with (go_at_call 105; refine (insert_none _ _).mono ?_; rintro e w' ⟨rfl, rfl⟩)
    refine ⟨rfl, .tuple #[], ?_, rfl, rfl⟩
    simp [results, Tryz.results91, go_sem]
set_option maxRecDepth 100000 in
theorem sort_none (cap : Nat) (w : World) : Calls Tryz.prog 63 #[.slice none 0 cap, .func (.func 64) #[] #[]] w fun e w' => e = .returned (.tuple #[]) ∧ w = w' := by
  have HB := Lib.hid (Tryz.bits_Len 0 w (by omega) (by omega))
  go_enter Tryz.func63, Tryz.ntmps63
  go_wp2_with (first | (go_at_call 92; refine HB.out.mono ?_; rintro e w' ⟨rfl, rfl⟩) | (go_at_call 91; refine (pdq_none _ _ _).mono ?_; rintro e w' ⟨rfl, rfl⟩))
  go_end0
  exact ⟨rfl, rfl⟩
theorem cmpLaysA (blk off size : Nat) (w : World) : CmpLays Tryz.prog 64 #[] encT 9 cmpA blk off size w :=
  fun _ _ _ _ x y => apart1_any x y _
theorem toTl : ∀ xs : List Pk.Tb, (∀ x ∈ xs, 0 ≤ x.lv ∧ x.lv ≤ 1000) → ∃ l : List Tl, l.map (·.1) = xs
  | [], _ => ⟨[], rfl⟩
  | x :: r, h => by
    obtain ⟨l, hl⟩ := toTl r (fun y hy => h y (by simp [hy]))
    exact ⟨⟨x, h x (by simp)⟩ :: l, by simp [hl]⟩
theorem flatA (d : Array Tl) : (Sort.flatK encT 9 d).toList = Pk.flat (d.toList.map (·.1)) := by
  have hl : (Pk.flat (d.toList.map (·.1))).length = d.size * 9 := by
    unfold Pk.flat
    rw [List.length_flatMap, List.map_map]
    have : ∀ l : List Tl, (l.map ((fun a => (Pk.Tb.cells a).length) ∘ fun x => x.1)).sum = l.length * 9 := by
      intro l
      induction l with
      | nil => rfl
      | cons x r ih => rw [List.map_cons, List.sum_cons, ih, List.length_cons]; show 9 + _ = _; omega
    rw [this]; simp
  apply List.ext_getElem?
  intro t
  rw [Array.getElem?_toList]
  by_cases ht : t < d.size * 9
  · have h1 := Sort.get_flatK encT 9 d t ht
    have hs : t < (Sort.flatK encT 9 d).size := by simpa using ht
    rw [getElem!_pos _ t hs] at h1
    rw [Array.getElem?_eq_getElem hs, h1]
    have hi : t / 9 < d.size := by omega
    have hx : d[t / 9]! = d[t / 9] := getElem!_pos d _ hi
    rw [hx]
    have hm : (d.toList.map (·.1))[t / 9]? = some d[t / 9].1 := by simp [hi]
    have hj : t % 9 < (encT d[t / 9]).length := by show t % 9 < 9; omega
    have h2 := Pk.flatMap_at (f := Pk.Tb.cells) (s := 9) (fun _ => rfl) (j := t % 9) (v := (encT d[t / 9])[t % 9]) hm (List.getElem?_eq_getElem hj)
    rw [show t / 9 * 9 + t % 9 = t by omega] at h2
    rw [show Pk.flat (d.toList.map (·.1)) = (d.toList.map (·.1)).flatMap Pk.Tb.cells from rfl, h2]
    rw [getElem!_pos (encT d[t / 9]) (t % 9) hj]
  · rw [Array.getElem?_eq_none (by simp; omega), List.getElem?_eq_none (by rw [hl]; omega)]
set_option maxRecDepth 100000 in
theorem sort_tabs (A : Option Addr) (base n cap : Nat) (xs : List Pk.Tb) (w : World) (hl : xs.length = n) (h : OwnC 9 w base 35 A n cap (Pk.flat xs)) (hx : ∀ x ∈ xs, 0 ≤ x.lv ∧ x.lv ≤ 1000) (hn : n ≤ 1000000) :
    Calls Tryz.prog 63 #[.slice A n cap, .func (.func 64) #[] #[]] w fun e w' => e = .returned (.tuple #[]) ∧ ∃ ys : List Pk.Tb, ys.Perm xs ∧ ys.Pairwise (fun a b => ¬ ahead b a) ∧ OwnC 9 w' base 35 A n cap (Pk.flat ys) ∧ w.grownBy w' (Value.slice A n cap).ownBlock := by
  by_cases hA : A = none
  · subst hA
    have hn0 : n = 0 ∧ cap = 0 := by
      rcases h.2 with ⟨hv, h0⟩ | ⟨g, c, cur, hv, _⟩
      · injection hv with _ _ hc; exact ⟨h0, hc⟩
      · cases hv
    obtain ⟨rfl, rfl⟩ := hn0
    refine (sort_none 0 w).mono ?_
    rintro e w' ⟨rfl, rfl⟩
    have hx0 : xs = [] := List.eq_nil_of_length_eq_zero hl
    exact ⟨rfl, xs, List.Perm.refl _, by rw [hx0]; exact List.Pairwise.nil, h, World.grownBy.refl _ _⟩
  · obtain ⟨h1, h2⟩ := h
    rcases h2 with ⟨hv, h0⟩ | ⟨g, c, cur, hv, hb, hg, hnc, hc, hs, ht⟩
    · injection hv with hv; exact absurd hv hA
    · injection hv with hA' _ hc'
      subst hA' hc'
      obtain ⟨l, hl2⟩ := toTl xs hx
      have hd : (Sort.flatK encT 9 l.toArray).toList = Pk.flat xs := by rw [flatA]; simp [hl2]
      have hdn : l.toArray.size = n := by have : l.length = xs.length := by rw [← hl2]; simp
                                          simp; omega
      have hH : Sort.HoldsK encT 9 w g 0 l.toArray := by
        intro j hj
        rw [Nat.zero_add]
        have hj2 : j < n * 9 := by have := hj; rw [Sort.size_flatK, hdn] at this; exact this
        have e1 : (Sort.flatK encT 9 l.toArray)[j]? = cur[j]? := by
          rw [← Array.getElem?_toList, ← Array.getElem?_toList, hd, ← ht, List.getElem?_take, if_pos hj2]
        refine ⟨?_, frozen_of_row _ _ _ _ _ hg⟩
        refine (cell_of_row _ _ _ _ _ _ hg).trans ?_
        rw [← e1, Array.getElem?_eq_getElem hj, getElem!_pos _ j hj]
        rfl
      have eg : ∀ args w, (callFunc 64 args).run Tryz.prog w = .ok (.enter 64 args) w := enters_of Tryz.func64 (by kernel_rfl) rfl
      have hcon := AnyQ.slices_SortFunc Tryz.sortTabs 9 Tryz.isAgg35 Tryz.sizeOf35 encT (fun _ => rfl) (fun x v hv => Pk.cells_one x.1 v hv) cmpA swoA 64 #[] g 0 cap l.toArray w eg (cmpLaysA g 0 l.toArray.size w) hH (Array.getElem?_eq_some_iff.1 hg).1 (by omega)
      rw [hdn] at hcon
      refine hcon.mono ?_
      rintro e w' ⟨he, d', m, os, ⟨hps, _, hp⟩, hsd, rfl⟩
      have hsz : d'.size = n := by rw [hps, hdn]
      have hp2 : d'.toList.Perm l := by
        have a1 : d'.extract 0 n = d' := by rw [← hsz]; exact Array.extract_size
        have a2 : l.toArray.extract 0 n = l.toArray := by rw [← hdn]; exact Array.extract_size
        rw [a1, a2] at hp
        exact hp
      refine ⟨he, d'.toList.map (·.1), by rw [← hl2]; exact hp2.map _, ?_, ⟨by rw [← flatA]; simp [hsz], .inr ⟨g, cap, Sort.putCells id 0 (Sort.flatK encT 9 d') cur, rfl, hb, ?_, hnc, hc, by simp [Sort.putCells, hs], ?_⟩⟩, ?_⟩
      · rw [List.pairwise_map, List.pairwise_iff_getElem]
        intro i j hi hj hij
        have hi' : i < d'.size := by simpa using hi
        have hj' : j < d'.size := by simpa using hj
        have := hsd i j (Nat.zero_le _) hij (by omega)
        rw [getElem!_pos _ i hi', getElem!_pos _ j hj', ← Bool.not_eq_true, ltA] at this
        simpa using this
      · have hgs : g < (Sort.putRow id (Sort.ahead w m) g 0 (Sort.flatK encT 9 d')).heap.size := by
          rw [Sort.size_putRow]
          exact (Array.getElem?_eq_some_iff.1 hg).1
        show (Sort.grow (Sort.putRow id (Sort.ahead w m) g 0 (Sort.flatK encT 9 d')) os).heap[g]? = _
        rw [Sort.heap_grow_old _ _ hgs]
        show ((Sort.ahead w m).heap.modify g _)[g]? = _
        rw [Array.getElem?_modify]
        have : (Sort.ahead w m).heap[g]? = w.heap[g]? := rfl
        rw [this, hg]
        simp [Sort.onCells]
      · have e1 : (Sort.putCells id 0 (Sort.flatK encT 9 d') cur).toList.take (n * 9) = (Sort.flatK encT 9 d').toList := by
          apply List.ext_getElem?
          intro j
          rw [List.getElem?_take]
          have hF : (Sort.flatK encT 9 d').size = n * 9 := by rw [Sort.size_flatK, hsz]
          by_cases hj : j < n * 9
          · rw [if_pos hj, Array.getElem?_toList, Array.getElem?_toList]
            have hcj : j < cur.size := by
              have : n * 9 ≤ cap * 9 := Nat.mul_le_mul_right 9 hnc
              omega
            have hjF : j < (Sort.flatK encT 9 d').size := by rw [hF]; exact hj
            have e3 : (Sort.flatK encT 9 d')[j]? = some (Sort.flatK encT 9 d')[j]! := by rw [getElem!_pos _ j hjF, Array.getElem?_eq_getElem hjF]
            rw [e3]
            simp only [Sort.putCells, Array.getElem?_mapIdx, Array.getElem?_eq_getElem hcj, Option.map_some]
            rw [if_pos ⟨Nat.zero_le _, by omega⟩, Nat.sub_zero]
            rfl
          · rw [if_neg hj, List.getElem?_eq_none (by simp [hsz]; omega)]
        rw [e1, flatA]
      · have hsz2 : w.heap.size ≤ (Sort.grow (Sort.putRow id (Sort.ahead w m) g 0 (Sort.flatK encT 9 d')) os).heap.size := by
          have : (Sort.putRow id (Sort.ahead w m) g 0 (Sort.flatK encT 9 d')).heap.size = w.heap.size := Sort.size_putRow _ _ _ _ _
          simp only [Sort.grow, Array.size_append]
          omega
        refine ⟨rfl, rfl, rfl, hsz2, fun k hk hne => ?_⟩
        have hks : k < (Sort.putRow id (Sort.ahead w m) g 0 (Sort.flatK encT 9 d')).heap.size := by
          rw [Sort.size_putRow]
          exact hk
        show (Sort.grow (Sort.putRow id (Sort.ahead w m) g 0 (Sort.flatK encT 9 d')) os).heap[k]? = _
        rw [Sort.heap_grow_old _ _ hks]
        show ((Sort.ahead w m).heap.modify g _)[k]? = _
        have hkg : ¬ g = k := fun e => hne (by rw [← e]; rfl)
        rw [Array.getElem?_modify, if_neg hkg]
        rfl
end Go.Proofs.YthfcjlndaajkfaaGreat
namespace Go.Proofs.YthfcjlndaajkfaaGreat
open Go.RowKit
set_option linter.unusedVariables false
/-- Have two tables of one level, from 1 on, keys between one another's ends? -/
def clashT (a b : Pk.Tb) : Bool := decide (0 < a.lv) && decide (b.lv = a.lv) && (!Pk.lt b.hi a.lo && !Pk.lt a.hi b.lo)
theorem clashT_symm {a b : Pk.Tb} (h : clashT a b = false) : clashT b a = false := by
  rw [← Bool.not_eq_true] at *
  intro e
  apply h
  unfold clashT at *
  simp only [Bool.and_eq_true, decide_eq_true_eq] at *
  obtain ⟨⟨h1, h2⟩, h3, h4⟩ := e
  exact ⟨⟨by omega, h2.symm⟩, h4, h3⟩
theorem apartB_pairs (M : List (Pk.Tb × List (Int × Int))) : Ed.apartB (M.map Ed.taOf) = true ↔ (M.map (·.1)).Pairwise fun a b => clashT a b = false := by
  rw [Ed.apartB_iff, List.pairwise_iff_getElem]
  constructor
  · intro h i j hi hj hij
    have hi' : i < M.length := by simpa using hi
    have hj' : j < M.length := by simpa using hj
    have h1 := h j i (Ed.taOf M[j]) (Ed.taOf M[i]) hij (by simp [hj']) (by simp [hi'])
    simpa using clashT_symm (a := M[j].1) (b := M[i].1) h1
  · intro h i k a b hk ha hb
    obtain ⟨hi, e1⟩ := List.getElem?_eq_some_iff.1 ha
    obtain ⟨hk2, e2⟩ := List.getElem?_eq_some_iff.1 hb
    have hi' : i < M.length := by simpa using hi
    have hk' : k < M.length := by simpa using hk2
    have h1 := h k i (by simpa using hk') (by simpa using hi') hk
    rw [← e1, ← e2]
    rw [List.getElem_map, List.getElem_map] at h1 ⊢
    exact clashT_symm h1
/-- A neighbour that is met: of a level, from 1 on, with a lowest key up to the highest ahead. -/
def meets (x y : Pk.Tb) : Bool := decide (0 < y.lv) && decide (x.lv = y.lv) && !Pk.lt x.hi y.lo
theorem meets_no {ys : List Pk.Tb} {i : Nat} {x y : Pk.Tb} (hx : ys[i]? = some x) (hy : ys[i + 1]? = some y) (hs : ys.Pairwise fun a b => ¬ ahead b a) (hk : ∀ t ∈ ys, Pk.lt t.hi t.lo = false) (hm : meets x y = true) : ¬ ys.Pairwise fun a b => clashT a b = false := by
  intro h
  rw [List.pairwise_iff_getElem] at h hs
  obtain ⟨hi, e1⟩ := List.getElem?_eq_some_iff.1 hx
  obtain ⟨hj, e2⟩ := List.getElem?_eq_some_iff.1 hy
  have h1 := h i (i + 1) hi hj (by omega)
  have h2 := hs i (i + 1) hi hj (by omega)
  rw [e1, e2] at h1 h2
  unfold meets at hm
  simp only [Bool.and_eq_true, decide_eq_true_eq] at hm
  obtain ⟨⟨m1, m2⟩, m3⟩ := hm
  have h3 : Pk.lt y.lo x.lo = false := by
    rw [← Bool.not_eq_true, Pk.lt_iff]
    exact fun e => h2 (.inr ⟨m2.symm, e⟩)
  have h4 : Pk.lt y.hi x.lo = false := by
    rw [← Bool.not_eq_true, Pk.lt_iff] at *
    intro e
    have a2 : Pk.kb y.lo ≤ Pk.kb y.hi := List.not_lt.1 (by
      have := hk y (by rw [← e2]; exact List.getElem_mem _)
      rw [← Bool.not_eq_true, Pk.lt_iff] at this
      exact this)
    exact h3 (Std.lt_of_le_of_lt a2 e)
  unfold clashT at h1
  rw [decide_eq_true (by omega), decide_eq_true m2.symm, h4, m3] at h1
  cases h1
theorem meets_all {ys : List Pk.Tb} (hs : ys.Pairwise fun a b => ¬ ahead b a) (h : ∀ (i : Nat) (x y : Pk.Tb), ys[i]? = some x → ys[i + 1]? = some y → meets x y = false) : ys.Pairwise fun a b => clashT a b = false := by
  rw [List.pairwise_iff_getElem] at hs ⊢
  have key : ∀ (d i : Nat) (hi : i < ys.length) (hj : i + d + 1 < ys.length), 0 < ys[i].lv → ys[i + d + 1].lv = ys[i].lv → Pk.lt ys[i].hi ys[i + d + 1].lo = true := by
    intro d
    induction d with
    | zero =>
      intro i hi hj h1 h2
      have := h i _ _ (List.getElem?_eq_getElem hi) (List.getElem?_eq_getElem hj)
      unfold meets at this
      rw [decide_eq_true (by omega), decide_eq_true h2.symm] at this
      simpa using this
    | succ d ih =>
      intro i hi hj h1 h2
      have hm : i + d + 1 < ys.length := by omega
      have s1 := hs i (i + d + 1) hi hm (by omega)
      have s2 := hs (i + d + 1) (i + (d + 1) + 1) hm hj (by omega)
      have l1 : ¬ ys[i + d + 1].lv < ys[i].lv := fun e => s1 (.inl e)
      have l2 : ¬ ys[i + (d + 1) + 1].lv < ys[i + d + 1].lv := fun e => s2 (.inl e)
      have h3 := ih i hi hm h1 (by omega)
      rw [Pk.lt_iff] at h3 ⊢
      have : Pk.kb ys[i + d + 1].lo ≤ Pk.kb ys[i + (d + 1) + 1].lo := List.not_lt.1 fun e => s2 (.inr ⟨by omega, e⟩)
      exact Std.lt_of_lt_of_le h3 this
  intro i j hi hj hij
  obtain ⟨d, rfl⟩ : ∃ d, j = i + d + 1 := ⟨j - i - 1, by omega⟩
  unfold clashT
  by_cases h1 : 0 < ys[i].lv
  · by_cases h2 : ys[i + d + 1].lv = ys[i].lv
    · rw [key d i hi hj h1 h2]; simp
    · rw [decide_eq_false h2]; simp
  · rw [decide_eq_false h1]; simp
set_option maxRecDepth 100000 in
set_option maxHeartbeats 16000000 in
theorem apart_any (B : Option Addr) (m d : Nat) (M : List (Pk.Tb × List (Int × Int))) (w : World) (hM : RdTs w B m M) (hm : m ≤ 128) (hok : ∀ x ∈ M, 0 ≤ x.1.lv ∧ x.1.lv ≤ 1000 ∧ Pk.lt x.1.hi x.1.lo = false) :
    Calls Tryz.prog 35 #[.slice B m d] w fun e w' => e = .returned (.bool (Ed.apartB (M.map Ed.taOf))) ∧ Below w.heap.size w w' := by
  have HC := Lib.hid (clonetable_any B m d _ w hM.1.2.1 (Pk.flat_one _) (by omega))
  have HMl := Lib.hid hM.len
  have HK := Lib.hid hok
  have HT := Lib.hid (apartB_pairs M)
  clear hM hok
  generalize Ed.apartB (M.map Ed.taOf) = ans at *
  go_enter Tryz.func35, Tryz.ntmps35
  go_wp2_with fail
  refine HC.out.mono ?_
  rintro e v ⟨R, rc, rfl, hO, hbv⟩
  have HBv := Lib.hid hbv
  have HS := Lib.hid (sort_tabs R w.heap.size m rc (M.map (·.1)) v (by rw [List.length_map]; exact HMl.out) hO (fun x hx => by
    obtain ⟨y, hy, rfl⟩ := List.mem_map.1 hx
    exact ⟨(HK.out y hy).1, (HK.out y hy).2.1⟩) (by omega))
  have HOv := Lib.hid hO
  clear hO hbv HC
  go_wp2_with fail
  refine HS.out.mono ?_
  rintro e u ⟨rfl, ys, hp, hs, hOu, hg⟩
  have HP := Lib.hid hp
  have HSo := Lib.hid hs
  have HBu := Lib.hid (show Below w.heap.size w u from HBv.out.grown hg HBv.out.size (fun g e => (HOv.out.blk g e).1))
  have HR := Lib.hid hOu.rd
  have HYl := Lib.hid (show ys.length = m by rw [hp.length_eq, List.length_map]; exact HMl.out)
  have HKy := Lib.hid (show ∀ t ∈ ys, Pk.lt t.hi t.lo = false from fun t ht => by
    obtain ⟨y, hy, rfl⟩ := List.mem_map.1 (hp.mem_iff.1 ht)
    exact (HK.out y hy).2.2)
  have HAns := Lib.hid (show ans = true ↔ ys.Pairwise fun a b => clashT a b = false from HT.out.trans (hp.pairwise_iff (fun h => clashT_symm h)).symm)
  clear hp hs hOu hg HS HOv HBv HT HK HMl HP
  go_wp2_with fail
  go_loopw [4] (fun ii wr => ∃ (k : Nat), k ≤ m ∧ ii = .int .i64 ((k : Int) + 1) ∧ Hid (∀ (i : Nat) (x y : Pk.Tb), i < k → ys[i]? = some x → ys[i + 1]? = some y → meets x y = false) ∧ Hid (Below u.heap.size u wr)) (fun ii _ => m + 1 - (intOf ii).toNat)
  case atStart => exact ⟨0, by omega, rfl, Lib.hid (fun i x y h => by omega), Lib.hid (Below.refl _ _)⟩
  case round =>
    obtain ⟨k, hk, rfl, HI, HB⟩ := hrel
    by_cases hlt : k + 1 < m
    · have hki : (k : Int) + 1 < (m : Int) := by omega
      have hki0 : (k : Int) < (m : Int) := by omega
      have hk0 : (0 : Int) ≤ (k : Int) + 1 := by omega
      obtain ⟨x, hx⟩ : ∃ x, ys[k]? = some x := ⟨_, List.getElem?_eq_getElem (by rw [HYl.out]; omega)⟩
      obtain ⟨y, hy⟩ : ∃ y, ys[k + 1]? = some y := ⟨_, List.getElem?_eq_getElem (by rw [HYl.out]; omega)⟩
      have HX := Lib.hid hx
      have HY := Lib.hid hy
      obtain ⟨b, o, hR, hb, hc⟩ := HR.out.2 (by omega)
      have hcx : ∀ (j : Nat) (q : Value), x.cells[j]? = some q → wr.cell? ⟨b, o + (k * 9 + j), none⟩ = some q := fun j q hq => (HB.out.cell hb).trans (hc _ _ (Pk.flatMap_at (f := Pk.Tb.cells) (s := 9) (fun _ => rfl) hx hq))
      have hcy : ∀ (j : Nat) (q : Value), y.cells[j]? = some q → wr.cell? ⟨b, o + ((k + 1) * 9 + j), none⟩ = some q := fun j q hq => (HB.out.cell hb).trans (hc _ _ (Pk.flatMap_at (f := Pk.Tb.cells) (s := 9) (fun _ => rfl) hy hq))
      have HF := Lib.hid (show meets x y = true → false = ans from fun hm => by
        rcases hq : ans with _ | _
        · rfl
        · exact absurd (HAns.out.1 hq) (meets_no hx hy HSo.out HKy.out hm))
      have HN := Lib.hid (show meets x y = false → ∀ (i : Nat) (x y : Pk.Tb), i < k + 1 → ys[i]? = some x → ys[i + 1]? = some y → meets x y = false from fun hm i x' y' hi hx' hy' => by
        by_cases e : i = k
        · subst e
          rw [hx] at hx'; rw [hy] at hy'
          injection hx' with hx'; injection hy' with hy'
          rw [← hx', ← hy']; exact hm
        · exact HI.out i x' y' (by omega) hx' hy')
      clear hc hx hy hb
      subst hR
      obtain ⟨id, ep, P, pn, pc, sz, lv, ct, lo, hi, tp⟩ := x
      obtain ⟨id2, ep2, P2, pn2, pc2, sz2, lv2, ct2, lo2, hi2, tp2⟩ := y
      have x4 : wr.cell? ⟨b, o + k * 9 + 4, none⟩ = some (.int .i64 lv) := hcx 4 _ rfl
      have x7 : wr.cell? ⟨b, o + k * 9 + 7, none⟩ = some (.string hi) := hcx 7 _ rfl
      have y4 : wr.cell? ⟨b, o + (k + 1) * 9 + 4, none⟩ = some (.int .i64 lv2) := hcy 4 _ rfl
      have y6 : wr.cell? ⟨b, o + (k + 1) * 9 + 6, none⟩ = some (.string lo2) := hcy 6 _ rfl
      clear hcx hcy
      have hme : meets ⟨id, ep, P, pn, pc, sz, lv, ct, lo, hi, tp⟩ ⟨id2, ep2, P2, pn2, pc2, sz2, lv2, ct2, lo2, hi2, tp2⟩ = (decide (0 < lv2) && decide (lv = lv2) && !Pk.lt hi lo2) := rfl
      have hle := Pk.le_eq lo2 hi
      rw [hme] at HF HN
      clear hme
      generalize Pk.lt hi lo2 = q1 at *
      by_cases h1 : 0 < lv2
      · have d1 : decide (0 < lv2) = true := decide_eq_true h1
        rw [d1] at HF HN
        by_cases h2 : lv = lv2
        · have d2 : (lv == lv2) = true := by simp [h2]
          rw [decide_eq_true h2] at HF HN
          cases q1 with
          | false =>
            have l1 : (Op.bytesLess lo2.toList hi.toList || lo2.toList == hi.toList) = true := hle
            have HF2 := Lib.hid (HF.out rfl)
            clear hle h2
            go_wp2_with fail
            go_big_quiet (fail)
            go_wp2
            go_ret
            exact ⟨by rw [← HF2.out]; rfl, below_drewN (below_next HBu.out HB.out) _⟩
          | true =>
            have l1 : (Op.bytesLess lo2.toList hi.toList || lo2.toList == hi.toList) = false := hle
            have HN2 := Lib.hid (HN.out rfl)
            clear hle h2
            go_wp2_with fail
            go_big_quiet (fail)
            go_wp2
            go_roundw
            case rel => exact ⟨k + 1, by omega, by go_num, HN2, Lib.hid (below_drewN HB.out _)⟩
            case measure => simp [intOf]; omega
        · have d2 : (lv == lv2) = false := beq_eq_false_iff_ne.2 h2
          rw [decide_eq_false h2] at HN
          have HN2 := Lib.hid (HN.out rfl)
          clear hle h2
          go_wp2_with fail
          go_big_quiet (fail)
          go_wp2
          go_roundw
          case rel => exact ⟨k + 1, by omega, by go_num, HN2, Lib.hid (below_drewN HB.out _)⟩
          case measure => simp [intOf]; omega
      · have d1 : decide (0 < lv2) = false := decide_eq_false h1
        rw [d1] at HN
        have HN2 := Lib.hid (HN.out rfl)
        clear hle
        go_wp2_with fail
        go_big_quiet (fail)
        go_wp2
        go_roundw
        case rel => exact ⟨k + 1, by omega, by go_num, HN2, Lib.hid (below_drewN HB.out _)⟩
        case measure => simp [intOf]; omega
    · have hki : ¬ (k : Int) + 1 < (m : Int) := by omega
      have HF := Lib.hid (show true = ans from (HAns.out.2 (meets_all HSo.out (fun i x y hx hy => HI.out i x y (by have := (List.getElem?_eq_some_iff.1 hy).1; rw [HYl.out] at this; omega) hx hy))).symm)
      clear hlt
      go_wp2
      go_ret
      exact ⟨by rw [← HF.out]; rfl, below_next HBu.out HB.out⟩
end Go.Proofs.YthfcjlndaajkfaaGreat
namespace Go.Proofs.YthfcjlndaajkfaaGreat
open Go.RowKit
namespace Ed
theorem okU_eq (v : Ve) : okU v.nx (v.ls.map (·.p) ++ v.ts.map (·.p)) = (v.ids.all (fun x => decide (x < v.nx)) && decide v.ids.Nodup && decide v.plots.Nodup) := by
  have e1 : (v.ls.map (·.p) ++ v.ts.map (·.p)).map (·.id) = v.ids := by unfold Ve.ids; rw [List.map_append, List.map_map, List.map_map]; rfl
  have e2 : ((v.ls.map (·.p) ++ v.ts.map (·.p)).map fun p => fl p.ps).flatten = v.plots := by unfold Ve.plots; rw [List.map_append, List.map_map, List.map_map, List.flatten_append]; rfl
  have e3 : (v.ls.map (·.p) ++ v.ts.map (·.p)).all (fun p => decide (p.id < v.nx)) = v.ids.all (fun x => decide (x < v.nx)) := by rw [← e1, List.all_map]; rfl
  have e4 : decide (keys (v.ls.map (·.p) ++ v.ts.map (·.p))).Nodup = (decide v.ids.Nodup && decide v.plots.Nodup) := by
    rw [← e1, ← e2, Bool.eq_iff_iff, Bool.and_eq_true, decide_eq_true_iff, decide_eq_true_iff, decide_eq_true_iff]
    exact keys_nodup _
  unfold okU
  rw [e3, e4, Bool.and_assoc]
theorem ok_eq (v : Ve) : v.ok = (from_ v.nx 1 2147483647 && from_ v.sq 0 1099511627776 && decide (v.ls.length ≤ 32) && decide (v.ts.length ≤ 128) && okLs v.ls && okTs v.sq v.ts && okU v.nx (v.ls.map (·.p) ++ v.ts.map (·.p)) && apartB v.ts) := by
  rw [okU_eq]
  unfold Ve.ok head
  simp only [Bool.and_assoc]
theorem okP_q {p : Pl} (h : p.ok = true) : Q64 p.id ∧ p.ps.length ≤ 64 ∧ ∀ z ∈ fl p.ps, Q64 z := by
  unfold Pl.ok okP at h
  simp only [Bool.and_eq_true, from_iff, List.all_eq_true] at h
  obtain ⟨⟨⟨⟨h1, h2⟩, h3⟩, h4⟩, h5⟩ := h
  refine ⟨by unfold Q64; omega, by omega, fun z hz => ?_⟩
  have := h4 z hz
  unfold Q64; omega
theorem okT_q {t : Ta} (h : t.ok = true) : t.p.ok = true ∧ 0 ≤ t.lv ∧ t.lv ≤ 1000 ∧ Pk.lt t.hi t.lo = false := by
  unfold Ta.ok okT at h
  simp only [Bool.and_eq_true, from_iff, Bool.not_eq_true'] at h
  obtain ⟨⟨⟨⟨⟨⟨⟨h1, h2⟩, h3⟩, h4⟩, h5⟩, h6⟩, h7⟩, h8⟩ := h
  exact ⟨h1, by omega, by omega, h8⟩
theorem okLs_q {L : List Lo} (h : okLs L = true) : ∀ l ∈ L, l.p.ok = true := by
  intro l hl
  obtain ⟨i, hi⟩ := List.getElem?_of_mem hl
  have h1 := okLs_at h (List.getElem?_eq_some_iff.1 hi).1
  rw [lokAt_eq hi] at h1
  simp only [Bool.and_eq_true] at h1
  exact h1.1.1
theorem okTs_q {s : Int} {L : List Ta} (h : okTs s L = true) : ∀ t ∈ L, t.ok = true := by
  intro l hl
  obtain ⟨i, hi⟩ := List.getElem?_of_mem hl
  have h1 := okTs_at h (List.getElem?_eq_some_iff.1 hi).1
  rw [tokAt_eq hi] at h1
  simp only [Bool.and_eq_true] at h1
  exact h1.1.1
/-- How little the last log's seal may be. -/
theorem lok_last {L : List Lo} {k : Nat} {l : Lo} (h : L[k]? = some l) (hk : k + 1 = L.length) : lokAt L k = (l.p.ok && from_ l.se (-1) 1099511627776 && decide (before (L.map (·.p.id)) k < l.p.id)) := by
  rw [lokAt_eq h, decide_eq_true hk, Bool.true_and]
  have : (decide (l.se = -1) || from_ l.se 0 1099511627776) = from_ l.se (-1) 1099511627776 := by
    rw [Bool.eq_iff_iff, Bool.or_eq_true, decide_eq_true_iff, from_iff, from_iff]
    omega
  rw [this]
theorem lok_ahead {L : List Lo} {k : Nat} {l : Lo} (h : L[k]? = some l) (hk : ¬ k + 1 = L.length) : lokAt L k = (l.p.ok && from_ l.se 0 1099511627776 && decide (before (L.map (·.p.id)) k < l.p.id)) := by
  rw [lokAt_eq h, decide_eq_false hk, Bool.false_and, Bool.false_or]
end Ed
end Go.Proofs.YthfcjlndaajkfaaGreat
namespace Go.Proofs.YthfcjlndaajkfaaGreat
open Go.RowKit
namespace Ed
/-- An edit, as memory holds it. -/
structure Er where
  kd : Int
  id : Int
  nn : Int
  pid : Int
  pep : Int
  P : Option Addr
  pn : Nat
  pc : Nat
  t : Pk.Tb
def Er.cells (x : Er) : List Value := [.int .i64 x.kd, .int .i64 x.id, .int .i64 x.nn, .int .i64 x.pid, .int .i64 x.pep, .slice x.P x.pn x.pc, .int .i64 x.t.id, .int .i64 x.t.ep, .slice x.t.P x.t.pn x.t.pc, .int .i64 x.t.sz, .int .i64 x.t.lv, .int .i64 x.t.ct, .string x.t.lo, .string x.t.hi, .int .i64 x.t.tp]
def eflat (l : List Er) : List Value := l.flatMap Er.cells
abbrev Ex := Er × (List (Int × Int) × List (Int × Int))
def etOf (x : Ex) : Et := ⟨x.1.kd, x.1.id, x.1.nn, ⟨x.1.pid, x.1.pep, x.2.1⟩, taOf (x.1.t, x.2.2)⟩
/-- What is known of an edit in memory: its pairs, its texts. -/
def ExOk (w : World) (x : Ex) : Prop := PairsOk w x.1.P x.1.pn x.1.pc x.2.1 ∧ PairsOk w x.1.t.P x.1.t.pn x.1.t.pc x.2.2 ∧ x.1.t.fits
theorem ExOk.below {w w' : World} {x : Ex} (h : ExOk w x) (hb : Below w.heap.size w w') : ExOk w' x := ⟨h.1.below hb, h.2.1.below hb, h.2.2⟩
/-- The numbers of a version's logs, and tables, stand in order. -/
structure Sane (v : Ve) : Prop where
  ls : (v.ls.map (·.p.id)).Pairwise (· < ·)
  lb : ∀ y ∈ v.ls.map (·.p.id), 0 ≤ y ∧ y ≤ 2147483647
  ts : (v.ts.map (·.p.id)).Pairwise (· < ·)
  tb : ∀ y ∈ v.ts.map (·.p.id), 0 ≤ y ∧ y ≤ 2147483647
theorem sorted_of {l : List Int} (h : ∀ i x, l[i]? = some x → before l i < x) : l.Pairwise (· < ·) := by
  rw [List.pairwise_iff_getElem]
  have key : ∀ (d i : Nat) (hi : i < l.length) (hj : i + d + 1 < l.length), l[i] < l[i + d + 1] := by
    intro d
    induction d with
    | zero =>
      intro i hi hj
      have := h (i + 1) _ (List.getElem?_eq_getElem hj)
      rwa [before_succ (List.getElem?_eq_getElem hi)] at this
    | succ d ih =>
      intro i hi hj
      have h1 := ih i hi (by omega)
      have h2 := h (i + d + 1 + 1) _ (List.getElem?_eq_getElem hj)
      rw [before_succ (List.getElem?_eq_getElem (by omega))] at h2
      have : l[i + (d + 1) + 1] = l[i + d + 1 + 1] := rfl
      omega
  intro i j hi hj hij
  obtain ⟨d, rfl⟩ : ∃ d, j = i + d + 1 := ⟨j - i - 1, by omega⟩
  exact key d i hi hj
theorem pl_id {p : Pl} (h : p.ok = true) : 1 ≤ p.id ∧ p.id ≤ 2147483647 := by
  unfold Pl.ok okP at h
  simp only [Bool.and_eq_true, from_iff] at h
  exact h.1.1.1.1
theorem Sane.of_ok {v : Ve} (h : v.ok = true) : Sane v := by
  rw [ok_eq] at h
  simp only [Bool.and_eq_true] at h
  have hL := h.1.1.1.2
  have hT := h.1.1.2
  refine ⟨sorted_of fun i x hx => ?_, fun y hy => ?_, sorted_of fun i x hx => ?_, fun y hy => ?_⟩
  · rw [List.getElem?_map] at hx
    obtain ⟨l, hl, rfl⟩ := Option.map_eq_some_iff.1 hx
    have h1 := okLs_at hL (List.getElem?_eq_some_iff.1 hl).1
    rw [lokAt_eq hl] at h1
    simp only [Bool.and_eq_true, decide_eq_true_eq] at h1
    exact h1.2
  · obtain ⟨l, hl, rfl⟩ := List.mem_map.1 hy
    have := pl_id (okLs_q hL l hl)
    omega
  · rw [List.getElem?_map] at hx
    obtain ⟨l, hl, rfl⟩ := Option.map_eq_some_iff.1 hx
    have h1 := okTs_at hT (List.getElem?_eq_some_iff.1 hl).1
    rw [tokAt_eq hl] at h1
    simp only [Bool.and_eq_true, decide_eq_true_eq] at h1
    exact h1.2
  · obtain ⟨l, hl, rfl⟩ := List.mem_map.1 hy
    have := pl_id (okT_q (okTs_q hT l hl)).1
    omega
theorem put_map {α β : Type} (f : α → β) (L : List α) (k : Nat) (x : α) : (put L k x).map f = put (L.map f) k (f x) := by unfold put; rw [List.map_append, List.map_cons, List.map_take, List.map_drop]
theorem cut_map {α β : Type} (f : α → β) (L : List α) (k : Nat) : (cut L k).map f = cut (L.map f) k := by unfold cut; rw [List.map_append, List.map_take, List.map_drop]
theorem cut_sub {α : Type} (L : List α) (k : Nat) : (cut L k).Sublist L := by
  unfold cut
  have h := (List.Sublist.refl (L.take k)).append (List.drop_sublist_drop_left L (Nat.le_succ k))
  rwa [List.take_append_drop] at h
theorem put_mem {α : Type} {L : List α} {k : Nat} {x y : α} (h : y ∈ put L k x) : y = x ∨ y ∈ L := by
  unfold put at h
  rcases List.mem_append.1 h with h | h
  · exact .inr (List.mem_of_mem_take h)
  · rcases List.mem_cons.1 h with h | h
    · exact .inl h
    · exact .inr (List.mem_of_mem_drop h)
theorem put_sorted : ∀ {ids : List Int} {x : Int}, ids.Pairwise (· < ·) → x ∉ ids → (put ids (pos ids x) x).Pairwise (· < ·)
  | [], x, _, _ => by simp [put, pos]
  | y :: r, x, h, hx => by
    rw [List.pairwise_cons] at h
    by_cases hy : y < x
    · have e : put (y :: r) (pos (y :: r) x) x = y :: put r (pos r x) x := by
        unfold put pos
        rw [List.takeWhile_cons, if_pos (by simp [hy])]
        rfl
      rw [e, List.pairwise_cons]
      refine ⟨fun z hz => ?_, put_sorted h.2 (fun hm => hx (List.mem_cons_of_mem _ hm))⟩
      rcases put_mem hz with rfl | hz
      · exact hy
      · exact h.1 z hz
    · have e : put (y :: r) (pos (y :: r) x) x = x :: y :: r := by
        unfold put pos
        rw [List.takeWhile_cons, if_neg (by simp [hy])]
        rfl
      have hxy : x < y := by
        have : x ≠ y := fun e => hx (by rw [e]; exact List.mem_cons_self ..)
        omega
      rw [e, List.pairwise_cons]
      refine ⟨fun z hz => ?_, List.pairwise_cons.2 h⟩
      rcases List.mem_cons.1 hz with rfl | hz
      · exact hxy
      · have := h.1 z hz; omega
theorem find_none {ids : List Int} {x : Int} (h : find ids x = none) : x ∉ ids := by
  unfold find at h
  rw [List.findIdx?_eq_none_iff] at h
  intro hm
  have := h x hm
  simp at this
theorem put_len {α : Type} (L : List α) (k : Nat) (x : α) : (put L k x).length = L.length + 1 := by
  unfold put
  rw [List.length_append, List.length_cons, List.length_take, List.length_drop]
  omega
theorem cut_len {α : Type} (L : List α) (k : Nat) : (cut L k).length ≤ L.length := (cut_sub L k).length_le
theorem kinds {e : Et} (h : e.ok = true) : e.kd = 1 ∨ e.kd = 2 ∨ e.kd = 3 ∨ e.kd = 4 ∨ e.kd = 5 ∨ e.kd = 6 ∨ e.kd = 7 := by
  unfold Et.ok at h
  repeat' split at h
  all_goals first | omega | cases h
theorem ok3 {e : Et} (h : e.ok = true) (hk : e.kd = 3) : e.p.ok = true := by
  unfold Et.ok at h
  rw [hk, if_neg (by decide), if_neg (by decide), if_pos rfl] at h
  simp only [Bool.and_eq_true] at h
  exact h.1.1.1
theorem ok6 {e : Et} (h : e.ok = true) (hk : e.kd = 6) : e.t.ok = true := by
  unfold Et.ok at h
  rw [hk, if_neg (by decide), if_neg (by decide), if_neg (by decide), if_neg (by decide), if_neg (by decide), if_pos rfl] at h
  simp only [Bool.and_eq_true] at h
  exact h.1.1.1
theorem ok4 {e : Et} (h : e.ok = true) (hk : e.kd = 4) : -9223372036854775808 ≤ e.n ∧ e.n ≤ 9223372036854775807 := by
  unfold Et.ok at h
  rw [hk, if_neg (by decide), if_neg (by decide), if_neg (by decide), if_pos rfl] at h
  have h1 : from_ e.n 0 1099511627776 = true := by
    simp only [Bool.and_eq_true] at h
    exact h.1.1.2
  rw [from_iff] at h1
  omega
theorem ok5 {e : Et} (h : e.ok = true) (hk : e.kd = 5) : -9223372036854775808 ≤ e.n ∧ e.n ≤ 9223372036854775807 := by
  unfold Et.ok at h
  rw [hk, if_neg (by decide), if_neg (by decide), if_neg (by decide), if_neg (by decide), if_pos rfl] at h
  have h1 : e.n = 0 := by
    simp only [Bool.and_eq_true, decide_eq_true_eq] at h
    exact h.1.1.2
  omega
theorem Sane.do1 {v v' : Ve} {e : Et} (h : Sane v) (ho : e.ok = true) (hd : do1 v e = some v') : Sane v' ∧ v'.ls.length ≤ v.ls.length + 1 ∧ v'.ts.length ≤ v.ts.length + 1 := by
  unfold Ed.do1 at hd
  split at hd
  · split at hd
    · injection hd with hd; subst hd; exact ⟨⟨h.ls, h.lb, h.ts, h.tb⟩, Nat.le_succ _, Nat.le_succ _⟩
    · cases hd
  split at hd
  · split at hd
    · injection hd with hd; subst hd; exact ⟨⟨h.ls, h.lb, h.ts, h.tb⟩, Nat.le_succ _, Nat.le_succ _⟩
    · cases hd
  split at hd
  · rename_i hk
    split at hd
    · cases hd
    · rename_i hf
      injection hd with hd; subst hd
      refine ⟨⟨?_, ?_, h.ts, h.tb⟩, Nat.le_of_eq (put_len _ _ _), Nat.le_succ _⟩
      · dsimp only; rw [put_map]; exact put_sorted h.ls (find_none hf)
      · dsimp only; rw [put_map]
        intro y hy
        rcases put_mem hy with rfl | hy
        · have := pl_id (ok3 ho hk); exact ⟨by show 0 ≤ e.p.id; omega, by show e.p.id ≤ _; omega⟩
        · exact h.lb y hy
  split at hd
  · split at hd
    · cases hd
    · split at hd
      · cases hd
      · rename_i k _ _ l hl
        split at hd
        · injection hd with hd; subst hd
          have e1 : (v.ls.set k ⟨l.p, e.n⟩).map (·.p.id) = v.ls.map (·.p.id) := by
            rw [List.map_set]
            refine List.ext_getElem? fun i => ?_
            rw [List.getElem?_set]
            split
            · rename_i hi; subst hi
              rw [List.length_map, List.getElem?_map, hl]
              rw [if_pos (List.getElem?_eq_some_iff.1 hl).1]; rfl
            · rfl
          refine ⟨⟨by dsimp only; rw [e1]; exact h.ls, by dsimp only; rw [e1]; exact h.lb, h.ts, h.tb⟩, by dsimp only; rw [List.length_set]; exact Nat.le_succ _, Nat.le_succ _⟩
        · cases hd
  split at hd
  · split at hd
    · cases hd
    · injection hd with hd; subst hd
      refine ⟨⟨?_, ?_, h.ts, h.tb⟩, Nat.le_trans (cut_len _ _) (Nat.le_succ _), Nat.le_succ _⟩
      · dsimp only; rw [cut_map]; exact h.ls.sublist (cut_sub _ _)
      · dsimp only; rw [cut_map]; exact fun y hy => h.lb y ((cut_sub _ _).mem hy)
  split at hd
  · rename_i hk
    split at hd
    · cases hd
    · rename_i hf
      injection hd with hd; subst hd
      refine ⟨⟨h.ls, h.lb, ?_, ?_⟩, Nat.le_succ _, Nat.le_of_eq (put_len _ _ _)⟩
      · dsimp only; rw [put_map]; exact put_sorted h.ts (find_none hf)
      · dsimp only; rw [put_map]
        intro y hy
        rcases put_mem hy with rfl | hy
        · have := pl_id (okT_q (ok6 ho hk)).1; exact ⟨by omega, by omega⟩
        · exact h.tb y hy
  · split at hd
    · cases hd
    · injection hd with hd; subst hd
      refine ⟨⟨h.ls, h.lb, ?_, ?_⟩, Nat.le_succ _, Nat.le_trans (cut_len _ _) (Nat.le_succ _)⟩
      · dsimp only; rw [cut_map]; exact h.ts.sublist (cut_sub _ _)
      · dsimp only; rw [cut_map]; exact fun y hy => h.tb y ((cut_sub _ _).mem hy)
end Ed
/-- A slice that reads as edits. -/
def RdEs (w : World) (A : Option Addr) (n : Nat) (E : List Ed.Ex) : Prop := E.length = n ∧ RdC 15 w A n (Ed.eflat (E.map (·.1))) ∧ ∀ x ∈ E, Ed.ExOk w x
theorem RdEs.below {w w' : World} {A : Option Addr} {n : Nat} {E : List Ed.Ex} (h : RdEs w A n E) (hb : Below w.heap.size w w') : RdEs w' A n E := ⟨h.1, h.2.1.below hb, fun x hx => (h.2.2 x hx).below hb⟩
theorem RdEs.at_ {w : World} {A : Option Addr} {n k : Nat} {E : List Ed.Ex} {x : Ed.Ex} (h : RdEs w A n E) (hx : E[k]? = some x) : ∃ b o, A = some ⟨b, o, none⟩ ∧ Ed.ExOk w x ∧ ∀ w', Below w.heap.size w w' → ∀ (j : Nat) (q : Value), x.1.cells[j]? = some q → w'.cell? ⟨b, o + (k * 15 + j), none⟩ = some q := by
  have hk : k < n := by rw [← h.1]; exact (List.getElem?_eq_some_iff.1 hx).1
  obtain ⟨b, o, rfl, hb, hc⟩ := h.2.1.2 (by omega)
  have hm : (E.map (·.1))[k]? = some x.1 := by rw [List.getElem?_map, hx]; rfl
  exact ⟨b, o, rfl, h.2.2 x (List.mem_of_getElem? hx), fun w' hb' j q hq => (hb'.cell hb).trans (hc _ _ (Pk.flatMap_at (f := Ed.Er.cells) (s := 15) (fun _ => rfl) hm hq))⟩
/-- edit.mayBe, whichever the kind. -/
theorem may_any (x : Ed.Ex) (w : World) (h : Ed.ExOk w x) : Calls Tryz.prog 47 #[.agg x.1.cells.toArray] w fun e w' => e = .returned (.bool (Ed.etOf x).ok) ∧ Below w.heap.size w w' := by
  obtain ⟨⟨kd, id, nn, pid, pep, P, pn, pc, ⟨tid, tep, Q, qn, qc, sz, lv, ct, lo, hi, tp⟩⟩, ps, qs⟩ := x
  obtain ⟨hP, hQ, hfit⟩ := h
  have hls : lo.size ≤ 9223372036854775807 ∧ hi.size ≤ 9223372036854775807 := ⟨hfit.1, hfit.2.1⟩
  by_cases h1 : kd = 1
  · subst h1; exact may1_any id nn pid pep P pn pc ps tid tep Q qn qc sz lv ct lo hi tp qs w hP hQ hls hfit
  by_cases h2 : kd = 2
  · subst h2; exact may2_any id nn pid pep P pn pc ps tid tep Q qn qc sz lv ct lo hi tp qs w hP hQ hls hfit
  by_cases h3 : kd = 3
  · subst h3; exact may3_any id nn pid pep P pn pc ps tid tep Q qn qc sz lv ct lo hi tp qs w hP hQ hls hfit
  by_cases h4 : kd = 4
  · subst h4; exact may4_any id nn pid pep P pn pc ps tid tep Q qn qc sz lv ct lo hi tp qs w hP hQ hls hfit
  by_cases h5 : kd = 5
  · subst h5; exact may5_any id nn pid pep P pn pc ps tid tep Q qn qc sz lv ct lo hi tp qs w hP hQ hls hfit
  by_cases h6 : kd = 6
  · subst h6; exact may6_any id nn pid pep P pn pc ps tid tep Q qn qc sz lv ct lo hi tp qs w hP hQ hls hfit
  by_cases h7 : kd = 7
  · subst h7; exact may7_any id nn pid pep P pn pc ps tid tep Q qn qc sz lv ct lo hi tp qs w hP hQ hls hfit
  exact may0_any kd ⟨h1, h2, h3, h4, h5, h6, h7⟩ id nn pid pep P pn pc ps tid tep Q qn qc sz lv ct lo hi tp qs w hP hQ hls hfit
/-- edit.do of an edit that may be. -/
theorem do_any {w : World} {base vb : Nat} {nx sq : Int} {A : Option Addr} {n c : Nat} {L : List (Ed.Lg × List (Int × Int))} {B : Option Addr} {m d : Nat} {M : List (Pk.Tb × List (Int × Int))} (hst : StV w base vb nx sq A n c L B m d M) (hbw : base ≤ w.heap.size) (x : Ed.Ex) (h : Ed.ExOk w x) (ho : (Ed.etOf x).ok = true) (hs : Ed.Sane ⟨nx, sq, L.map Ed.loOf, M.map Ed.taOf⟩) (hn : n ≤ 50000) (hm : m ≤ 50000) :
    Calls Tryz.prog 48 #[.pointer (some ⟨vb, 0, none⟩), .agg x.1.cells.toArray] w (GivesDo w base vb (Ed.do1 ⟨nx, sq, L.map Ed.loOf, M.map Ed.taOf⟩ (Ed.etOf x))) := by
  have hk := Ed.kinds ho
  have l1 := hs.ls
  have l2 := hs.lb
  have t1 := hs.ts
  have t2 := hs.tb
  dsimp only at l1 l2 t1 t2
  rw [Ed.lids] at l1 l2
  rw [Ed.tids] at t1 t2
  have o3 := Ed.ok3 ho
  have o4 := Ed.ok4 ho
  have o6 := Ed.ok6 ho
  have o5 := Ed.ok5 ho
  clear ho
  obtain ⟨⟨kd, id, nn, pid, pep, P, pn, pc, ⟨tid, tep, Q, qn, qc, sz, lv, ct, lo, hi, tp⟩⟩, ps, qs⟩ := x
  obtain ⟨hP, hQ, hfit⟩ := h
  rcases hk with hk | hk | hk | hk | hk | hk | hk <;> replace hk : kd = _ := hk <;> subst hk
  · exact do1_any hst hbw id nn pid pep P pn pc ps tid tep Q qn qc sz lv ct lo hi tp qs
  · exact do2_any hst hbw id nn pid pep P pn pc ps tid tep Q qn qc sz lv ct lo hi tp qs
  · have h3 : (⟨pid, pep, ps⟩ : Ed.Pl).ok = true := o3 rfl
    have h4 := (Ed.okP_q h3).2.1
    have h5 : ps.length = pn := hP.1.1
    exact do3_any hst hbw id nn pid pep P pn pc ps tid tep Q qn qc sz lv ct lo hi tp qs hn hP (by have h4 : ps.length ≤ 64 := h4; omega) (Ed.pl_id h3) l1 l2
  · exact do4_any hst hbw id nn pid pep P pn pc ps tid tep Q qn qc sz lv ct lo hi tp qs (by omega) (o4 rfl)
  · exact do5_any hst hbw id nn pid pep P pn pc ps tid tep Q qn qc sz lv ct lo hi tp qs (by omega) (o5 rfl)
  · have h3 := Ed.okT_q (o6 rfl)
    have h4 := (Ed.okP_q h3.1).2.1
    have h5 : qs.length = qn := hQ.1.1
    exact do6_any hst hbw id nn pid pep P pn pc ps tid tep Q qn qc sz lv ct lo hi tp qs hm hQ (by have h4 : qs.length ≤ 64 := h4; omega) (Ed.pl_id h3.1) hfit t1 t2
  · exact do7_any hst hbw id nn pid pep P pn pc ps tid tep Q qn qc sz lv ct lo hi tp qs (by omega)
end Go.Proofs.YthfcjlndaajkfaaGreat
namespace Go.Proofs.YthfcjlndaajkfaaGreat
open Go.RowKit
namespace Ed
def nB (n : Int) : List Nat := Cd.num n.toNat
def nsB (l : List Int) : List Nat := l.flatMap nB
def plB (p : Pl) : List Nat := nsB [p.id, p.ep, (p.ps.length : Int)] ++ p.ps.flatMap fun x => nsB [x.1, x.2]
def taB (t : Ta) : List Nat := plB t.p ++ nsB [t.sz, t.lv, t.ct] ++ Cd.text t.lo ++ Cd.text t.hi ++ nsB [t.tp]
/-- What an edit's kind names. -/
def etB (e : Et) : List Nat :=
  if e.kd = 4 then nsB [e.id] ++ nsB [e.n]
  else if e.kd = 1 then nsB [e.n]
  else if e.kd = 2 then nsB [e.n]
  else if e.kd = 3 then plB e.p
  else if e.kd = 6 then taB e.t
  else nsB [e.id]
def edB (e : Et) : List Nat := e.kd.toNat :: etB e
/-- Edits' bytes. -/
def bytes (l : List Et) : List Nat := nB (l.length : Int) ++ l.flatMap edB
theorem numF_len (f n : Nat) : (Cd.numF f n).length ≤ f + 1 := by
  induction f generalizing n with
  | zero => exact Nat.le_refl _
  | succ f ih =>
    by_cases h : n < 128
    · rw [Cd.numF_small h]; simp
    · rw [Cd.numF_big h, List.length_cons]; have := ih (n / 128); omega
theorem nB_len (n : Int) : (nB n).length ≤ 11 := numF_len 10 _
theorem nsB_len (l : List Int) : (nsB l).length ≤ l.length * 11 := by
  induction l with
  | nil => simp [nsB]
  | cons x r ih =>
    have e : nsB (x :: r) = nB x ++ nsB r := by unfold nsB; rw [List.flatMap_cons]
    have := nB_len x
    rw [e, List.length_append, List.length_cons]
    omega
theorem nsB_snoc {l : List Int} {k : Nat} {x : Int} (h : l[k]? = some x) : nsB (l.take (k + 1)) = nsB (l.take k) ++ nB x := by
  unfold nsB
  rw [List.take_add_one, h, List.flatMap_append]
  simp
end Ed
/-- What stands behind the call: the bytes, in memory of its own; no other block is written but theirs. -/
structure Puts (w w' : World) (base : Nat) (B B' : Option Addr) (bs' : List Nat) (cap' : Nat) : Prop where
  own : Own w' base B' bs'.length cap' bs'
  grew : w.grownBy w' (blkOf B)
  blk : ∀ g, blkOf B' = some g → blkOf B = some g ∨ w.heap.size ≤ g
theorem Puts.refl {w : World} {base n cap : Nat} {B : Option Addr} {bs : List Nat} (h : Own w base B n cap bs) : Puts w w base B B bs cap := ⟨own_len h h.1.symm, World.grownBy.refl _ _, fun _ h => .inl h⟩
theorem Puts.trans {w w1 w2 : World} {base : Nat} {B B1 B2 : Option Addr} {b1 b2 : List Nat} {c1 c2 : Nat} (h : Puts w w1 base B B1 b1 c1) (k : Puts w1 w2 base B1 B2 b2 c2) : Puts w w2 base B B2 b2 c2 :=
  ⟨k.own, h.grew.andThen k.grew (fun j hj => (h.blk j hj).symm), fun g hg => by
    rcases k.blk g hg with e | e
    · exact h.blk g e
    · exact .inr (Nat.le_trans h.grew.size e)⟩
/-- Something is made ahead. -/
theorem Puts.after {w w1 w2 : World} {base : Nat} {B B2 : Option Addr} {b2 : List Nat} {c2 : Nat} (h : Below w.heap.size w w1) (k : Puts w1 w2 base B B2 b2 c2) : Puts w w2 base B B2 b2 c2 :=
  ⟨k.own, ((grown_of_below h).but _).trans k.grew, fun g hg => by
    rcases k.blk g hg with e | e
    · exact .inl e
    · exact .inr (Nat.le_trans h.size e)⟩
theorem Puts.more {w w1 w2 : World} {base : Nat} {B B1 : Option Addr} {b1 : List Nat} {c1 : Nat} (h : Puts w w1 base B B1 b1 c1) (k : Below w1.heap.size w1 w2) : Puts w w2 base B B1 b1 c1 :=
  ⟨h.own.below k, h.grew.trans ((grown_of_below k).but _), h.blk⟩
theorem Puts.of {w w' : World} {base n cap n' cap' : Nat} {B B' : Option Addr} {bs : List Nat} (h : Grew w w' base B B' n cap n' cap' bs) : Puts w w' base B B' bs cap' :=
  ⟨own_len h.own h.own.1.symm, by rw [← ownBlock_eq B n cap]; exact h.grew, fun g hg => by
    have hb := h.blk
    rw [ownBlock_eq, ownBlock_eq, hg] at hb
    rcases hb with e | e
    · exact .inl e.symm
    · injection e with e; exact .inr (by omega)⟩
theorem Puts.below {a w w' : World} {base b n cap : Nat} {B B' : Option Addr} {bs bs' : List Nat} {cap' : Nat} (h : Puts w w' base B B' bs' cap') (hb : Below b a w) (hB : b ≤ w.heap.size) (ho : Own w base B n cap bs) (hbb : b ≤ base) : Below b a w' :=
  hb.grown h.grew hB (fun g hg => Nat.le_trans hbb (ho.blk g (by rw [ownBlock_eq]; exact hg)).1)
/-- What a call gives that puts bytes behind others. -/
def GivesPut (w : World) (base : Nat) (B : Option Addr) (bs' : List Nat) (e : Ending) (w' : World) : Prop :=
  ∃ B' cap', e = .returned (.slice B' bs'.length cap') ∧ Puts w w' base B B' bs' cap'
set_option maxRecDepth 100000 in
set_option maxHeartbeats 8000000 in
theorem putnums_any (base : Nat) (B : Option Addr) (n cap : Nat) (bs : List Nat) (A : Option Addr) (m mc : Nat) (ns : List Int) (w : World) (h : Own w base B n cap bs) (hbase : base ≤ w.heap.size) (hr : RdI w A m ns) (hoff : Off A B) (hns : ∀ x ∈ ns, 0 ≤ x ∧ x ≤ 9223372036854775807) (hn : n ≤ 10000000) (hm : m ≤ 100000) :
    Calls Tryz.prog 80 #[.slice B n cap, .slice A m mc] w (GivesPut w base B (bs ++ Ed.nsB ns)) := by
  have hl := h.1
  subst hl
  have HR := Lib.hid hr
  have HO := Lib.hid hoff
  have HN := Lib.hid hns
  have HP := Lib.hid (Puts.refl h)
  have HBs := Lib.hid hbase
  clear h hr hoff hns hbase
  go_enter Tryz.func80, Tryz.ntmps80
  go_wp2_with fail
  go_loopw [0, 9] (fun s0 ii wr => ∃ (k : Nat) (B' : Option Addr) (l' : List Nat) (cap' : Nat), k ≤ m ∧ ii = .int .i64 (k : Int) ∧ s0 = .slice B' l'.length cap' ∧ Hid (Puts w wr base B B' l' cap') ∧ Hid (l' = bs ++ Ed.nsB (ns.take k))) (fun _ ii _ => m - (intOf ii).toNat)
  case atStart => exact ⟨0, B, bs, cap, by omega, rfl, rfl, HP, Lib.hid (by rw [List.take_zero]; simp [Ed.nsB])⟩
  case round =>
    clear HP
    obtain ⟨k, B', l', cap', hk, rfl, rfl, HP, HL⟩ := hrel
    by_cases hlt : k < m
    · have hki : (k : Int) < (m : Int) := by omega
      have hk0 : (0 : Int) ≤ (k : Int) := by omega
      obtain ⟨x, hx⟩ : ∃ x, ns[k]? = some x := ⟨_, List.getElem?_eq_getElem (by rw [HR.out.1]; exact hlt)⟩
      have hx0 := HN.out x (List.mem_of_getElem? hx)
      obtain ⟨y, rfl⟩ : ∃ y : Nat, x = (y : Int) := ⟨x.toNat, by omega⟩
      obtain ⟨b, o, hAb, hb, hc⟩ := HR.out.2.2 (by omega)
      have e0 : wr.cell? ⟨b, o + k, none⟩ = some (.int .i64 (y : Int)) := HP.out.grew.cell (hc k _ (by unfold Pk.iv; rw [List.getElem?_map, hx]; rfl)) (fun e => HO.out b (by rw [hAb]; rfl) e.symm)
      have hy : y ≤ 9223372036854775807 := by omega
      have HX := Lib.hid hx
      have HNum := Lib.hid (num_any y (by omega) wr)
      have HBw := Lib.hid (Nat.le_trans HBs.out HP.out.grew.size)
      have hlen : l'.length ≤ 10000000 + 1100000 := by
        rw [HL.out, List.length_append]
        have := Ed.nsB_len (ns.take k)
        rw [List.length_take] at this
        omega
      clear hx hc hb hx0
      subst hAb
      go_wp2_with fail
      refine HNum.out.mono ?_
      rintro e v ⟨Z, zc, rfl, hz, hbz⟩
      have HZ := Lib.hid hz
      have HBz := Lib.hid hbz
      have hoz := HP.out.own.below hbz
      have hzl : (Cd.num y).length ≤ 11 := Ed.numF_len 10 y
      have hbv : base ≤ v.heap.size := Nat.le_trans HBw.out hbz.size
      clear hz hbz
      go_wp2_with (first | (at_builtin; refine wpList_appB rfl (.tmp 13) (.tmp 16) rfl rfl hoz Z (Cd.num y).length zc (Cd.num y) rfl HZ.out.rd (by omega) hbv ?_; intro B3 cap3 w3 hg3))
      have HG := Lib.hid ((HP.out.more HBz.out).trans (Puts.of hg3))
      have HLn := Lib.hid (show l' ++ Cd.num y = bs ++ Ed.nsB (ns.take (k + 1)) by rw [Ed.nsB_snoc HX.out, HL.out, List.append_assoc]; rfl)
      clear hg3 hoz
      go_roundw
      case rel => exact ⟨k + 1, B3, l' ++ Cd.num y, cap3, by omega, by go_num, by rw [List.length_append], HG, HLn⟩
      case measure => simp [intOf]; omega
    · have hki : ¬ (k : Int) < (m : Int) := by omega
      have HLn := Lib.hid (show l' = bs ++ Ed.nsB ns by
        have h := HL.out
        rwa [List.take_of_length_le (by rw [HR.out.1]; omega)] at h)
      clear hlt
      go_wp2
      go_ret
      rw [← HLn.out]
      exact ⟨B', cap', rfl, HP.out⟩
end Go.Proofs.YthfcjlndaajkfaaGreat
