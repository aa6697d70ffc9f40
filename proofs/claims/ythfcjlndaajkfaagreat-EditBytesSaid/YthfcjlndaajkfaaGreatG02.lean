/- How many tables a level may have; which levels have more: the program's and the document's. Which levels have more than they may: the document's Full, and package pick's. append of a row that may be nil, also at a step of a drawn region; parts of a row of numbers. The document's insert of a number into a row that rises; two rows of numbers compared. The document's words of layer 15: numbers within bounds, numbers all unlike, a place's plots, which places and tables may be. Does a table meet a range; the tables of a version of which a question is answered by yes. Which places and tables may be: the document's IsPlace, IsTable, Meet of layer 15. Arguments that came in: numbers, bools, strings, slices of bytes and of strings: what the reading says of memory. A version that came in: its tables. -/
import Derived.Test.YthfcjlndaajkfaaGreatG01
import Derived.Deep.DeepCutAuto
import Derived.Deep.CutBlock
import Derived.BigQuiet
import Derived.SliceStrings
import Derived.Deep.Slices
import Derived.Deep.Fields
import Derived.Lib.SmallJoins
import Derived.Deep.RegionHeld3
namespace Go.Proofs.YthfcjlndaajkfaaGreat
open Go.RowKit
namespace Pk
def lim (k : Int) : Int := if k = 0 then 3 else if k = 1 then 4 else if k = 2 then 8 else -1
/-- How many tables a level has. -/
def count (l : List Tb) (k : Int) : Nat := (l.filter (fun t => decide (t.lv = k))).length
theorem count_snoc {l : List Tb} {i : Nat} {x : Tb} (h : l[i]? = some x) (k : Int) : count (l.take (i + 1)) k = count (l.take i) k + (if x.lv = k then 1 else 0) := by
  unfold count
  rw [List.take_add_one, h, List.filter_append, List.length_append]
  by_cases e : x.lv = k
  · simp [e]
  · simp [e]
/-- Has a level more? -/
def more (l : List Tb) (k : Nat) : Bool := decide (lim k < (count l k : Int))
def full (l : List Tb) : List Int := ((List.range 3).filter (more l)).map (fun (k : Nat) => (k : Int))
def iv (l : List Int) : List Value := l.map (Value.int .i64)
theorem iv_append (a b : List Int) : iv (a ++ b) = iv a ++ iv b := by unfold iv; rw [List.map_append]
theorem iv_one (l : List Int) : ∀ u ∈ iv l, u.oneCell' = true := by
  intro u hu
  unfold iv at hu
  obtain ⟨x, _, rfl⟩ := List.mem_map.1 hu
  rfl
theorem iv_len (l : List Int) : (iv l).length = l.length := List.length_map _
/-- A version's value. -/
def ver (a b : Int) (L : Option Addr) (ln lc : Nat) (A : Option Addr) (n c : Nat) : Array Value := #[.int .i64 a, .int .i64 b, .slice L ln lc, .slice A n c]
end Pk
theorem manyI : Many 1 73 3 (.int .i64 0) 8 := ⟨by kernel_rfl, Tryz.underlying73, by kernel_rfl, by decide, by decide⟩
end Go.Proofs.YthfcjlndaajkfaaGreat
namespace Go.Proofs.YthfcjlndaajkfaaGreat
open Go.RowKit
/-- Numbers in a row of the call's own. -/
def GivesInts (w : World) (l : List Int) (e : Ending) (w' : World) : Prop :=
  ∃ B c, e = .returned (.slice B l.length c) ∧ OwnC 1 w' w.heap.size 3 B l.length c (Pk.iv l) ∧ Below w.heap.size w w'
end Go.Proofs.YthfcjlndaajkfaaGreat
namespace Go.Proofs.YthfcjlndaajkfaaGreat
open Go.RowKit
section
variable {s : Nat} {w w' : World} {base n cap : Nat} {A : Option Addr} {vs : List Value} {S E : TypeId} {z : Value} {bytes : Nat}
set_option maxRecDepth 100000 in
theorem run_appN (O : Many s S E z bytes) (hown : OwnC s w base E A n cap vs) (B : Option Addr) (m c : Nat) (news : List Value) (h1 : ∀ u ∈ news, u.oneCell' = true) (hr : RdC s w B m news) (hlen : n + m ≤ 1000000) (hbase : base ≤ w.heap.size) (ty : TypeId) :
    ∃ A' cap' w', (Builtin.append_ #[S, S] ty #[.slice A n cap, .slice B m c]).run Tryz.prog w = .ok (.slice A' (n + m) cap') w' ∧ GrewC s w w' base E A A' n cap (n + m) cap' (vs ++ news) := by
  cases B with
  | some ad => exact run_appC O hown ad m c news h1 hr hlen hbase ty
  | none =>
    obtain ⟨i0, hi, hz0, hz1, hz2⟩ := info_parts O.info
    have hm : m = 0 := by
      rcases Nat.eq_zero_or_pos m with h0 | h0
      · exact h0
      · obtain ⟨b, o, he, _⟩ := hr.2 h0
        cases he
    subst hm
    have h0 : news = [] := List.eq_nil_of_length_eq_zero (by rw [hr.1]; simp)
    subst h0
    have hrun : (Builtin.append_ #[S, S] ty #[.slice A n cap, .slice none 0 c]).run Tryz.prog w = .ok (.slice A n cap) w := by
      rcases hown.2 with ⟨hv, hn0⟩ | ⟨g, c', cur, hv, _, _, hnc, _⟩
      · rw [hv]
        simp [Builtin.append_, run_underlying O.under, sizeOf, typeInfo, hi, Builtin.lenOf, Builtin.firstCells]
      · rw [hv]
        simp [Builtin.append_, run_underlying O.under, sizeOf, typeInfo, hi, Builtin.lenOf, Builtin.firstCells, hnc, storeCells]
    exact ⟨A, cap, w, hrun, ⟨by simpa using hown, World.grownBy.refl w _, .inl rfl⟩⟩
theorem step_appN (O : Many s S E z bytes) {ops : Array Oper} {o : Oper} {a : Act} {K : Act → World → Prop} {Q : Exit → Act → World → Prop} {F : Prop} (hw : Region.wanted o (yielded ops a.tmps) = true) (d : Nat) (hd : o.dst = some d) (s1 x : Operand)
    (ho : o.op = .call { callee := .builtin .append, args := #[s1, x], argTypes := #[S, S] })
    (hs : a.eval s1 = .slice A n cap) (hown : OwnC s w base E A n cap vs) (B : Option Addr) (m c : Nat) (news : List Value) (h1 : ∀ u ∈ news, u.oneCell' = true) (hx : a.eval x = .slice B m c) (hr : RdC s w B m news) (hlen : n + m ≤ 1000000) (hbase : base ≤ w.heap.size)
    (h : ∀ A' cap' w', GrewC s w w' base E A A' n cap (n + m) cap' (vs ++ news) → K (a.put (some d) (.slice A' (n + m) cap')) w') :
    if Region.wanted o (yielded ops a.tmps) = true then Oper.wp Tryz.prog o a w K Q else F := by
  rw [if_pos hw]
  obtain ⟨A', cap', w', hrun, hg⟩ := run_appN O hown B m c news h1 hr hlen hbase o.type
  unfold Oper.wp execOp
  simp only [ho, resolve, invoke, builtin, Sem.run_bind, Sem.run_pure, Result.andThen_ok, List.map_toArray, List.map_cons, List.map_nil, hs, hx, hrun]
  have h2 := h A' cap' w' hg
  rw [← hd] at h2
  exact h2
/-- A row of no element. -/
theorem OwnC.empty (s : Nat) (w : World) (E : TypeId) (base : Nat) (hb : base ≤ w.heap.size) : OwnC s (w.alloc (.cells #[] E)) base E (some ⟨w.heap.size, 0, none⟩) 0 0 [] := by
  have h := World.ownsRow_lit (base := base) (e := E) (size := s) w #[] 0 hb (by simp only [maxLen]; omega) (by simp)
  exact ⟨by simp, h.2⟩
end
theorem RdC.grown {s : Nat} {w w' : World} {A : Option Addr} {n : Nat} {vs : List Value} {row : Option Nat} (h : RdC s w A n vs) (hg : w.grownBy w' row) (hne : 0 < n → ∀ g o, A = some ⟨g, o, none⟩ → row ≠ some g) : RdC s w' A n vs := by
  refine ⟨h.1, fun hn => ?_⟩
  obtain ⟨b, o, rfl, hb, hc⟩ := h.2 hn
  exact ⟨b, o, rfl, Nat.lt_of_lt_of_le hb hg.size, fun j x hx => (World.grownBy.cell_far hg ⟨b, o + j, none⟩ hb (fun e => hne hn b o rfl e.symm)).trans (hc j x hx)⟩
/-- A row of numbers from its f-th on. -/
def behindI (A : Option Addr) (c f : Nat) : Option Addr := if c = f then A else A.map (·.add f)
/-- A slice that reads as numbers. -/
def RdI (w : World) (A : Option Addr) (n : Nat) (l : List Int) : Prop := l.length = n ∧ RdC 1 w A n (Pk.iv l)
section
variable {w w' : World} {A : Option Addr} {n c k base : Nat} {l : List Int}
theorem RdI.below (h : RdI w A n l) (hb : Below w.heap.size w w') : RdI w' A n l := ⟨h.1, h.2.below hb⟩
theorem OwnC.ints (h : OwnC 1 w base 3 A n c (Pk.iv l)) : RdI w A n l := ⟨by have := h.rd.1; rw [Pk.iv_len] at this; omega, h.rd⟩
theorem RdI.at_ {x : Int} (h : RdI w A n l) (hx : l[k]? = some x) : ∃ b o, A = some ⟨b, o, none⟩ ∧ b < w.heap.size ∧ ∀ w', Below w.heap.size w w' → w'.cell? ⟨b, o + k, none⟩ = some (.int .i64 x) := by
  have hk : k < n := by rw [← h.1]; exact (List.getElem?_eq_some_iff.1 hx).1
  obtain ⟨b, o, rfl, hb, hc⟩ := h.2.2 (by omega)
  exact ⟨b, o, rfl, hb, fun w' hw => (hw.cell hb).trans (hc _ _ (by unfold Pk.iv; rw [List.getElem?_map, hx]; rfl))⟩
theorem RdI.to (h : RdI w A n l) (hk : k ≤ n) : RdI w A k (l.take k) := by
  refine ⟨by rw [List.length_take, h.1]; omega, ?_⟩
  have h2 := h.2.take hk
  rw [Nat.mul_one] at h2
  unfold Pk.iv at h2 ⊢
  rw [List.map_take]
  exact h2
theorem RdI.from_ (h : RdI w A n l) (hf : k ≤ n) (hc : n ≤ c) : RdI w (behindI A c k) (n - k) (l.drop k) := by
  refine ⟨by rw [List.length_drop, h.1], by rw [Pk.iv_len, List.length_drop, h.1, Nat.mul_one], fun hm => ?_⟩
  obtain ⟨b, o, rfl, hb, hcl⟩ := h.2.2 (by omega)
  refine ⟨b, o + k, ?_, hb, fun j x hx => ?_⟩
  · unfold behindI
    rw [if_neg (by omega)]
    simp only [Option.map_some, Addr.add]
    split
    · rename_i e; rw [e, Nat.add_zero]
    · rfl
  · unfold Pk.iv at hx
    rw [List.map_drop, List.getElem?_drop] at hx
    rw [Nat.add_assoc]
    exact hcl _ _ hx
end
namespace Pk
/-- A number put into a row that rises. -/
def ins : List Int → Int → List Int
  | [], x => [x]
  | y :: ys, x => if y < x then y :: ins ys x else x :: y :: ys
/-- Numbers put in one after another: they are sorted. -/
def insAll (l : List Int) : List Int := l.foldl ins []
end Pk
end Go.Proofs.YthfcjlndaajkfaaGreat
namespace Go.Proofs.YthfcjlndaajkfaaGreat
open Go.RowKit
end Go.Proofs.YthfcjlndaajkfaaGreat
namespace Go.Proofs.YthfcjlndaajkfaaGreat
open Go.RowKit
namespace Ed
def from_ (n low high : Int) : Bool := decide (low ≤ n) && decide (n ≤ high)
theorem from_iff {n low high : Int} : from_ n low high = true ↔ low ≤ n ∧ n ≤ high := by unfold from_; rw [Bool.and_eq_true, decide_eq_true_iff, decide_eq_true_iff]
def fl (ps : List (Int × Int)) : List Int := ps.flatMap fun p => [p.1, p.2]
theorem fl_len (ps : List (Int × Int)) : (fl ps).length = ps.length * 2 := by
  induction ps with
  | nil => rfl
  | cons v vs ih => show (_ ++ fl vs).length = _; rw [List.length_append, ih, List.length_cons]; simp; omega
theorem fl_at {ps : List (Int × Int)} {i : Nat} {p : Int × Int} (h : ps[i]? = some p) : (fl ps)[i * 2]? = some p.1 ∧ (fl ps)[i * 2 + 1]? = some p.2 := by
  induction ps generalizing i with
  | nil => simp at h
  | cons x r ih =>
    match i, h with
    | 0, h => injection h with h; subst h; exact ⟨rfl, rfl⟩
    | i + 1, h =>
      have := ih (i := i) (by simpa using h)
      rw [show (i + 1) * 2 = i * 2 + 1 + 1 by omega]
      exact this
theorem fl_snoc {ps : List (Int × Int)} {k : Nat} {p : Int × Int} (h : ps[k]? = some p) : fl (ps.take (k + 1)) = fl (ps.take k) ++ [p.1, p.2] := by
  unfold fl
  rw [List.take_add_one, h, List.flatMap_append]
  rfl
/-- May a place be? -/
def okP (id ep : Int) (ps : List (Int × Int)) : Bool := from_ id 1 2147483647 && from_ ep 1 2147483647 && from_ (ps.length : Int) 1 64 && (fl ps).all (fun x => from_ x 0 510) && decide (fl ps).Nodup
end Ed
/-- A slice that reads as pairs. -/
def RdPs (w : World) (A : Option Addr) (n : Nat) (ps : List (Int × Int)) : Prop := ps.length = n ∧ RdC 2 w A n (Pk.iv (Ed.fl ps))
theorem RdPs.below {w w' : World} {A : Option Addr} {n : Nat} {ps : List (Int × Int)} (h : RdPs w A n ps) (hb : Below w.heap.size w w') : RdPs w' A n ps := ⟨h.1, h.2.below hb⟩
theorem RdPs.at_ {w : World} {A : Option Addr} {n k : Nat} {ps : List (Int × Int)} {p : Int × Int} (h : RdPs w A n ps) (hx : ps[k]? = some p) : ∃ b o, A = some ⟨b, o, none⟩ ∧ b < w.heap.size ∧ ∀ w', Below w.heap.size w w' → (w'.cell? ⟨b, o + k * 2, none⟩ = some (.int .i64 p.1) ∧ w'.cell? ⟨b, o + k * 2 + 1, none⟩ = some (.int .i64 p.2)) := by
  have hk : k < n := by rw [← h.1]; exact (List.getElem?_eq_some_iff.1 hx).1
  obtain ⟨b, o, rfl, hb, hc⟩ := h.2.2 (by omega)
  obtain ⟨h1, h2⟩ := Ed.fl_at hx
  refine ⟨b, o, rfl, hb, fun w' hw => ⟨(hw.cell hb).trans (hc _ _ (by unfold Pk.iv; rw [List.getElem?_map, h1]; rfl)), ?_⟩⟩
  have := (hw.cell (p := ⟨b, o + (k * 2 + 1), none⟩) hb).trans (hc _ _ (by unfold Pk.iv; rw [List.getElem?_map, h2]; rfl))
  exact this
set_option maxRecDepth 100000 in
theorem from_any (n low high : Int) (w : World) : Calls Tryz.prog 36 #[.int .i64 n, .int .i64 low, .int .i64 high] w fun e w' => e = .returned (.bool (Ed.from_ n low high)) ∧ w' = w := by
  unfold Ed.from_
  by_cases h1 : low ≤ n
  · by_cases h2 : n ≤ high
    · rw [decide_eq_true h1, decide_eq_true h2]
      go_enter Tryz.func36, Tryz.ntmps36
      go_wp2
      go_ret
      exact ⟨rfl, rfl⟩
    · rw [decide_eq_true h1, decide_eq_false h2]
      go_enter Tryz.func36, Tryz.ntmps36
      go_wp2
      go_ret
      exact ⟨rfl, rfl⟩
  · rw [decide_eq_false h1, Bool.false_and]
    go_enter Tryz.func36, Tryz.ntmps36
    go_wp2
    go_ret
    exact ⟨rfl, rfl⟩
namespace Ed
theorem nodup_snoc {l : List Int} {k : Nat} {x : Int} (h : l[k]? = some x) (h0 : (l.take k).Nodup) (hn : x ∉ l.take k) : (l.take (k + 1)).Nodup := by
  rw [List.take_add_one, h, List.nodup_append]
  refine ⟨h0, by simp, fun a ha b hb e => ?_⟩
  simp at hb
  subst hb
  subst e
  exact hn ha
theorem not_nodup {l : List Int} {i k : Nat} {x : Int} (hk : l[k]? = some x) (hi : l[i]? = some x) (hlt : i < k) : ¬ l.Nodup := by
  intro h
  obtain ⟨hk1, hk2⟩ := List.getElem?_eq_some_iff.1 hk
  obtain ⟨hi1, hi2⟩ := List.getElem?_eq_some_iff.1 hi
  have := (List.pairwise_iff_getElem.1 h) i k hi1 hk1 hlt
  exact this (by rw [hi2, hk2])
end Ed
set_option maxRecDepth 100000 in
set_option maxHeartbeats 4000000 in
theorem unlike_any (A : Option Addr) (n c : Nat) (l : List Int) (w : World) (hr : RdI w A n l) (hn : n ≤ 1000000) :
    Calls Tryz.prog 41 #[.slice A n c] w fun e w' => e = .returned (.bool (decide l.Nodup)) ∧ Below w.heap.size w w' := by
  have HR := Lib.hid hr
  have HL := Lib.hid hr.1
  clear hr
  generalize hans : decide l.Nodup = ans
  have HA := Lib.hid hans
  clear hans
  go_enter Tryz.func41, Tryz.ntmps41
  go_wp2
  go_loopw [3] (fun ii wr => ∃ (k : Nat), k ≤ n ∧ ii = .int .i64 (k : Int) ∧ Hid ((l.take k).Nodup) ∧ Hid (Below w.heap.size w wr)) (fun ii _ => n - (intOf ii).toNat)
  case atStart => exact ⟨0, by omega, rfl, Lib.hid (by simp), Lib.hid (Below.refl _ _)⟩
  case round =>
    obtain ⟨k, hk, rfl, HP, HB⟩ := hrel
    by_cases hkn : k < n
    · have hki : (k : Int) < (n : Int) := by omega
      obtain ⟨x, hx⟩ : ∃ x, l[k]? = some x := ⟨_, List.getElem?_eq_getElem (by rw [HL.out]; exact hkn)⟩
      have HX := Lib.hid hx
      clear hx
      obtain ⟨wo, hwo⟩ : ∃ wo, wo = wr := ⟨wr, rfl⟩
      subst hwo
      go_wp2
      go_loopw [4] (fun jj wq => ∃ (i : Nat), i ≤ k ∧ jj = .int .i64 (i : Int) ∧ Hid (∀ y ∈ l.take i, y ≠ x) ∧ Hid (Below w.heap.size w wq)) (fun jj _ => k - (intOf jj).toNat)
      case atStart => exact ⟨0, by omega, rfl, Lib.hid (fun y hy => nomatch hy), HB⟩
      case round =>
        obtain ⟨i, hi, rfl, HQ, HC⟩ := hrel
        by_cases hik : i < k
        · have hii : (i : Int) < (k : Int) := by omega
          obtain ⟨y, hy⟩ : ∃ y, l[i]? = some y := ⟨_, List.getElem?_eq_getElem (by rw [HL.out]; omega)⟩
          obtain ⟨b, o, rfl, _, hcy⟩ := HR.out.at_ hy
          obtain ⟨b2, o2, he2, _, hcx⟩ := HR.out.at_ HX.out
          injection he2 with he2
          injection he2 with he2 he3
          subst he2 he3
          have e0 := hcy wr HC.out
          have e1 := hcx wr HC.out
          have hin : (i : Int) < (n : Int) := by omega
          have HY := Lib.hid hy
          clear hcy hcx hy
          by_cases he : y = x
          · have g0 : (y == x) = true := by simp [he]
            have HF := Lib.hid (show false = ans by
              rw [← HA.out, eq_comm, decide_eq_false_iff_not]
              exact Ed.not_nodup HX.out (by rw [HY.out, he]) hik)
            clear he
            go_wp2_with fail
            go_big_quiet (fail)
            go_wp2
            go_ret
            exact ⟨by rw [← HF.out]; rfl, below_drewN HC.out _⟩
          · have g0 : (y == x) = false := beq_eq_false_iff_ne.2 he
            have HQn := Lib.hid (show ∀ z ∈ l.take (i + 1), z ≠ x by
              intro z hz
              rw [List.take_add_one, HY.out] at hz
              rcases List.mem_append.1 hz with hz | hz
              · exact HQ.out z hz
              · rcases List.mem_singleton.1 hz with rfl
                exact he)
            go_wp2_with fail
            go_big_quiet (fail)
            go_wp2
            go_roundw
            case rel => exact ⟨i + 1, by omega, by go_num, HQn, Lib.hid (below_drewN HC.out _)⟩
            case measure => simp [intOf]; omega
        · have hik2 : ¬ (i : Int) < (k : Int) := by omega
          have HPn := Lib.hid (show (l.take (k + 1)).Nodup from Ed.nodup_snoc HX.out HP.out (fun hm => HQ.out x (by rwa [show i = k by omega]) rfl))
          go_wp2
          go_roundw
          case rel => exact ⟨k + 1, by omega, by go_num, HPn, HC⟩
          case measure => simp [intOf]; omega
    · have hkn2 : ¬ (k : Int) < (n : Int) := by omega
      have HF := Lib.hid (show true = ans by
        rw [← HA.out, eq_comm, decide_eq_true_iff]
        have h := HP.out
        rwa [List.take_of_length_le (by rw [HL.out]; omega)] at h)
      clear hkn
      go_wp2
      go_ret
      exact ⟨by rw [← HF.out]; rfl, HB.out⟩
set_option maxRecDepth 100000 in
set_option maxHeartbeats 4000000 in
theorem plots_any (id ep : Int) (A : Option Addr) (n c : Nat) (ps : List (Int × Int)) (w : World) (hr : RdPs w A n ps) (hn : n ≤ 100000) :
    Calls Tryz.prog 38 #[.agg #[.int .i64 id, .int .i64 ep, .slice A n c]] w (GivesInts w (Ed.fl ps)) := by
  have HR := Lib.hid hr
  have HL := Lib.hid hr.1
  clear hr
  have HZ := Lib.hid (Holds.new w #[.int .i64 id, .int .i64 ep, .slice A n c] 32)
  have HB0 := Lib.hid (show Below w.heap.size w (w.alloc (.cells #[.int .i64 id, .int .i64 ep, .slice A n c] 32)) from (Below.refl _ _).alloc (Nat.le_refl _) _)
  go_enter Tryz.func38, Tryz.ntmps38
  go_wp2
  generalize (w.alloc (.cells #[.int .i64 id, .int .i64 ep, .slice A n c] 32)) = u at *
  go_loopw [3, 4] (fun s ii wr => ∃ (k : Nat) (B : Option Addr) (d : Nat), k ≤ n ∧ ii = .int .i64 (k : Int) ∧ s = .slice B (k * 2) d ∧ Hid (OwnC 1 wr u.heap.size 3 B (k * 2) d (Pk.iv (Ed.fl (ps.take k)))) ∧ Hid (Below u.heap.size u wr)) (fun _ ii _ => n - (intOf ii).toNat)
  case atStart => exact ⟨0, none, 0, by omega, rfl, rfl, Lib.hid (OwnC.none_ _ _ _ _), Lib.hid (Below.refl _ _)⟩
  case round =>
    obtain ⟨k, B, d, hk, rfl, rfl, HO, HB⟩ := hrel
    have HBw := Lib.hid (below_next HB0.out HB.out)
    have z2 := (HZ.out.below HB.out).at_ 2 rfl
    by_cases hkn : k < n
    · have hki : (k : Int) < (n : Int) := by omega
      obtain ⟨p, hp⟩ : ∃ p, ps[k]? = some p := ⟨_, List.getElem?_eq_getElem (by rw [HL.out]; exact hkn)⟩
      obtain ⟨g, o, rfl, _, hc⟩ := HR.out.at_ hp
      obtain ⟨e0, e1⟩ := hc wr HBw.out
      have HS := Lib.hid (Ed.fl_snoc hp)
      clear hp hc
      obtain ⟨x, y⟩ := p
      dsimp only at e0 e1
      have hal : u.heap.size ≤ (wr.alloc (.cells #[Value.int .i64 x, .int .i64 y] 3)).heap.size := by have := HB.out.size; simp; omega
      have X1 := rdc_new 1 wr 3 [Value.int .i64 x, .int .i64 y] 2 rfl (0, 0)
      have O1 := HO.out.alloc (.cells #[Value.int .i64 x, .int .i64 y] 3)
      have hl2 : k * 2 + 2 ≤ 1000000 := by omega
      go_wp2_with fail
      go_region_law ((refine step_appN manyI (by rfl) 26 rfl (.tmp 12) (.tmp 25) rfl rfl O1.drew (some ⟨wr.heap.size, 0, none⟩) 2 2 [Value.int .i64 x, .int .i64 y] (Pk.iv_one [x, y]) rfl X1.drew hl2 hal ?_; intro B6 c6 v6 hg6; have HG := Lib.hid hg6; clear hg6))
      all_goals
        go_wp2
        have HF := Lib.hid (show OwnC 1 v6 u.heap.size 3 B6 ((k + 1) * 2) c6 (Pk.iv (Ed.fl (ps.take (k + 1)))) ∧ Below u.heap.size u v6 by
          have h := HG.out.own
          refine ⟨by rw [HS.out, Pk.iv_append, show (k + 1) * 2 = k * 2 + 2 by omega]; exact h, HG.out.below ((HB.out.alloc HB.out.size _).drew) hal fun g hg => (HO.out.blk g hg).1⟩)
        go_roundw
        case rel => exact ⟨k + 1, B6, c6, by omega, by go_num, by rw [show (k + 1) * 2 = k * 2 + 2 by omega], Lib.hid HF.out.1, Lib.hid HF.out.2⟩
        case measure => simp [intOf]; omega
    · have hkn2 : ¬ (k : Int) < (n : Int) := by omega
      have HF := Lib.hid (show GivesInts w (Ed.fl ps) (.returned (.slice B (k * 2) d)) wr by
        have hO := HO.out
        have hke : k = n := by omega
        rw [List.take_of_length_le (by rw [HL.out]; omega)] at hO
        have hl : (Ed.fl ps).length = k * 2 := by rw [Ed.fl_len, HL.out, hke]
        unfold GivesInts
        rw [hl]
        exact ⟨B, d, rfl, hO.base_ HB0.out.size, HBw.out⟩)
      clear HO
      go_wp2
      go_ret
      exact HF.out
end Go.Proofs.YthfcjlndaajkfaaGreat
namespace Go.Proofs.YthfcjlndaajkfaaGreat
open Go.RowKit
theorem manyAT : Many 9 23 35 (.agg #[.int .i64 0, .int .i64 0, .slice none 0 0, .int .i64 0, .int .i64 0, .int .i64 0, .string ⟨#[]⟩, .string ⟨#[]⟩, .int .i64 0]) 104 := ⟨by kernel_rfl, Tryz.underlying23, by kernel_rfl, by decide, by decide⟩
end Go.Proofs.YthfcjlndaajkfaaGreat
namespace Go.Proofs.YthfcjlndaajkfaaGreat
open Go.RowKit
set_option maxRecDepth 100000 in
set_option maxHeartbeats 8000000 in
theorem isplace_any (id ep : Int) (A : Option Addr) (n c : Nat) (ps : List (Int × Int)) (w : World) (hr : RdPs w A n ps) (hn : n ≤ 9223372036854775807) :
    Calls Tryz.prog 37 #[.agg #[.int .i64 id, .int .i64 ep, .slice A n c]] w fun e w' => e = .returned (.bool (Ed.okP id ep ps)) ∧ Below w.heap.size w w' := by
  have HR := Lib.hid hr
  have HL := Lib.hid hr.1
  clear hr
  have HZ := Lib.hid (Holds.new w #[.int .i64 id, .int .i64 ep, .slice A n c] 32)
  have HB0 := Lib.hid (show Below w.heap.size w (w.alloc (.cells #[.int .i64 id, .int .i64 ep, .slice A n c] 32)) from (Below.refl _ _).alloc (Nat.le_refl _) _)
  generalize hans : Ed.okP id ep ps = ans
  unfold Ed.okP at hans
  rw [HL.out] at hans
  go_enter Tryz.func37, Tryz.ntmps37
  go_upto_region 1 with fail
  generalize (w.alloc (.cells #[.int .i64 id, .int .i64 ep, .slice A n c] 32)) = u at *
  replace HZ : Hid (Holds u w.heap.size [.int .i64 id, .int .i64 ep, .slice A n c]) := HZ
  have z0 := HZ.out.at_ 0 rfl
  have z1 := HZ.out.at_ 1 rfl
  have z2 := HZ.out.at_ 2 rfl
  have F1 := Lib.hid (from_any id 1 2147483647 u)
  have F2 := Lib.hid (from_any ep 1 2147483647 u)
  have F3 := Lib.hid (from_any (n : Int) 1 64 u)
  cases h1 : Ed.from_ id 1 2147483647 with
  | false =>
    have HF := Lib.hid (show false = ans by rw [← hans, h1]; rfl)
    rw [h1] at F1
    clear hans h1
    go_wp2_with fail
    refine F1.out.mono ?_
    rintro e v1 ⟨rfl, rfl⟩
    go_wp2
    go_ret
    exact ⟨by rw [← HF.out]; rfl, HB0.out⟩
  | true =>
  rw [h1] at F1
  cases h2 : Ed.from_ ep 1 2147483647 with
  | false =>
    have HF := Lib.hid (show false = ans by rw [← hans, h1, h2]; rfl)
    rw [h2] at F2
    clear hans h1 h2
    go_wp2_with fail
    refine F1.out.mono ?_
    rintro e v1 ⟨rfl, rfl⟩
    go_wp2_with fail
    refine F2.out.mono ?_
    rintro e v1 ⟨rfl, rfl⟩
    go_wp2
    go_ret
    exact ⟨by rw [← HF.out]; rfl, HB0.out⟩
  | true =>
  rw [h2] at F2
  cases h3 : Ed.from_ (n : Int) 1 64 with
  | false =>
    have HF := Lib.hid (show false = ans by rw [← hans, h1, h2, h3]; rfl)
    rw [h3] at F3
    clear hans h1 h2 h3
    go_wp2_with fail
    refine F1.out.mono ?_
    rintro e v1 ⟨rfl, rfl⟩
    go_wp2_with fail
    refine F2.out.mono ?_
    rintro e v1 ⟨rfl, rfl⟩
    go_wp2_with fail
    refine F3.out.mono ?_
    rintro e v1 ⟨rfl, rfl⟩
    go_wp2
    go_ret
    exact ⟨by rw [← HF.out]; rfl, HB0.out⟩
  | true =>
  rw [h3] at F3
  have HA := Lib.hid (show ((Ed.fl ps).all (fun x => Ed.from_ x 0 510) && decide (Ed.fl ps).Nodup) = ans by
    rw [← hans, h1, h2, h3]
    rfl)
  have hn64 : n ≤ 64 := by have := (Ed.from_iff.1 h3).2; omega
  clear hans h1 h2 h3
  have HPl := Lib.hid (plots_any id ep A n c ps u (HR.out.below HB0.out) (by omega))
  go_wp2_with fail
  refine F1.out.mono ?_
  rintro e v1 ⟨rfl, rfl⟩
  go_wp2_with fail
  refine F2.out.mono ?_
  rintro e v2 ⟨rfl, rfl⟩
  go_wp2_with fail
  refine F3.out.mono ?_
  rintro e v3 ⟨rfl, rfl⟩
  go_wp2_with fail
  refine HPl.out.mono ?_
  rintro e v4 ⟨B, d, rfl, hO, hb4⟩
  have HI := Lib.hid hO.ints
  have HB4 := Lib.hid (below_next HB0.out hb4)
  have hm : (Ed.fl ps).length ≤ 128 := by rw [Ed.fl_len, HL.out]; omega
  clear z0 z1 z2 hO hb4 HPl F1 F2 F3 HZ
  generalize Ed.fl ps = l at *
  generalize hml : l.length = m at *
  have HM := Lib.hid hml
  clear hml
  go_wp2
  go_loopw [4] (fun ii wr => ∃ (k : Nat), k ≤ m ∧ ii = .int .i64 (k : Int) ∧ Hid (∀ y ∈ l.take k, Ed.from_ y 0 510 = true) ∧ Hid (Below v4.heap.size v4 wr)) (fun ii _ => m - (intOf ii).toNat)
  case atStart => exact ⟨0, by omega, rfl, Lib.hid (fun y hy => nomatch hy), Lib.hid (Below.refl _ _)⟩
  case round =>
    obtain ⟨k, hk, rfl, HP, HB⟩ := hrel
    by_cases hkm : k < m
    · have hki : (k : Int) < (m : Int) := by omega
      obtain ⟨x, hx⟩ : ∃ x, l[k]? = some x := ⟨_, List.getElem?_eq_getElem (by rw [HM.out]; exact hkm)⟩
      obtain ⟨g, o, rfl, _, hc⟩ := HI.out.at_ hx
      have e0 := hc wr HB.out
      have HX := Lib.hid hx
      have Fx := Lib.hid (from_any x 0 510 wr)
      clear hc hx
      cases hf : Ed.from_ x 0 510 with
      | false =>
        rw [hf] at Fx
        have HF := Lib.hid (show false = ans by
          rw [← HA.out]
          have : l.all (fun x => Ed.from_ x 0 510) = false := by
            rw [List.all_eq_false]
            exact ⟨x, List.mem_of_getElem? HX.out, by rw [hf]; decide⟩
          rw [this]; rfl)
        clear hf
        go_wp2_with fail
        refine Fx.out.mono ?_
        rintro e v5 ⟨rfl, rfl⟩
        go_wp2
        go_ret
        exact ⟨by rw [← HF.out]; rfl, below_next HB4.out HB.out⟩
      | true =>
        rw [hf] at Fx
        have HPn := Lib.hid (show ∀ y ∈ l.take (k + 1), Ed.from_ y 0 510 = true by
          intro z hz
          rw [List.take_add_one, HX.out] at hz
          rcases List.mem_append.1 hz with hz | hz
          · exact HP.out z hz
          · rcases List.mem_singleton.1 hz with rfl
            exact hf)
        clear hf
        go_wp2_with fail
        refine Fx.out.mono ?_
        rintro e v5 ⟨rfl, rfl⟩
        go_wp2
        go_roundw
        case rel => exact ⟨k + 1, by omega, by go_num, HPn, HB⟩
        case measure => simp [intOf]; omega
    · have hkm2 : ¬ (k : Int) < (m : Int) := by omega
      have HF := Lib.hid (show decide l.Nodup = ans by
        rw [← HA.out]
        have : l.all (fun x => Ed.from_ x 0 510) = true := by
          rw [List.all_eq_true]
          intro x hx
          have h := HP.out x
          rw [List.take_of_length_le (by rw [HM.out]; omega)] at h
          exact h hx
        rw [this]; rfl)
      have HU := Lib.hid (unlike_any B m d l wr (HI.out.below HB.out) (by omega))
      rw [HF.out] at HU
      clear hkm
      go_wp2_with fail
      refine HU.out.mono ?_
      rintro e v5 ⟨rfl, hb5⟩
      have HB5 := Lib.hid (below_next (below_next HB4.out HB.out) hb5)
      clear hb5
      go_wp2
      go_ret
      exact ⟨rfl, HB5.out⟩
namespace Ed
/-- Has one of two tables a key between the other one's ends? -/
def meet (a b : Pk.Tb) : Bool := !Pk.lt b.hi a.lo && !Pk.lt a.hi b.lo
/-- May a table be? -/
def okT (t : Pk.Tb) (ps : List (Int × Int)) : Bool :=
  okP t.id t.ep ps && from_ t.sz 12 (864 * (ps.length : Int)) && from_ t.lv 0 3 && from_ t.ct 1 1048576 && from_ t.tp 1 1099511627776 && from_ (t.lo.size : Int) 1 64 && from_ (t.hi.size : Int) 1 64 && !Pk.lt t.hi t.lo
end Ed
end Go.Proofs.YthfcjlndaajkfaaGreat
namespace Go.Proofs.YthfcjlndaajkfaaGreat
open Go.ChangeShapes Go.WideShapes Go.ChangeAt Go.RowKit
open Go.ChangeMaps (open_string shut_string)
/-- What an argument reads as. -/
abbrev Reads {H : Type} (enc : TypeId × Value → H) (W : World) (t : TypeId) (v : Value) (d : DataW H) (p : List MemPlace) : Prop :=
  DataW.Trod enc Tryz.prog W 0 (fun _ => true) true t v d p
theorem u8_in {a : Int} (h : (Lit.int .u8 a).wf = true) : ∃ c : Nat, a = (c : Int) ∧ c < 256 := by
  simp [Lit.wf, IntKind.min, IntKind.max, IntKind.signed, IntKind.bits] at h
  exact ⟨a.toNat, by omega, by omega⟩
theorem u16_in {a : Int} (h : (Lit.int .u16 a).wf = true) : ∃ c : Nat, a = (c : Int) ∧ c < 65536 := by
  simp [Lit.wf, IntKind.min, IntKind.max, IntKind.signed, IntKind.bits] at h
  exact ⟨a.toNat, by omega, by omega⟩
section
variable {H : Type} {enc : TypeId × Value → H} {W : World} {base : Nat} {v : Value} {d : DataW H} {p : List MemPlace}
set_option maxRecDepth 100000 in theorem in_u64 (hval : Value.okWide Tryz.prog W .any base 85 v) (h : Reads enc W 85 v d p) : ∃ n : Nat, v = .int .u64 (n : Int) ∧ n < 18446744073709551616 := by obtain ⟨a, rfl, rfl, rfl, wf⟩ := open_int Tryz.underlying85 hval h; obtain ⟨c, rfl, hc⟩ := u64_in wf; exact ⟨c, rfl, hc⟩
set_option maxRecDepth 100000 in theorem in_uint (hval : Value.okWide Tryz.prog W .any base 119 v) (h : Reads enc W 119 v d p) : ∃ n : Nat, v = .int .u64 (n : Int) ∧ n < 18446744073709551616 := by obtain ⟨a, rfl, rfl, rfl, wf⟩ := open_int Tryz.underlying119 hval h; obtain ⟨c, rfl, hc⟩ := u64_in wf; exact ⟨c, rfl, hc⟩
set_option maxRecDepth 100000 in theorem in_u32 (hval : Value.okWide Tryz.prog W .any base 150 v) (h : Reads enc W 150 v d p) : ∃ n : Nat, v = .int .u32 (n : Int) ∧ n < 4294967296 := by obtain ⟨a, rfl, rfl, rfl, wf⟩ := open_int Tryz.underlying150 hval h; obtain ⟨c, rfl, hc⟩ := u32_in wf; exact ⟨c, rfl, hc⟩
set_option maxRecDepth 100000 in theorem in_u8 (hval : Value.okWide Tryz.prog W .any base 5 v) (h : Reads enc W 5 v d p) : ∃ n : Nat, v = .int .u8 (n : Int) ∧ n < 256 := by obtain ⟨a, rfl, rfl, rfl, wf⟩ := open_int Tryz.underlying5 hval h; obtain ⟨c, rfl, hc⟩ := u8_in wf; exact ⟨c, rfl, hc⟩
set_option maxRecDepth 100000 in theorem in_int (hval : Value.okWide Tryz.prog W .any base 3 v) (h : Reads enc W 3 v d p) : ∃ n : Int, v = .int .i64 n ∧ -9223372036854775808 ≤ n ∧ n ≤ 9223372036854775807 := by obtain ⟨a, rfl, rfl, rfl, wf⟩ := open_int Tryz.underlying3 hval h; exact ⟨a, rfl, i64_in wf⟩
set_option maxRecDepth 100000 in theorem in_bool (hval : Value.okWide Tryz.prog W .any base 4 v) (h : Reads enc W 4 v d p) : ∃ b : Bool, v = .bool b := by obtain ⟨b, rfl, _⟩ := open_bool Tryz.underlying4 hval h; exact ⟨b, rfl⟩
set_option maxRecDepth 100000 in theorem in_str (hval : Value.okWide Tryz.prog W .any base 9 v) (h : Reads enc W 9 v d p) : ∃ s : ByteArray, v = .string s ∧ s.size ≤ 9223372036854775807 := by obtain ⟨s, rfl, rfl, rfl, hs⟩ := open_string Tryz.underlying9 hval h; simp only [maxLen] at hs; exact ⟨s, rfl, by omega⟩
end
end Go.Proofs.YthfcjlndaajkfaaGreat
namespace Go.Proofs.YthfcjlndaajkfaaGreat
open Go.ChangeShapes Go.WideShapes Go.ChangeAt Go.RowKit Go.Joins Go.Deep
theorem exists_list {α : Type} {P : Nat → α → Prop} (n : Nat) (h : ∀ i, i < n → ∃ a, P i a) : ∃ l : List α, l.length = n ∧ ∀ i a, l[i]? = some a → P i a := by
  induction n with
  | zero => exact ⟨[], rfl, fun i a e => by cases e⟩
  | succ n ih =>
    obtain ⟨l, hl, hp⟩ := ih fun i hi => h i (by omega)
    obtain ⟨a, ha⟩ := h n (by omega)
    refine ⟨l ++ [a], by simp [hl], fun i x e => ?_⟩
    by_cases hi : i < l.length
    · rw [List.getElem?_append_left hi] at e; exact hp i x e
    · rw [List.getElem?_append_right (by omega)] at e
      have hi2 : i - l.length = 0 := by
        have := (List.getElem?_eq_some_iff.1 e).1
        simp at this; omega
      rw [hi2] at e
      have hin : i = n := by omega
      simp at e
      subst e
      rw [hin]
      exact ha
theorem plain_addr {w : World} {x : Addr} {v : Value} (h : w.cell? (x.add 0) = some v) : ∃ b o, x = ⟨b, o, none⟩ := by
  obtain ⟨b, o, s⟩ := x
  cases s with
  | none => exact ⟨b, o, rfl⟩
  | some s =>
    unfold World.cell? at h
    split at h
    · simp [Addr.add] at h
    · cases h
theorem plain_add (b o k : Nat) : (⟨b, o, none⟩ : Addr).add k = ⟨b, o + k, none⟩ := by unfold Addr.add; split <;> simp_all
namespace Pk
theorem flat_get {α : Type} {f : α → List Value} {s : Nat} (h0 : 0 < s) (hs : ∀ x, (f x).length = s) : ∀ {l : List α} {j : Nat} {u : Value}, (l.flatMap f)[j]? = some u → ∃ v, l[j / s]? = some v ∧ (f v)[j % s]? = some u := by
  intro l
  induction l with
  | nil => intro j u h; simp at h
  | cons x xs ih =>
    intro j u h
    rw [List.flatMap_cons] at h
    by_cases hj : j < s
    · rw [List.getElem?_append_left (by rw [hs]; exact hj)] at h
      rw [Nat.div_eq_of_lt hj, Nat.mod_eq_of_lt hj]
      exact ⟨x, rfl, h⟩
    · rw [List.getElem?_append_right (by rw [hs]; omega), hs] at h
      obtain ⟨v, h1, h2⟩ := ih h
      refine ⟨v, ?_, ?_⟩
      · rw [Nat.div_eq_sub_div h0 (by omega), List.getElem?_cons_succ]; exact h1
      · rw [Nat.mod_eq_sub_mod (by omega)]; exact h2
end Pk
theorem list9 {α : Type} {cs : List α} (h : cs.length = 9) : ∃ c0 c1 c2 c3 c4 c5 c6 c7 c8, cs = [c0, c1, c2, c3, c4, c5, c6, c7, c8] := by
  match cs, h with
  | [c0, c1, c2, c3, c4, c5, c6, c7, c8], _ => exact ⟨c0, c1, c2, c3, c4, c5, c6, c7, c8, rfl⟩
section
variable {H : Type} {enc : TypeId × Value → H} {W : World} {base : Nat} {v : Value} {d : DataW H} {p : List MemPlace}
set_option maxRecDepth 100000 in
/-- A slice in a field of what came in: each element's cells, and that they read. -/
theorem field_elems {t e : TypeId} {C : Nat} {fuel : Nat} {x : DataW H × List MemPlace} (ht : Tryz.prog.underlying t = some (.slice e)) (hC : Tryz.prog.cellsOf e = C) (hpos : 0 < C)
    (hf : DataW.trod enc Tryz.prog W 0 (fun _ => true) true fuel t [v] = some x) :
    ∃ (A : Option Addr) (n cap : Nat), v = .slice A n cap ∧ n ≤ cap ∧ n ≤ 9223372036854775807 ∧ (0 < n → ∃ b o, A = some ⟨b, o, none⟩ ∧ b < W.heap.size ∧ ∀ i, i < n → ∃ (cs : List Value) (q : Nat) (y : DataW H × List MemPlace), cs.length = C ∧ (∀ (j : Nat) (u : Value), cs[j]? = some u → W.cell? ⟨b, o + (i * C + j), none⟩ = some u) ∧ DataW.trod enc Tryz.prog W 0 (fun _ => true) true q e cs = some y) := by
  rcases open_slice ht hf with ⟨hcs, _⟩ | ⟨a, len0, cap0, m, k, D, Pl, hcs, hb, hl, hm, hmm, hx, hi⟩
  · injection hcs with hcs _
    exact ⟨none, 0, 0, hcs, Nat.le_refl _, by omega, fun h => absurd h (Nat.lt_irrefl 0)⟩
  · injection hcs with hcs _
    subst hcs
    have hm' : m = cap0 := by simpa using hmm
    simp only [maxLen] at hm
    have each : ∀ i, i < len0 → ∃ (cs : List Value) (q : Nat) (y : DataW H × List MemPlace), cs.length = C ∧ (∀ (j : Nat) (u : Value), cs[j]? = some u → W.cell? (a.add (i * C + j)) = some u) ∧ DataW.trod enc Tryz.prog W 0 (fun _ => true) true q e cs = some y := by
      intro i hin
      obtain ⟨cs, hc, htr⟩ := hi i (by omega)
      rw [hC] at hc
      obtain ⟨_, hcl, hat⟩ := World.cells?_some hc
      refine ⟨cs, _, _, hcl, fun j u hj => ?_, htr⟩
      have hj2 : j < C := by have := (List.getElem?_eq_some_iff.1 hj).1; omega
      have hcell := hat j hj2
      rw [Go.Deep.add_add, hj] at hcell
      exact hcell
    refine ⟨some a, len0, cap0, rfl, hl, by omega, fun hn => ?_⟩
    obtain ⟨cs0, q0, y0, hl0, hc0, _⟩ := each 0 hn
    obtain ⟨u0, hu0⟩ : ∃ u, cs0[0]? = some u := ⟨_, List.getElem?_eq_getElem (by omega)⟩
    have h00 := hc0 0 u0 hu0
    rw [Nat.zero_mul, Nat.zero_add] at h00
    obtain ⟨b, o, rfl⟩ := plain_addr h00
    refine ⟨b, o, rfl, ?_, fun i hin => ?_⟩
    · rw [plain_add] at h00
      exact block_lt_of_cell h00
    · obtain ⟨cs, q, y, h1, h2, h3⟩ := each i hin
      refine ⟨cs, q, y, h1, fun j u hj => ?_, h3⟩
      have := h2 j u hj
      rwa [plain_add] at this
theorem one_int {t : TypeId} (hu : Tryz.prog.underlying t = some (.int .i64)) {f : Nat} {c : Value} {y : DataW H × List MemPlace} {sp : Nat → Bool} {hd : Bool} (h : DataW.trod enc Tryz.prog W 0 sp hd f t [c] = some y) : ∃ n : Int, c = .int .i64 n ∧ -9223372036854775808 ≤ n ∧ n ≤ 9223372036854775807 := by
  obtain ⟨a, e0, _, wa⟩ := DataW.trod_int hu h
  simp at e0
  exact ⟨a, e0, i64_in wa⟩
set_option maxRecDepth 100000 in
theorem one_str {f : Nat} {c : Value} {y : DataW H × List MemPlace} {sp : Nat → Bool} {hd : Bool} (h : DataW.trod enc Tryz.prog W 0 sp hd f 9 [c] = some y) : ∃ s : ByteArray, c = .string s ∧ s.size ≤ 9223372036854775807 := by
  obtain ⟨a, e0, _, wa⟩ := DataW.trod_string Tryz.underlying9 h
  simp at e0
  simp only [maxLen] at wa
  exact ⟨a, e0, by omega⟩
end
end Go.Proofs.YthfcjlndaajkfaaGreat
