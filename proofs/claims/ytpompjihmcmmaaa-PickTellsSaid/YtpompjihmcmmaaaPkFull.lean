/- How many tables a level may have; which levels have more: the program's and the document's. -/
import Derived.Test.YtpompjihmcmmaaaPkBase
namespace Go.Proofs.Ytpompjihmcmmaaa
open Go.RowKit
namespace Pk
def lim (k : Int) : Int := if k = 0 then 3 else if k = 1 then 4 else if k = 2 then 8 else -1
/-- How many tables a level has. -/
def count (l : List Tb) (k : Int) : Nat := (l.filter (fun t => decide (t.lv = k))).length
theorem count_snoc {l : List Tb} {i : Nat} {x : Tb} (h : l[i]? = some x) (k : Int) : count (l.take (i + 1)) k = count (l.take i) k + (if x.lv = k then 1 else 0) := by
  unfold count
  rw [List.take_add_one, h, List.filter_append, List.length_append]
  by_cases e : x.lv = k
  · simp [e]
  · simp [e]
theorem count_le (l : List Tb) (i : Nat) (k : Int) : count (l.take i) k ≤ i := by
  unfold count
  refine Nat.le_trans (List.length_filter_le _ _) ?_
  rw [List.length_take]; omega
/-- Has a level more? -/
def more (l : List Tb) (k : Nat) : Bool := decide (lim k < (count l k : Int))
def full (l : List Tb) : List Int := ((List.range 3).filter (more l)).map (fun (k : Nat) => (k : Int))
def iv (l : List Int) : List Value := l.map (Value.int .i64)
theorem iv_append (a b : List Int) : iv (a ++ b) = iv a ++ iv b := by unfold iv; rw [List.map_append]
theorem iv_one (l : List Int) : ∀ u ∈ iv l, u.oneCell' = true := by
  intro u hu
  unfold iv at hu
  obtain ⟨x, _, rfl⟩ := List.mem_map.1 hu
  rfl
theorem iv_len (l : List Int) : (iv l).length = l.length := List.length_map _
/-- A version's value. -/
def ver (a b : Int) (L : Option Addr) (ln lc : Nat) (A : Option Addr) (n c : Nat) : Array Value := #[.int .i64 a, .int .i64 b, .slice L ln lc, .slice A n c]
theorem range_step (l : List Tb) (k : Nat) : ((List.range (k + 1)).filter (more l)).map (fun (k : Nat) => (k : Int)) = ((List.range k).filter (more l)).map (fun (k : Nat) => (k : Int)) ++ (if more l k then [(k : Int)] else []) := by
  rw [List.range_succ, List.filter_append, List.map_append]
  by_cases h : more l k = true
  · rw [if_pos h]; simp [h]
  · rw [if_neg h]; simp [h]
end Pk
theorem manyI : Many 1 29 3 (.int .i64 0) 8 := ⟨by kernel_rfl, Try.underlying29, by kernel_rfl, by decide, by decide⟩
set_option maxRecDepth 100000 in
theorem limit_any (k : Int) (w : World) : Calls Try.prog 7 #[.int .i64 k] w fun e w' => e = .returned (.int .i64 (Pk.lim k)) ∧ w' = w := by
  unfold Pk.lim
  by_cases h0 : k = 0
  · subst h0
    go_enter Try.func7, Try.ntmps7
    go_wp2
    go_ret
    exact ⟨rfl, rfl⟩
  by_cases h1 : k = 1
  · subst h1
    go_enter Try.func7, Try.ntmps7
    go_wp2
    go_ret
    exact ⟨rfl, rfl⟩
  by_cases h2 : k = 2
  · subst h2
    go_enter Try.func7, Try.ntmps7
    go_wp2
    go_ret
    exact ⟨rfl, rfl⟩
  rw [if_neg h0, if_neg h1, if_neg h2]
  have g0 : (k == 0) = false := beq_eq_false_iff_ne.2 h0
  have g1 : (k == 1) = false := beq_eq_false_iff_ne.2 h1
  have g2 : (k == 2) = false := beq_eq_false_iff_ne.2 h2
  go_enter Try.func7, Try.ntmps7
  go_wp2
  go_ret
  exact ⟨rfl, rfl⟩
set_option maxRecDepth 100000 in
theorem rlimit_any (k : Int) (w : World) : Calls Try.prog 8 #[.int .i64 k] w fun e w' => e = .returned (.int .i64 (Pk.lim k)) ∧ w' = w := by
  unfold Pk.lim
  by_cases h0 : k = 0
  · subst h0
    go_enter Try.func8, Try.ntmps8
    go_wp2
    go_ret
    exact ⟨rfl, rfl⟩
  by_cases h1 : k = 1
  · subst h1
    go_enter Try.func8, Try.ntmps8
    go_wp2
    go_ret
    exact ⟨rfl, rfl⟩
  by_cases h2 : k = 2
  · subst h2
    go_enter Try.func8, Try.ntmps8
    go_wp2
    go_ret
    exact ⟨rfl, rfl⟩
  rw [if_neg h0, if_neg h1, if_neg h2]
  have g0 : (k == 0) = false := beq_eq_false_iff_ne.2 h0
  have g1 : (k == 1) = false := beq_eq_false_iff_ne.2 h1
  have g2 : (k == 2) = false := beq_eq_false_iff_ne.2 h2
  go_enter Try.func8, Try.ntmps8
  go_wp2
  go_ret
  exact ⟨rfl, rfl⟩
set_option maxRecDepth 100000 in
set_option maxHeartbeats 4000000 in
theorem rcount_any (a b : Int) (L : Option Addr) (ln lc : Nat) (A : Option Addr) (n c : Nat) (l : List Pk.Tb) (v : Int) (w : World) (hr : RdTb w A n l) (hn : n ≤ 1000000) :
    Calls Try.prog 21 #[.agg (Pk.ver a b L ln lc A n c), .int .i64 v] w fun e w' => e = .returned (.int .i64 (Pk.count l v : Int)) ∧ Below w.heap.size w w' := by
  have HR := Lib.hid hr
  have HL := Lib.hid hr.1
  clear hr
  have HZ := Lib.hid (Holds.new w #[.int .i64 a, .int .i64 b, .slice L ln lc, .slice A n c] 25)
  have HB0 := Lib.hid (show Below w.heap.size w (w.alloc (.cells #[.int .i64 a, .int .i64 b, .slice L ln lc, .slice A n c] 25)) from (Below.refl _ _).alloc (Nat.le_refl _) _)
  show Calls _ _ #[.agg #[.int .i64 a, .int .i64 b, .slice L ln lc, .slice A n c], .int .i64 v] _ _
  generalize hans : (Pk.count l v : Int) = ans
  have HA := Lib.hid hans
  clear hans
  go_enter Try.func21, Try.ntmps21
  go_wp2
  generalize (w.alloc (.cells #[.int .i64 a, .int .i64 b, .slice L ln lc, .slice A n c] 25)) = u at *
  have z3 := HZ.out.at_ 3 rfl
  go_loopw [5, 6] (fun s ii wr => ∃ (k : Nat), k ≤ n ∧ ii = .int .i64 (k : Int) ∧ s = .int .i64 (Pk.count (l.take k) v : Int) ∧ wr = u) (fun _ ii _ => n - (intOf ii).toNat)
  case atStart => exact ⟨0, by omega, rfl, rfl, rfl⟩
  case round =>
    obtain ⟨k, hk, rfl, rfl, rfl⟩ := hrel
    have HC := Lib.hid (Pk.count_le l k v)
    by_cases hkn : k < n
    · have hki : (k : Int) < (n : Int) := by omega
      obtain ⟨x, hx⟩ : ∃ x, l[k]? = some x := ⟨_, List.getElem?_eq_getElem (by rw [HL.out]; exact hkn)⟩
      obtain ⟨g, o, rfl, hgl, h9⟩ := HR.out.nine hx
      have HS := Lib.hid (Pk.count_snoc hx v)
      obtain ⟨q0, q1, q2, q3, q4, q5, q6, q7, q8⟩ := h9 wr HB0.out
      clear hx h9 hgl q0 q1 q2 q3 q5 q6 q7 q8
      have hcl : Pk.count (l.take k) v ≤ 1000000 := by have := HC.out; omega
      by_cases hv : x.lv = v
      · have HSn := Lib.hid (show Pk.count (l.take (k + 1)) v = Pk.count (l.take k) v + 1 by rw [HS.out, if_pos hv])
        have e0 : (x.lv == v) = true := by simp [hv]
        generalize x.lv = y at *
        clear hv HS
        generalize Pk.count (l.take k) v = cn at *
        go_wp2
        go_roundw
        case rel => exact ⟨k + 1, by omega, by go_num, by rw [HSn.out]; go_num, by first | rfl | trivial⟩
        case measure => simp [intOf]; omega
      · have HSn := Lib.hid (show Pk.count (l.take (k + 1)) v = Pk.count (l.take k) v by rw [HS.out, if_neg hv, Nat.add_zero])
        have e0 : (x.lv == v) = false := beq_eq_false_iff_ne.2 hv
        generalize x.lv = y at *
        clear hv HS
        go_wp2
        go_roundw
        case rel => exact ⟨k + 1, by omega, by go_num, by rw [HSn.out], by first | rfl | trivial⟩
        case measure => simp [intOf]; omega
    · have hke : k = n := by omega
      obtain rfl : n = k := hke.symm
      have hnk : ¬ (n : Int) < (n : Int) := by omega
      clear hkn
      have HF := Lib.hid (show (Pk.count (l.take n) v : Int) = ans by rw [List.take_of_length_le (Nat.le_of_eq HL.out)]; exact HA.out)
      generalize Pk.count (l.take n) v = cn at *
      go_wp2
      go_ret
      exact ⟨by rw [← HF.out]; rfl, HB0.out⟩
end Go.Proofs.Ytpompjihmcmmaaa
