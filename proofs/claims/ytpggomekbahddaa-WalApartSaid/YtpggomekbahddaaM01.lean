/- What space's Sector, Plots and the document's return. Places: which may be, where their frames lie; plain. A map of how often plots were named. -/
import Derived.Test.YtpggomekbahddaaBytes
import Derived.Test.YtpggomekbahddaaSuA
import Derived.Test.YtpggomekbahddaaDkA
namespace Go.Proofs.Ytpggomekbahddaa
open Go.RowKit
set_option linter.unusedVariables false
namespace Sp
def sec (p i : Int) : Int × Int := if p < 0 ∨ 511 ≤ p ∨ i < 0 ∨ 8 ≤ i then (0, 5) else (4 + 8 * p + i, 0)
theorem sec_no {p i : Int} (h : p < 0 ∨ 511 ≤ p ∨ i < 0 ∨ 8 ≤ i) : sec p i = (0, 5) := if_pos h
theorem sec_yes {p i : Int} (h : ¬ (p < 0 ∨ 511 ≤ p ∨ i < 0 ∨ 8 ≤ i)) : sec p i = (4 + 8 * p + i, 0) := if_neg h
/-- How many plots a disk of so many sectors has. -/
def plots (s : Int) : Nat := if s ≤ 4 then 0 else if 4096 < s then 511 else (s.toNat - 4) / 8
end Sp
set_option maxRecDepth 100000 in
theorem spsector_any (p i : Int) (w : World) : Calls Try.prog 59 #[.int .i64 p, .int .i64 i] w fun e w' => e = .returned (.tuple #[.int .i64 (Sp.sec p i).1, .int .i64 (Sp.sec p i).2]) ∧ w = w' := by
  by_cases h1 : p < 0
  · rw [Sp.sec_no (by omega)]
    go_enter Try.func59, Try.ntmps59
    go_wp2
    go_ret2
    exact ⟨rfl, rfl⟩
  · by_cases h2 : 511 ≤ p
    · rw [Sp.sec_no (by omega)]
      have h2b : 510 < p := by omega
      go_enter Try.func59, Try.ntmps59
      go_wp2
      go_ret2
      exact ⟨rfl, rfl⟩
    · have h2b : ¬ 510 < p := by omega
      by_cases h3 : i < 0
      · rw [Sp.sec_no (by omega)]
        go_enter Try.func59, Try.ntmps59
        go_wp2
        go_ret2
        exact ⟨rfl, rfl⟩
      · by_cases h4 : 8 ≤ i
        · rw [Sp.sec_no (by omega)]
          have h4b : 7 < i := by omega
          go_enter Try.func59, Try.ntmps59
          go_wp2
          go_ret2
          exact ⟨rfl, rfl⟩
        · rw [Sp.sec_yes (by omega)]
          have h4b : ¬ 7 < i := by omega
          obtain ⟨q, rfl⟩ := Int.eq_ofNat_of_zero_le (show 0 ≤ p by omega)
          obtain ⟨j, rfl⟩ := Int.eq_ofNat_of_zero_le (show 0 ≤ i by omega)
          have w1 : IntKind.i64.wrap (8 * (q : Int)) = 8 * (q : Int) := by rw [IntKind.wrap_i64]; omega
          have w2 : IntKind.i64.wrap (4 + 8 * (q : Int)) = 4 + 8 * (q : Int) := by rw [IntKind.wrap_i64]; omega
          have w3 : IntKind.i64.wrap (4 + 8 * (q : Int) + (j : Int)) = 4 + 8 * (q : Int) + (j : Int) := by rw [IntKind.wrap_i64]; omega
          go_enter Try.func59, Try.ntmps59
          go_wp2
          go_ret2
          exact ⟨rfl, rfl⟩
set_option maxRecDepth 100000 in
theorem plots_any (s : Int) (w : World) (h : s ≤ 9223372036854775807) : Calls Try.prog 34 #[.int .i64 s] w fun e w' => e = .returned (.int .i64 (Sp.plots s : Int)) ∧ w = w' := by
  obtain ⟨a, ha⟩ : ∃ a, (if s < (4 : Int) then (4 : Int) else s) = a := ⟨_, rfl⟩
  obtain ⟨b, hb⟩ : ∃ b, (if (4096 : Int) < a then (4096 : Int) else a) = b := ⟨_, rfl⟩
  have hb1 : 4 ≤ b ∧ b ≤ 4096 := by rw [← hb, ← ha]; split <;> split <;> omega
  have hp : Sp.plots s = (b.toNat - 4) / 8 := by unfold Sp.plots; rw [← hb, ← ha]; split <;> split <;> split <;> (try split) <;> omega
  obtain ⟨n, rfl⟩ := Int.eq_ofNat_of_zero_le (show 0 ≤ b by omega)
  rw [hp]
  have w1 : IntKind.i64.wrap ((n : Int) - 4) = (n : Int) - 4 := by rw [IntKind.wrap_i64]; omega
  clear hp
  go_enter Try.func34, Try.ntmps34
  go_wp2
  go_ret
  rw [show ((((n : Int).toNat - 4) / 8 : Nat) : Int) = ((n : Int) - 4) / 8 by omega]
  exact ⟨rfl, rfl⟩
end Go.Proofs.Ytpggomekbahddaa
namespace Go.Proofs.Ytpggomekbahddaa
open Go.RowKit
set_option linter.unusedVariables false
namespace Fi
/-- A place: ID, Epoch, Pairs. -/
structure Pl where
  i : Int
  e : Int
  ps : List (Int × Int)
def flat (ps : List (Int × Int)) : List Int := ps.flatMap fun p => [p.1, p.2]
theorem flat_length (ps : List (Int × Int)) : (flat ps).length = ps.length * 2 := by
  induction ps with
  | nil => rfl
  | cons v vs ih => show (_ ++ flat vs).length = _; rw [List.length_append, ih, List.length_cons]; simp; omega
theorem flat_at {ps : List (Int × Int)} {i : Nat} {p : Int × Int} (h : ps[i]? = some p) : (flat ps)[i * 2]? = some p.1 ∧ (flat ps)[i * 2 + 1]? = some p.2 := by
  induction ps generalizing i with
  | nil => simp at h
  | cons x r ih =>
    match i, h with
    | 0, h => injection h with h; subst h; exact ⟨rfl, rfl⟩
    | i + 1, h =>
      have := ih (i := i) (by simpa using h)
      rw [show (i + 1) * 2 = i * 2 + 1 + 1 by omega]
      exact this
/-- May these plots be named? -/
def okP (M : Nat) (l : List Int) : Bool := decide ((∀ x ∈ l, 0 ≤ x ∧ x < (M : Int)) ∧ l.Nodup)
theorem okP_iff {M : Nat} {l : List Int} : okP M l = true ↔ (∀ x ∈ l, 0 ≤ x ∧ x < (M : Int)) ∧ l.Nodup := by unfold okP; exact decide_eq_true_iff
theorem okP_nil {M : Nat} : okP M [] = true := by rw [okP_iff]; exact ⟨by simp, by simp⟩
theorem okP_snoc {M : Nat} {l : List Int} {x : Int} : okP M (l ++ [x]) = true ↔ okP M l = true ∧ (0 ≤ x ∧ x < (M : Int)) ∧ x ∉ l := by
  rw [okP_iff, okP_iff, List.nodup_append]
  constructor
  · rintro ⟨h1, h2, _, h4⟩
    exact ⟨⟨fun y hy => h1 y (List.mem_append_left _ hy), h2⟩, h1 x (by simp), fun hx => h4 x hx x (by simp) rfl⟩
  · rintro ⟨⟨h1, h2⟩, h3, h4⟩
    refine ⟨fun y hy => ?_, h2, by simp, fun a ha b hb e => ?_⟩
    · rcases List.mem_append.1 hy with hy | hy
      · exact h1 y hy
      · rw [List.mem_singleton] at hy; subst hy; exact h3
    · rw [List.mem_singleton] at hb; subst hb; subst e; exact h4 ha
theorem take_snocI {l : List Int} {k : Nat} {x : Int} (h : l[k]? = some x) : l.take (k + 1) = l.take k ++ [x] := by rw [List.take_add_one, h]; rfl
theorem okP_take {M : Nat} {l : List Int} (h : okP M l = true) (k : Nat) : okP M (l.take k) = true := by
  rw [okP_iff] at h ⊢
  exact ⟨fun x hx => h.1 x (List.mem_of_mem_take hx), h.2.sublist (List.take_sublist _ _)⟩
/-- One that may not follow: all is not as it may be. -/
theorem okP_not {M : Nat} {l : List Int} {k : Nat} {x : Int} (hx : l[k]? = some x) (h : ¬ ((0 ≤ x ∧ x < (M : Int)) ∧ x ∉ l.take k)) : okP M l = false := by
  rw [Bool.eq_false_iff]
  intro hh
  have h1 := okP_take hh (k + 1)
  rw [take_snocI hx, okP_snoc] at h1
  exact h h1.2
theorem okP_more {M : Nat} {l : List Int} {k : Nat} {x : Int} (hx : l[k]? = some x) (h0 : okP M (l.take k) = true) (h : (0 ≤ x ∧ x < (M : Int)) ∧ x ∉ l.take k) : okP M (l.take (k + 1)) = true := by
  rw [take_snocI hx, okP_snoc]
  exact ⟨h0, h⟩
def pv (ps : List (Int × Int)) : List Value := (flat ps).map fun n => .int .i64 n
theorem pv_length (ps : List (Int × Int)) : (pv ps).length = ps.length * 2 := by unfold pv; rw [List.length_map, flat_length]
theorem pv_at {ps : List (Int × Int)} {i : Nat} {p : Int × Int} (h : ps[i]? = some p) : (pv ps)[i * 2]? = some (.int .i64 p.1) ∧ (pv ps)[i * 2 + 1]? = some (.int .i64 p.2) := by
  unfold pv
  rw [List.getElem?_map, List.getElem?_map, (flat_at h).1, (flat_at h).2]
  exact ⟨rfl, rfl⟩
def okH (P : Pl) : Bool := decide (1 ≤ P.i ∧ P.i ≤ 2147483647 ∧ 1 ≤ P.e ∧ P.e ≤ 2147483647 ∧ 1 ≤ P.ps.length ∧ P.ps.length ≤ 64)
/-- May the place be on a disk of so many plots? -/
def ok (P : Pl) (M : Nat) : Bool := okH P && okP M (flat P.ps)
theorem ok_iff {P : Pl} {M : Nat} : ok P M = true ↔ okH P = true ∧ okP M (flat P.ps) = true := by unfold ok; rw [Bool.and_eq_true]
theorem okH_iff {P : Pl} : okH P = true ↔ 1 ≤ P.i ∧ P.i ≤ 2147483647 ∧ 1 ≤ P.e ∧ P.e ≤ 2147483647 ∧ 1 ≤ P.ps.length ∧ P.ps.length ≤ 64 := by unfold okH; exact decide_eq_true_iff
def val (P : Pl) (A : Option Addr) (c : Nat) : Value := .agg #[.int .i64 P.i, .int .i64 P.e, .slice A P.ps.length c]
end Fi
theorem RdC.two2 {w : World} {A : Option Addr} {n i : Nat} {vs : List Value} {x y : Value} (h : RdC 2 w A n vs) (hi : i < n) (hx : vs[i * 2]? = some x) (hy : vs[i * 2 + 1]? = some y) : ∃ b o, A = some ⟨b, o, none⟩ ∧ b < w.heap.size ∧ w.cell? ⟨b, o + i * 2, none⟩ = some x ∧ w.cell? ⟨b, o + i * 2 + 1, none⟩ = some y := by
  obtain ⟨b, o, rfl, hb, hc⟩ := h.2 (by omega)
  exact ⟨b, o, rfl, hb, hc _ _ hx, hc _ _ hy⟩
open Go.MapKept Go.ChangeMaps
/-- Block b is a map in which each of these stands with 1. -/
def Cm (w : World) (b n : Nat) (L : List Int) : Prop := ∃ D : DataW Unit, w.ownsMap Try.prog 3 (plainElem Try.prog 3) b n D ∧ Maps.IsMap D ∧ ∀ q, D.atKey (.int .i64 q) (.lit (.int .i64 0)) = .lit (.int .i64 (if q ∈ L then 1 else 0))
section
variable {w w' : World} {b n : Nat} {L : List Int}
theorem Cm.new (w : World) : Cm (w.alloc (.map #[] 0)) w.heap.size 0 [] := ⟨_, World.ownsMap_made _ _ _ _, Maps.isMap_empty, fun q => rfl⟩
theorem Cm.lt (h : Cm w b n L) : b < w.heap.size := by obtain ⟨D, h, _⟩ := h; exact h.lt
theorem Cm.block (h : Cm w b n L) (hb : w'.heap[b]? = w.heap[b]?) : Cm w' b n L := by
  obtain ⟨D, ⟨es, clock, h1, h2⟩, h3⟩ := h
  exact ⟨D, ⟨es, clock, hb.trans h1, h2⟩, h3⟩
theorem Cm.below (h : Cm w b n L) (hb : Below w.heap.size w w') : Cm w' b n L := h.block (hb.block b h.lt)
set_option maxRecDepth 100000 in
theorem fzero_int (w : World) : (zeroValue 3).run Try.prog w = .ok (.int .i64 0) w := by kernel_rfl
set_option maxRecDepth 100000 in
theorem Cm.look (h : Cm w b n L) {q : Int} (hq : Q64 q) : (Instr.lookup 75 (.map (some b)) (.int .i64 q) false).run Try.prog w = .ok (.int .i64 (if q ∈ L then 1 else 0)) w := by
  obtain ⟨D, hD, hM, hA⟩ := h
  obtain ⟨c, he, hc, _⟩ := hD.lookup_int keyed Try.underlying75 Try.underlying3 (fzero_int w) (key_of hq)
  rw [hA q] at hc
  injection hc with hc
  injection hc with _ hc
  rw [hc]
  exact he
set_option maxRecDepth 100000 in
theorem Cm.store (h : Cm w b n L) (hn : n < 10000) {q : Int} (hq : Q64 q) : ∃ w', (Instr.mapUpdate 75 (.map (some b)) (.int .i64 q) (.int .i64 1)).run Try.prog w = .ok () w' ∧ Cm w' b (n + 1) (L ++ [q]) ∧ Ch1 b w w' := by
  obtain ⟨D, hD, hM, hA⟩ := h
  obtain ⟨w', h1, h2, h3⟩ := hD.store keyed Try.underlying75 (by unfold maxLen; omega) (key_of hq) (plainElem_int Try.underlying3 (by decide : (Lit.int .i64 1).wf = true))
  refine ⟨w', h1, ⟨_, h2, hM.put _ _, fun x => ?_⟩, turned_ch h3⟩
  by_cases e : x = q
  · subst e
    rw [Maps.atKey_put_same (k := .int .i64 x) hM trivial, if_pos (by simp)]
  · rw [Maps.atKey_put_other (by intro h; injection h with _ h; exact e h), hA x]
    congr 3
    simp [e]
end
end Go.Proofs.Ytpggomekbahddaa
