/- Superblocks as plain numbers: which may be, their payload, their sector, and the superblock of any sector. Superblocks as values; super's within. -/
import Derived.Test.YtbdomhookjmmgaaFrF
import Derived.Test.YtbdomhookjmmgaaSuA
namespace Go.Proofs.Ytbdomhookjmmgaa
open Go.RowKit Fr
set_option linter.unusedVariables false
namespace Su
/-- A superblock: its number, its epoch, and the manifest's place. -/
structure S where
  g : Int
  e : Int
  i : Int
  m : Int
  ps : List (Int × Int)
def flat (ps : List (Int × Int)) : List Int := ps.flatMap fun p => [p.1, p.2]
theorem flat_length (ps : List (Int × Int)) : (flat ps).length = ps.length * 2 := by
  induction ps with
  | nil => rfl
  | cons v vs ih => show (_ ++ flat vs).length = _; rw [List.length_append, ih, List.length_cons]; simp; omega
theorem flat_at {ps : List (Int × Int)} {i : Nat} {p : Int × Int} (h : ps[i]? = some p) : (flat ps)[i * 2]? = some p.1 ∧ (flat ps)[i * 2 + 1]? = some p.2 := by
  induction ps generalizing i with
  | nil => simp at h
  | cons x r ih =>
    match i, h with
    | 0, h => injection h with h; subst h; exact ⟨rfl, rfl⟩
    | i + 1, h =>
      have := ih (i := i) (by simpa using h)
      rw [show (i + 1) * 2 = i * 2 + 1 + 1 by omega]
      exact this
/-- May these plots be named? -/
def okP (l : List Int) : Bool := decide ((∀ x ∈ l, 0 ≤ x ∧ x ≤ 510) ∧ l.Nodup)
theorem okP_iff {l : List Int} : okP l = true ↔ (∀ x ∈ l, 0 ≤ x ∧ x ≤ 510) ∧ l.Nodup := by unfold okP; exact decide_eq_true_iff
theorem okP_nil : okP [] = true := by rw [okP_iff]; exact ⟨by simp, by simp⟩
theorem okP_snoc {l : List Int} {x : Int} : okP (l ++ [x]) = true ↔ okP l = true ∧ (0 ≤ x ∧ x ≤ 510) ∧ x ∉ l := by
  rw [okP_iff, okP_iff, List.nodup_append]
  constructor
  · rintro ⟨h1, h2, _, h4⟩
    exact ⟨⟨fun y hy => h1 y (List.mem_append_left _ hy), h2⟩, h1 x (by simp), fun hx => h4 x hx x (by simp) rfl⟩
  · rintro ⟨⟨h1, h2⟩, h3, h4⟩
    refine ⟨fun y hy => ?_, h2, by simp, fun a ha b hb e => ?_⟩
    · rcases List.mem_append.1 hy with hy | hy
      · exact h1 y hy
      · rw [List.mem_singleton] at hy; subst hy; exact h3
    · rw [List.mem_singleton] at hb; subst hb; subst e; exact h4 ha
theorem take_snocI {l : List Int} {k : Nat} {x : Int} (h : l[k]? = some x) : l.take (k + 1) = l.take k ++ [x] := by rw [List.take_add_one, h]; rfl
theorem okP_take {l : List Int} (h : okP l = true) (k : Nat) : okP (l.take k) = true := by
  rw [okP_iff] at h ⊢
  exact ⟨fun x hx => h.1 x (List.mem_of_mem_take hx), h.2.sublist (List.take_sublist _ _)⟩
/-- One that may not follow: all is not as it may be. -/
theorem okP_not {l : List Int} {k : Nat} {x : Int} (hx : l[k]? = some x) (h : ¬ ((0 ≤ x ∧ x ≤ 510) ∧ x ∉ l.take k)) : okP l = false := by
  rw [Bool.eq_false_iff]
  intro hh
  have h1 := okP_take hh (k + 1)
  rw [take_snocI hx, okP_snoc] at h1
  exact h h1.2
theorem okP_more {l : List Int} {k : Nat} {x : Int} (hx : l[k]? = some x) (h0 : okP (l.take k) = true) (h : (0 ≤ x ∧ x ≤ 510) ∧ x ∉ l.take k) : okP (l.take (k + 1)) = true := by
  rw [take_snocI hx, okP_snoc]
  exact ⟨h0, h⟩
/-- May the numbers stand? -/
def okH (s : S) : Bool := decide (1 ≤ s.g ∧ s.g ≤ 2147483647 ∧ 1 ≤ s.e ∧ s.e ≤ 2147483647 ∧ 1 ≤ s.i ∧ s.i ≤ 2147483647 ∧ 1 ≤ s.m ∧ s.m ≤ s.e ∧ 1 ≤ s.ps.length ∧ s.ps.length ≤ 8)
def ok (s : S) : Bool := okH s && okP (flat s.ps)
theorem ok_iff {s : S} : ok s = true ↔ okH s = true ∧ okP (flat s.ps) = true := by unfold ok; rw [Bool.and_eq_true]
theorem okH_iff {s : S} : okH s = true ↔ 1 ≤ s.g ∧ s.g ≤ 2147483647 ∧ 1 ≤ s.e ∧ s.e ≤ 2147483647 ∧ 1 ≤ s.i ∧ s.i ≤ 2147483647 ∧ 1 ≤ s.m ∧ s.m ≤ s.e ∧ 1 ≤ s.ps.length ∧ s.ps.length ≤ 8 := by unfold okH; exact decide_eq_true_iff
/-- A pair's bytes. -/
def pairB (p : Int × Int) : List Nat := le 2 p.1.toNat ++ le 2 p.2.toNat
theorem pairB_len (p : Int × Int) : (pairB p).length = 4 := by unfold pairB; rw [List.length_append, le_len, le_len]
def pairsB (ps : List (Int × Int)) : List Nat := ps.flatMap pairB
theorem pairsB_len (ps : List (Int × Int)) : (pairsB ps).length = ps.length * 4 := by
  induction ps with
  | nil => rfl
  | cons v vs ih => show (pairB v ++ pairsB vs).length = _; rw [List.length_append, ih, List.length_cons, pairB_len]; omega
theorem pairsB_snoc (ps : List (Int × Int)) (p : Int × Int) : pairsB (ps ++ [p]) = pairsB ps ++ pairB p := by unfold pairsB; rw [List.flatMap_append]; simp
/-- The payload of a superblock's frame. -/
def pay (s : S) : List Nat := le 4 s.i.toNat ++ le 4 s.m.toNat ++ [s.ps.length % 256] ++ pairsB s.ps
theorem pay_len (s : S) : (pay s).length = 9 + 4 * s.ps.length := by
  unfold pay
  rw [List.length_append, List.length_append, List.length_append, le_len, le_len, pairsB_len, List.length_singleton]
  omega
theorem pay_lt (s : S) : ∀ x ∈ pay s, x < 256 := by
  intro x hx
  unfold pay at hx
  rcases List.mem_append.1 hx with hx | hx
  · rcases List.mem_append.1 hx with hx | hx
    · rcases List.mem_append.1 hx with hx | hx
      · exact le_lt _ _ x hx
      · exact le_lt _ _ x hx
    · rw [List.mem_singleton] at hx; omega
  · unfold pairsB at hx
    rw [List.mem_flatMap] at hx
    obtain ⟨p, _, hx⟩ := hx
    unfold pairB at hx
    rcases List.mem_append.1 hx with hx | hx
    · exact le_lt _ _ x hx
    · exact le_lt _ _ x hx
/-- A superblock's sector. -/
def sec (s : S) : List Nat := frame 1 0 s.e.toNat s.g.toNat (pay s)
/-- The payload of a frame. -/
def body (l : List Nat) : List Nat := (l.drop 16).take (F l 2 2)
/-- The first pairs of a payload. -/
def pairs (p : List Nat) (n : Nat) : List (Int × Int) := (List.range n).map fun j => (((F p (9 + 4 * j) 2 : Nat) : Int), ((F p (11 + 4 * j) 2 : Nat) : Int))
theorem pairs_len (p : List Nat) (n : Nat) : (pairs p n).length = n := by simp [pairs]
theorem pairs_snoc (p : List Nat) (n : Nat) : pairs p (n + 1) = pairs p n ++ [(((F p (9 + 4 * n) 2 : Nat) : Int), ((F p (11 + 4 * n) 2 : Nat) : Int))] := by
  unfold pairs; rw [List.range_succ, List.map_append]; rfl
/-- What a frame says of a superblock. -/
def sOf (l : List Nat) : S := ⟨(F l 12 4 : Nat), (F l 8 4 : Nat), (F (body l) 0 4 : Nat), (F (body l) 4 4 : Nat), pairs (body l) (F (body l) 8 1)⟩
def isSu (l : List Nat) : Bool := isF l && decide (F l 1 1 = 1) && decide (F l 4 4 = 0) && decide (9 ≤ (body l).length) && decide ((body l).length = 9 + 4 * F (body l) 8 1) && ok (sOf l)
def none_ : S := ⟨0, 0, 0, 0, []⟩
/-- The superblock of a sector, and what is told. -/
def read (l : List Nat) : S := if isSu l then sOf l else none_
end Su
end Go.Proofs.Ytbdomhookjmmgaa
namespace Go.Proofs.Ytbdomhookjmmgaa
open Go.RowKit Fr
set_option linter.unusedVariables false
namespace Su
/-- The cells of a row of pairs. -/
def pv (ps : List (Int × Int)) : List Value := (flat ps).map fun n => .int .i64 n
theorem pv_length (ps : List (Int × Int)) : (pv ps).length = ps.length * 2 := by unfold pv; rw [List.length_map, flat_length]
theorem pv_at {ps : List (Int × Int)} {i : Nat} {p : Int × Int} (h : ps[i]? = some p) : (pv ps)[i * 2]? = some (.int .i64 p.1) ∧ (pv ps)[i * 2 + 1]? = some (.int .i64 p.2) := by
  unfold pv
  rw [List.getElem?_map, List.getElem?_map, (flat_at h).1, (flat_at h).2]
  exact ⟨rfl, rfl⟩
/-- A superblock's value. -/
def val (s : S) (A : Option Addr) (c : Nat) : Value := .agg #[.int .i64 s.g, .int .i64 s.e, .int .i64 s.i, .int .i64 s.m, .slice A s.ps.length c]
end Su
open Su
theorem RdC.two2 {w : World} {A : Option Addr} {n i : Nat} {vs : List Value} {x y : Value} (h : RdC 2 w A n vs) (hi : i < n) (hx : vs[i * 2]? = some x) (hy : vs[i * 2 + 1]? = some y) : ∃ b o, A = some ⟨b, o, none⟩ ∧ b < w.heap.size ∧ w.cell? ⟨b, o + i * 2, none⟩ = some x ∧ w.cell? ⟨b, o + i * 2 + 1, none⟩ = some y := by
  obtain ⟨b, o, rfl, hb, hc⟩ := h.2 (by omega)
  exact ⟨b, o, rfl, hb, hc _ _ hx, hc _ _ hy⟩
theorem within_any (n l m : Int) (w : World) : Calls Try.prog 51 #[.int .i64 n, .int .i64 l, .int .i64 m] w fun e w' => e = .returned (.bool (decide (l ≤ n ∧ n ≤ m))) ∧ w' = w := by
  by_cases h1 : l ≤ n
  · by_cases h2 : n ≤ m
    · rw [decide_eq_true (show l ≤ n ∧ n ≤ m from ⟨h1, h2⟩)]
      go_enter Try.func51, Try.ntmps51
      go_wp2
      go_ret
      exact ⟨rfl, rfl⟩
    · rw [decide_eq_false (show ¬ (l ≤ n ∧ n ≤ m) from fun h => h2 h.2)]
      go_enter Try.func51, Try.ntmps51
      go_wp2
      go_ret
      exact ⟨rfl, rfl⟩
  · rw [decide_eq_false (show ¬ (l ≤ n ∧ n ≤ m) from fun h => h1 h.1)]
    go_enter Try.func51, Try.ntmps51
    go_wp2
    go_ret
    exact ⟨rfl, rfl⟩
theorem within_yes (n l m : Int) (w : World) (h : l ≤ n ∧ n ≤ m) : Calls Try.prog 51 #[.int .i64 n, .int .i64 l, .int .i64 m] w fun e w' => e = .returned (.bool true) ∧ w' = w := by
  have := within_any n l m w
  rw [decide_eq_true h] at this
  exact this
theorem within_no (n l m : Int) (w : World) (h : ¬ (l ≤ n ∧ n ≤ m)) : Calls Try.prog 51 #[.int .i64 n, .int .i64 l, .int .i64 m] w fun e w' => e = .returned (.bool false) ∧ w' = w := by
  have := within_any n l m w
  rw [decide_eq_false h] at this
  exact this
end Go.Proofs.Ytbdomhookjmmgaa
