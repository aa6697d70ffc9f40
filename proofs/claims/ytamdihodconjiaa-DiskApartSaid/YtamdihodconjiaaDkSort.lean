/- slices.SortFunc of the loose sectors, by their numbers. -/
import Derived.Test.YtamdihodconjiaaDkShelf
import Derived.Test.YtamdihodconjiaaDkRot
namespace Go.Proofs.Ytamdihodconjiaa
open Go.RowKit
set_option linter.unusedVariables false
/-- A pair of a sector and how many, with a number that is small. -/
abbrev Pa := { x : Nat × Nat // x.1 < 1000000 }
def encP (x : Pa) : List Value := [.int .i64 (x.1.1 : Int), .int .i64 (x.1.2 : Int)]
def cmpP (x y : Pa) : Int := (x.1.1 : Int) - (y.1.1 : Int)
theorem ltP (x y : Pa) : ltOf cmpP x y = decide (x.1.1 < y.1.1) := by
  unfold ltOf cmpP
  rw [Bool.eq_iff_iff]
  simp
  omega
theorem swoP : Sort.SWO (ltOf cmpP) where
  irrefl x := by rw [ltP]; simp
  trans x y z h1 h2 := by rw [ltP] at *; simp at *; omega
  ntrans x y z h1 h2 := by rw [ltP] at *; simp at *; omega
set_option maxRecDepth 100000 in
theorem closure_any (x y : Pa) (W : World) : Calls Try.prog 43 #[.agg #[.int .i64 (x.1.1 : Int), .int .i64 (x.1.2 : Int)], .agg #[.int .i64 (y.1.1 : Int), .int .i64 (y.1.2 : Int)]] W fun e w' => e = .returned (.int .i64 (cmpP x y)) ∧ ∃ q os', w' = Sort.grow (W.drewN q) os' := by
  obtain ⟨⟨a, b⟩, h1⟩ := x
  obtain ⟨⟨c, d⟩, h2⟩ := y
  replace h1 : a < 1000000 := h1
  replace h2 : c < 1000000 := h2
  have e : cmpP ⟨(a, b), h1⟩ ⟨(c, d), h2⟩ = (a : Int) - (c : Int) := rfl
  rw [e]
  clear e
  have q1 : (a : Int) < 1000000 := by omega
  have q2 : (c : Int) < 1000000 := by omega
  go_enter Try.func43, Try.ntmps43
  go_wp2
  go_ret
  exact ⟨rfl, 0, _, by rw [Sort.alloc_eq_grow, Sort.alloc_eq_grow, Sort.grow_grow]; rfl⟩
def flat2 (l : List (Nat × Nat)) : List Value := l.flatMap fun x => [.int .i64 (x.1 : Int), .int .i64 (x.2 : Int)]
theorem flat2_length (l : List (Nat × Nat)) : (flat2 l).length = l.length * 2 := by
  induction l with
  | nil => rfl
  | cons v vs ih => show (_ ++ flat2 vs).length = _; rw [List.length_append, ih, List.length_cons]; simp; omega
instance : Inhabited Pa := ⟨⟨(0, 0), by decide⟩⟩
theorem cmpLaysP (blk off size : Nat) (w : World) : CmpLays Try.prog 43 #[] encP 2 cmpP blk off size w :=
  fun _ _ _ _ x y => closure_any x y _
theorem flatP (d : Array Pa) : (Sort.flatK encP 2 d).toList = flat2 (d.toList.map (·.1)) := by
  apply List.ext_getElem?
  intro t
  rw [Array.getElem?_toList]
  by_cases ht : t < d.size * 2
  · have h1 := Sort.get_flatK encP 2 d t ht
    have hs : t < (Sort.flatK encP 2 d).size := by simpa using ht
    rw [getElem!_pos _ t hs] at h1
    rw [Array.getElem?_eq_getElem hs, h1]
    have hi : t / 2 < d.size := by omega
    have hx : d[t / 2]! = d[t / 2] := getElem!_pos d _ hi
    rw [hx]
    have key : ∀ (l : List (Nat × Nat)) (k : Nat) (x : Nat × Nat), l[k]? = some x → (flat2 l)[k * 2]? = some (.int .i64 (x.1 : Int)) ∧ (flat2 l)[k * 2 + 1]? = some (.int .i64 (x.2 : Int)) := by
      intro l
      induction l with
      | nil => intro k x h; simp at h
      | cons y r ih =>
        intro k x h
        cases k with
        | zero => simp at h; subst h; exact ⟨rfl, rfl⟩
        | succ k =>
          simp only [List.getElem?_cons_succ] at h
          obtain ⟨a, b⟩ := ih k x h
          rw [show (k + 1) * 2 = k * 2 + 1 + 1 by omega]
          exact ⟨a, b⟩
    obtain ⟨a, b⟩ := key (d.toList.map (·.1)) (t / 2) d[t / 2].1 (by simp [hi])
    rcases Nat.mod_two_eq_zero_or_one t with h0 | h0
    · rw [h0]
      have : t = t / 2 * 2 := by omega
      have e2 : (flat2 (d.toList.map (·.1)))[t]? = (flat2 (d.toList.map (·.1)))[t / 2 * 2]? := by rw [← this]
      rw [e2]
      exact a.symm
    · rw [h0]
      have : t = t / 2 * 2 + 1 := by omega
      have e2 : (flat2 (d.toList.map (·.1)))[t]? = (flat2 (d.toList.map (·.1)))[t / 2 * 2 + 1]? := by rw [← this]
      rw [e2]
      exact b.symm
  · rw [Array.getElem?_eq_none (by simp; omega), List.getElem?_eq_none (by rw [flat2_length]; simp; omega)]
set_option maxRecDepth 100000 in
theorem insert_none (cap : Nat) (w : World) : Calls Try.prog 49 #[.slice none 0 cap, .int .i64 0, .int .i64 0, .func (.func 43) #[] #[]] w fun e w' => e = .returned (.tuple #[]) ∧ w = w' := by
  go_enter Try.func49, Try.ntmps49
  go_wp2_with fail
  go_loop [8] (fun i => i = .int .i64 1) (fun _ => 0)
  case atStart => rfl
  case round =>
    subst hrel
    go_wp2
    go_end0
    exact ⟨rfl, rfl⟩
set_option maxRecDepth 100000 in
theorem pdq_none (cap : Nat) (w : World) (l : Int) : Calls Try.prog 47 #[.slice none 0 cap, .int .i64 0, .int .i64 0, .int .i64 l, .func (.func 43) #[] #[]] w fun e w' => e = .returned (.tuple #[]) ∧ w = w' := by
  go_enter Try.func47, Try.ntmps47
  go_wp2_with fail
  go_loop [1, 2] (fun x y => x = .int .i64 0 ∧ y = .int .i64 0) (fun _ _ => 0)
  case atStart => exact ⟨rfl, rfl⟩
  case round =>
    obtain ⟨rfl, rfl⟩ := hrel
    go_wp2_with (go_at_call 49; refine (insert_none _ _).mono ?_; rintro e w' ⟨rfl, rfl⟩)
    refine ⟨rfl, .tuple #[], ?_, rfl, rfl⟩
    simp [results, Try.results47, go_sem]
set_option maxRecDepth 100000 in
theorem sort_none (cap : Nat) (w : World) : Calls Try.prog 42 #[.slice none 0 cap, .func (.func 43) #[] #[]] w fun e w' => e = .returned (.tuple #[]) ∧ w = w' := by
  have HB := Lib.hid (Try.bits_Len 0 w (by omega) (by omega))
  go_enter Try.func42, Try.ntmps42
  go_wp2_with (first | (go_at_call 48; refine HB.out.mono ?_; rintro e w' ⟨rfl, rfl⟩) | (go_at_call 47; refine (pdq_none _ _ _).mono ?_; rintro e w' ⟨rfl, rfl⟩))
  go_end0
  exact ⟨rfl, rfl⟩
theorem toPa : ∀ xs : List (Nat × Nat), (∀ x ∈ xs, x.1 < 1000000) → ∃ l : List Pa, l.map (·.1) = xs
  | [], _ => ⟨[], rfl⟩
  | x :: r, h => by
    obtain ⟨l, hl⟩ := toPa r (fun y hy => h y (by simp [hy]))
    exact ⟨⟨x, h x (by simp)⟩ :: l, by simp [hl]⟩
set_option maxRecDepth 100000 in
theorem sort_loose (A : Option Addr) (base n cap : Nat) (xs : List (Nat × Nat)) (w : World) (h : OwnC 2 w base 57 A n cap (flat2 xs)) (hx : ∀ x ∈ xs, x.1 < 1000000) (hn : n ≤ 1000000) :
    Calls Try.prog 42 #[.slice A n cap, .func (.func 43) #[] #[]] w fun e w' => e = .returned (.tuple #[]) ∧ ∃ ys : List (Nat × Nat), ys.Perm xs ∧ ys.Pairwise (fun a b => a.1 ≤ b.1) ∧ OwnC 2 w' base 57 A n cap (flat2 ys) ∧ w.grownBy w' (Value.slice A n cap).ownBlock := by
  have hl : xs.length = n := by have := h.1; rw [flat2_length] at this; omega
  by_cases hA : A = none
  · subst hA
    have hn0 : n = 0 ∧ cap = 0 := by
      rcases h.2 with ⟨hv, h0⟩ | ⟨g, c, cur, hv, _⟩
      · injection hv with _ _ hc; exact ⟨h0, hc⟩
      · cases hv
    obtain ⟨rfl, rfl⟩ := hn0
    refine (sort_none 0 w).mono ?_
    rintro e w' ⟨rfl, rfl⟩
    have hx0 : xs = [] := List.eq_nil_of_length_eq_zero hl
    exact ⟨rfl, xs, List.Perm.refl _, by rw [hx0]; exact List.Pairwise.nil, h, World.grownBy.refl _ _⟩
  · obtain ⟨h1, h2⟩ := h
    rcases h2 with ⟨hv, h0⟩ | ⟨g, c, cur, hv, hb, hg, hnc, hc, hs, ht⟩
    · injection hv with hv; exact absurd hv hA
    · injection hv with hA' _ hc'
      subst hA' hc'
      obtain ⟨l, hl2⟩ := toPa xs hx
      have hd : (Sort.flatK encP 2 l.toArray).toList = flat2 xs := by rw [flatP]; simp [hl2]
      have hdn : l.toArray.size = n := by have : l.length = xs.length := by rw [← hl2]; simp
                                          simp; omega
      have hH : Sort.HoldsK encP 2 w g 0 l.toArray := by
        intro j hj
        rw [Nat.zero_add]
        have hj2 : j < n * 2 := by have := hj; rw [Sort.size_flatK, hdn] at this; exact this
        have e1 : (Sort.flatK encP 2 l.toArray)[j]? = cur[j]? := by
          rw [← Array.getElem?_toList, ← Array.getElem?_toList, hd, ← ht, List.getElem?_take, if_pos hj2]
        refine ⟨?_, frozen_of_row _ _ _ _ _ hg⟩
        refine (cell_of_row _ _ _ _ _ _ hg).trans ?_
        rw [← e1, Array.getElem?_eq_getElem hj, getElem!_pos _ j hj]
        rfl
      have eg : ∀ args w, (callFunc 43 args).run Try.prog w = .ok (.enter 43 args) w := enters_of Try.func43 (by kernel_rfl) rfl
      have hcon := AnyQ.slices_SortFunc Try.sortLoose 2 Try.isAgg57 Try.sizeOf57 encP (fun _ => rfl) (fun x v hv => by simp [encP] at hv; rcases hv with rfl | rfl <;> rfl) cmpP swoP 43 #[] g 0 cap l.toArray w eg (cmpLaysP g 0 l.toArray.size w) hH (Array.getElem?_eq_some_iff.1 hg).1 (by omega)
      rw [hdn] at hcon
      refine hcon.mono ?_
      rintro e w' ⟨he, d', m, os, ⟨hps, _, hp⟩, hsd, rfl⟩
      have hsz : d'.size = n := by rw [hps, hdn]
      have hp2 : d'.toList.Perm l := by
        have a1 : d'.extract 0 n = d' := by rw [← hsz]; exact Array.extract_size
        have a2 : l.toArray.extract 0 n = l.toArray := by rw [← hdn]; exact Array.extract_size
        rw [a1, a2] at hp
        exact hp
      refine ⟨he, d'.toList.map (·.1), by rw [← hl2]; exact hp2.map _, ?_, ⟨by rw [flat2_length]; simp [hsz], .inr ⟨g, cap, Sort.putCells id 0 (Sort.flatK encP 2 d') cur, rfl, hb, ?_, hnc, hc, by simp [Sort.putCells, hs], ?_⟩⟩, ?_⟩
      · rw [List.pairwise_map, List.pairwise_iff_getElem]
        intro i j hi hj hij
        have hi' : i < d'.size := by simpa using hi
        have hj' : j < d'.size := by simpa using hj
        have := hsd i j (Nat.zero_le _) hij (by omega)
        rw [ltP, getElem!_pos _ i hi', getElem!_pos _ j hj'] at this
        simp at this
        simpa using this
      · have hgs : g < (Sort.putRow id (Sort.ahead w m) g 0 (Sort.flatK encP 2 d')).heap.size := by
          rw [Sort.size_putRow]
          exact (Array.getElem?_eq_some_iff.1 hg).1
        show (Sort.grow (Sort.putRow id (Sort.ahead w m) g 0 (Sort.flatK encP 2 d')) os).heap[g]? = _
        rw [Sort.heap_grow_old _ _ hgs]
        show ((Sort.ahead w m).heap.modify g _)[g]? = _
        rw [Array.getElem?_modify]
        have : (Sort.ahead w m).heap[g]? = w.heap[g]? := rfl
        rw [this, hg]
        simp [Sort.onCells]
      · have e1 : (Sort.putCells id 0 (Sort.flatK encP 2 d') cur).toList.take (n * 2) = (Sort.flatK encP 2 d').toList := by
          apply List.ext_getElem?
          intro j
          rw [List.getElem?_take]
          have hF : (Sort.flatK encP 2 d').size = n * 2 := by rw [Sort.size_flatK, hsz]
          by_cases hj : j < n * 2
          · rw [if_pos hj, Array.getElem?_toList, Array.getElem?_toList]
            have hcj : j < cur.size := by
              have : n * 2 ≤ cap * 2 := Nat.mul_le_mul_right 2 hnc
              omega
            have hjF : j < (Sort.flatK encP 2 d').size := by rw [hF]; exact hj
            have e3 : (Sort.flatK encP 2 d')[j]? = some (Sort.flatK encP 2 d')[j]! := by rw [getElem!_pos _ j hjF, Array.getElem?_eq_getElem hjF]
            rw [e3]
            simp only [Sort.putCells, Array.getElem?_mapIdx, Array.getElem?_eq_getElem hcj, Option.map_some]
            rw [if_pos ⟨Nat.zero_le _, by omega⟩, Nat.sub_zero]
            rfl
          · rw [if_neg hj, List.getElem?_eq_none (by simp [hsz]; omega)]
        rw [e1, flatP]
      · have hsz2 : w.heap.size ≤ (Sort.grow (Sort.putRow id (Sort.ahead w m) g 0 (Sort.flatK encP 2 d')) os).heap.size := by
          have : (Sort.putRow id (Sort.ahead w m) g 0 (Sort.flatK encP 2 d')).heap.size = w.heap.size := Sort.size_putRow _ _ _ _ _
          simp only [Sort.grow, Array.size_append]
          omega
        refine ⟨rfl, rfl, rfl, hsz2, fun k hk hne => ?_⟩
        have hks : k < (Sort.putRow id (Sort.ahead w m) g 0 (Sort.flatK encP 2 d')).heap.size := by
          rw [Sort.size_putRow]
          exact hk
        show (Sort.grow (Sort.putRow id (Sort.ahead w m) g 0 (Sort.flatK encP 2 d')) os).heap[k]? = _
        rw [Sort.heap_grow_old _ _ hks]
        show ((Sort.ahead w m).heap.modify g _)[k]? = _
        have hkg : ¬ g = k := fun e => hne (by rw [← e]; rfl)
        rw [Array.getElem?_modify, if_neg hkg]
        rfl
end Go.Proofs.Ytamdihodconjiaa
