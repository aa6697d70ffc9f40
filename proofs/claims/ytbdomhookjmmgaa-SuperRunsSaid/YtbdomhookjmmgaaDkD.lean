/- slices.SortFunc of the loose sectors, by their numbers. The program's disk: Loose. -/
import Derived.Test.YtbdomhookjmmgaaDkShelf
import Derived.Test.YtbdomhookjmmgaaDkC
namespace Go.Proofs.Ytbdomhookjmmgaa
open Go.RowKit
set_option linter.unusedVariables false
/-- A pair of a sector and how many, with a number that is small. -/
abbrev Pa := { x : Nat × Nat // x.1 < 1000000 }
def encP (x : Pa) : List Value := [.int .i64 (x.1.1 : Int), .int .i64 (x.1.2 : Int)]
def cmpP (x y : Pa) : Int := (x.1.1 : Int) - (y.1.1 : Int)
theorem ltP (x y : Pa) : ltOf cmpP x y = decide (x.1.1 < y.1.1) := by
  unfold ltOf cmpP
  rw [Bool.eq_iff_iff]
  simp
  omega
theorem swoP : Sort.SWO (ltOf cmpP) where
  irrefl x := by rw [ltP]; simp
  trans x y z h1 h2 := by rw [ltP] at *; simp at *; omega
  ntrans x y z h1 h2 := by rw [ltP] at *; simp at *; omega
set_option maxRecDepth 100000 in
theorem closure_any (x y : Pa) (W : World) : Calls Try.prog 71 #[.agg #[.int .i64 (x.1.1 : Int), .int .i64 (x.1.2 : Int)], .agg #[.int .i64 (y.1.1 : Int), .int .i64 (y.1.2 : Int)]] W fun e w' => e = .returned (.int .i64 (cmpP x y)) ∧ ∃ q os', w' = Sort.grow (W.drewN q) os' := by
  obtain ⟨⟨a, b⟩, h1⟩ := x
  obtain ⟨⟨c, d⟩, h2⟩ := y
  replace h1 : a < 1000000 := h1
  replace h2 : c < 1000000 := h2
  have e : cmpP ⟨(a, b), h1⟩ ⟨(c, d), h2⟩ = (a : Int) - (c : Int) := rfl
  rw [e]
  clear e
  have q1 : (a : Int) < 1000000 := by omega
  have q2 : (c : Int) < 1000000 := by omega
  go_enter Try.func71, Try.ntmps71
  go_wp2
  go_ret
  exact ⟨rfl, 0, _, by rw [Sort.alloc_eq_grow, Sort.alloc_eq_grow, Sort.grow_grow]; rfl⟩
def flat2 (l : List (Nat × Nat)) : List Value := l.flatMap fun x => [.int .i64 (x.1 : Int), .int .i64 (x.2 : Int)]
theorem flat2_length (l : List (Nat × Nat)) : (flat2 l).length = l.length * 2 := by
  induction l with
  | nil => rfl
  | cons v vs ih => show (_ ++ flat2 vs).length = _; rw [List.length_append, ih, List.length_cons]; simp; omega
instance : Inhabited Pa := ⟨⟨(0, 0), by decide⟩⟩
theorem cmpLaysP (blk off size : Nat) (w : World) : CmpLays Try.prog 71 #[] encP 2 cmpP blk off size w :=
  fun _ _ _ _ x y => closure_any x y _
theorem flatP (d : Array Pa) : (Sort.flatK encP 2 d).toList = flat2 (d.toList.map (·.1)) := by
  apply List.ext_getElem?
  intro t
  rw [Array.getElem?_toList]
  by_cases ht : t < d.size * 2
  · have h1 := Sort.get_flatK encP 2 d t ht
    have hs : t < (Sort.flatK encP 2 d).size := by simpa using ht
    rw [getElem!_pos _ t hs] at h1
    rw [Array.getElem?_eq_getElem hs, h1]
    have hi : t / 2 < d.size := by omega
    have hx : d[t / 2]! = d[t / 2] := getElem!_pos d _ hi
    rw [hx]
    have key : ∀ (l : List (Nat × Nat)) (k : Nat) (x : Nat × Nat), l[k]? = some x → (flat2 l)[k * 2]? = some (.int .i64 (x.1 : Int)) ∧ (flat2 l)[k * 2 + 1]? = some (.int .i64 (x.2 : Int)) := by
      intro l
      induction l with
      | nil => intro k x h; simp at h
      | cons y r ih =>
        intro k x h
        cases k with
        | zero => simp at h; subst h; exact ⟨rfl, rfl⟩
        | succ k =>
          simp only [List.getElem?_cons_succ] at h
          obtain ⟨a, b⟩ := ih k x h
          rw [show (k + 1) * 2 = k * 2 + 1 + 1 by omega]
          exact ⟨a, b⟩
    obtain ⟨a, b⟩ := key (d.toList.map (·.1)) (t / 2) d[t / 2].1 (by simp [hi])
    rcases Nat.mod_two_eq_zero_or_one t with h0 | h0
    · rw [h0]
      have : t = t / 2 * 2 := by omega
      have e2 : (flat2 (d.toList.map (·.1)))[t]? = (flat2 (d.toList.map (·.1)))[t / 2 * 2]? := by rw [← this]
      rw [e2]
      exact a.symm
    · rw [h0]
      have : t = t / 2 * 2 + 1 := by omega
      have e2 : (flat2 (d.toList.map (·.1)))[t]? = (flat2 (d.toList.map (·.1)))[t / 2 * 2 + 1]? := by rw [← this]
      rw [e2]
      exact b.symm
  · rw [Array.getElem?_eq_none (by simp; omega), List.getElem?_eq_none (by rw [flat2_length]; simp; omega)]
set_option maxRecDepth 100000 in
theorem insert_none (cap : Nat) (w : World) : Calls Try.prog 89 #[.slice none 0 cap, .int .i64 0, .int .i64 0, .func (.func 71) #[] #[]] w fun e w' => e = .returned (.tuple #[]) ∧ w = w' := by
  go_enter Try.func89, Try.ntmps89
  go_wp2_with fail
  go_loop [8] (fun i => i = .int .i64 1) (fun _ => 0)
  case atStart => rfl
  case round =>
    subst hrel
    go_wp2
    go_end0
    exact ⟨rfl, rfl⟩
set_option maxRecDepth 100000 in
theorem pdq_none (cap : Nat) (w : World) (l : Int) : Calls Try.prog 83 #[.slice none 0 cap, .int .i64 0, .int .i64 0, .int .i64 l, .func (.func 71) #[] #[]] w fun e w' => e = .returned (.tuple #[]) ∧ w = w' := by
  go_enter Try.func83, Try.ntmps83
  go_wp2_with fail
  go_loop [1, 2] (fun x y => x = .int .i64 0 ∧ y = .int .i64 0) (fun _ _ => 0)
  case atStart => exact ⟨rfl, rfl⟩
  case round =>
    obtain ⟨rfl, rfl⟩ := hrel
    go_wp2_with (go_at_call 89; refine (insert_none _ _).mono ?_; rintro e w' ⟨rfl, rfl⟩)
    refine ⟨rfl, .tuple #[], ?_, rfl, rfl⟩
    simp [results, Try.results83, go_sem]
set_option maxRecDepth 100000 in
theorem sort_none (cap : Nat) (w : World) : Calls Try.prog 70 #[.slice none 0 cap, .func (.func 71) #[] #[]] w fun e w' => e = .returned (.tuple #[]) ∧ w = w' := by
  have HB := Lib.hid (Try.bits_Len 0 w (by omega) (by omega))
  go_enter Try.func70, Try.ntmps70
  go_wp2_with (first | (go_at_call 84; refine HB.out.mono ?_; rintro e w' ⟨rfl, rfl⟩) | (go_at_call 83; refine (pdq_none _ _ _).mono ?_; rintro e w' ⟨rfl, rfl⟩))
  go_end0
  exact ⟨rfl, rfl⟩
theorem toPa : ∀ xs : List (Nat × Nat), (∀ x ∈ xs, x.1 < 1000000) → ∃ l : List Pa, l.map (·.1) = xs
  | [], _ => ⟨[], rfl⟩
  | x :: r, h => by
    obtain ⟨l, hl⟩ := toPa r (fun y hy => h y (by simp [hy]))
    exact ⟨⟨x, h x (by simp)⟩ :: l, by simp [hl]⟩
set_option maxRecDepth 100000 in
theorem sort_loose (A : Option Addr) (base n cap : Nat) (xs : List (Nat × Nat)) (w : World) (h : OwnC 2 w base 122 A n cap (flat2 xs)) (hx : ∀ x ∈ xs, x.1 < 1000000) (hn : n ≤ 1000000) :
    Calls Try.prog 70 #[.slice A n cap, .func (.func 71) #[] #[]] w fun e w' => e = .returned (.tuple #[]) ∧ ∃ ys : List (Nat × Nat), ys.Perm xs ∧ ys.Pairwise (fun a b => a.1 ≤ b.1) ∧ OwnC 2 w' base 122 A n cap (flat2 ys) ∧ w.grownBy w' (Value.slice A n cap).ownBlock := by
  have hl : xs.length = n := by have := h.1; rw [flat2_length] at this; omega
  by_cases hA : A = none
  · subst hA
    have hn0 : n = 0 ∧ cap = 0 := by
      rcases h.2 with ⟨hv, h0⟩ | ⟨g, c, cur, hv, _⟩
      · injection hv with _ _ hc; exact ⟨h0, hc⟩
      · cases hv
    obtain ⟨rfl, rfl⟩ := hn0
    refine (sort_none 0 w).mono ?_
    rintro e w' ⟨rfl, rfl⟩
    have hx0 : xs = [] := List.eq_nil_of_length_eq_zero hl
    exact ⟨rfl, xs, List.Perm.refl _, by rw [hx0]; exact List.Pairwise.nil, h, World.grownBy.refl _ _⟩
  · obtain ⟨h1, h2⟩ := h
    rcases h2 with ⟨hv, h0⟩ | ⟨g, c, cur, hv, hb, hg, hnc, hc, hs, ht⟩
    · injection hv with hv; exact absurd hv hA
    · injection hv with hA' _ hc'
      subst hA' hc'
      obtain ⟨l, hl2⟩ := toPa xs hx
      have hd : (Sort.flatK encP 2 l.toArray).toList = flat2 xs := by rw [flatP]; simp [hl2]
      have hdn : l.toArray.size = n := by have : l.length = xs.length := by rw [← hl2]; simp
                                          simp; omega
      have hH : Sort.HoldsK encP 2 w g 0 l.toArray := by
        intro j hj
        rw [Nat.zero_add]
        have hj2 : j < n * 2 := by have := hj; rw [Sort.size_flatK, hdn] at this; exact this
        have e1 : (Sort.flatK encP 2 l.toArray)[j]? = cur[j]? := by
          rw [← Array.getElem?_toList, ← Array.getElem?_toList, hd, ← ht, List.getElem?_take, if_pos hj2]
        refine ⟨?_, frozen_of_row _ _ _ _ _ hg⟩
        refine (cell_of_row _ _ _ _ _ _ hg).trans ?_
        rw [← e1, Array.getElem?_eq_getElem hj, getElem!_pos _ j hj]
        rfl
      have eg : ∀ args w, (callFunc 71 args).run Try.prog w = .ok (.enter 71 args) w := enters_of Try.func71 (by kernel_rfl) rfl
      have hcon := AnyQ.slices_SortFunc Try.sortLoose 2 Try.isAgg122 Try.sizeOf122 encP (fun _ => rfl) (fun x v hv => by simp [encP] at hv; rcases hv with rfl | rfl <;> rfl) cmpP swoP 71 #[] g 0 cap l.toArray w eg (cmpLaysP g 0 l.toArray.size w) hH (Array.getElem?_eq_some_iff.1 hg).1 (by omega)
      rw [hdn] at hcon
      refine hcon.mono ?_
      rintro e w' ⟨he, d', m, os, ⟨hps, _, hp⟩, hsd, rfl⟩
      have hsz : d'.size = n := by rw [hps, hdn]
      have hp2 : d'.toList.Perm l := by
        have a1 : d'.extract 0 n = d' := by rw [← hsz]; exact Array.extract_size
        have a2 : l.toArray.extract 0 n = l.toArray := by rw [← hdn]; exact Array.extract_size
        rw [a1, a2] at hp
        exact hp
      refine ⟨he, d'.toList.map (·.1), by rw [← hl2]; exact hp2.map _, ?_, ⟨by rw [flat2_length]; simp [hsz], .inr ⟨g, cap, Sort.putCells id 0 (Sort.flatK encP 2 d') cur, rfl, hb, ?_, hnc, hc, by simp [Sort.putCells, hs], ?_⟩⟩, ?_⟩
      · rw [List.pairwise_map, List.pairwise_iff_getElem]
        intro i j hi hj hij
        have hi' : i < d'.size := by simpa using hi
        have hj' : j < d'.size := by simpa using hj
        have := hsd i j (Nat.zero_le _) hij (by omega)
        rw [ltP, getElem!_pos _ i hi', getElem!_pos _ j hj'] at this
        simp at this
        simpa using this
      · have hgs : g < (Sort.putRow id (Sort.ahead w m) g 0 (Sort.flatK encP 2 d')).heap.size := by
          rw [Sort.size_putRow]
          exact (Array.getElem?_eq_some_iff.1 hg).1
        show (Sort.grow (Sort.putRow id (Sort.ahead w m) g 0 (Sort.flatK encP 2 d')) os).heap[g]? = _
        rw [Sort.heap_grow_old _ _ hgs]
        show ((Sort.ahead w m).heap.modify g _)[g]? = _
        rw [Array.getElem?_modify]
        have : (Sort.ahead w m).heap[g]? = w.heap[g]? := rfl
        rw [this, hg]
        simp [Sort.onCells]
      · have e1 : (Sort.putCells id 0 (Sort.flatK encP 2 d') cur).toList.take (n * 2) = (Sort.flatK encP 2 d').toList := by
          apply List.ext_getElem?
          intro j
          rw [List.getElem?_take]
          have hF : (Sort.flatK encP 2 d').size = n * 2 := by rw [Sort.size_flatK, hsz]
          by_cases hj : j < n * 2
          · rw [if_pos hj, Array.getElem?_toList, Array.getElem?_toList]
            have hcj : j < cur.size := by
              have : n * 2 ≤ cap * 2 := Nat.mul_le_mul_right 2 hnc
              omega
            have hjF : j < (Sort.flatK encP 2 d').size := by rw [hF]; exact hj
            have e3 : (Sort.flatK encP 2 d')[j]? = some (Sort.flatK encP 2 d')[j]! := by rw [getElem!_pos _ j hjF, Array.getElem?_eq_getElem hjF]
            rw [e3]
            simp only [Sort.putCells, Array.getElem?_mapIdx, Array.getElem?_eq_getElem hcj, Option.map_some]
            rw [if_pos ⟨Nat.zero_le _, by omega⟩, Nat.sub_zero]
            rfl
          · rw [if_neg hj, List.getElem?_eq_none (by simp [hsz]; omega)]
        rw [e1, flatP]
      · have hsz2 : w.heap.size ≤ (Sort.grow (Sort.putRow id (Sort.ahead w m) g 0 (Sort.flatK encP 2 d')) os).heap.size := by
          have : (Sort.putRow id (Sort.ahead w m) g 0 (Sort.flatK encP 2 d')).heap.size = w.heap.size := Sort.size_putRow _ _ _ _ _
          simp only [Sort.grow, Array.size_append]
          omega
        refine ⟨rfl, rfl, rfl, hsz2, fun k hk hne => ?_⟩
        have hks : k < (Sort.putRow id (Sort.ahead w m) g 0 (Sort.flatK encP 2 d')).heap.size := by
          rw [Sort.size_putRow]
          exact hk
        show (Sort.grow (Sort.putRow id (Sort.ahead w m) g 0 (Sort.flatK encP 2 d')) os).heap[k]? = _
        rw [Sort.heap_grow_old _ _ hks]
        show ((Sort.ahead w m).heap.modify g _)[k]? = _
        have hkg : ¬ g = k := fun e => hne (by rw [← e]; rfl)
        rw [Array.getElem?_modify, if_neg hkg]
        rfl
end Go.Proofs.Ytbdomhookjmmgaa
namespace Go.Proofs.Ytbdomhookjmmgaa
open Go.RowKit
set_option linter.unusedVariables false
namespace Dm
def pair (m : Mp) : Nat × Nat := (m.q.toNat, m.n)
/-- What has been drawn of a map, and none that is still to come. -/
def Drawn (L : List Mp) (left : Lit → Bool) (ys : List Mp) : Prop :=
  ys.Nodup ∧ (∀ m, m ∈ ys ↔ m ∈ L ∧ left (.int .i64 m.q) = false) ∧ ∀ q, left (.int .i64 q) = true → hasq L q = true
theorem drawn_start (L : List Mp) : Drawn L (Maps.has (dat L)) [] := by
  refine ⟨List.nodup_nil, fun m => ?_, fun q h => by rwa [has_dat] at h⟩
  constructor
  · intro h; simp at h
  · rintro ⟨h1, h2⟩
    rw [has_dat] at h2
    have := hasq_yes.2 ⟨m, h1, rfl⟩
    rw [this] at h2; cases h2
theorem drawn_step {L : List Mp} (hr : Ris L) {left : Lit → Bool} {ys : List Mp} (h : Drawn L left ys) {m : Mp} (hm : m ∈ L) (hq : left (.int .i64 m.q) = true) : Drawn L (fun z => left z && !z.sameKey (.int .i64 m.q)) (ys ++ [m]) := by
  obtain ⟨h1, h2, h3⟩ := h
  have hn : m ∉ ys := fun hx => by have := ((h2 m).1 hx).2; rw [hq] at this; cases this
  refine ⟨List.nodup_append.2 ⟨h1, by simp, fun a ha c hc e => ?_⟩, fun p => ?_, fun p hp => ?_⟩
  · simp at hc; subst hc; subst e; exact hn ha
  · simp only [List.mem_append, List.mem_singleton, Bool.and_eq_false_iff, Bool.not_eq_false']
    constructor
    · rintro (hp | rfl)
      · exact ⟨((h2 p).1 hp).1, .inl ((h2 p).1 hp).2⟩
      · exact ⟨hm, .inr (WideAt.sameKey_self trivial)⟩
    · rintro ⟨a, b | b⟩
      · exact .inl ((h2 p).2 ⟨a, b⟩)
      · right
        have e := WideAt.sameKey_eq b
        injection e with _ e
        exact one_q hr a hm e
  · simp only [Bool.and_eq_true] at hp
    exact h3 p hp.1
theorem drawn_len {L : List Mp} {left : Lit → Bool} {ys : List Mp} (h : Drawn L left ys) : ys.length ≤ L.length := by
  have : ∀ {xs zs : List Mp}, xs.Nodup → (∀ x ∈ xs, x ∈ zs) → xs.length ≤ zs.length := by
    intro xs
    induction xs with
    | nil => intro zs _ _; exact Nat.zero_le _
    | cons x xs ih =>
      intro zs hn hs
      obtain ⟨h1, h2⟩ := List.nodup_cons.1 hn
      obtain ⟨a, b, e⟩ := List.append_of_mem (hs x (by simp))
      subst e
      have := ih (zs := a ++ b) h2 (fun y hy => by
        have h3 := hs y (by simp [hy])
        simp only [List.mem_append, List.mem_cons] at h3 ⊢
        rcases h3 with h3 | h3 | h3
        · exact .inl h3
        · subst h3; exact absurd hy h1
        · exact .inr h3)
      simp only [List.length_append, List.length_cons] at this ⊢
      omega
  exact this h.1 fun m hm => ((h.2.1 m).1 hm).1
theorem ris_nodup {L : List Mp} (h : Ris L) : L.Nodup := h.imp (fun h e => by subst e; omega)
theorem drawn_end {L : List Mp} {left : Lit → Bool} {ys : List Mp} (hr : Ris L) (h : Drawn L left ys) (hl : ∀ kl, left kl = false) : ys.Perm L :=
  (List.perm_ext_iff_of_nodup h.1 (ris_nodup hr)).2 fun m => by rw [h.2.1 m]; exact ⟨fun h => h.1, fun h => ⟨h, hl _⟩⟩
/-- Sorted by their numbers, they are as they were. -/
theorem sorted_pairs {L : List Mp} (hr : Ris L) (h0 : ∀ m ∈ L, 0 ≤ m.q) {zs : List (Nat × Nat)} (hp : zs.Perm (L.map pair)) (hs : zs.Pairwise (fun a b => a.1 ≤ b.1)) : zs = L.map pair := by
  have hr2 : (L.map pair).Pairwise (fun a b => a.1 < b.1) := by
    rw [List.pairwise_map]
    refine List.Pairwise.imp_of_mem ?_ hr
    intro a b ha hb hab
    have := h0 a ha
    have := h0 b hb
    show a.q.toNat < b.q.toNat
    omega
  have hinj : ∀ a ∈ L.map pair, ∀ b ∈ L.map pair, a.1 = b.1 → a = b := by
    intro a ha b hb e
    obtain ⟨m, hm, rfl⟩ := List.mem_map.1 ha
    obtain ⟨m', hm', rfl⟩ := List.mem_map.1 hb
    have e : m.q.toNat = m'.q.toNat := e
    have := h0 m hm
    have := h0 m' hm'
    rw [one_q hr hm hm' (by omega)]
  refine List.Perm.eq_of_pairwise (le := fun a b : Nat × Nat => a.1 ≤ b.1) ?_ hs (hr2.imp (fun h => by omega)) hp
  intro a b ha hb h1 h2
  exact hinj a (hp.mem_iff.1 ha) b hb (by omega)
end Dm
theorem loose_mem {L : List Dk.Sec} : ∀ {k : Nat} {x : Nat × Nat}, x ∈ Dk.looseF k L ↔ ∃ i s, L[i]? = some s ∧ s.l ≠ [] ∧ x = (k + i, s.l.length) := by
  induction L with
  | nil => intro k x; simp [Dk.looseF]
  | cons y r ih =>
    intro k x
    unfold Dk.looseF
    split
    · rename_i h
      rw [ih]
      constructor
      · rintro ⟨i, s, h1, h2, h3⟩
        exact ⟨i + 1, s, h1, h2, by rw [h3]; congr 1; omega⟩
      · rintro ⟨i, s, h1, h2, h3⟩
        cases i with
        | zero => simp at h1; subst h1; exact absurd h h2
        | succ i => exact ⟨i, s, h1, h2, by rw [h3]; congr 1; omega⟩
    · rename_i h
      rw [List.mem_cons, ih]
      constructor
      · rintro (h1 | ⟨i, s, h1, h2, h3⟩)
        · exact ⟨0, y, rfl, h, h1⟩
        · exact ⟨i + 1, s, h1, h2, by rw [h3]; congr 1; omega⟩
      · rintro ⟨i, s, h1, h2, h3⟩
        cases i with
        | zero => simp at h1; subst h1; exact .inl h3
        | succ i => exact .inr ⟨i, s, h1, h2, by rw [h3]; congr 1; omega⟩
theorem loose_rise {L : List Dk.Sec} : ∀ {k : Nat}, (Dk.looseF k L).Pairwise (fun a b => a.1 < b.1) := by
  induction L with
  | nil => intro k; exact List.Pairwise.nil
  | cons y r ih =>
    intro k
    unfold Dk.looseF
    split
    · exact ih
    · refine List.pairwise_cons.2 ⟨fun x hx => ?_, ih⟩
      obtain ⟨i, s, _, _, rfl⟩ := loose_mem.1 hx
      show k < k + 1 + i
      omega
theorem rise_nodup {l : List (Nat × Nat)} (h : l.Pairwise (fun a b => a.1 < b.1)) : l.Nodup := h.imp (fun h e => by subst e; omega)
/-- The map's pairs are the loose sectors. -/
theorem DiskM.pairs {w : World} {d fb mb M : Nat} {E : List Dm.Mp} {lab : Nat → Tag} {st : Dk.St} (h : DiskM w d fb mb M E lab st) : E.map Dm.pair = st.loose := by
  have h0 : ∀ m ∈ E, 0 ≤ m.q := fun m hm => by obtain ⟨i, s, hs, h1, _⟩ := h.row m hm; omega
  symm
  refine Dm.sorted_pairs h.ris h0 ?_ (loose_rise.imp (fun h => by omega))
  have hnd : (E.map Dm.pair).Nodup := by
    refine rise_nodup ?_
    rw [List.pairwise_map]
    refine List.Pairwise.imp_of_mem ?_ h.ris
    intro a b ha hb hab
    have := h0 a ha
    have := h0 b hb
    show a.q.toNat < b.q.toNat
    omega
  refine (List.perm_ext_iff_of_nodup (rise_nodup loose_rise) hnd).2 fun x => ?_
  rw [loose_mem, List.mem_map]
  constructor
  · rintro ⟨i, s, h1, h2, rfl⟩
    obtain ⟨m, hs, hm, hq, hn, _⟩ := row_of h h1 h2
    exact ⟨m, hm, by unfold Dm.pair; rw [hq, hn]; simp⟩
  · rintro ⟨m, hm, rfl⟩
    obtain ⟨i, s, hs, h1, h2, h3, h4, _⟩ := h.row m hm
    exact ⟨i, s, h2, h3, by unfold Dm.pair; rw [h1, h4]; simp⟩
section
variable (w : World) {ops : Array Oper} {rest : List Oper} {o : Oper} {a : Act} {Q : Exit → Act → World → Prop}
set_option maxRecDepth 100000 in
theorem next_dm {L : List Dm.Mp} (hr : Dm.Ris L) (hg : o.guard = none) (it : Operand) (hop : o.op = Op.next it false) (b r n : Nat) (left : Lit → Bool) (cnt : Nat) (hit : a.eval it = .pointer (some ⟨r, 0, none⟩)) (h : w.ranges Try.prog 3 Dm.elem b r n (Dm.dat L) left cnt)
    (hDone : (∀ kl, left kl = false) → wpList Try.prog ops Q rest (a.put o.dst (.tuple #[.bool false])) w)
    (hMore : ∀ (m : Dm.Mp) (w' : World) (cnt' : Nat), m ∈ L → left (.int .i64 m.q) = true → w'.ranges Try.prog 3 Dm.elem b r n (Dm.dat L) (fun z => left z && !z.sameKey (.int .i64 m.q)) cnt' → cnt' < cnt → w.grownBy w' (some r) → w'.heap.size = w.heap.size →
      (Instr.entry (.pointer (some ⟨r, 0, none⟩))).run Try.prog w' = .ok (.tuple #[.int .i64 m.q, m.val]) w' → wpList Try.prog ops Q rest (a.put o.dst (.tuple #[.bool true, .int .i64 m.q, m.val])) w') :
    wpList Try.prog ops Q (o :: rest) a w :=
  wpList_next_ranges w hg it hop 3 keyed Dm.elem (Value.int .i64) (fun v : Value => v) (fun key kl hkey => by obtain ⟨x, rfl, _⟩ := Maps.keyOf_int_inv Try.underlying3 hkey; exact ⟨x, rfl⟩) (fun v y _ => ⟨v, rfl⟩)
    b r n (Dm.dat L) left cnt hit h (fun _ hl => hDone hl) (fun x c kl y w' cnt' hkey hlk hv hat hrg hlt hgr hsz hen => by
      obtain ⟨x', ex, rfl, _⟩ := Maps.keyOf_int_inv Try.underlying3 hkey
      injection ex with _ ex
      subst ex
      have hh : Dm.hasq L x = true := by
        refine Bool.of_not_eq_false fun hf => ?_
        have hf2 : Maps.has (Dm.dat L) (.int .i64 x) = false := by rw [Dm.has_dat]; exact hf
        have e1 := hat (Dm.none_)
        have e2 := hat (DataW.lit (.int .i64 5))
        rw [Maps.atKey_of_not_has hf2] at e1 e2
        rw [← e1] at e2
        unfold Dm.none_ at e2
        cases e2
      obtain ⟨m, hm, hq⟩ := Dm.hasq_yes.1 hh
      subst hq
      have ey := hat Dm.none_
      rw [Dm.at_dat hr hm] at ey
      have hc : c = m.val := by
        rcases Dm.elem_inv hv with ⟨m', e1, e2⟩ | ⟨e1, e2⟩
        · rw [e2] at ey
          rw [e1, Dm.data_inj ey]
        · rw [e2] at ey
          exact absurd ey (Dm.data_none m)
      subst hc
      exact hMore m w' cnt' hm hlk hrg hlt hgr hsz hen)
end
set_option maxRecDepth 100000 in
theorem manyL : Many 2 70 122 (.agg #[.int .i64 0, .int .i64 0]) 16 := ⟨by kernel_rfl, Try.underlying70, rfl, by omega, by omega⟩
/-- The loose sectors, in memory of the call's own. -/
def GivesLoose (w : World) (l : List (Nat × Nat)) (e : Ending) (w' : World) : Prop :=
  ∃ A cap, e = .returned (.slice A l.length cap) ∧ OwnC 2 w' w.heap.size 122 A l.length cap (flat2 l) ∧ Below w.heap.size w w'
/-- What holds as they are drawn. -/
def InvLs (w : World) (b : Nat) (L : List Dm.Mp) (v : Value) (wr : World) : Prop :=
  ∃ ys left cnt A cap, v = .slice A ys.length cap ∧ OwnC 2 wr (w.heap.size + 1) 122 A ys.length cap (flat2 (ys.map Dm.pair)) ∧ wr.ranges Try.prog 3 Dm.elem b w.heap.size 1000000 (Dm.dat L) left cnt ∧ Dm.Drawn L left ys ∧ Below w.heap.size w wr ∧ w.heap.size + 1 ≤ wr.heap.size
theorem ls_start {w w0 : World} {b : Nat} {L : List Dm.Mp} (h : w0.ranges Try.prog 3 Dm.elem b w.heap.size 1000000 (Dm.dat L) (Maps.has (Dm.dat L)) (Maps.size (Dm.dat L))) (hg : w.grownBy w0 none) (hs : w0.heap.size = w.heap.size + 1) : InvLs w b L (.slice none 0 0) w0 :=
  ⟨[], _, _, none, 0, rfl, OwnC.none_ _ _ _ _, h, Dm.drawn_start L, ⟨hg.os, hg.tape, hg.output, hg.size, fun k hk => hg.block k hk (by simp)⟩, by omega⟩
theorem flat2_snoc (l : List (Nat × Nat)) (x : Nat × Nat) : flat2 (l ++ [x]) = flat2 l ++ [.int .i64 (x.1 : Int), .int .i64 (x.2 : Int)] := by unfold flat2; rw [List.flatMap_append]; simp
theorem ls_next {w wr w1 w2 w3 : World} {b cnt' cap cap' : Nat} {L ys : List Dm.Mp} {left : Lit → Bool} {A A' : Option Addr} {m : Dm.Mp}
    (hr : Dm.Ris L) (hb : Below w.heap.size w wr) (hsz : w.heap.size + 1 ≤ wr.heap.size) (hd : Dm.Drawn L left ys) (hm : m ∈ L) (h0 : 0 ≤ m.q) (hq : left (.int .i64 m.q) = true)
    (hrg : w1.ranges Try.prog 3 Dm.elem b w.heap.size 1000000 (Dm.dat L) (fun z => left z && !z.sameKey (.int .i64 m.q)) cnt') (hg1 : wr.grownBy w1 (some w.heap.size)) (hs1 : w1.heap.size = wr.heap.size)
    (hbl : Below w1.heap.size w1 w2) (ho : OwnC 2 w2 (w.heap.size + 1) 122 A ys.length cap (flat2 (ys.map Dm.pair))) (hgr : GrewC 2 w2 w3 (w.heap.size + 1) 122 A A' ys.length cap (ys.length + 1) cap' (flat2 (ys.map Dm.pair) ++ [.int .i64 m.q, .int .i64 (m.n : Int)])) (hbw : b < w.heap.size) :
    InvLs w b L (.slice A' (ys.length + 1) cap') w3 ∧ w3.rangeLeft b w.heap.size = cnt' := by
  have hrow : ∀ g, (Value.slice A ys.length cap).ownBlock = some g → w.heap.size + 1 ≤ g := fun g e => (ho.blk g e).1
  have hrg3 := (hrg.kept (grown_of_below hbl) (row := none) (by simp) (by simp)).kept hgr.grew (fun e => by have := hrow _ e.symm; omega) (fun e => by have := hrow _ e.symm; omega)
  have hl : (ys ++ [m]).length = ys.length + 1 := by simp
  have hb1 : Below w.heap.size w w1 := ⟨hg1.os.trans hb.os, hg1.tape.trans hb.tape, hg1.output.trans hb.output, by have := hb.size; omega, fun k hk => (hg1.block k (by omega) (fun e => by injection e with e; omega)).trans (hb.block k hk)⟩
  have hb2 : Below w.heap.size w w2 := hb1.trans (hbl.mono (by omega))
  have hsz2 := hbl.size
  have hsz3 := hgr.grew.size
  refine ⟨⟨ys ++ [m], _, cnt', A', cap', by rw [hl], ?_, hrg3, Dm.drawn_step hr hd hm hq, hb2.grown hgr.grew (by omega) (fun g e => by have := hrow g e; omega), by omega⟩, hrg3.left_eq⟩
  have h := hgr.own
  have e : m.q = ((m.q.toNat : Nat) : Int) := by omega
  rw [hl, List.map_append]
  show OwnC 2 w3 _ _ A' _ cap' (flat2 (ys.map Dm.pair ++ [Dm.pair m]))
  rw [flat2_snoc]
  show OwnC 2 w3 _ _ A' _ cap' (flat2 (ys.map Dm.pair) ++ [.int .i64 ((m.q.toNat : Nat) : Int), .int .i64 (m.n : Int)])
  rw [← e]
  exact h
set_option maxRecDepth 100000 in
set_option maxHeartbeats 4000000 in
theorem loose_m (w : World) (d fb mb M : Nat) (E : List Dm.Mp) (lab : Nat → Tag) (st : Dk.St) (h : DiskM w d fb mb M E lab st) : Calls Try.prog 40 #[.pointer (some ⟨d, 0, none⟩)] w (GivesLoose w st.loose) := by
  have HP := Lib.hid h.pairs
  have HR := Lib.hid h.ris
  have HF := Lib.hid h.few
  have h0 : ∀ m ∈ E, 0 ≤ m.q ∧ m.q < 4096 ∧ m.n ≤ 9223372036854775807 := fun m hm => by
    obtain ⟨i, s, hs, h1, h2, h3, h4, h5⟩ := h.row m hm
    have a1 := (List.getElem?_eq_some_iff.1 h2).1
    have a2 := h.fine.2.2
    have a3 := h5.own.fits
    have a4 := h5.own.small
    exact ⟨by omega, by omega, by omega⟩
  have H0 := Lib.hid h0
  have hbw := h.map.lt
  have c1 := h.box.at_ 1 rfl
  have hmap := h.map
  have hSort := Lib.hid (fun A base n cap xs w h hx hn => sort_loose A base n cap xs w h hx hn)
  clear h h0
  go_enter Try.func40, Try.ntmps40
  go_wp2_with (at_range; refine wpList_range_own _ rfl _ 87 rfl 3 111 keyed Try.underlying87 Dm.elem mb 1000000 (Dm.dat E) rfl hmap ?_; intro w0 hrg0 hg0 hs0)
  go_frame
  have HS := Lib.hid (ls_start hrg0 hg0 hs0)
  clear hrg0 hg0 hs0 hmap c1
  go_loopw [3] (fun v wr => InvLs w mb E v wr) (fun _ wr => wr.rangeLeft mb w.heap.size)
  case atStart => exact HS.out
  case round =>
    clear HS
    obtain ⟨ys, left, cnt, A, cap, rfl, ho, hrg, hd, hb, hsz⟩ := hrel
    have hxl := Dm.drawn_len hd
    have HD := Lib.hid hd
    have HO := Lib.hid ho
    have HB := Lib.hid hb
    have HG := Lib.hid hrg
    have HC := Lib.hid hrg.left_eq
    clear hd ho hb hrg
    go_wp2_with (at_next; refine next_dm _ HR.out rfl _ rfl mb w.heap.size 1000000 left cnt rfl HG.out ?_ ?_)
    · intro hdone
      have HPm := Lib.hid (Dm.drawn_end HR.out HD.out hdone)
      have HLe := Lib.hid (show ys.length ≤ 1000000 by have := HF.out; omega)
      clear hdone
      go_wp2_with fail
      refine (hSort.out _ _ _ _ _ _ HO.out ?_ HLe.out).mono ?_
      · intro x hx
        obtain ⟨m, hm, rfl⟩ := List.mem_map.1 hx
        have := H0.out m (HPm.out.mem_iff.1 hm)
        show m.q.toNat < 1000000
        omega
      rintro e w1 ⟨rfl, zs, hz1, hz2, hz3, hz4⟩
      have hzs : zs = E.map Dm.pair := Dm.sorted_pairs HR.out (fun m hm => (H0.out m hm).1) (hz1.trans (HPm.out.map _)) hz2
      have hlen : ys.length = st.loose.length := by rw [← HP.out, List.length_map]; exact HPm.out.length_eq
      rw [hzs, HP.out] at hz3
      have HZ := Lib.hid hz3
      have HW := Lib.hid (HB.out.grown hz4 (by omega) (fun g e => by have := (HO.out.blk g e).1; omega))
      have HLn := Lib.hid hlen
      clear hz1 hz2 hz3 hz4 hzs hlen
      go_wp2
      go_ret
      have hz := HZ.out
      rw [HLn.out] at hz
      exact ⟨A, cap, by rw [HLn.out]; rfl, hz.base_ (Nat.le_succ _), HW.out⟩
    · intro m w1 cnt' hm hlq hrg1 hlt1 hg1 hs1 hen
      obtain ⟨hq0, hq1, hq2⟩ := H0.out m hm
      have HM := Lib.hid hm
      have hO1 : OwnC 2 w1 (w.heap.size + 1) 122 A ys.length cap (flat2 (ys.map Dm.pair)) := HO.out.grown hg1 (.inr fun g e1 e2 => by injection e1 with e1; have := (HO.out.blk g e2).1; omega)
      have hO2 := hO1.alloc (.cells #[.int .i64 m.q, .int .i64 (m.n : Int)] 122)
      have hN := Lib.hid (rdc_new 2 w1 122 [.int .i64 m.q, .int .i64 (m.n : Int)] 1 rfl (0, 0))
      have HX := Lib.hid (And.intro hlq (And.intro hrg1 (And.intro hg1 (And.intro hs1 hlt1))))
      have HO2 := Lib.hid hO2
      have hBL := Lib.hid (show Below w1.heap.size w1 (w1.alloc (.cells #[.int .i64 m.q, .int .i64 (m.n : Int)] 122)) from (Below.refl _ _).alloc (Nat.le_refl _) _)
      have hle1 : ys.length + 1 ≤ 1000000 := by have := HF.out; omega
      have hle2 : w.heap.size + 1 ≤ (w1.alloc (.cells #[.int .i64 m.q, .int .i64 (m.n : Int)] 122)).heap.size := by simp; omega
      have h1c : ∀ u ∈ [Value.int .i64 m.q, .int .i64 (m.n : Int)], u.oneCell' = true := by intro u hu; simp at hu; rcases hu with rfl | rfl <;> rfl
      clear hlq hrg1 hg1 hs1 hlt1 hO1 hO2 hm
      obtain ⟨mq, ma, mn, mc⟩ := m
      replace hen : (Instr.entry (.pointer (some ⟨w.heap.size, 0, none⟩))).run Try.prog w1 = .ok (.tuple #[.int .i64 mq, .slice (some ⟨ma, 0, none⟩) mn mc]) w1 := hen
      go_wp2_with (at_builtin; refine wpList_appC manyL rfl (.tmp 18) (.tmp 23) rfl rfl HO2.out ⟨w1.heap.size, 0, none⟩ 1 1 [.int .i64 mq, .int .i64 (mn : Int)] h1c rfl hN.out hle1 hle2 ?_; intro A' cap' w3 hg3)
      obtain ⟨hlq, hrg1, hg1, hs1, hlt1⟩ := HX.out
      obtain ⟨hI, hM⟩ := ls_next HR.out HB.out hsz HD.out HM.out hq0 hlq hrg1 hg1 hs1 hBL.out HO2.out hg3 hbw
      have hC := HC.out
      clear hrg1 hg1 hs1 hg3 hlq hen
      go_roundw
      case rel => exact hI
      case measure => rw [hM, hC]; exact hlt1
end Go.Proofs.Ytbdomhookjmmgaa
