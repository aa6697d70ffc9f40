/- Words for what package wire's readers leave in a block. -/
import Derived.Test.YtonjjihbpeblkaaWrReply
import Derived.Test.YtonjjihbpeblkaaWrMsg
namespace Go.Proofs.Ytonjjihbpeblkaa
open Go.RowKit
namespace Wr
/-- Values laid at places. -/
def place : List (Nat × Bool) → List Value → List Value → List Value
  | p :: ps, v :: vs, cs => place ps vs (cs.set p.1 v)
  | _, _, cs => cs
theorem place_length (offs : List (Nat × Bool)) (vs cs : List Value) : (place offs vs cs).length = cs.length := by
  induction offs generalizing vs cs with
  | nil => rfl
  | cons p ps ih =>
    cases vs with
    | nil => rfl
    | cons v vs => show (place ps vs (cs.set p.1 v)).length = _; rw [ih, List.length_set]
theorem place_other {offs : List (Nat × Bool)} {j : Nat} (vs cs : List Value) (h : j ∉ offs.map Prod.fst) : (place offs vs cs)[j]? = cs[j]? := by
  induction offs generalizing vs cs with
  | nil => rfl
  | cons p ps ih =>
    cases vs with
    | nil => rfl
    | cons v vs =>
      simp only [List.map_cons, List.mem_cons, not_or] at h
      show (place ps vs (cs.set p.1 v))[j]? = _
      rw [ih vs _ h.2, List.getElem?_set_ne (fun e => h.1 e.symm)]
theorem place_at {offs : List (Nat × Bool)} (hnd : (offs.map Prod.fst).Nodup) {i : Nat} {p : Nat × Bool} {vs cs : List Value} {v : Value} (hi : offs[i]? = some p) (hv : vs[i]? = some v) (hp : p.1 < cs.length) : (place offs vs cs)[p.1]? = some v := by
  induction offs generalizing i vs cs with
  | nil => simp at hi
  | cons x ps ih =>
    cases vs with
    | nil => simp at hv
    | cons y vs =>
      simp only [List.map_cons, List.nodup_cons] at hnd
      show (place ps vs (cs.set x.1 y))[p.1]? = _
      cases i with
      | zero =>
        simp at hi hv
        subst hi hv
        rw [place_other vs _ hnd.1, List.getElem?_set_self hp]
      | succ i =>
        simp only [List.getElem?_cons_succ] at hi hv
        exact ih hnd.2 hi hv (by rw [List.length_set]; exact hp)
theorem len5 {l : List Value} (h : l.length = 5) : ∃ a b c d e, l = [a, b, c, d, e] := by
  match l, h with
  | [a, b, c, d, e], _ => exact ⟨a, b, c, d, e, rfl⟩
theorem len7 {l : List Value} (h : l.length = 7) : ∃ a b c d e f g, l = [a, b, c, d, e, f, g] := by
  match l, h with
  | [a, b, c, d, e, f, g], _ => exact ⟨a, b, c, d, e, f, g, rfl⟩
end Wr
/-- A block whose fields have been taken. -/
theorem took_holds {w v : World} {b : Nat} {offs : List (Nat × Bool)} {vs xs : List Value} (hnd : (offs.map Prod.fst).Nodup) (hlt : ∀ p ∈ offs, p.1 < xs.length) (k : Holds w b xs) (hu : Upd (Wr.at_ (Wr.on b offs)) w v) (hl : vs.length = offs.length)
    (h : ∀ (i : Nat) (f : Wr.Fld) (x : Value), (Wr.on b offs)[i]? = some f → vs[i]? = some x → v.cell? f.1 = some x) : Holds v b (Wr.place offs vs xs) := by
  refine ⟨Nat.lt_of_lt_of_le k.1 hu.size, fun j y hj => ?_, fun i => (hu.frozen ⟨b, i, none⟩ k.1).trans (k.2.2 i)⟩
  by_cases hm : j ∈ offs.map Prod.fst
  · obtain ⟨p, hp, rfl⟩ := List.mem_map.1 hm
    obtain ⟨i, hi, e⟩ := List.getElem_of_mem hp
    have hi2 : offs[i]? = some p := by rw [List.getElem?_eq_getElem hi, e]
    have hv : vs[i]? = some (vs[i]'(by omega)) := List.getElem?_eq_getElem _
    rw [Wr.place_at hnd hi2 hv (hlt p hp)] at hj
    injection hj with hj
    subst hj
    exact h i (⟨b, p.1, none⟩, p.2) _ (by unfold Wr.on; rw [List.getElem?_map, hi2]; rfl) hv
  · rw [Wr.place_other vs xs hm] at hj
    refine (hu.cell ⟨b, j, none⟩ k.1 ?_).trans (k.2.1 j y hj)
    intro hmm
    obtain ⟨f, hf, e⟩ := List.mem_map.1 hmm
    obtain ⟨p, hp, rfl⟩ := Wr.on_mem hf
    injection e with _ e2
    subst e2
    exact hm (List.mem_map.2 ⟨p, hp, rfl⟩)
/-- A block still has its cells. -/
theorem kept_holds {w v : World} {b : Nat} {xs : List Value} {ps : List Addr} (k : Holds w b xs) (hu : Upd ps w v) : ∃ ys : List Value, ys.length = xs.length ∧ Holds v b ys := by
  have hx : ∀ n, n ≤ xs.length → ∃ ys : List Value, ys.length = n ∧ ∀ j y, ys[j]? = some y → v.cell? ⟨b, j, none⟩ = some y := by
    intro n
    induction n with
    | zero => intro _; exact ⟨[], rfl, fun j y h => by simp at h⟩
    | succ n ih =>
      intro hn
      obtain ⟨ys, hl, hy⟩ := ih (by omega)
      obtain ⟨y, hyy⟩ := hu.kept ⟨b, n, none⟩ _ k.1 (k.2.1 n _ (List.getElem?_eq_getElem (by omega)))
      refine ⟨ys ++ [y], by rw [List.length_append, hl]; rfl, fun j z hz => ?_⟩
      by_cases hj : j = n
      · subst hj
        rw [List.getElem?_append_right (by omega), hl, Nat.sub_self] at hz
        injection hz with hz
        subst hz
        exact hyy
      · have hj2 : j < n := by
          have := (List.getElem?_eq_some_iff.1 hz).1
          rw [List.length_append, hl] at this
          simp at this
          omega
        rw [List.getElem?_append_left (by omega)] at hz
        exact hy j z hz
  obtain ⟨ys, hl, hy⟩ := hx xs.length (Nat.le_refl _)
  exact ⟨ys, hl, Nat.lt_of_lt_of_le k.1 hu.size, hy, fun i => (hu.frozen ⟨b, i, none⟩ k.1).trans (k.2.2 i)⟩
namespace Wr
theorem one_fits {t : Bool} {l r : List Nat} {v : Value} (h : one t l = some (v, r)) : fits t v := by
  unfold one at h
  cases t with
  | false =>
    simp only [Bool.false_eq_true, if_false] at h
    rcases hn : num l with _ | ⟨x, y⟩
    · rw [hn] at h; cases h
    · rw [hn] at h
      injection h with h
      injection h with h1 h2
      subst h1
      have hb := (num_bound hn).2
      exact ⟨_, rfl, by omega⟩
  | true =>
    simp only [if_true] at h
    rcases hn : Cd.takeText l 4096 with _ | ⟨x, y⟩
    · rw [hn] at h; cases h
    · rw [hn] at h
      injection h with h
      injection h with h1 h2
      subst h1
      exact ⟨_, rfl⟩
theorem taken_fits {ts : List Bool} {l r : List Nat} {vs : List Value} (h : taken ts l = some (vs, r)) (i : Nat) (t : Bool) (v : Value) (ht : ts[i]? = some t) (hv : vs[i]? = some v) : fits t v := by
  induction ts generalizing l vs i with
  | nil => simp at ht
  | cons x xs ih =>
    simp only [taken] at h
    rcases h1 : one x l with _ | ⟨y, l2⟩
    · rw [h1] at h; cases h
    · simp only [h1] at h
      rcases h2 : taken xs l2 with _ | ⟨ys, l3⟩
      · rw [h2] at h; cases h
      · rw [h2] at h
        injection h with h
        injection h with h3 h4
        subst h3 h4
        cases i with
        | zero => simp at ht hv; subst ht hv; exact one_fits h1
        | succ i => simp only [List.getElem?_cons_succ] at ht hv; exact ih h2 i ht hv
theorem all_taken {ts : List Bool} {l : List Nat} {vs : List Value} (h : all ts l = some vs) : ts ≠ [] ∧ taken ts l = some (vs, []) := by
  unfold all at h
  split at h
  · rename_i ht; injection h with h; subst h; exact ⟨by simp, ht⟩
  · cases h
/-- Fields and values that fit. -/
def fit (offs : List (Nat × Bool)) (vs : List Value) : Prop := ∀ (i : Nat) (p : Nat × Bool) (v : Value), offs[i]? = some p → vs[i]? = some v → fits p.2 v
theorem all_fits {offs : List (Nat × Bool)} {l : List Nat} {vs : List Value} (h : all (offs.map Prod.snd) l = some vs) : fit offs vs := fun i p v hp hv =>
  taken_fits (all_taken h).2 i p.2 v (by rw [List.getElem?_map, hp]; rfl) hv
/-- A field set. -/
def Rq.put (m : Rq) : Nat → Value → Rq
  | 1, .string x => { m with s := x }
  | 2, .int _ x => { m with d := x }
  | 3, .int _ x => { m with n := x }
  | 4, .int _ x => { m with u := x }
  | 5, .int _ x => { m with p := x }
  | 6, .int _ x => { m with q := x }
  | _, _ => m
/-- Fields set, one behind the other. -/
def Rq.puts : List (Nat × Bool) → List Value → Rq → Rq
  | p :: ps, v :: vs, m => Rq.puts ps vs (m.put p.1 v)
  | _, _, m => m
theorem Rq.put_cells {p : Nat × Bool} {v : Value} (m : Rq) (hp : p = (1, true) ∨ p = (2, false) ∨ p = (3, false) ∨ p = (4, false) ∨ p = (5, false) ∨ p = (6, false)) (hv : fits p.2 v) : m.cells.set p.1 v = (m.put p.1 v).cells := by
  rcases hp with rfl | rfl | rfl | rfl | rfl | rfl
  · obtain ⟨x, rfl⟩ := hv; rfl
  · obtain ⟨x, rfl, _⟩ := hv; rfl
  · obtain ⟨x, rfl, _⟩ := hv; rfl
  · obtain ⟨x, rfl, _⟩ := hv; rfl
  · obtain ⟨x, rfl, _⟩ := hv; rfl
  · obtain ⟨x, rfl, _⟩ := hv; rfl
theorem Rq.puts_cells {offs : List (Nat × Bool)} {vs : List Value} {m : Rq} (ho : okAsks offs = true) (hf : fit offs vs) : place offs vs m.cells = (Rq.puts offs vs m).cells := by
  induction offs generalizing vs m with
  | nil => rfl
  | cons p ps ih =>
    cases vs with
    | nil => rfl
    | cons v vs =>
      have hall : p = (1, true) ∨ p = (2, false) ∨ p = (3, false) ∨ p = (4, false) ∨ p = (5, false) ∨ p = (6, false) := by
        have := List.all_eq_true.1 ho p List.mem_cons_self
        simpa [or_assoc] using this
      show place ps vs (m.cells.set p.1 v) = _
      rw [Rq.put_cells m hall (hf 0 p v rfl rfl)]
      exact ih (by unfold okAsks at ho ⊢; simp only [List.all_cons, Bool.and_eq_true] at ho; exact ho.2) (fun i q u hq hu => hf (i + 1) q u hq hu)
/-- A field set. -/
def Mg.put (m : Mg) : Nat → Value → Mg
  | 1, .int _ x => { m with p := x }
  | 2, .int _ x => { m with q := x }
  | 3, .string x => { m with s := x }
  | 4, .int _ x => { m with n := x }
  | _, _ => m
/-- Fields set, one behind the other. -/
def Mg.puts : List (Nat × Bool) → List Value → Mg → Mg
  | p :: ps, v :: vs, m => Mg.puts ps vs (m.put p.1 v)
  | _, _, m => m
theorem Mg.put_cells {p : Nat × Bool} {v : Value} (m : Mg) (hp : p = (1, false) ∨ p = (2, false) ∨ p = (3, true) ∨ p = (4, false)) (hv : fits p.2 v) : m.cells.set p.1 v = (m.put p.1 v).cells := by
  rcases hp with rfl | rfl | rfl | rfl
  · obtain ⟨x, rfl, _⟩ := hv; rfl
  · obtain ⟨x, rfl, _⟩ := hv; rfl
  · obtain ⟨x, rfl⟩ := hv; rfl
  · obtain ⟨x, rfl, _⟩ := hv; rfl
theorem Mg.puts_cells {offs : List (Nat × Bool)} {vs : List Value} {m : Mg} (ho : okMsgs offs = true) (hf : fit offs vs) : place offs vs m.cells = (Mg.puts offs vs m).cells := by
  induction offs generalizing vs m with
  | nil => rfl
  | cons p ps ih =>
    cases vs with
    | nil => rfl
    | cons v vs =>
      have hall : p = (1, false) ∨ p = (2, false) ∨ p = (3, true) ∨ p = (4, false) := by
        have := List.all_eq_true.1 ho p List.mem_cons_self
        simpa [or_assoc] using this
      show place ps vs (m.cells.set p.1 v) = _
      rw [Mg.put_cells m hall (hf 0 p v rfl rfl)]
      exact ih (by unfold okMsgs at ho ⊢; simp only [List.all_cons, Bool.and_eq_true] at ho; exact ho.2) (fun i q u hq hu => hf (i + 1) q u hq hu)
end Wr
/-- What a reader returns: cells, or zeros and the error. -/
def GivesRd (w : World) (zs : List Value) (o : Option (List Value)) (e : Ending) (w' : World) : Prop :=
  match o with
  | none => e = .returned (.tuple #[.agg zs.toArray, .int .i64 220]) ∧ Below w.heap.size w w'
  | some cs => e = .returned (.tuple #[.agg cs.toArray, .int .i64 0]) ∧ Below w.heap.size w w'
end Go.Proofs.Ytonjjihbpeblkaa
