/- What package wire's Bytes returns. -/
import Derived.Test.YtonjjihbpeblkaaWrFields
import Derived.Test.YtonjjihbpeblkaaWrZero
namespace Go.Proofs.Ytonjjihbpeblkaa
open Go.RowKit
namespace Wr
/-- A request. -/
structure Rq where
  k : Int
  s : ByteArray
  d : Int
  n : Int
  u : Int
  p : Int
  q : Int
  deriving DecidableEq
def Rq.cells (r : Rq) : List Value := [.int .i64 r.k, .string r.s, .int .i64 r.d, .int .i64 r.n, .int .i64 r.u, .int .i64 r.p, .int .i64 r.q]
def Rq.bare (k : Int) : Rq := ⟨k, ⟨#[]⟩, 0, 0, 0, 0, 0⟩
/-- What is not among these fields. -/
def Rq.clr (offs : List (Nat × Bool)) (r : Rq) : Rq :=
  ⟨r.k, if (1, true) ∈ offs then ⟨#[]⟩ else r.s, if (2, false) ∈ offs then 0 else r.d, if (3, false) ∈ offs then 0 else r.n, if (4, false) ∈ offs then 0 else r.u, if (5, false) ∈ offs then 0 else r.p, if (6, false) ∈ offs then 0 else r.q⟩
/-- Each field is of its kind. -/
def okAsks (offs : List (Nat × Bool)) : Bool := offs.all fun p => p == (1, true) || p == (2, false) || p == (3, false) || p == (4, false) || p == (5, false) || p == (6, false)
def apart (offs : List (Nat × Bool)) : Bool := decide (offs.map Prod.fst).Nodup && decide (offs.length ≤ 5)
theorem asks_cases (k : Int) : asks k = [] ∨ (1 ≤ k ∧ k ≤ 12) := by
  by_cases h : 1 ≤ k ∧ k ≤ 12
  · exact .inr h
  · refine .inl ?_
    unfold asks
    rw [if_neg (by omega), if_neg (by omega), if_neg (by omega), if_neg (by omega), if_neg (by omega), if_neg (by omega), if_neg (by omega), if_neg (by omega)]
theorem asks_ok (k : Int) : okAsks (asks k) = true ∧ apart (asks k) = true := by
  unfold asks
  split
  · exact ⟨rfl, by decide⟩
  split
  · exact ⟨rfl, by decide⟩
  split
  · exact ⟨rfl, by decide⟩
  split
  · exact ⟨rfl, by decide⟩
  split
  · exact ⟨rfl, by decide⟩
  split
  · exact ⟨rfl, by decide⟩
  split
  · exact ⟨rfl, by decide⟩
  split <;> exact ⟨rfl, by decide⟩
theorem on_nodup {offs : List (Nat × Bool)} (b : Nat) (h : apart offs = true) : (at_ (on b offs)).Nodup := by
  unfold apart at h
  rw [Bool.and_eq_true, decide_eq_true_eq] at h
  have e : at_ (on b offs) = (offs.map Prod.fst).map fun j => (⟨b, j, none⟩ : Addr) := by unfold at_ on; rw [List.map_map, List.map_map]; rfl
  rw [e]
  exact List.Pairwise.map _ (fun x y hne e => hne (by injection e)) h.1
theorem on_length (b : Nat) (offs : List (Nat × Bool)) : (on b offs).length = offs.length := by unfold on; rw [List.length_map]
theorem on_mem {b : Nat} {offs : List (Nat × Bool)} {f : Fld} (h : f ∈ on b offs) : ∃ p ∈ offs, f = (⟨b, p.1, none⟩, p.2) := by
  unfold on at h
  obtain ⟨p, hp, e⟩ := List.mem_map.1 h
  exact ⟨p, hp, e.symm⟩
theorem on_block {b : Nat} {offs : List (Nat × Bool)} {f : Fld} (h : f ∈ on b offs) : f.1.block = b := by
  obtain ⟨p, _, rfl⟩ := on_mem h; rfl
end Wr
/-- A block whose fields have been laid to zero. -/
theorem zero_holds {w v : World} {b : Nat} {offs : List (Nat × Bool)} {xs ys : List Value} (h : ZeroInv w (Wr.on b offs) offs.length v) (k : Holds w b xs)
    (hy : ∀ (j : Nat) (y : Value), ys[j]? = some y → (∃ t, (j, t) ∈ offs ∧ y = Wr.zero t) ∨ ((∀ t, (j, t) ∉ offs) ∧ xs[j]? = some y)) : Holds v b ys := by
  refine ⟨Nat.lt_of_lt_of_le k.1 h.1.size, fun j y hj => ?_, fun i => (h.1.frozen ⟨b, i, none⟩ k.1).trans (k.2.2 i)⟩
  rcases hy j y hj with ⟨t, ht, rfl⟩ | ⟨ht, hx⟩
  · obtain ⟨i, hi, e⟩ := List.getElem_of_mem ht
    have := h.2 i (⟨b, j, none⟩, t) hi (by unfold Wr.on; rw [List.getElem?_map, List.getElem?_eq_getElem hi, e]; rfl)
    exact this
  · refine (h.1.cell ⟨b, j, none⟩ k.1 ?_).trans (k.2.1 j y hx)
    intro hm
    obtain ⟨f, hf, e⟩ := List.mem_map.1 hm
    obtain ⟨p, hp, rfl⟩ := Wr.on_mem hf
    injection e with _ e2
    subst e2
    exact ht p.2 hp
theorem clr_holds {w v : World} {b : Nat} {offs : List (Nat × Bool)} {r : Wr.Rq} (ho : Wr.okAsks offs = true) (h : ZeroInv w (Wr.on b offs) offs.length v) (k : Holds w b r.cells) : Holds v b (r.clr offs).cells := by
  refine zero_holds h k fun j y hj => ?_
  have hall : ∀ p ∈ offs, p = (1, true) ∨ p = (2, false) ∨ p = (3, false) ∨ p = (4, false) ∨ p = (5, false) ∨ p = (6, false) := fun p hp => by
    have := List.all_eq_true.1 ho p hp
    simpa [or_assoc] using this
  match j, hj with
  | 0, hj =>
    injection hj with hj; subst hj
    exact .inr ⟨fun t ht => by have := hall _ ht; simp at this, rfl⟩
  | 1, hj =>
    injection hj with hj; subst hj
    by_cases hm : (1, true) ∈ offs
    · exact .inl ⟨true, hm, by simp [Wr.Rq.clr, hm, Wr.zero]⟩
    · exact .inr ⟨fun t ht => by have := hall _ ht; simp at this; subst this; exact hm ht, by simp [Wr.Rq.clr, hm, Wr.Rq.cells]⟩
  | 2, hj =>
    injection hj with hj; subst hj
    by_cases hm : (2, false) ∈ offs
    · exact .inl ⟨false, hm, by simp [Wr.Rq.clr, hm, Wr.zero]⟩
    · exact .inr ⟨fun t ht => by have := hall _ ht; simp at this; subst this; exact hm ht, by simp [Wr.Rq.clr, hm, Wr.Rq.cells]⟩
  | 3, hj =>
    injection hj with hj; subst hj
    by_cases hm : (3, false) ∈ offs
    · exact .inl ⟨false, hm, by simp [Wr.Rq.clr, hm, Wr.zero]⟩
    · exact .inr ⟨fun t ht => by have := hall _ ht; simp at this; subst this; exact hm ht, by simp [Wr.Rq.clr, hm, Wr.Rq.cells]⟩
  | 4, hj =>
    injection hj with hj; subst hj
    by_cases hm : (4, false) ∈ offs
    · exact .inl ⟨false, hm, by simp [Wr.Rq.clr, hm, Wr.zero]⟩
    · exact .inr ⟨fun t ht => by have := hall _ ht; simp at this; subst this; exact hm ht, by simp [Wr.Rq.clr, hm, Wr.Rq.cells]⟩
  | 5, hj =>
    injection hj with hj; subst hj
    by_cases hm : (5, false) ∈ offs
    · exact .inl ⟨false, hm, by simp [Wr.Rq.clr, hm, Wr.zero]⟩
    · exact .inr ⟨fun t ht => by have := hall _ ht; simp at this; subst this; exact hm ht, by simp [Wr.Rq.clr, hm, Wr.Rq.cells]⟩
  | 6, hj =>
    injection hj with hj; subst hj
    by_cases hm : (6, false) ∈ offs
    · exact .inl ⟨false, hm, by simp [Wr.Rq.clr, hm, Wr.zero]⟩
    · exact .inr ⟨fun t ht => by have := hall _ ht; simp at this; subst this; exact hm ht, by simp [Wr.Rq.clr, hm, Wr.Rq.cells]⟩
  | j + 7, hj => cases hj
end Go.Proofs.Ytonjjihbpeblkaa
