/- A Mem and the document's side by side. -/
import Derived.Test.YtfmbnoafmnbhcaaMmPutM
import Derived.Test.YtfmbnoafmnbhcaaMmMore
import Derived.Test.YtfmbnoafmnbhcaaMmRPut
import Derived.Test.YtfmbnoafmnbhcaaMmRGet
import Derived.Test.YtfmbnoafmnbhcaaMmRRange
namespace Go.Proofs.Ytfmbnoafmnbhcaa
open Go.RowKit
namespace Bk
theorem dup_iff {T : Tr} {top : Int} (h : Inv T top) (x : P) : dup T x = true ↔ has T.row x := by
  have hf := Tr.from_row (want x.1.key x.1.seq) T h.1
  unfold dup
  constructor
  · intro hd
    cases hp : pick x.1.key (T.from_ (want x.1.key x.1.seq)) with
    | none => rw [hp] at hd; cases hd
    | some y =>
      rw [hp] at hd
      have hs : y.1.seq = x.1.seq := by simpa using hd
      unfold pick at hp
      cases hh : (T.from_ (want x.1.key x.1.seq)).head? with
      | none => rw [hh] at hp; cases hp
      | some z =>
        rw [hh] at hp
        dsimp only at hp
        split at hp
        · rename_i hk
          injection hp with hp
          subst hp
          refine ⟨z, ?_, hk, hs⟩
          have := List.mem_of_mem_head? (by rw [hh]; rfl)
          rw [hf] at this
          exact (List.mem_filter.1 this).1
        · cases hp
  · rintro ⟨z, hz, hk, hs⟩
    have hw : ∀ y : P, cmp y.1 (want x.1.key x.1.seq) = cmp y.1 z.1 := fun y => by
      unfold cmp want
      rw [← hk, ← hs]
    have hzf : z ∈ T.from_ (want x.1.key x.1.seq) := by
      rw [hf, List.mem_filter]
      refine ⟨hz, ?_⟩
      rw [hw z, cmp_self]
      rfl
    have hsf : Sorted (T.from_ (want x.1.key x.1.seq)) := by rw [hf]; exact List.Pairwise.filter _ h.1
    cases hl : T.from_ (want x.1.key x.1.seq) with
    | nil => rw [hl] at hzf; cases hzf
    | cons y ys =>
      have hyz : y = z := by
        rw [hl] at hzf hsf
        rcases List.mem_cons.1 hzf with e | e
        · exact e.symm
        · have h1 : lt y z := (List.pairwise_cons.1 hsf).1 z e
          have h2 : y ∈ T.from_ (want x.1.key x.1.seq) := by rw [hl]; exact List.mem_cons_self
          rw [hf, List.mem_filter, hw y] at h2
          have h3 := h2.2
          unfold lt at h1
          rw [decide_eq_true h1] at h3
          cases h3
      subst hyz
      have : pick x.1.key (y :: ys) = some y := by simp [pick, hk]
      rw [this]
      simp [hs]
theorem has_map {es fs : List P} (h : es.map (fun z => z.1) = fs.map (fun z => z.1)) (x : P) : has es x ↔ has fs x := by
  have go : ∀ {es fs : List P}, es.map (fun z => z.1) = fs.map (fun z => z.1) → has es x → has fs x := by
    rintro es fs h ⟨y, hy, h1, h2⟩
    have : y.1 ∈ es.map (fun z => z.1) := List.mem_map.2 ⟨y, hy, rfl⟩
    rw [h] at this
    obtain ⟨z, hz, he⟩ := List.mem_map.1 this
    exact ⟨z, hz, by rw [he]; exact h1, by rw [he]; exact h2⟩
  exact ⟨go h, go h.symm⟩
theorem laid_map {x y : P} (hxy : x.1 = y.1) : ∀ {es fs : List P}, es.map (fun z => z.1) = fs.map (fun z => z.1) → (laid x es).map (fun z => z.1) = (laid y fs).map (fun z => z.1)
  | [], [], _ => by simp [laid, hxy]
  | [], _ :: _, h => by simp at h
  | _ :: _, [], h => by simp at h
  | a :: ta, b :: tb, h => by
    simp only [List.map_cons, List.cons.injEq] at h
    have e : lt x a ↔ lt y b := by unfold lt; rw [hxy, h.1]
    unfold laid
    by_cases hl : lt x a
    · rw [if_pos hl, if_pos (e.1 hl)]
      simp [hxy, h.1, h.2]
    · rw [if_neg hl, if_neg (fun k => hl (e.2 k))]
      simp only [List.map_cons]
      rw [h.1, laid_map hxy h.2]
theorem putE_eq {T : Tr} {top : Int} {es : List P} (hI : Inv T top) (hs : es.map (fun z => z.1) = T.row.map (fun z => z.1)) (x : P) : putE T top x = rputE es top x := by
  unfold putE rputE
  have e : (x.1.seq < top ∨ dup T x = true) ↔ (x.1.seq < top ∨ has es x) := by rw [dup_iff hI, has_map hs]
  by_cases h : ok x.1 = false
  · rw [if_pos h, if_pos h]
  · rw [if_neg h, if_neg h]
    by_cases h2 : x.1.seq < top ∨ dup T x = true
    · rw [if_pos h2, if_pos (e.1 h2)]
    · rw [if_neg h2, if_neg (fun k => h2 (e.2 k))]
theorem cmp_zero {a b : En} (h : cmp a b = 0) : a.key = b.key ∧ a.seq = b.seq := by
  unfold cmp at h
  by_cases hz : cmpS a.key b.key = 0
  · rw [if_neg (fun e => e hz)] at h
    refine ⟨cmpS_zero hz, ?_⟩
    split at h
    · omega
    · split at h <;> omega
  · rw [if_pos hz] at h
    exact absurd h hz
theorem inv_ins {T : Tr} {top : Int} {x y : P} (hI : Inv T top) (hE : putE T top x = 0) (hy : y.1 = x.1) : Inv (T.ins y) x.1.seq ∧ ok x.1 = true := by
  unfold putE at hE
  by_cases h : ok x.1 = false
  · rw [if_pos h] at hE; cases hE
  · rw [if_neg h] at hE
    by_cases h2 : x.1.seq < top ∨ dup T x = true
    · rw [if_pos h2] at hE; cases hE
    · have h3 : ¬ x.1.seq < top := fun e => h2 (.inl e)
      have h4 : ¬ has T.row x := fun e => h2 (.inr ((dup_iff hI x).2 e))
      have hok : ok x.1 = true := by simpa using h
      refine ⟨⟨?_, fun z hz => ?_⟩, hok⟩
      · rw [Tr.ins_row y T hI.1]
        refine laid_sorted hI.1 fun z hz e => ?_
        rw [hy] at e
        obtain ⟨e1, e2⟩ := cmp_zero e
        exact h4 ⟨z, hz, e1.symm, e2.symm⟩
      · rw [Tr.ins_row y T hI.1] at hz
        rcases laid_mem.1 hz with rfl | hz
        · rw [hy]; exact ⟨hok, Int.le_refl _⟩
        · exact ⟨(hI.2 z hz).1, by have := (hI.2 z hz).2; omega⟩
end Bk
/-- A Mem and the document's: the same entries. -/
structure Tw (S : Nat → Prop) (w : World) (m : Nat) (T : Bk.Tr) (top : Int) (A : Option Addr) (es : List Bk.P) (k : Nat) : Prop where
  mem : Bk.IsM S w m T top
  row : RdS S w A es.length es
  same : es.map (fun z => z.1) = T.row.map (fun z => z.1)
  inv : Bk.Inv T top
  few : T.size ≤ k
  low : Bk.bytes T.row ≤ k * 3000000
theorem Tw.below {S : Nat → Prop} {w w' : World} {m : Nat} {T : Bk.Tr} {top : Int} {A : Option Addr} {es : List Bk.P} {k : Nat} (h : Tw S w m T top A es k) (hb : Below w.heap.size w w') : Tw S w' m T top A es k :=
  ⟨h.mem.below hb, h.row.below hb, h.same, h.inv, h.few, h.low⟩
theorem Tw.more {S : Nat → Prop} {w : World} {m : Nat} {T : Bk.Tr} {top : Int} {A : Option Addr} {es : List Bk.P} {k j : Nat} (h : Tw S w m T top A es k) (hj : k ≤ j) : Tw S w m T top A es j :=
  ⟨h.mem, h.row, h.same, h.inv, Nat.le_trans h.few hj, Nat.le_trans h.low (Nat.mul_le_mul_right _ hj)⟩
theorem Tw.len {S : Nat → Prop} {w : World} {m : Nat} {T : Bk.Tr} {top : Int} {A : Option Addr} {es : List Bk.P} {k : Nat} (h : Tw S w m T top A es k) : es.length = T.row.length := by
  have := congrArg List.length h.same
  simpa using this
/-- A put into both. -/
theorem Tw.put {S : Nat → Prop} {w v u : World} {m : Nat} {T T' : Bk.Tr} {top top' rtop : Int} {A A' : Option Addr} {es es' : List Bk.P} {k : Nat} {x : Bk.P} (h : Tw S w m T top A es k) (hx : Bk.At w x) (hM : Bk.IsM S v m T' top') (hno : Bk.putE T top x ≠ 0 → T' = T ∧ top' = top) (hyes : Bk.putE T top x = 0 → ∃ V c, T' = Bk.Tr.ins (x.1, V, x.2.2.1, c) T ∧ top' = x.1.seq)
    (hR : RdS S u A' es'.length es') (hu : Below v.heap.size v u) (hno' : Bk.rputE es top x ≠ 0 → es' = es ∧ rtop = top) (hyes' : Bk.rputE es top x = 0 → es' = Bk.laid x es ∧ rtop = x.1.seq) : Tw S u m T' top' A' es' (k + 1) ∧ rtop = top' := by
  have e := Bk.putE_eq h.inv h.same x
  have hsz : Bk.size1 x ≤ 3000000 := by
    have h1 := hx.2.2.1
    have h2 := hx.2.2.2.2.2
    unfold Bk.size1
    omega
  by_cases h0 : Bk.putE T top x = 0
  · obtain ⟨V, c, rfl, rfl⟩ := hyes h0
    obtain ⟨rfl, rfl⟩ := hyes' (by rw [← e]; exact h0)
    obtain ⟨hI, _⟩ := Bk.inv_ins (y := (x.1, V, x.2.2.1, c)) h.inv h0 rfl
    refine ⟨⟨hM.below hu, hR, ?_, hI, by rw [Bk.Tr.ins_size]; have := h.few; omega, ?_⟩, rfl⟩
    · rw [Bk.Tr.ins_row _ T h.inv.1]
      exact Bk.laid_map (x := x) (y := (x.1, V, x.2.2.1, c)) rfl h.same
    · rw [Bk.bytes_ins]
      have h1 : Bk.size1 ((x.1, V, x.2.2.1, c) : Bk.P) = Bk.size1 x := rfl
      rw [h1, Nat.succ_mul]
      have := h.low
      omega
  · obtain ⟨rfl, rfl⟩ := hno h0
    obtain ⟨rfl, rfl⟩ := hno' (by rw [← e]; exact h0)
    exact ⟨⟨hM.below hu, hR, h.same, h.inv, by have := h.few; omega, Nat.le_trans h.low (Nat.mul_le_mul_right _ (by omega))⟩, rfl⟩
end Go.Proofs.Ytfmbnoafmnbhcaa
