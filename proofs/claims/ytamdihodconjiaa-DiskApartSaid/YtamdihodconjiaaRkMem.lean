/- The document's disk in memory: its box, its row of sectors, and bytes that are never written again; each block by its label. -/
import Derived.Test.YtamdihodconjiaaDkWrite
namespace Go.Proofs.Ytamdihodconjiaa
open Go.RowKit
set_option linter.unusedVariables false
/-- A sector's two cells. -/
structure Ce where
  f : Value
  l : Value
/-- A value that is a sector's bytes. -/
def LeafR (w : World) (lab : Nat → Tag) (v : Value) (b : List Nat) : Prop := ∃ h c, v = .slice (some ⟨h, 0, none⟩) 128 c ∧ Rd w (some ⟨h, 0, none⟩) 128 b ∧ lab h = .leaf
/-- A value that is a row of such. -/
def RowR (w : World) (lab : Nat → Tag) (v : Value) (ls : List (List Nat)) : Prop :=
  ls.length ≤ 2000 ∧ ∃ (A : Option Addr) (c : Nat) (vs : List Value), v = .slice A ls.length c ∧ RdV w A ls.length vs ∧ (0 < ls.length → ∃ g o, A = some ⟨g, o, none⟩ ∧ lab g = .leaf) ∧ ∀ (j : Nat) (x : Value) (b : List Nat), vs[j]? = some x → ls[j]? = some b → LeafR w lab x b
structure SecR (w : World) (lab : Nat → Tag) (c : Ce) (s : Dk.Sec) : Prop where
  f : LeafR w lab c.f s.f
  l : RowR w lab c.l s.l
def flatR (L : List Ce) : List Value := L.flatMap fun c => [c.f, c.l]
structure RefM (w : World) (g sb : Nat) (C : List Ce) (lab : Nat → Tag) (st : Dk.St) : Prop where
  box : Holds w g [.slice (some ⟨sb, 0, none⟩) st.s.length st.s.length, .bool st.fused, .int .i64 st.left, .int .i64 st.n]
  row : Holds w sb (flatR C)
  len : C.length = st.s.length
  sec : ∀ (i : Nat) (c : Ce) (s : Dk.Sec), C[i]? = some c → st.s[i]? = some s → SecR w lab c s
  tags : lab g = .box ∧ lab sb = .buf
  old : ∀ k, lab k ≠ .no → k < w.heap.size
  fine : st.fine
def IsRef (w : World) (g : Nat) (lab : Nat → Tag) (st : Dk.St) : Prop := ∃ sb C, RefM w g sb C lab st
def LeftR (lab : Nat → Tag) (g : Nat) (st : Dk.St) (w w' : World) : Prop := ∃ lab', IsRef w' g lab' st ∧ Chg lab w w' ∧ Lab w lab lab'
/-- The labels with all new blocks as leaves. -/
def labN (lab : Nat → Tag) (w w' : World) : Nat → Tag := fun k => if k < w.heap.size then lab k else if k < w'.heap.size then .leaf else .no
theorem labN_lab (lab : Nat → Tag) (w w' : World) : Lab w lab (labN lab w w') := fun k hk => by unfold labN; rw [if_pos hk]
theorem labN_old {lab : Nat → Tag} {w w' : World} (h : ∀ k, lab k ≠ .no → k < w.heap.size) (hs : w.heap.size ≤ w'.heap.size) : ∀ k, labN lab w w' k ≠ .no → k < w'.heap.size := fun k hk => by
  unfold labN at hk
  split at hk
  · omega
  · split at hk
    · assumption
    · exact absurd rfl hk
theorem labN_new {lab : Nat → Tag} {w w' : World} {k : Nat} (h1 : w.heap.size ≤ k) (h2 : k < w'.heap.size) : labN lab w w' k = .leaf := by unfold labN; rw [if_neg (by omega), if_pos h2]
theorem labN_keep {lab : Nat → Tag} {w w' : World} (h : ∀ k, lab k ≠ .no → k < w.heap.size) : ∀ k, lab k ≠ .no → labN lab w w' k = lab k := fun k hk => labN_lab lab w w' k (h k hk)
section
variable {lab lab' : Nat → Tag} {w w' : World} {g sb i : Nat} {C : List Ce} {st : Dk.St} {v : Value} {b : List Nat} {ls : List (List Nat)}
theorem Rd.block {h n o : Nat} (r : Rd w (some ⟨h, o, none⟩) n b) (hs : w.heap.size ≤ w'.heap.size) (hb : w'.heap[h]? = w.heap[h]?) : Rd w' (some ⟨h, o, none⟩) n b := by
  refine ⟨r.1, r.2.1, fun hn => ?_⟩
  obtain ⟨q, o', e, hq, hc⟩ := r.2.2 hn
  injection e with e
  injection e with e1 e2
  subst e1 e2
  exact ⟨h, o, rfl, Nat.lt_of_lt_of_le hq hs, fun j x hx => (World.cell?_of_block (a := ⟨h, o + j, none⟩) hb).trans (hc j x hx)⟩
theorem LeafR.keep (h : LeafR w lab v b) (hs : w.heap.size ≤ w'.heap.size) (hb : ∀ k, lab k ≠ .no → w'.heap[k]? = w.heap[k]?) : LeafR w' lab v b := by
  obtain ⟨q, c, rfl, h1, h2⟩ := h
  exact ⟨q, c, rfl, h1.block hs (hb q (by rw [h2]; simp)), h2⟩
theorem LeafR.leaves (h : LeafR w lab v b) (hs : w.heap.size ≤ w'.heap.size) (hb : ∀ k, lab k = .leaf → w'.heap[k]? = w.heap[k]?) : LeafR w' lab v b := by
  obtain ⟨q, c, rfl, h1, h2⟩ := h
  exact ⟨q, c, rfl, h1.block hs (hb q h2), h2⟩
theorem LeafR.relab (h : LeafR w lab v b) (hl : ∀ k, lab k ≠ .no → lab' k = lab k) : LeafR w lab' v b := by
  obtain ⟨q, c, rfl, h1, h2⟩ := h
  exact ⟨q, c, rfl, h1, (hl q (by rw [h2]; simp)).trans h2⟩
theorem RowR.leaves (h : RowR w lab v ls) (hs : w.heap.size ≤ w'.heap.size) (hb : ∀ k, lab k = .leaf → w'.heap[k]? = w.heap[k]?) : RowR w' lab v ls := by
  obtain ⟨h0, A, c, vs, rfl, h1, h2, h3⟩ := h
  refine ⟨h0, A, c, vs, rfl, ⟨h1.1, fun hn => ?_⟩, h2, fun j x b e1 e2 => (h3 j x b e1 e2).leaves hs hb⟩
  obtain ⟨q, o, rfl, hq, hc⟩ := h1.2 hn
  obtain ⟨q', o', e, hl⟩ := h2 hn
  injection e with e
  injection e with e1 e2
  subst e1 e2
  exact ⟨q, o, rfl, Nat.lt_of_lt_of_le hq hs, fun j x hx => (World.cell?_of_block (a := ⟨q, o + j, none⟩) (hb q hl)).trans (hc j x hx)⟩
theorem RowR.relab (h : RowR w lab v ls) (hl : ∀ k, lab k ≠ .no → lab' k = lab k) : RowR w lab' v ls := by
  obtain ⟨h0, A, c, vs, rfl, h1, h2, h3⟩ := h
  refine ⟨h0, A, c, vs, rfl, h1, fun hn => ?_, fun j x b e1 e2 => (h3 j x b e1 e2).relab hl⟩
  obtain ⟨q', o', e, h4⟩ := h2 hn
  exact ⟨q', o', e, (hl q' (by rw [h4]; simp)).trans h4⟩
theorem SecR.leaves {c : Ce} {s : Dk.Sec} (h : SecR w lab c s) (hs : w.heap.size ≤ w'.heap.size) (hb : ∀ k, lab k = .leaf → w'.heap[k]? = w.heap[k]?) : SecR w' lab c s := ⟨h.f.leaves hs hb, h.l.leaves hs hb⟩
theorem SecR.relab {c : Ce} {s : Dk.Sec} (h : SecR w lab c s) (hl : ∀ k, lab k ≠ .no → lab' k = lab k) : SecR w lab' c s := ⟨h.f.relab hl, h.l.relab hl⟩
theorem RefM.keep (h : RefM w g sb C lab st) (hs : w.heap.size ≤ w'.heap.size) (hb : ∀ k, lab k ≠ .no → w'.heap[k]? = w.heap[k]?) : RefM w' g sb C lab st where
  box := h.box.block hs (hb g (by rw [h.tags.1]; simp))
  row := h.row.block hs (hb sb (by rw [h.tags.2]; simp))
  len := h.len
  sec := fun i c s h1 h2 => (h.sec i c s h1 h2).leaves hs fun k hk => hb k (by rw [hk]; simp)
  tags := h.tags
  old := fun k hk => Nat.lt_of_lt_of_le (h.old k hk) hs
  fine := h.fine
theorem RefM.below (h : RefM w g sb C lab st) (hb : Below w.heap.size w w') : RefM w' g sb C lab st := h.keep hb.size fun k hk => hb.block k (h.old k hk)
theorem IsRef.keep (h : IsRef w g lab st) (hs : w.heap.size ≤ w'.heap.size) (hb : ∀ k, lab k ≠ .no → w'.heap[k]? = w.heap[k]?) : IsRef w' g lab st := by
  obtain ⟨sb, C, h⟩ := h
  exact ⟨sb, C, h.keep hs hb⟩
theorem IsRef.below (h : IsRef w g lab st) (hb : Below w.heap.size w w') : IsRef w' g lab st := by
  obtain ⟨sb, C, h⟩ := h
  exact ⟨sb, C, h.below hb⟩
theorem IsRef.old (h : IsRef w g lab st) : ∀ k, lab k ≠ .no → k < w.heap.size := by
  obtain ⟨sb, C, h⟩ := h
  exact h.old
theorem flatR_length (L : List Ce) : (flatR L).length = 2 * L.length := by
  induction L with
  | nil => rfl
  | cons c r ih => show (c.f :: c.l :: flatR r).length = _; simp only [List.length_cons, ih]; omega
theorem flatR_at {L : List Ce} {c : Ce} (h : L[i]? = some c) : (flatR L)[i * 2]? = some c.f ∧ (flatR L)[i * 2 + 1]? = some c.l := by
  induction L generalizing i with
  | nil => simp at h
  | cons x r ih =>
    show (x.f :: x.l :: flatR r)[i * 2]? = _ ∧ (x.f :: x.l :: flatR r)[i * 2 + 1]? = _
    cases i with
    | zero => simp at h; subst h; exact ⟨rfl, rfl⟩
    | succ i =>
      simp only [List.getElem?_cons_succ] at h
      obtain ⟨h1, h2⟩ := ih h
      rw [show (i + 1) * 2 = i * 2 + 1 + 1 by omega, show i * 2 + 1 + 1 + 1 = (i * 2 + 1) + 1 + 1 by omega]
      exact ⟨h1, h2⟩
theorem flatR_set (L : List Ce) (i : Nat) (c : Ce) (hi : i < L.length) : flatR (L.set i c) = ((flatR L).set (i * 2) c.f).set (i * 2 + 1) c.l := by
  induction L generalizing i with
  | nil => simp at hi
  | cons x r ih =>
    cases i with
    | zero => rfl
    | succ i =>
      show x.f :: x.l :: flatR (r.set i c) = ((x.f :: x.l :: flatR r).set ((i + 1) * 2) c.f).set ((i + 1) * 2 + 1) c.l
      rw [ih i (by simpa using hi), show (i + 1) * 2 = i * 2 + 1 + 1 by omega]
      rfl
theorem flatR_set_f {L : List Ce} {i : Nat} {c : Ce} (v : Value) (h : L[i]? = some c) : flatR (L.set i ⟨v, c.l⟩) = (flatR L).set (i * 2) v := by
  rw [flatR_set L i _ (List.getElem?_eq_some_iff.1 h).1]
  have h2 := (flatR_at h).2
  refine List.ext_getElem? fun j => ?_
  by_cases e : j = i * 2 + 1
  · subst e
    rw [List.getElem?_set_self (by rw [List.length_set]; exact (List.getElem?_eq_some_iff.1 h2).1), List.getElem?_set_ne (by omega), h2]
  · rw [List.getElem?_set_ne (by omega)]
theorem flatR_set_l {L : List Ce} {i : Nat} {c : Ce} (v : Value) (h : L[i]? = some c) : flatR (L.set i ⟨c.f, v⟩) = (flatR L).set (i * 2 + 1) v := by
  rw [flatR_set L i _ (List.getElem?_eq_some_iff.1 h).1]
  have h2 := (flatR_at h).1
  congr 1
  refine List.ext_getElem? fun j => ?_
  by_cases e : j = i * 2
  · subst e
    rw [List.getElem?_set_self (List.getElem?_eq_some_iff.1 h2).1, h2]
  · rw [List.getElem?_set_ne (by omega)]
theorem RefM.at_ (h : RefM w g sb C lab st) {s : Dk.Sec} (hs : st.s[i]? = some s) : ∃ c, C[i]? = some c ∧ w.cell? ⟨sb, i * 2, none⟩ = some c.f ∧ w.cell? ⟨sb, i * 2 + 1, none⟩ = some c.l ∧ SecR w lab c s := by
  obtain ⟨c, hc⟩ : ∃ c, C[i]? = some c := ⟨_, List.getElem?_eq_getElem (by rw [h.len]; exact (List.getElem?_eq_some_iff.1 hs).1)⟩
  exact ⟨c, hc, h.row.at_ _ (flatR_at hc).1, h.row.at_ _ (flatR_at hc).2, h.sec i c s hc hs⟩
/-- One sector's cells are other: the call's new memory lies behind the world it began in. -/
theorem RefM.upd {w2 w3 : World} (h : RefM w g sb C lab st) (hb : Below w.heap.size w w2) (hc : Ch1 sb w2 w3) {c' : Ce} {G : Dk.Sec → Dk.Sec} {s : Dk.Sec} (hs : st.s[i]? = some s)
    (hrow : Holds w3 sb (flatR (C.set i c'))) (hsec : SecR w2 (labN lab w w2) c' (G s)) (hz : w3.heap.size = w2.heap.size)
    (hfine : Dk.St.fine ⟨Dk.upd st.s i G, st.n, st.fused, st.left⟩) : LeftR lab g ⟨Dk.upd st.s i G, st.n, st.fused, st.left⟩ w w3 := by
  have hil := (List.getElem?_eq_some_iff.1 hs).1
  have hne : g ≠ sb := fun e => by have h1 := h.tags.1; rw [e, h.tags.2] at h1; cases h1
  have hgl := h.box.1
  have hsl := h.row.1
  have hkk : ∀ k, labN lab w w2 k = .leaf → w3.heap[k]? = w2.heap[k]? := fun k hk => by
    refine hc.block k (labN_old h.old hb.size k (by rw [hk]; simp)) fun e => ?_
    subst e
    rw [labN_lab lab w w2 k hsl, h.tags.2] at hk
    cases hk
  refine ⟨labN lab w w2, ⟨sb, C.set i c', ⟨?_, hrow, ?_, fun j c t h1 h2 => ?_, ?_, ?_, hfine⟩⟩, ?_, labN_lab lab w w2⟩
  · have := (h.box.below hb).block (w' := w3) (by omega) (hc.block g (Nat.lt_of_lt_of_le hgl hb.size) hne)
    rw [show (Dk.St.mk (Dk.upd st.s i G) st.n st.fused st.left).s.length = st.s.length from upd_len _ _ _]
    exact this
  · rw [List.length_set]; exact h.len.trans (upd_len _ _ _).symm
  · by_cases e : j = i
    · subst e
      rw [List.getElem?_set_self (by rw [h.len]; exact hil)] at h1
      injection h1 with h1
      subst h1
      have h2' : (Dk.upd st.s j G)[j]? = some t := h2
      rw [upd_at hs] at h2'
      injection h2' with h2'
      subst h2'
      exact hsec.leaves (by omega) hkk
    · rw [List.getElem?_set_ne (by omega)] at h1
      have h2' : (Dk.upd st.s i G)[j]? = some t := h2
      rw [upd_other e] at h2'
      have h3 := ((h.sec j c t h1 h2').leaves hb.size fun k hk => hb.block k (h.old k (by rw [hk]; simp))).relab (labN_keep (w' := w2) h.old)
      exact h3.leaves (by omega) hkk
  · exact ⟨(labN_lab lab w w2 g hgl).trans h.tags.1, (labN_lab lab w w2 sb hsl).trans h.tags.2⟩
  · rw [hz]; exact labN_old h.old hb.size
  · exact (Chg.of_below hb).trans (labN_lab lab w w2) (Chg.of_ch1 hc (by rw [labN_lab lab w w2 sb hsl, h.tags.2]; simp))
/-- The box alone is other. -/
theorem RefM.boxed {w3 : World} (h : RefM w g sb C lab st) (hc : Ch1 g w w3) (hz : w3.heap.size = w.heap.size) {n left : Int} {fused : Bool}
    (hbox : Holds w3 g [.slice (some ⟨sb, 0, none⟩) st.s.length st.s.length, .bool fused, .int .i64 left, .int .i64 n]) : LeftR lab g ⟨st.s, n, fused, left⟩ w w3 := by
  have hne : sb ≠ g := fun e => by have h1 := h.tags.2; rw [e, h.tags.1] at h1; cases h1
  have hkk : ∀ k, lab k = .leaf → w3.heap[k]? = w.heap[k]? := fun k hk => by
    refine hc.block k (h.old k (by rw [hk]; simp)) fun e => ?_
    subst e
    rw [h.tags.1] at hk
    cases hk
  exact ⟨lab, ⟨sb, C, ⟨hbox, h.row.block (by omega) (hc.block sb h.row.1 hne), h.len, fun i c s h1 h2 => (h.sec i c s h1 h2).leaves (by omega) hkk, h.tags, by rw [hz]; exact h.old, h.fine⟩⟩, Chg.of_ch1 hc (by rw [h.tags.1]; simp), Lab.refl _ _⟩
end
theorem LeftR.below_of {lab : Nat → Tag} {g : Nat} {st : Dk.St} {w w' w'' : World} (h : LeftR lab g st w w') (hb : Below w'.heap.size w' w'') : LeftR lab g st w w'' := by
  obtain ⟨lab', h1, h2, h3⟩ := h
  exact ⟨lab', h1.below hb, h2.trans h3 (Chg.of_below hb), h3⟩
theorem LeftR.then_ {lab : Nat → Tag} {g : Nat} {st st' : Dk.St} {w w' w'' : World} (h : LeftR lab g st w w') (k : ∀ lab', IsRef w' g lab' st → LeftR lab' g st' w' w'') : LeftR lab g st' w w'' := by
  obtain ⟨lab', h1, h2, h3⟩ := h
  obtain ⟨lab2, k1, k2, k3⟩ := k lab' h1
  exact ⟨lab2, k1, h2.trans h3 k2, h3.trans k3 h2.size⟩
end Go.Proofs.Ytamdihodconjiaa
