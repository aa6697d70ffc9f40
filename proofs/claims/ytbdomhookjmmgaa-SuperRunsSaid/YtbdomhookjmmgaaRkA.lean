/- The document's disk in memory: its box, its row of sectors, and bytes that are never written again; each block by its label. The document's disk: Down, has, done, Fuse, Read. The document's disk: Rot, New. The document's disk: New. -/
import Derived.Test.YtbdomhookjmmgaaDkG
namespace Go.Proofs.Ytbdomhookjmmgaa
open Go.RowKit
set_option linter.unusedVariables false
/-- A sector's two cells. -/
structure Ce where
  f : Value
  l : Value
/-- A value that is a sector's bytes. -/
def LeafR (w : World) (lab : Nat → Tag) (v : Value) (b : List Nat) : Prop := ∃ h c, v = .slice (some ⟨h, 0, none⟩) 128 c ∧ Rd w (some ⟨h, 0, none⟩) 128 b ∧ lab h = .leaf
/-- A value that is a row of such. -/
def RowR (w : World) (lab : Nat → Tag) (v : Value) (ls : List (List Nat)) : Prop :=
  ls.length ≤ 2000 ∧ ∃ (A : Option Addr) (c : Nat) (vs : List Value), v = .slice A ls.length c ∧ RdV w A ls.length vs ∧ (0 < ls.length → ∃ g o, A = some ⟨g, o, none⟩ ∧ lab g = .leaf) ∧ ∀ (j : Nat) (x : Value) (b : List Nat), vs[j]? = some x → ls[j]? = some b → LeafR w lab x b
structure SecR (w : World) (lab : Nat → Tag) (c : Ce) (s : Dk.Sec) : Prop where
  f : LeafR w lab c.f s.f
  l : RowR w lab c.l s.l
def flatR (L : List Ce) : List Value := L.flatMap fun c => [c.f, c.l]
structure RefM (w : World) (g sb : Nat) (C : List Ce) (lab : Nat → Tag) (st : Dk.St) : Prop where
  box : Holds w g [.slice (some ⟨sb, 0, none⟩) st.s.length st.s.length, .bool st.fused, .int .i64 st.left, .int .i64 st.n]
  row : Holds w sb (flatR C)
  len : C.length = st.s.length
  sec : ∀ (i : Nat) (c : Ce) (s : Dk.Sec), C[i]? = some c → st.s[i]? = some s → SecR w lab c s
  tags : lab g = .box ∧ lab sb = .buf
  old : ∀ k, lab k ≠ .no → k < w.heap.size
  fine : st.fine
def IsRef (w : World) (g : Nat) (lab : Nat → Tag) (st : Dk.St) : Prop := ∃ sb C, RefM w g sb C lab st
def LeftR (lab : Nat → Tag) (g : Nat) (st : Dk.St) (w w' : World) : Prop := ∃ lab', IsRef w' g lab' st ∧ Chg lab w w' ∧ Lab w lab lab'
/-- The labels with all new blocks as leaves. -/
def labN (lab : Nat → Tag) (w w' : World) : Nat → Tag := fun k => if k < w.heap.size then lab k else if k < w'.heap.size then .leaf else .no
theorem labN_lab (lab : Nat → Tag) (w w' : World) : Lab w lab (labN lab w w') := fun k hk => by unfold labN; rw [if_pos hk]
theorem labN_old {lab : Nat → Tag} {w w' : World} (h : ∀ k, lab k ≠ .no → k < w.heap.size) (hs : w.heap.size ≤ w'.heap.size) : ∀ k, labN lab w w' k ≠ .no → k < w'.heap.size := fun k hk => by
  unfold labN at hk
  split at hk
  · omega
  · split at hk
    · assumption
    · exact absurd rfl hk
theorem labN_new {lab : Nat → Tag} {w w' : World} {k : Nat} (h1 : w.heap.size ≤ k) (h2 : k < w'.heap.size) : labN lab w w' k = .leaf := by unfold labN; rw [if_neg (by omega), if_pos h2]
theorem labN_keep {lab : Nat → Tag} {w w' : World} (h : ∀ k, lab k ≠ .no → k < w.heap.size) : ∀ k, lab k ≠ .no → labN lab w w' k = lab k := fun k hk => labN_lab lab w w' k (h k hk)
section
variable {lab lab' : Nat → Tag} {w w' : World} {g sb i : Nat} {C : List Ce} {st : Dk.St} {v : Value} {b : List Nat} {ls : List (List Nat)}
theorem Rd.block {h n o : Nat} (r : Rd w (some ⟨h, o, none⟩) n b) (hs : w.heap.size ≤ w'.heap.size) (hb : w'.heap[h]? = w.heap[h]?) : Rd w' (some ⟨h, o, none⟩) n b := by
  refine ⟨r.1, r.2.1, fun hn => ?_⟩
  obtain ⟨q, o', e, hq, hc⟩ := r.2.2 hn
  injection e with e
  injection e with e1 e2
  subst e1 e2
  exact ⟨h, o, rfl, Nat.lt_of_lt_of_le hq hs, fun j x hx => (World.cell?_of_block (a := ⟨h, o + j, none⟩) hb).trans (hc j x hx)⟩
theorem LeafR.keep (h : LeafR w lab v b) (hs : w.heap.size ≤ w'.heap.size) (hb : ∀ k, lab k ≠ .no → w'.heap[k]? = w.heap[k]?) : LeafR w' lab v b := by
  obtain ⟨q, c, rfl, h1, h2⟩ := h
  exact ⟨q, c, rfl, h1.block hs (hb q (by rw [h2]; simp)), h2⟩
theorem LeafR.leaves (h : LeafR w lab v b) (hs : w.heap.size ≤ w'.heap.size) (hb : ∀ k, lab k = .leaf → w'.heap[k]? = w.heap[k]?) : LeafR w' lab v b := by
  obtain ⟨q, c, rfl, h1, h2⟩ := h
  exact ⟨q, c, rfl, h1.block hs (hb q h2), h2⟩
theorem LeafR.relab (h : LeafR w lab v b) (hl : ∀ k, lab k ≠ .no → lab' k = lab k) : LeafR w lab' v b := by
  obtain ⟨q, c, rfl, h1, h2⟩ := h
  exact ⟨q, c, rfl, h1, (hl q (by rw [h2]; simp)).trans h2⟩
theorem RowR.leaves (h : RowR w lab v ls) (hs : w.heap.size ≤ w'.heap.size) (hb : ∀ k, lab k = .leaf → w'.heap[k]? = w.heap[k]?) : RowR w' lab v ls := by
  obtain ⟨h0, A, c, vs, rfl, h1, h2, h3⟩ := h
  refine ⟨h0, A, c, vs, rfl, ⟨h1.1, fun hn => ?_⟩, h2, fun j x b e1 e2 => (h3 j x b e1 e2).leaves hs hb⟩
  obtain ⟨q, o, rfl, hq, hc⟩ := h1.2 hn
  obtain ⟨q', o', e, hl⟩ := h2 hn
  injection e with e
  injection e with e1 e2
  subst e1 e2
  exact ⟨q, o, rfl, Nat.lt_of_lt_of_le hq hs, fun j x hx => (World.cell?_of_block (a := ⟨q, o + j, none⟩) (hb q hl)).trans (hc j x hx)⟩
theorem RowR.relab (h : RowR w lab v ls) (hl : ∀ k, lab k ≠ .no → lab' k = lab k) : RowR w lab' v ls := by
  obtain ⟨h0, A, c, vs, rfl, h1, h2, h3⟩ := h
  refine ⟨h0, A, c, vs, rfl, h1, fun hn => ?_, fun j x b e1 e2 => (h3 j x b e1 e2).relab hl⟩
  obtain ⟨q', o', e, h4⟩ := h2 hn
  exact ⟨q', o', e, (hl q' (by rw [h4]; simp)).trans h4⟩
theorem SecR.leaves {c : Ce} {s : Dk.Sec} (h : SecR w lab c s) (hs : w.heap.size ≤ w'.heap.size) (hb : ∀ k, lab k = .leaf → w'.heap[k]? = w.heap[k]?) : SecR w' lab c s := ⟨h.f.leaves hs hb, h.l.leaves hs hb⟩
theorem SecR.relab {c : Ce} {s : Dk.Sec} (h : SecR w lab c s) (hl : ∀ k, lab k ≠ .no → lab' k = lab k) : SecR w lab' c s := ⟨h.f.relab hl, h.l.relab hl⟩
theorem RefM.keep (h : RefM w g sb C lab st) (hs : w.heap.size ≤ w'.heap.size) (hb : ∀ k, lab k ≠ .no → w'.heap[k]? = w.heap[k]?) : RefM w' g sb C lab st where
  box := h.box.block hs (hb g (by rw [h.tags.1]; simp))
  row := h.row.block hs (hb sb (by rw [h.tags.2]; simp))
  len := h.len
  sec := fun i c s h1 h2 => (h.sec i c s h1 h2).leaves hs fun k hk => hb k (by rw [hk]; simp)
  tags := h.tags
  old := fun k hk => Nat.lt_of_lt_of_le (h.old k hk) hs
  fine := h.fine
theorem RefM.below (h : RefM w g sb C lab st) (hb : Below w.heap.size w w') : RefM w' g sb C lab st := h.keep hb.size fun k hk => hb.block k (h.old k hk)
theorem IsRef.keep (h : IsRef w g lab st) (hs : w.heap.size ≤ w'.heap.size) (hb : ∀ k, lab k ≠ .no → w'.heap[k]? = w.heap[k]?) : IsRef w' g lab st := by
  obtain ⟨sb, C, h⟩ := h
  exact ⟨sb, C, h.keep hs hb⟩
theorem IsRef.below (h : IsRef w g lab st) (hb : Below w.heap.size w w') : IsRef w' g lab st := by
  obtain ⟨sb, C, h⟩ := h
  exact ⟨sb, C, h.below hb⟩
theorem IsRef.old (h : IsRef w g lab st) : ∀ k, lab k ≠ .no → k < w.heap.size := by
  obtain ⟨sb, C, h⟩ := h
  exact h.old
theorem flatR_length (L : List Ce) : (flatR L).length = 2 * L.length := by
  induction L with
  | nil => rfl
  | cons c r ih => show (c.f :: c.l :: flatR r).length = _; simp only [List.length_cons, ih]; omega
theorem flatR_at {L : List Ce} {c : Ce} (h : L[i]? = some c) : (flatR L)[i * 2]? = some c.f ∧ (flatR L)[i * 2 + 1]? = some c.l := by
  induction L generalizing i with
  | nil => simp at h
  | cons x r ih =>
    show (x.f :: x.l :: flatR r)[i * 2]? = _ ∧ (x.f :: x.l :: flatR r)[i * 2 + 1]? = _
    cases i with
    | zero => simp at h; subst h; exact ⟨rfl, rfl⟩
    | succ i =>
      simp only [List.getElem?_cons_succ] at h
      obtain ⟨h1, h2⟩ := ih h
      rw [show (i + 1) * 2 = i * 2 + 1 + 1 by omega, show i * 2 + 1 + 1 + 1 = (i * 2 + 1) + 1 + 1 by omega]
      exact ⟨h1, h2⟩
theorem flatR_set (L : List Ce) (i : Nat) (c : Ce) (hi : i < L.length) : flatR (L.set i c) = ((flatR L).set (i * 2) c.f).set (i * 2 + 1) c.l := by
  induction L generalizing i with
  | nil => simp at hi
  | cons x r ih =>
    cases i with
    | zero => rfl
    | succ i =>
      show x.f :: x.l :: flatR (r.set i c) = ((x.f :: x.l :: flatR r).set ((i + 1) * 2) c.f).set ((i + 1) * 2 + 1) c.l
      rw [ih i (by simpa using hi), show (i + 1) * 2 = i * 2 + 1 + 1 by omega]
      rfl
theorem flatR_set_f {L : List Ce} {i : Nat} {c : Ce} (v : Value) (h : L[i]? = some c) : flatR (L.set i ⟨v, c.l⟩) = (flatR L).set (i * 2) v := by
  rw [flatR_set L i _ (List.getElem?_eq_some_iff.1 h).1]
  have h2 := (flatR_at h).2
  refine List.ext_getElem? fun j => ?_
  by_cases e : j = i * 2 + 1
  · subst e
    rw [List.getElem?_set_self (by rw [List.length_set]; exact (List.getElem?_eq_some_iff.1 h2).1), List.getElem?_set_ne (by omega), h2]
  · rw [List.getElem?_set_ne (by omega)]
theorem flatR_set_l {L : List Ce} {i : Nat} {c : Ce} (v : Value) (h : L[i]? = some c) : flatR (L.set i ⟨c.f, v⟩) = (flatR L).set (i * 2 + 1) v := by
  rw [flatR_set L i _ (List.getElem?_eq_some_iff.1 h).1]
  have h2 := (flatR_at h).1
  congr 1
  refine List.ext_getElem? fun j => ?_
  by_cases e : j = i * 2
  · subst e
    rw [List.getElem?_set_self (List.getElem?_eq_some_iff.1 h2).1, h2]
  · rw [List.getElem?_set_ne (by omega)]
theorem RefM.at_ (h : RefM w g sb C lab st) {s : Dk.Sec} (hs : st.s[i]? = some s) : ∃ c, C[i]? = some c ∧ w.cell? ⟨sb, i * 2, none⟩ = some c.f ∧ w.cell? ⟨sb, i * 2 + 1, none⟩ = some c.l ∧ SecR w lab c s := by
  obtain ⟨c, hc⟩ : ∃ c, C[i]? = some c := ⟨_, List.getElem?_eq_getElem (by rw [h.len]; exact (List.getElem?_eq_some_iff.1 hs).1)⟩
  exact ⟨c, hc, h.row.at_ _ (flatR_at hc).1, h.row.at_ _ (flatR_at hc).2, h.sec i c s hc hs⟩
/-- One sector's cells are other: the call's new memory lies behind the world it began in. -/
theorem RefM.upd {w2 w3 : World} (h : RefM w g sb C lab st) (hb : Below w.heap.size w w2) (hc : Ch1 sb w2 w3) {c' : Ce} {G : Dk.Sec → Dk.Sec} {s : Dk.Sec} (hs : st.s[i]? = some s)
    (hrow : Holds w3 sb (flatR (C.set i c'))) (hsec : SecR w2 (labN lab w w2) c' (G s)) (hz : w3.heap.size = w2.heap.size)
    (hfine : Dk.St.fine ⟨Dk.upd st.s i G, st.n, st.fused, st.left⟩) : LeftR lab g ⟨Dk.upd st.s i G, st.n, st.fused, st.left⟩ w w3 := by
  have hil := (List.getElem?_eq_some_iff.1 hs).1
  have hne : g ≠ sb := fun e => by have h1 := h.tags.1; rw [e, h.tags.2] at h1; cases h1
  have hgl := h.box.1
  have hsl := h.row.1
  have hkk : ∀ k, labN lab w w2 k = .leaf → w3.heap[k]? = w2.heap[k]? := fun k hk => by
    refine hc.block k (labN_old h.old hb.size k (by rw [hk]; simp)) fun e => ?_
    subst e
    rw [labN_lab lab w w2 k hsl, h.tags.2] at hk
    cases hk
  refine ⟨labN lab w w2, ⟨sb, C.set i c', ⟨?_, hrow, ?_, fun j c t h1 h2 => ?_, ?_, ?_, hfine⟩⟩, ?_, labN_lab lab w w2⟩
  · have := (h.box.below hb).block (w' := w3) (by omega) (hc.block g (Nat.lt_of_lt_of_le hgl hb.size) hne)
    rw [show (Dk.St.mk (Dk.upd st.s i G) st.n st.fused st.left).s.length = st.s.length from upd_len _ _ _]
    exact this
  · rw [List.length_set]; exact h.len.trans (upd_len _ _ _).symm
  · by_cases e : j = i
    · subst e
      rw [List.getElem?_set_self (by rw [h.len]; exact hil)] at h1
      injection h1 with h1
      subst h1
      have h2' : (Dk.upd st.s j G)[j]? = some t := h2
      rw [upd_at hs] at h2'
      injection h2' with h2'
      subst h2'
      exact hsec.leaves (by omega) hkk
    · rw [List.getElem?_set_ne (by omega)] at h1
      have h2' : (Dk.upd st.s i G)[j]? = some t := h2
      rw [upd_other e] at h2'
      have h3 := ((h.sec j c t h1 h2').leaves hb.size fun k hk => hb.block k (h.old k (by rw [hk]; simp))).relab (labN_keep (w' := w2) h.old)
      exact h3.leaves (by omega) hkk
  · exact ⟨(labN_lab lab w w2 g hgl).trans h.tags.1, (labN_lab lab w w2 sb hsl).trans h.tags.2⟩
  · rw [hz]; exact labN_old h.old hb.size
  · exact (Chg.of_below hb).trans (labN_lab lab w w2) (Chg.of_ch1 hc (by rw [labN_lab lab w w2 sb hsl, h.tags.2]; simp))
/-- The box alone is other. -/
theorem RefM.boxed {w3 : World} (h : RefM w g sb C lab st) (hc : Ch1 g w w3) (hz : w3.heap.size = w.heap.size) {n left : Int} {fused : Bool}
    (hbox : Holds w3 g [.slice (some ⟨sb, 0, none⟩) st.s.length st.s.length, .bool fused, .int .i64 left, .int .i64 n]) : LeftR lab g ⟨st.s, n, fused, left⟩ w w3 := by
  have hne : sb ≠ g := fun e => by have h1 := h.tags.2; rw [e, h.tags.1] at h1; cases h1
  have hkk : ∀ k, lab k = .leaf → w3.heap[k]? = w.heap[k]? := fun k hk => by
    refine hc.block k (h.old k (by rw [hk]; simp)) fun e => ?_
    subst e
    rw [h.tags.1] at hk
    cases hk
  exact ⟨lab, ⟨sb, C, ⟨hbox, h.row.block (by omega) (hc.block sb h.row.1 hne), h.len, fun i c s h1 h2 => (h.sec i c s h1 h2).leaves (by omega) hkk, h.tags, by rw [hz]; exact h.old, h.fine⟩⟩, Chg.of_ch1 hc (by rw [h.tags.1]; simp), Lab.refl _ _⟩
end
theorem LeftR.below_of {lab : Nat → Tag} {g : Nat} {st : Dk.St} {w w' w'' : World} (h : LeftR lab g st w w') (hb : Below w'.heap.size w' w'') : LeftR lab g st w w'' := by
  obtain ⟨lab', h1, h2, h3⟩ := h
  exact ⟨lab', h1.below hb, h2.trans h3 (Chg.of_below hb), h3⟩
theorem LeftR.then_ {lab : Nat → Tag} {g : Nat} {st st' : Dk.St} {w w' w'' : World} (h : LeftR lab g st w w') (k : ∀ lab', IsRef w' g lab' st → LeftR lab' g st' w' w'') : LeftR lab g st' w w'' := by
  obtain ⟨lab', h1, h2, h3⟩ := h
  obtain ⟨lab2, k1, k2, k3⟩ := k lab' h1
  exact ⟨lab2, k1, h2.trans h3 k2, h3.trans k3 h2.size⟩
end Go.Proofs.Ytbdomhookjmmgaa
namespace Go.Proofs.Ytbdomhookjmmgaa
open Go.RowKit
set_option linter.unusedVariables false
section
variable {w : World} {g : Nat} {lab : Nat → Tag} {st : Dk.St}
set_option maxRecDepth 100000 in
theorem rdown_any (w : World) (g : Nat) (lab : Nat → Tag) (st : Dk.St) (h : IsRef w g lab st) : Calls Try.prog 63 #[.pointer (some ⟨g, 0, none⟩)] w fun e w' => e = .returned (.bool st.down) ∧ w = w' := by
  obtain ⟨sb, C, h⟩ := h
  have c1 := h.box.at_ 1 rfl
  have c2 := h.box.at_ 2 rfl
  obtain ⟨s, n, fu, le⟩ := st
  clear h
  cases fu
  · have e : Dk.St.down ⟨s, n, false, le⟩ = false := rfl
    rw [e]
    go_enter Try.func63, Try.ntmps63
    go_wp2
    go_ret
    exact ⟨rfl, rfl⟩
  · have e : Dk.St.down ⟨s, n, true, le⟩ = (le == 0) := by unfold Dk.St.down; rw [Bool.eq_iff_iff]; simp
    rw [e]
    clear e
    go_enter Try.func63, Try.ntmps63
    go_wp2
    go_ret
    exact ⟨rfl, rfl⟩
set_option maxRecDepth 100000 in
theorem rhas_any (at_ : Int) (w : World) (g : Nat) (lab : Nat → Tag) (st : Dk.St) (h : IsRef w g lab st) : Calls Try.prog 64 #[.pointer (some ⟨g, 0, none⟩), .int .i64 at_] w fun e w' => e = .returned (.bool (st.has at_)) ∧ w = w' := by
  obtain ⟨sb, C, h⟩ := h
  have c0 := h.box.at_ 0 rfl
  unfold Dk.St.has
  clear h
  by_cases h0 : 0 ≤ at_
  · rw [decide_eq_true h0, Bool.true_and]
    go_enter Try.func64, Try.ntmps64
    go_wp2
    go_ret
    exact ⟨rfl, rfl⟩
  · rw [decide_eq_false h0, Bool.false_and]
    go_enter Try.func64, Try.ntmps64
    go_wp2
    go_ret
    exact ⟨rfl, rfl⟩
/-- Words for a disk's numbers, within bounds. -/
theorem Dk.St.low.small {st : Dk.St} {c : Nat} (h : st.low c) (hc : c ≤ 1000) : 0 ≤ st.n ∧ st.n ≤ 1000 ∧ 0 ≤ st.left ∧ st.left ≤ 1048576 := ⟨h.1, by have := h.2.1; omega, h.2.2.1, h.2.2.2.1⟩
set_option maxRecDepth 100000 in
theorem rdone_any (w : World) (g : Nat) (lab : Nat → Tag) (st : Dk.St) (h : IsRef w g lab st) (h1 : 0 ≤ st.n ∧ st.n ≤ 1000 ∧ 0 ≤ st.left ∧ st.left ≤ 1048576) (hd : st.down = false) :
    Calls Try.prog 65 #[.pointer (some ⟨g, 0, none⟩)] w fun e w' => e = .returned (.int .i64 0) ∧ LeftR lab g st.burn w w' := by
  obtain ⟨sb, C, h⟩ := h
  obtain ⟨l1, l2, l3, l4⟩ := h1
  obtain ⟨s, n, fu, le⟩ := st
  have H := Lib.hid h
  have f3 := h.box.2.2 3
  have f2 := h.box.2.2 2
  have c1 := h.box.at_ 1 rfl
  have c2 := h.box.at_ 2 rfl
  have c3 := h.box.at_ 3 rfl
  simp only at l1 l2 l3 l4
  clear h
  cases fu
  · have HB : Hid (Dk.St.burn ⟨s, n, false, le⟩ = ⟨s, n + 1, false, le⟩) := Lib.hid rfl
    rw [HB.out]
    clear hd
    go_enter Try.func65, Try.ntmps65
    go_wp2
    go_ret
    exact ⟨rfl, H.out.boxed (Ch1.set _ _ _ _) (by simp [World.setCell]) (H.out.box.set 3 _ (by simp))⟩
  · have HB : Hid (Dk.St.burn ⟨s, n, true, le⟩ = ⟨s, n + 1, true, le - 1⟩) := Lib.hid rfl
    rw [HB.out]
    have hl0 : le ≠ 0 := fun e => by subst e; cases hd
    clear hd
    have HS := Lib.hid ((H.out.box.set 3 (.int .i64 (n + 1)) (by simp)).set 2 (.int .i64 (le - 1)) (by simp))
    go_enter Try.func65, Try.ntmps65
    go_wp2
    go_ret
    exact ⟨rfl, H.out.boxed ((Ch1.set _ _ _ _).trans (Ch1.set _ _ _ _)) (by simp [World.setCell]) HS.out⟩
set_option maxRecDepth 100000 in
theorem rfuse_any (n : Int) (w : World) (g : Nat) (lab : Nat → Tag) (st : Dk.St) (h : IsRef w g lab st) :
    Calls Try.prog 32 #[.pointer (some ⟨g, 0, none⟩), .int .i64 n] w fun e w' => e = .returned (.int .i64 (st.fuseE n)) ∧ LeftR lab g (st.fuse n) w w' := by
  have HD := Lib.hid (rdown_any w g lab st h)
  have HI := Lib.hid h
  have hself : LeftR lab g st w w := ⟨lab, h, Chg.refl _ _, Lab.refl _ _⟩
  have HSf := Lib.hid hself
  obtain ⟨sb, C, h⟩ := h
  have f1 := h.box.2.2 1
  have f2 := h.box.2.2 2
  have c1 := h.box.at_ 1 rfl
  have c2 := h.box.at_ 2 rfl
  have H := Lib.hid h
  clear h hself
  cases hd : st.down
  · rw [hd] at HD
    by_cases h0 : n < 0
    · have e1 : st.fuseE n = 5 := by unfold Dk.St.fuseE; rw [hd, if_neg (by simp), if_neg (by omega)]
      have e2 : st.fuse n = st := by unfold Dk.St.fuse; rw [e1, if_neg (by omega)]
      rw [e1, e2]
      clear e1 e2 hd
      go_enter Try.func32, Try.ntmps32
      go_wp2_with (refine HD.out.mono ?_; rintro e w' ⟨rfl, rfl⟩)
      go_ret
      exact ⟨rfl, HSf.out⟩
    · by_cases h1 : n ≤ 1048576
      · have e1 : st.fuseE n = 0 := by unfold Dk.St.fuseE; rw [hd, if_neg (by simp), if_pos (by omega)]
        have e2 : st.fuse n = ⟨st.s, st.n, true, n⟩ := by unfold Dk.St.fuse; rw [if_pos e1]
        rw [e1, e2]
        clear e1 e2 hd
        have HS := Lib.hid ((H.out.box.set 1 (.bool true) (by simp)).set 2 (.int .i64 n) (by simp))
        have h1i : ¬ (1048576 : Int) < n := by omega
        go_enter Try.func32, Try.ntmps32
        go_wp2_with (refine HD.out.mono ?_; rintro e w' ⟨rfl, rfl⟩)
        go_ret
        exact ⟨rfl, H.out.boxed ((Ch1.set _ _ _ _).trans (Ch1.set _ _ _ _)) (by simp [World.setCell]) HS.out⟩
      · have e1 : st.fuseE n = 5 := by unfold Dk.St.fuseE; rw [hd, if_neg (by simp), if_neg (by omega)]
        have e2 : st.fuse n = st := by unfold Dk.St.fuse; rw [e1, if_neg (by omega)]
        rw [e1, e2]
        have h1i : (1048576 : Int) < n := by omega
        clear e1 e2 hd h1
        go_enter Try.func32, Try.ntmps32
        go_wp2_with (refine HD.out.mono ?_; rintro e w' ⟨rfl, rfl⟩)
        go_ret
        exact ⟨rfl, HSf.out⟩
  · rw [hd] at HD
    have e1 : st.fuseE n = 30 := by unfold Dk.St.fuseE; rw [hd, if_pos rfl]
    have e2 : st.fuse n = st := by unfold Dk.St.fuse; rw [e1, if_neg (by omega)]
    rw [e1, e2]
    clear e1 e2 hd
    go_enter Try.func32, Try.ntmps32
    go_wp2_with (refine HD.out.mono ?_; rintro e w' ⟨rfl, rfl⟩)
    go_ret
    exact ⟨rfl, HSf.out⟩
/-- What Read of the document's gives. -/
def GivesRRead (st : Dk.St) (at_ : Int) (w : World) (e : Ending) (w' : World) : Prop :=
  ∃ (A : Option Addr) (n c : Nat), e = .returned (.tuple #[.slice A n c, .int .i64 (st.ready at_)]) ∧ Rd w' A n (st.readB at_) ∧ Below w.heap.size w w'
theorem LeafR.append {w w1 : World} {A1 : Option Addr} {cap1 : Nat} {b : List Nat} (hg : Grew (w.alloc (.cells #[] 5)) w1 w.heap.size (some ⟨w.heap.size, 0, none⟩) A1 0 0 (0 + 128) cap1 ([] ++ b)) : Below w.heap.size w w1 ∧ Own w1 w.heap.size A1 128 cap1 b := Grew.fresh hg
set_option maxRecDepth 100000 in
set_option maxHeartbeats 4000000 in
theorem rread_any (at_ : Int) (w : World) (g : Nat) (lab : Nat → Tag) (st : Dk.St) (h : IsRef w g lab st) : Calls Try.prog 42 #[.pointer (some ⟨g, 0, none⟩), .int .i64 at_] w (GivesRRead st at_ w) := by
  have HD := Lib.hid (rdown_any w g lab st h)
  have HH := Lib.hid (rhas_any at_ w g lab st h)
  cases hd : st.down
  · rw [hd] at HD
    cases hh : st.has at_
    · have hr : st.ready at_ = 5 := by unfold Dk.St.ready; rw [hd, hh]; rfl
      have hb : st.readB at_ = [] := by unfold Dk.St.readB; rw [hr]; rfl
      rw [hh] at HH
      unfold GivesRRead
      rw [hr, hb]
      clear hr hb hh hd h
      go_enter Try.func42, Try.ntmps42
      go_wp2_with (first | (go_at_call 63; refine HD.out.mono ?_; rintro e w' ⟨rfl, rfl⟩) | (go_at_call 64; refine HH.out.mono ?_; rintro e w' ⟨rfl, rfl⟩))
      go_ret2
      exact ⟨none, 0, 0, rfl, Rd.nil _ _, Below.refl _ _⟩
    · have hr : st.ready at_ = 0 := by unfold Dk.St.ready; rw [hd, hh]; rfl
      rw [hh] at HH
      obtain ⟨i, s, rfl, hs, _, hB⟩ := ready_in hr
      unfold GivesRRead
      rw [hr, hB]
      have hsl := fine_now (Exists.elim h fun _ h => Exists.elim h fun _ h => h.fine) hs
      obtain ⟨sb, C, h⟩ := h
      have hN := h.fine.2.2
      have hil := (List.getElem?_eq_some_iff.1 hs).1
      have hii : (i : Int) < (st.s.length : Int) := by omega
      have c0 := h.box.at_ 0 rfl
      obtain ⟨c, hc, k0, k1, hsec⟩ := h.at_ hs
      clear hr hB hh hd h hc
      obtain ⟨h2000, A, cp, vs, el, hrd, hlf, hlv⟩ := hsec.l
      obtain ⟨q, cq, ef, hfr, _⟩ := hsec.f
      rw [el] at k1
      rw [ef] at k0
      by_cases hl : s.l = []
      · have hnow : s.now = s.f := by unfold Dk.Sec.now; rw [hl]; rfl
        rw [hl] at k1
        rw [hnow]
        have HF := Lib.hid hfr
        clear hrd hlf hlv hsec el ef hnow hfr hsl hl hs h2000
        go_enter Try.func42, Try.ntmps42
        have HBx := Lib.hid (Holds.new w #[.slice (some ⟨q, 0, none⟩) 128 cq, .slice A 0 cp] 113)
        have HB1 := Lib.hid ((Below.refl w.heap.size w).alloc (Nat.le_refl _) (.cells #[.slice (some ⟨q, 0, none⟩) 128 cq, .slice A 0 cp] 113))
        have HF1 := Lib.hid (HF.out.below HB1.out)
        have x1 := HBx.out.at_ 1 rfl
        have x0 := HBx.out.at_ 0 rfl
        go_upto_region 10 with (first | (go_at_call 63; refine HD.out.mono ?_; rintro e w' ⟨rfl, rfl⟩) | (go_at_call 64; refine HH.out.mono ?_; rintro e w' ⟨rfl, rfl⟩))
        generalize (w.alloc (.cells #[.slice (some ⟨q, 0, none⟩) 128 cq, .slice A 0 cp] 113)) = w1 at *
        have hlt := HBx.out.1
        go_wp2_with (refine wpList_appB rfl (.tmp 39) (.tmp 41) rfl rfl (Own.empty w1) (some ⟨q, 0, none⟩) 128 cq s.f rfl (HF1.out.alloc _) (by omega) (by simp) ?_; intro A1 c1 w2 hg; obtain ⟨hb2, ho2⟩ := hg.fresh; have HO := Lib.hid ho2; have HB2 := Lib.hid (HB1.out.trans (hb2.mono HB1.out.size)); clear hg hb2 ho2)
        go_ret2
        exact ⟨A1, 128, c1, rfl, HO.out.rd, HB2.out⟩
      · obtain ⟨k, hk⟩ : ∃ k, s.l.length = k + 1 := ⟨s.l.length - 1, by have := List.length_pos_iff.2 hl; omega⟩
        obtain ⟨b, hb⟩ : ∃ b, s.l[k]? = some b := ⟨_, List.getElem?_eq_getElem (by omega)⟩
        have hnow : s.now = b := last_of hk hb
        obtain ⟨g2, o2, v, rfl, hg2, hv, hcell⟩ := hrd.at_ (k := k) (by omega)
        obtain ⟨q2, cq2, rfl, hb2, _⟩ := hlv k v b hv hb
        rw [hnow]
        have HF := Lib.hid hb2
        rw [hk] at k1
        have hk2 : k ≤ 2000 := by omega
        clear hrd hlf hlv hsec el ef hnow hfr hsl hl hs hk hb hv h2000
        go_enter Try.func42, Try.ntmps42
        have hki : (k : Int) ≤ 2000 := by omega
        have HBx := Lib.hid (Holds.new w #[.slice (some ⟨q, 0, none⟩) 128 cq, .slice (some ⟨g2, o2, none⟩) (k + 1) cp] 113)
        have HB1 := Lib.hid ((Below.refl w.heap.size w).alloc (Nat.le_refl _) (.cells #[.slice (some ⟨q, 0, none⟩) 128 cq, .slice (some ⟨g2, o2, none⟩) (k + 1) cp] 113))
        have HF1 := Lib.hid (HF.out.below HB1.out)
        have x1 := HBx.out.at_ 1 rfl
        have hcell1 := (HB1.out.cell (p := ⟨g2, o2 + k, none⟩) hg2).trans hcell
        go_upto_region 9 with (first | (go_at_call 63; refine HD.out.mono ?_; rintro e w' ⟨rfl, rfl⟩) | (go_at_call 64; refine HH.out.mono ?_; rintro e w' ⟨rfl, rfl⟩))
        generalize (w.alloc (.cells #[.slice (some ⟨q, 0, none⟩) 128 cq, .slice (some ⟨g2, o2, none⟩) (k + 1) cp] 113)) = w1 at *
        have hlt := HBx.out.1
        have hg3 : g2 < w1.heap.size := Nat.lt_of_lt_of_le hg2 HB1.out.size
        go_wp2_with (refine wpList_appB rfl (.tmp 29) (.tmp 37) rfl rfl (Own.empty w1) (some ⟨q2, 0, none⟩) 128 cq2 b rfl (HF1.out.alloc _) (by omega) (by simp) ?_; intro A1 c1 w2 hg; obtain ⟨hb2, ho2⟩ := hg.fresh; have HO := Lib.hid ho2; have HB2 := Lib.hid (HB1.out.trans (hb2.mono HB1.out.size)); clear hg hb2 ho2)
        go_ret2
        exact ⟨A1, 128, c1, rfl, HO.out.rd, HB2.out⟩
  · rw [hd] at HD
    have hr : st.ready at_ = 30 := by unfold Dk.St.ready; rw [hd]; rfl
    have hb : st.readB at_ = [] := by unfold Dk.St.readB; rw [hr]; rfl
    unfold GivesRRead
    rw [hr, hb]
    clear hr hb hd h
    go_enter Try.func42, Try.ntmps42
    go_wp2_with (first | (go_at_call 63; refine HD.out.mono ?_; rintro e w' ⟨rfl, rfl⟩) | (go_at_call 64; refine HH.out.mono ?_; rintro e w' ⟨rfl, rfl⟩))
    go_ret2
    exact ⟨none, 0, 0, rfl, Rd.nil _ _, Below.refl _ _⟩
end
end Go.Proofs.Ytbdomhookjmmgaa
namespace Go.Proofs.Ytbdomhookjmmgaa
open Go.RowKit
set_option linter.unusedVariables false
theorem fine_upd {st : Dk.St} (h : st.fine) {i : Nat} {s : Dk.Sec} {G : Dk.Sec → Dk.Sec} (hs : st.s[i]? = some s) (h1 : (G s).f.length = 128 ∧ ∀ x ∈ (G s).f, x < 256) (h2 : ∀ b ∈ (G s).l, b.length = 128 ∧ ∀ x ∈ b, x < 256) : Dk.St.fine ⟨Dk.upd st.s i G, st.n, st.fused, st.left⟩ := by
  refine ⟨fun t ht => ?_, by show 1 ≤ (Dk.upd st.s i G).length; rw [upd_len]; exact h.2.1, by show (Dk.upd st.s i G).length ≤ 4096; rw [upd_len]; exact h.2.2⟩
  obtain ⟨j, hj⟩ := List.getElem?_of_mem ht
  have hj' : (Dk.upd st.s i G)[j]? = some t := hj
  by_cases e : j = i
  · subst e
    rw [upd_at hs] at hj'
    injection hj' with hj'
    subst hj'
    exact ⟨h1.1, h1.2, h2⟩
  · rw [upd_other e] at hj'
    exact h.1 t (List.mem_of_getElem? hj')
set_option maxRecDepth 100000 in
set_option maxHeartbeats 4000000 in
theorem rrot_any (at_ place : Int) (m : Nat) (hm : m < 256) (w : World) (g : Nat) (lab : Nat → Tag) (st : Dk.St) (h : IsRef w g lab st) :
    Calls Try.prog 30 #[.pointer (some ⟨g, 0, none⟩), .int .i64 at_, .int .i64 place, .int .u8 (m : Int)] w fun e w' => e = .returned (.int .i64 (st.rotE at_ place)) ∧ LeftR lab g (st.rot at_ place m) w w' := by
  have HH := Lib.hid (rhas_any at_ w g lab st h)
  have HSf := Lib.hid (show LeftR lab g st w w from ⟨lab, h, Chg.refl _ _, Lab.refl _ _⟩)
  cases hh : st.has at_
  · have e1 : st.rotE at_ place = 5 := by unfold Dk.St.rotE; rw [if_neg (by rw [hh]; simp)]
    have e2 : st.rot at_ place m = st := by unfold Dk.St.rot; rw [if_neg (by rw [e1]; omega)]
    rw [e1, e2]
    rw [hh] at HH
    clear e1 e2 hh h
    go_enter Try.func30, Try.ntmps30
    go_wp2_with (refine HH.out.mono ?_; rintro e w' ⟨rfl, rfl⟩)
    go_ret
    exact ⟨rfl, HSf.out⟩
  · rw [hh] at HH
    by_cases hp : 0 ≤ place ∧ place < 128
    · have e1 : st.rotE at_ place = 0 := by unfold Dk.St.rotE; rw [if_pos ⟨hh, hp⟩]
      have e2 : st.rot at_ place m = ⟨Dk.upd st.s at_.toNat (fun s => ⟨Dk.turn s.f place.toNat m, s.l⟩), st.n, st.fused, st.left⟩ := by unfold Dk.St.rot; rw [if_pos e1]
      rw [e1, e2]
      obtain ⟨hp0, hp1⟩ := hp
      obtain ⟨p, rfl⟩ : ∃ p : Nat, place = (p : Int) := ⟨place.toNat, by omega⟩
      have hp2 : p < 128 := by omega
      have hr : st.ready at_ = 0 ∨ True := .inr trivial
      obtain ⟨i, hi, rfl⟩ : ∃ i : Nat, i < st.s.length ∧ at_ = (i : Int) := by
        unfold Dk.St.has at hh
        rw [Bool.and_eq_true, decide_eq_true_eq, decide_eq_true_eq] at hh
        exact ⟨at_.toNat, by omega, by omega⟩
      rw [Int.toNat_natCast, Int.toNat_natCast]
      obtain ⟨s, hs⟩ : ∃ s, st.s[i]? = some s := ⟨_, List.getElem?_eq_getElem hi⟩
      obtain ⟨sb, C, h⟩ := h
      have H := Lib.hid h
      have hii : (i : Int) < (st.s.length : Int) := by omega
      have hiz : (i : Int) ≤ 4096 := by have := h.fine.2.2; omega
      have c0 := h.box.at_ 0 rfl
      have hgl := h.box.1
      have hsl := h.row.1
      obtain ⟨c, hc, k0, k1, hsec⟩ := h.at_ hs
      obtain ⟨q, cq, ef, hfr, _⟩ := hsec.f
      have HSec := Lib.hid hsec
      have HS := Lib.hid hs
      have HC := Lib.hid hc
      rw [ef] at k0
      obtain ⟨x, hx, hx256⟩ := byte_at hfr hp2
      have HX := Lib.hid hx
      have HF := Lib.hid hfr
      have frz := h.row.2.2 (i * 2)
      have hxm : bits .xor .u8 (x : Int) (m : Int) = ((x ^^^ m : Nat) : Int) := u8_xor_nat x m hx256 hm
      have hlt : x ^^^ m < 256 := Nat.xor_lt_two_pow (n := 8) hx256 hm
      have HLt := Lib.hid hlt
      clear hr hh h e1 e2 hsec hfr hx hs hc k1 hlt hi ef
      go_enter Try.func30, Try.ntmps30
      go_upto_region 5 with (refine HH.out.mono ?_; rintro e w' ⟨rfl, rfl⟩)
      have HRl := Lib.hid (HF.out.alloc (.cells #[] 5))
      go_wp2_with (refine wpList_appB rfl (.tmp 26) (.tmp 34) rfl rfl (Own.empty w) (some ⟨q, 0, none⟩) 128 cq s.f rfl HRl.out (by omega) (by simp) ?_; intro A1 c1 w2 hg; obtain ⟨hb2, ho2⟩ := hg.fresh; obtain ⟨g1, rfl, hg1, hg2⟩ := ho2.form (by omega); have HO := Lib.hid ho2; have HB2 := Lib.hid hb2; have x2 := ho2.cell HX.out; have f2 := ho2.free p; have c02 := (hb2.cell (p := ⟨g, 0, none⟩) hgl).trans c0; have k02 := (hb2.cell (p := ⟨sb, i * 2, none⟩) hsl).trans k0; have frz2 := (hb2.frozen (p := ⟨sb, i * 2, none⟩) hsl).trans frz; have hn1 : g ≠ g1 := (fun e => by subst e; omega); have hn2 : sb ≠ g1 := (fun e => by subst e; omega); clear hg hb2 ho2)
      have hown := (HO.out.set p (x ^^^ m) HLt.out)
      have hb3 : Below w.heap.size w (w2.setCell ⟨g1, p, none⟩ (.int .u8 ((x ^^^ m : Nat) : Int))) := HB2.out.setCell hg1 _
      have hg2' : g1 < (w2.setCell ⟨g1, p, none⟩ (.int .u8 ((x ^^^ m : Nat) : Int))).heap.size := by simpa [World.setCell] using hg2
      go_ret
      refine ⟨rfl, H.out.upd (c' := ⟨.slice (some ⟨g1, 0, none⟩) 128 c1, c.l⟩) hb3 (Ch1.set _ _ _ _) HS.out ?_ ⟨⟨g1, c1, rfl, ?_, labN_new hg1 hg2'⟩, ?_⟩ (by simp [World.setCell]) (fine_upd H.out.fine HS.out ?_ ?_)⟩
      · have := (H.out.row.below hb3).set (i * 2) (.slice (some ⟨g1, 0, none⟩) 128 c1) (by rw [flatR_length]; have := (List.getElem?_eq_some_iff.1 HC.out).1; omega)
        rw [flatR_set_f _ HC.out]
        exact this
      · rw [turn_set HX.out]
        exact hown.rd
      · exact (HSec.out.l.leaves hb3.size fun k hk => hb3.block k (H.out.old k (by rw [hk]; simp))).relab (labN_keep H.out.old)
      · rw [turn_set HX.out]
        obtain ⟨a1, a2, _⟩ := H.out.fine.1 s (List.mem_of_getElem? HS.out)
        refine ⟨by rw [List.length_set]; exact a1, fun y hy => ?_⟩
        rcases List.mem_or_eq_of_mem_set hy with h1 | h1
        · exact a2 y h1
        · rw [h1]; exact HLt.out
      · exact (H.out.fine.1 s (List.mem_of_getElem? HS.out)).2.2
    · have e1 : st.rotE at_ place = 5 := by unfold Dk.St.rotE; rw [if_neg (fun k => hp ⟨k.2.1, k.2.2⟩)]
      have e2 : st.rot at_ place m = st := by unfold Dk.St.rot; rw [if_neg (by rw [e1]; omega)]
      rw [e1, e2]
      clear e1 e2 hh h
      by_cases h0 : place < 0
      · go_enter Try.func30, Try.ntmps30
        go_wp2_with (refine HH.out.mono ?_; rintro e w' ⟨rfl, rfl⟩)
        go_ret
        exact ⟨rfl, HSf.out⟩
      · have h1 : (128 : Int) ≤ place := by omega
        clear hp
        go_enter Try.func30, Try.ntmps30
        go_wp2_with (refine HH.out.mono ?_; rintro e w' ⟨rfl, rfl⟩)
        go_ret
        exact ⟨rfl, HSf.out⟩
end Go.Proofs.Ytbdomhookjmmgaa
namespace Go.Proofs.Ytbdomhookjmmgaa
open Go.RowKit
set_option linter.unusedVariables false
def nilV : Value := .slice none 0 0
theorem made_nil (k : Nat) : (madeCells #[nilV, nilV] (k * 2)).toList = flatR (List.replicate k ⟨nilV, nilV⟩) := by
  have h1 : flatR (List.replicate k ⟨nilV, nilV⟩) = List.replicate (k * 2) nilV := by
    induction k with
    | zero => rfl
    | succ k ih =>
      rw [List.replicate_succ]
      show nilV :: nilV :: flatR (List.replicate k ⟨nilV, nilV⟩) = _
      rw [ih, show (k + 1) * 2 = k * 2 + 1 + 1 by omega, List.replicate_succ, List.replicate_succ]
  rw [h1]
  apply List.ext_getElem?
  intro i
  rw [List.getElem?_replicate]
  unfold madeCells
  rw [Array.toList_map, List.getElem?_map, Array.toList_range]
  by_cases hi : i < k * 2
  · rw [if_pos hi, List.getElem?_range hi]
    have h2 : i % 2 = 0 ∨ i % 2 = 1 := by omega
    show some (#[nilV, nilV][i % 2]!) = some nilV
    rcases h2 with h2 | h2 <;> rw [h2] <;> rfl
  · rw [if_neg hi, List.getElem?_eq_none (by simpa using Nat.le_of_not_lt hi)]
    rfl
set_option maxRecDepth 100000 in
theorem info_one : (Try.prog.info? 113).map (fun i => (i.zero, i.size, i.bytes)) = some (some (.agg #[.slice none 0 0, .slice none 0 0]), 2, 48) := by kernel_rfl
set_option maxRecDepth 100000 in
theorem make_ones (n : Nat) (hn : n ≤ 4096) (w : World) : (Instr.makeSlice 108 (.int .i64 (n : Int)) (.int .i64 (n : Int))).run Try.prog w = .ok (.slice (some ⟨w.heap.size, 0, none⟩) n n) (w.alloc (.cells (madeCells #[nilV, nilV] (n * 2)) 113)) := by
  obtain ⟨i0, hi, hz0, hz1, hz2⟩ := info_parts info_one
  have hb : (i0.bytes : Int) * n ≤ 281474976710656 := by rw [hz2]; omega
  have hr := run_make (P := Try.prog) w 108 113 i0 _ Try.underlying108 hi hz0 .i64 .i64 n n (by omega) (by omega) hb (by omega)
  rw [hz1] at hr
  rw [Int.toNat_natCast] at hr
  exact hr
/-- Zeros in a block of the call's own. -/
def Nw (w wr : World) (k : Nat) (C : List Ce) : Prop := ∀ (j : Nat) (c : Ce), C[j]? = some c → c.l = nilV ∧ (j < k → ∃ q, c.f = .slice (some ⟨q, 0, none⟩) 128 128 ∧ w.heap.size + 2 ≤ q ∧ Buf wr q Dk.zeros)
def labW2 (w w' : World) : Nat → Tag := fun k => if k = w.heap.size then .buf else if k = w.heap.size + 1 then .box else if w.heap.size ≤ k ∧ k < w'.heap.size then .leaf else .no
theorem ref_new {w wr : World} {k : Nat} {C : List Ce} (hk1 : 1 ≤ k) (hk2 : k ≤ 4096) (hbox : Holds wr (w.heap.size + 1) [.slice (some ⟨w.heap.size, 0, none⟩) k k, .bool false, .int .i64 0, .int .i64 0]) (hrow : Holds wr w.heap.size (flatR C)) (hlen : C.length = k) (hn : Nw w wr k C) :
    IsRef wr (w.heap.size + 1) (labW2 w wr) (Dk.St.new k) := by
  have hsl : (Dk.St.new k).s.length = k := by unfold Dk.St.new; simp
  refine ⟨w.heap.size, C, ⟨by rw [hsl]; exact hbox, hrow, hlen.trans hsl.symm, fun i c s h1 h2 => ?_, ⟨by unfold labW2; rw [if_neg (by omega), if_pos rfl], by unfold labW2; rw [if_pos rfl]⟩, fun j hj => ?_, ⟨fun s hs => ?_, by rw [hsl]; exact hk1, by rw [hsl]; exact hk2⟩⟩⟩
  · have hs : s = ⟨Dk.zeros, []⟩ := List.eq_of_mem_replicate (List.mem_of_getElem? (show (List.replicate k (⟨Dk.zeros, []⟩ : Dk.Sec))[i]? = some s from h2))
    subst hs
    have hi : i < k := by have := (List.getElem?_eq_some_iff.1 h1).1; omega
    obtain ⟨e1, e2⟩ := hn i c h1
    obtain ⟨q, e3, h4, h5⟩ := e2 hi
    have hr := h5.all
    rw [show Dk.zeros.length = 128 from by unfold Dk.zeros; simp] at hr
    have hq := h5.lt
    exact ⟨⟨q, 128, e3, hr, by unfold labW2; rw [if_neg (by omega), if_neg (by omega), if_pos ⟨by omega, hq⟩]⟩, by simp, none, 0, [], e1, RdV.nil _ _, by simp, by simp⟩
  · unfold labW2 at hj
    split at hj
    · rename_i e; subst e; exact hrow.1
    · split at hj
      · rename_i e; subst e; exact hbox.1
      · split at hj
        · rename_i e; exact e.2
        · exact absurd rfl hj
  · have hs : s = ⟨Dk.zeros, []⟩ := List.eq_of_mem_replicate hs
    subst hs
    exact ⟨by unfold Dk.zeros; simp, fun x hx => by rw [List.eq_of_mem_replicate hx]; omega, by simp⟩
theorem labW2_new {w w' : World} {k : Nat} (h : labW2 w w' k ≠ .no) : w.heap.size ≤ k := by
  unfold labW2 at h
  split at h
  · omega
  · split at h
    · omega
    · split at h
      · omega
      · exact absurd rfl h
def GivesRNew (n : Int) (w : World) (e : Ending) (w' : World) : Prop :=
  (1 ≤ n ∧ n ≤ 4096 ∧ ∃ g lab, e = .returned (.tuple #[.pointer (some ⟨g, 0, none⟩), .int .i64 0]) ∧ IsRef w' g lab (Dk.St.new n.toNat) ∧ Below w.heap.size w w' ∧ (∀ k, lab k ≠ .no → w.heap.size ≤ k)) ∨
  (¬ (1 ≤ n ∧ n ≤ 4096) ∧ e = .returned (.tuple #[.pointer none, .int .i64 1]) ∧ w = w')
set_option maxRecDepth 100000 in
set_option maxHeartbeats 4000000 in
theorem rnew_any (n : Int) (w : World) : Calls Try.prog 19 #[.int .i64 n] w (GivesRNew n w) := by
  by_cases hn : 1 ≤ n ∧ n ≤ 4096
  · obtain ⟨k, rfl⟩ : ∃ k : Nat, n = (k : Int) := ⟨n.toNat, by omega⟩
    have q1 : ¬ (k : Int) < 1 := by omega
    have q2 : ¬ (4096 : Int) < (k : Int) := by omega
    have HN := Lib.hid hn
    have hmk := make_ones k (by omega) w
    have hrow := Holds.new w (madeCells #[nilV, nilV] (k * 2)) 113
    rw [made_nil] at hrow
    have hb1 := (Below.refl w.heap.size w).alloc (Nat.le_refl _) (.cells (madeCells #[nilV, nilV] (k * 2)) 113)
    have hs1 : (w.alloc (.cells (madeCells #[nilV, nilV] (k * 2)) 113)).heap.size = w.heap.size + 1 := by simp
    have Hrow := Lib.hid hrow
    have HB1 := Lib.hid hb1
    have Hs1 := Lib.hid hs1
    clear hrow hb1 hs1 hn
    go_enter Try.func19, Try.ntmps19
    go_upto_region 3 with fail
    generalize (w.alloc (.cells (madeCells #[nilV, nilV] (k * 2)) 113)) = w1 at *
    have hbox := Holds.new w1 #[.slice (some ⟨w.heap.size, 0, none⟩) k k, .bool false, .int .i64 0, .int .i64 0] 110
    rw [Hs1.out] at hbox
    have hb2 := HB1.out.alloc HB1.out.size (.cells #[.slice (some ⟨w.heap.size, 0, none⟩) k k, .bool false, .int .i64 0, .int .i64 0] 110)
    have hrow2 := Hrow.out.alloc (.cells #[.slice (some ⟨w.heap.size, 0, none⟩) k k, .bool false, .int .i64 0, .int .i64 0] 110)
    have hs2 : (w1.alloc (.cells #[.slice (some ⟨w.heap.size, 0, none⟩) k k, .bool false, .int .i64 0, .int .i64 0] 110)).heap.size = w.heap.size + 2 := by simp [Hs1.out]
    have Hbox := Lib.hid hbox
    have HB2 := Lib.hid hb2
    have Hrow2 := Lib.hid hrow2
    have Hs2 := Lib.hid hs2
    clear hbox hb2 hrow2 hs2
    go_upto_region 4 with fail
    clear hmk
    have ebx : (w1.heap.size) = w.heap.size + 1 := Hs1.out
    rw [ebx]
    generalize (w1.alloc (.cells #[.slice (some ⟨w.heap.size, 0, none⟩) k k, .bool false, .int .i64 0, .int .i64 0] 110)) = w2 at *
    clear ebx Hrow HB1 Hs1
    have hmk1 : ∀ w : World, (Instr.makeSlice 28 (.int .i64 128) (.int .i64 128)).run Try.prog w = .ok (.slice (some ⟨w.heap.size, 0, none⟩) 128 128) (w.alloc (.cells (madeCells #[.int .u8 0] 128) 5)) := make_all 128 (by omega)
    go_wp2_with fail
    go_loopw [5] (fun i wr => ∃ (j : Nat) (C : List Ce), j ≤ k ∧ i = .int .i64 (j : Int) ∧ Hid (Holds wr (w.heap.size + 1) [.slice (some ⟨w.heap.size, 0, none⟩) k k, .bool false, .int .i64 0, .int .i64 0]) ∧ Hid (Holds wr w.heap.size (flatR C)) ∧ Hid (C.length = k) ∧ Hid (Nw w wr j C) ∧ Hid (Below w.heap.size w wr) ∧ Hid (w.heap.size + 2 ≤ wr.heap.size)) (fun i _ => k - (intOf i).toNat)
    case atStart => exact ⟨0, _, by omega, rfl, Hbox, Hrow2, Lib.hid (by simp), Lib.hid (fun j c hj => ⟨by rw [List.eq_of_mem_replicate (List.mem_of_getElem? hj)], fun h => absurd h (by omega)⟩), HB2, Lib.hid (by rw [Hs2.out]; omega)⟩
    case round =>
      obtain ⟨j, C, hj, rfl, HX, HR, HC, HW, HB, HZ⟩ := hrel
      by_cases hjk : j < k
      · have hji : (j : Int) < (k : Int) := by omega
        have c0 := HX.out.at_ 0 rfl
        have hwl := HX.out.1
        have frz := HR.out.2.2 (j * 2)
        obtain ⟨c, hc⟩ : ∃ c, C[j]? = some c := ⟨_, List.getElem?_eq_getElem (by rw [HC.out]; exact hjk)⟩
        have k0 := HR.out.at_ _ (flatR_at hc).1
        have Hc := Lib.hid hc
        have hsl := HR.out.1
        clear hc
        go_upto_region 7 with fail
        go_region
        all_goals
          go_wp2_with fail
          go_roundw
          case rel =>
            have hz1 : (wr.setCell ⟨w.heap.size, j * 2, none⟩ (.slice (some ⟨wr.heap.size, 0, none⟩) 128 128)).heap.size = wr.heap.size := by simp [World.setCell]
            have hx1 := (HX.out.other (b := w.heap.size) (i := j * 2) (v := .slice (some ⟨wr.heap.size, 0, none⟩) 128 128) (by omega)).alloc (.cells (madeCells #[.int .u8 0] 128) 5)
            have hr1 := (HR.out.set (j * 2) (.slice (some ⟨wr.heap.size, 0, none⟩) 128 128) (by rw [flatR_length, HC.out]; omega)).alloc (.cells (madeCells #[.int .u8 0] 128) 5)
            rw [← flatR_set_f _ Hc.out] at hr1
            have hb1 := (HB.out.setCell (p := ⟨w.heap.size, j * 2, none⟩) (Nat.le_refl _) (.slice (some ⟨wr.heap.size, 0, none⟩) 128 128)).alloc (by rw [hz1]; omega) (.cells (madeCells #[.int .u8 0] 128) 5)
            have hbz := buf_zeros (wr.setCell ⟨w.heap.size, j * 2, none⟩ (.slice (some ⟨wr.heap.size, 0, none⟩) 128 128)) 128
            rw [hz1] at hbz
            have hz2 := HZ.out
            refine ⟨j + 1, C.set j ⟨.slice (some ⟨wr.heap.size, 0, none⟩) 128 128, c.l⟩, by omega, by go_num, Lib.hid hx1, Lib.hid hr1, Lib.hid (by rw [List.length_set]; exact HC.out), Lib.hid (fun i ci hi => ?_), Lib.hid hb1.drew, Lib.hid (Nat.le_trans hz2 (by have := size_alloc_le (wr.setCell ⟨w.heap.size, j * 2, none⟩ (.slice (some ⟨wr.heap.size, 0, none⟩) 128 128)) (.cells (madeCells #[.int .u8 0] 128) 5); rw [hz1] at this; exact this))⟩
            by_cases e : i = j
            · subst e
              rw [List.getElem?_set_self (by rw [HC.out]; exact hjk)] at hi
              injection hi with hi
              subst hi
              exact ⟨(HW.out i c Hc.out).1, fun _ => ⟨wr.heap.size, rfl, hz2, hbz⟩⟩
            · rw [List.getElem?_set_ne (fun e2 => e e2.symm)] at hi
              obtain ⟨g1, g2⟩ := HW.out i ci hi
              refine ⟨g1, fun hlt => ?_⟩
              obtain ⟨q, e1, e2, e3⟩ := g2 (by omega)
              refine ⟨q, e1, e2, ?_⟩
              have hq := e3.lt
              have h1 : Buf (wr.setCell ⟨w.heap.size, j * 2, none⟩ (.slice (some ⟨wr.heap.size, 0, none⟩) 128 128)) q Dk.zeros := e3.block (Below.heap_setCell _ _ _ _ (by show q ≠ w.heap.size; omega))
              exact h1.below (((Below.refl _ _).alloc (Nat.le_refl _) _).drew)
          case measure => simp [intOf]; omega
      · have hji : ¬ (j : Int) < (k : Int) := by omega
        obtain rfl : j = k := by omega
        go_wp2
        go_ret2
        exact .inl ⟨HN.out.1, HN.out.2, w.heap.size + 1, _, rfl, by rw [Int.toNat_natCast]; exact ref_new (by have := HN.out; omega) (by have := HN.out; omega) HX.out HR.out HC.out HW.out, HB.out, fun x hx => labW2_new hx⟩
  · have HN := Lib.hid hn
    have key : n < 1 ∨ (¬ n < 1 ∧ 4096 < n) := by omega
    clear hn
    rcases key with k1 | ⟨k1, k2⟩
    all_goals
      go_enter Try.func19, Try.ntmps19
      go_wp2
      go_ret2
      exact .inr ⟨HN.out, rfl, rfl⟩
end Go.Proofs.Ytbdomhookjmmgaa
