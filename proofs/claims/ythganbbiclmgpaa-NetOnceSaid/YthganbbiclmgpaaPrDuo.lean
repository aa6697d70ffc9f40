/- The program's peer and the document's, side by side. -/
import Derived.Test.YthganbbiclmgpaaPrRTr
namespace Go.Proofs.Ythganbbiclmgpaa
open Go.RowKit
/-- Both, in one world: the program's books, the document's box and rows elsewhere. -/
structure Duo (w0 wr : World) (g b1 b2 b3 r : Nat) (who : Int) (S O G : List Pr.Mg) (v1 v2 : Value) (A : Option Addr) (l : List Pr.Out) (B : Option Addr) (K : List Pr.Mg) : Prop where
  peer : Peer wr g b1 b2 b3 who S O G
  box : Holds wr r [.int .i64 who, v1, v2]
  out : RdO wr A l.length l
  got : RdP wr B K.length K
  sepA : ∀ b o, A = some ⟨b, o, none⟩ → b ≠ b1 ∧ b ≠ b2 ∧ b ≠ b3 ∧ b ≠ r
  sepB : ∀ b o, B = some ⟨b, o, none⟩ → b ≠ b1 ∧ b ≠ b2 ∧ b ≠ b3 ∧ b ≠ r
  far : r ≠ b1 ∧ r ≠ b2 ∧ r ≠ b3 ∧ r ≠ g
  low : w0.heap.size ≤ g ∧ w0.heap.size ≤ b1 ∧ w0.heap.size ≤ b2 ∧ w0.heap.size ≤ b3 ∧ w0.heap.size ≤ r
  bel : Below w0.heap.size w0 wr
section
variable {w0 wr w' : World} {g b1 b2 b3 r : Nat} {who : Int} {S O G S' O' G' : List Pr.Mg} {v1 v2 v1' v2' : Value} {A A' : Option Addr} {l l' : List Pr.Out} {B B' : Option Addr} {K K' : List Pr.Mg}
theorem Duo.below (h : Duo w0 wr g b1 b2 b3 r who S O G v1 v2 A l B K) (hb : Below wr.heap.size wr w') : Duo w0 w' g b1 b2 b3 r who S O G v1 v2 A l B K :=
  ⟨h.peer.below hb, h.box.below hb, h.out.below hb, h.got.below hb, h.sepA, h.sepB, h.far, h.low, below_next h.bel hb⟩
theorem Duo.change (h : Duo w0 wr g b1 b2 b3 r who S O G v1 v2 A l B K) (hp : Peer w' g b1 b2 b3 who S' O' G') (hc : PCh b1 b2 b3 wr w') : Duo w0 w' g b1 b2 b3 r who S' O' G' v1 v2 A l B K :=
  ⟨hp, hc.holds h.box h.far.1 h.far.2.1 h.far.2.2.1, ⟨h.out.1, hc.row h.out.2 (fun b o e => ⟨(h.sepA b o e).1, (h.sepA b o e).2.1, (h.sepA b o e).2.2.1⟩)⟩, ⟨h.got.1, hc.row h.got.2 (fun b o e => ⟨(h.sepB b o e).1, (h.sepB b o e).2.1, (h.sepB b o e).2.2.1⟩)⟩, h.sepA, h.sepB, h.far, h.low,
    hc.low h.bel h.low.2.1 h.low.2.2.1 h.low.2.2.2.1 h.bel.size⟩
theorem Duo.newOut (h : Duo w0 wr g b1 b2 b3 r who S O G v1 v2 A l B K) (hb : Below wr.heap.size wr w') {n c : Nat} (hf : FreshO wr A' n c l' w') : Duo w0 w' g b1 b2 b3 r who S O G v1 v2 A' l' B K := by
  have h2 := h.below hb
  obtain ⟨rfl, h3, _, h4⟩ := hf
  have z1 := h.peer.sent.lt
  have z2 := h.peer.open_.lt
  have z3 := h.peer.got.lt
  have z4 := h.box.1
  exact ⟨h2.peer, h2.box, h3, h2.got, fun b o e => by have := h4 b o e; omega, h2.sepB, h2.far, h2.low, h2.bel⟩
theorem Duo.newGot (h : Duo w0 wr g b1 b2 b3 r who S O G v1 v2 A l B K) (hb : Below wr.heap.size wr w') (hr : RdP w' B' K'.length K') (hf : B' = B ∨ ∀ b o, B' = some ⟨b, o, none⟩ → wr.heap.size ≤ b) : Duo w0 w' g b1 b2 b3 r who S O G v1 v2 A l B' K' := by
  have h2 := h.below hb
  have z1 := h.peer.sent.lt
  have z2 := h.peer.open_.lt
  have z3 := h.peer.got.lt
  have z4 := h.box.1
  refine ⟨h2.peer, h2.box, h2.out, hr, h2.sepA, fun b o e => ?_, h2.far, h2.low, h2.bel⟩
  rcases hf with rfl | hf
  · exact h.sepB b o e
  · have := hf b o e; omega
theorem Peer.store (h : Peer wr g b1 b2 b3 who S O G) (i : Nat) (v : Value) (h1 : r ≠ b1) (h2 : r ≠ b2) (h3 : r ≠ b3) (h4 : r ≠ g) : Peer (wr.setCell ⟨r, i, none⟩ v) g b1 b2 b3 who S O G :=
  ⟨h.box.other (Ne.symm h4), h.sent.block (Below.heap_setCell _ _ _ _ (fun e => h1 e.symm)), h.open_.block (Below.heap_setCell _ _ _ _ (fun e => h2 e.symm)), h.got.block (Below.heap_setCell _ _ _ _ (fun e => h3 e.symm)), h.far⟩
theorem RdC.store {s n : Nat} {vs : List Value} (h : RdC s wr A n vs) (r i : Nat) (v : Value) (hne : ∀ b o, A = some ⟨b, o, none⟩ → b ≠ r) : RdC s (wr.setCell ⟨r, i, none⟩ v) A n vs := by
  refine ⟨h.1, fun hn => ?_⟩
  obtain ⟨b, o, e, hb, hc⟩ := h.2 hn
  refine ⟨b, o, e, by simpa [World.setCell] using hb, fun j y hy => ?_⟩
  have hne' := hne b o e
  rw [World.cell?_setCell_far _ _ _ _ (fun e2 => hne' e2.symm)]
  exact hc j y hy
/-- The document's box is written. -/
theorem Duo.store (h : Duo w0 wr g b1 b2 b3 r who S O G v1 v2 A l B K) (v1' v2' : Value) : Duo w0 (((wr.setCell ⟨r, 0, none⟩ (.int .i64 who)).setCell ⟨r, 1, none⟩ v1').setCell ⟨r, 2, none⟩ v2') g b1 b2 b3 r who S O G v1' v2' A l B K := by
  have hb := h.box.set3 (.int .i64 who) v1' v2'
  have f := h.far
  refine ⟨((h.peer.store 0 _ f.1 f.2.1 f.2.2.1 f.2.2.2).store 1 _ f.1 f.2.1 f.2.2.1 f.2.2.2).store 2 _ f.1 f.2.1 f.2.2.1 f.2.2.2, hb, ⟨h.out.1, ?_⟩, ⟨h.got.1, ?_⟩, h.sepA, h.sepB, h.far, h.low, below_set3 h.bel _ _ _ _ h.low.2.2.2.2⟩
  · have e := fun b o e => (h.sepA b o e).2.2.2
    exact ((h.out.2.store r 0 _ e).store r 1 _ e).store r 2 _ e
  · have e := fun b o e => (h.sepB b o e).2.2.2
    exact ((h.got.2.store r 0 _ e).store r 1 _ e).store r 2 _ e
theorem Duo.start {w0 w2 : World} {c1 c2 c3 : Value} (hp : Peer w2 g b1 b2 b3 who [] [] []) (hb : Below w0.heap.size w0 w2) (hl : w0.heap.size ≤ g ∧ w0.heap.size ≤ b1 ∧ w0.heap.size ≤ b2 ∧ w0.heap.size ≤ b3) (T : TypeId) (e1 : c1 = .int .i64 who) :
    Duo w0 (w2.alloc (.cells #[c1, c2, c3] T)) g b1 b2 b3 w2.heap.size who [] [] [] c2 c3 none [] none [] := by
  subst e1
  have z0 := hp.box.1
  have z1 := hp.sent.lt
  have z2 := hp.open_.lt
  have z3 := hp.got.lt
  have ha : Below w2.heap.size w2 (w2.alloc (.cells #[.int .i64 who, c2, c3] T)) := (Below.refl _ _).alloc (Nat.le_refl _) _
  exact ⟨hp.below ha, Holds.new w2 #[.int .i64 who, c2, c3] T, RdO.nil _ _, RdP.nil _ _, (fun _ _ e => by cases e), (fun _ _ e => by cases e), by omega, ⟨hl.1, hl.2.1, hl.2.2.1, hl.2.2.2, hb.size⟩, below_next hb ha⟩
end
namespace Pr
/-- Which lists belong together: numbers as places, and what came rises. -/
structure Lst (who : Int) (l : List Out) (K : List Mg) (n : Nat) : Prop where
  num : ∀ (i : Nat) (x : Out), l[i]? = some x → x.m.q = (i : Int)
  ris : Ris K
  q64 : ∀ m ∈ K, Q64 m.q
  few : l.length ≤ n
  few2 : K.length ≤ n
theorem Lst.none (who : Int) : Lst who [] [] 0 := ⟨fun i x h => by simp at h, List.Pairwise.nil, fun m h => by simp at h, Nat.le_refl _, Nat.le_refl _⟩
theorem Lst.more {who : Int} {l : List Out} {K : List Mg} {n : Nat} (h : Lst who l K n) : Lst who l K (n + 1) := ⟨h.num, h.ris, h.q64, Nat.le_succ_of_le h.few, Nat.le_succ_of_le h.few2⟩
theorem sent_at {l : List Out} {i : Nat} {m : Mg} (h : (sentL l)[i]? = some m) : ∃ x, l[i]? = some x ∧ x.m = m := by
  unfold sentL at h
  rw [List.getElem?_map] at h
  obtain ⟨x, h1, h2⟩ := Option.map_eq_some_iff.1 h
  exact ⟨x, h1, h2⟩
theorem ris_num {l : List Out} (h : ∀ (i : Nat) (x : Out), l[i]? = some x → x.m.q = (i : Int)) : Ris (sentL l) := by
  rw [Ris, List.pairwise_iff_getElem]
  intro i j hi hj hij
  have a := List.getElem?_eq_getElem hi
  have b := List.getElem?_eq_getElem hj
  obtain ⟨x, hx, ex⟩ := sent_at a
  obtain ⟨y, hy, ey⟩ := sent_at b
  rw [← ex, ← ey, h i x hx, h j y hy]
  omega
theorem open_sub (l : List Out) : (openL l).Sublist (sentL l) := List.Sublist.map _ List.filter_sublist
theorem mem_sent {l : List Out} (h : ∀ (i : Nat) (x : Out), l[i]? = some x → x.m.q = (i : Int)) {m : Mg} (hm : m ∈ sentL l) : 0 ≤ m.q ∧ m.q < l.length := by
  obtain ⟨i, hi⟩ := List.getElem?_of_mem hm
  obtain ⟨x, hx, rfl⟩ := sent_at hi
  have := (List.getElem?_eq_some_iff.1 hx).1
  rw [h i x hx]
  omega
theorem sent_len (l : List Out) : (sentL l).length = l.length := by simp [sentL]
theorem Lst.small {who : Int} {l : List Out} {K : List Mg} {n : Nat} (h : Lst who l K n) (hn : n ≤ 1000) : Small (sentL l) (openL l) K := by
  have hf := h.few
  have hf2 := h.few2
  have ho := open_le l
  have hq : ∀ m ∈ sentL l, Q64 m.q := fun m hm => by
    have := mem_sent h.num hm
    constructor <;> omega
  exact ⟨ris_num h.num, (ris_num h.num).sublist (open_sub l), h.ris, hq, fun m hm => hq m ((open_sub l).subset hm), h.q64, by rw [sent_len]; omega, by omega, by omega⟩
theorem hasq_none {L : List Mg} {q : Int} (h : ∀ m ∈ L, m.q ≠ q) : hasq L q = false := by
  rw [Bool.eq_false_iff]
  intro e
  obtain ⟨x, hx, e2⟩ := hasq_yes.1 e
  exact h x hx e2
theorem Lst.no_sent {who : Int} {l : List Out} {K : List Mg} {n : Nat} (h : Lst who l K n) : hasq (sentL l) ((sentL l).length : Int) = false ∧ hasq (openL l) ((sentL l).length : Int) = false := by
  rw [sent_len]
  exact ⟨hasq_none fun m hm e => by have := mem_sent h.num hm; omega, hasq_none fun m hm e => by have := mem_sent h.num ((open_sub l).subset hm); omega⟩
theorem Lst.offer {who : Int} {l : List Out} {K : List Mg} {n : Nat} (h : Lst who l K n) (m : Mg) (hm : m.q = (l.length : Int)) : Lst who (l ++ [⟨m, false⟩]) K (n + 1) ∧ ins m (sentL l) = sentL (l ++ [⟨m, false⟩]) ∧ ins m (openL l) = openL (l ++ [⟨m, false⟩]) := by
  refine ⟨⟨fun i x hx => ?_, h.ris, h.q64, by have := h.few; simp; omega, Nat.le_succ_of_le h.few2⟩, ?_, ?_⟩
  · by_cases hi : i < l.length
    · rw [List.getElem?_append_left hi] at hx; exact h.num i x hx
    · rw [List.getElem?_append_right (by omega)] at hx
      have hi2 : i - l.length = 0 := by
        have := (List.getElem?_eq_some_iff.1 hx).1
        simp at this; omega
      rw [hi2] at hx
      simp at hx
      subst hx
      rw [hm]
      have : i = l.length := by omega
      rw [this]
  · rw [ins_last (fun x hx => by have := mem_sent h.num hx; omega)]
    simp [sentL]
  · rw [ins_last (fun x hx => by have := mem_sent h.num ((open_sub l).subset hx); omega)]
    simp [openL]
theorem ack_sent : ∀ (l : List Out) (j : Nat), sentL (ackL l j) = sentL l
  | [], _ => rfl
  | _ :: _, 0 => rfl
  | x :: xs, j + 1 => by
    have ih := ack_sent xs j
    unfold sentL at ih ⊢
    show x.m :: (ackL xs j).map _ = x.m :: _
    rw [ih]
theorem ack_at : ∀ (l : List Out) (j i : Nat), ((ackL l j)[i]?).map (·.m) = (l[i]?).map (·.m)
  | [], _, _ => rfl
  | _ :: _, 0, 0 => rfl
  | _ :: _, 0, _ + 1 => rfl
  | _ :: _, _ + 1, 0 => rfl
  | x :: xs, j + 1, i + 1 => by
    show ((ackL xs j)[i]?).map _ = (xs[i]?).map _
    exact ack_at xs j i
theorem ack_open : ∀ (l : List Out) (j s : Nat), (∀ (i : Nat) (x : Out), l[i]? = some x → x.m.q = ((s + i : Nat) : Int)) → openL (ackL l j) = str (openL l) ((s + j : Nat) : Int)
  | [], _, _, _ => rfl
  | x :: xs, 0, s, h => by
    have h0 := h 0 x rfl
    have hr : ∀ y ∈ xs, y.m.q ≠ ((s : Nat) : Int) := by
      intro y hy
      obtain ⟨i, hi⟩ := List.getElem?_of_mem hy
      have := h (i + 1) y hi
      omega
    show openL (⟨x.m, true⟩ :: xs) = _
    have e1 : openL (⟨x.m, true⟩ :: xs) = openL xs := rfl
    rw [e1]
    have e2 : str (openL xs) ((s + 0 : Nat) : Int) = openL xs := by
      unfold str
      rw [List.filter_eq_self]
      intro m hm
      unfold openL at hm
      obtain ⟨y, hy, rfl⟩ := List.mem_map.1 hm
      have := hr y (List.mem_filter.1 hy).1
      simpa using this
    cases hd : x.d with
    | true =>
      have e3 : openL (x :: xs) = openL xs := by simp [openL, hd]
      rw [e3, e2]
    | false =>
      have e3 : openL (x :: xs) = x.m :: openL xs := by simp [openL, hd]
      rw [e3]
      have e4 : str (x.m :: openL xs) ((s + 0 : Nat) : Int) = str (openL xs) ((s + 0 : Nat) : Int) := by
        unfold str
        rw [List.filter_cons_of_neg (by simp [h0])]
      rw [e4, e2]
  | x :: xs, j + 1, s, h => by
    have h0 := h 0 x rfl
    have ih := ack_open xs j (s + 1) (fun i y hy => by have := h (i + 1) y hy; rw [this]; congr 1; omega)
    have hc : ((s + 1 + j : Nat) : Int) = ((s + (j + 1) : Nat) : Int) := by congr 1; omega
    rw [hc] at ih
    show openL (x :: ackL xs j) = _
    cases hd : x.d with
    | true =>
      have e3 : ∀ ys, openL (x :: ys) = openL ys := fun ys => by simp [openL, hd]
      rw [e3, e3, ih]
    | false =>
      have e3 : ∀ ys, openL (x :: ys) = x.m :: openL ys := fun ys => by simp [openL, hd]
      rw [e3, e3, ih]
      unfold str
      rw [List.filter_cons_of_pos]
      have : x.m.q ≠ ((s + (j + 1) : Nat) : Int) := by rw [h0]; omega
      simpa using this
theorem Lst.ack {who : Int} {l : List Out} {K : List Mg} {n : Nat} (h : Lst who l K n) (j : Nat) : Lst who (ackL l j) K (n + 1) ∧ sentL l = sentL (ackL l j) ∧ str (openL l) (j : Int) = openL (ackL l j) := by
  refine ⟨⟨fun i x hx => ?_, h.ris, h.q64, by rw [ack_length]; exact Nat.le_succ_of_le h.few, Nat.le_succ_of_le h.few2⟩, (ack_sent l j).symm, ?_⟩
  · have := ack_at l j i
    rw [hx] at this
    obtain ⟨y, hy, e⟩ := Option.map_eq_some_iff.1 this.symm
    have e : y.m = x.m := e
    rw [← e, h.num i y hy]
  · have := ack_open l j 0 (fun i x hx => by rw [h.num i x hx]; simp)
    rw [this]; simp
theorem str_no {L : List Mg} {q : Int} (h : ∀ m ∈ L, m.q ≠ q) : str L q = L := by
  unfold str
  rw [List.filter_eq_self]
  intro m hm
  simpa using h m hm
theorem Lst.ack_no {who : Int} {l : List Out} {K : List Mg} {n : Nat} (h : Lst who l K n) {q : Int} (hq : (l.length : Int) ≤ q) : str (openL l) q = openL l :=
  str_no fun m hm e => by have := mem_sent h.num ((open_sub l).subset hm); omega
theorem Lst.tr {who : Int} {l : List Out} {K : List Mg} {n : Nat} (h : Lst who l K n) (m : Mg) (hm : Q64 m.q) : Lst who l (gotL K m) (n + 1) := by
  unfold gotL
  split
  · exact h.more
  · rename_i hn
    have hn : hasq K m.q = false := by simpa using hn
    refine ⟨h.num, ris_ins h.ris (hasq_no hn), fun x hx => ?_, Nat.le_succ_of_le h.few, by rw [len_ins]; have := h.few2; omega⟩
    rcases mem_ins.1 hx with rfl | hx
    · exact hm
    · exact h.q64 x hx
end Pr
end Go.Proofs.Ythganbbiclmgpaa
