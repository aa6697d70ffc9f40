/- A peer that gets transfers, and a row of the first of each number. -/
import Derived.Test.YthganbbiclmgpaaPrUni
import Derived.Test.YthganbbiclmgpaaPrIn
import Derived.Test.YthganbbiclmgpaaStr
namespace Go.Proofs.Ythganbbiclmgpaa
open Go.RowKit
namespace Pr
def eqM (a b : Mg) : Bool := decide (a = b)
/-- The first of each number, and the same in order. -/
structure Fst (F G : List Mg) (n : Nat) : Prop where
  few : F.length ≤ n
  all : ∀ m ∈ F, m.k = 1 ∧ m.p = 3 ∧ 0 ≤ m.q ∧ Q64 m.q
  perm : G.Perm F
  ris : Ris G
theorem Fst.none : Fst [] [] 0 := ⟨Nat.le_refl _, (fun m h => by simp at h), List.Perm.refl _, List.Pairwise.nil⟩
theorem Fst.more {F G : List Mg} {n : Nat} (h : Fst F G n) : Fst F G (n + 1) := ⟨Nat.le_succ_of_le h.few, h.all, h.perm, h.ris⟩
theorem Fst.up {F G : List Mg} {n m : Nat} (h : Fst F G n) (hm : n ≤ m) : Fst F G m := ⟨Nat.le_trans h.few hm, h.all, h.perm, h.ris⟩
theorem Fst.len {F G : List Mg} {n : Nat} (h : Fst F G n) : G.length = F.length := h.perm.length_eq
theorem Fst.lst {F G : List Mg} {n : Nat} (h : Fst F G n) : Lst 3 [] G n :=
  ⟨(fun i x h => by simp at h), h.ris, fun m hm => (h.all m (h.perm.mem_iff.1 hm)).2.2.2, Nat.zero_le _, by rw [h.len]; exact h.few⟩
theorem hasq_perm {F G : List Mg} (h : G.Perm F) (q : Int) : hasq G q = hasq F q := by
  rw [Bool.eq_iff_iff, hasq_yes, hasq_yes]
  exact ⟨fun ⟨x, hx, e⟩ => ⟨x, h.mem_iff.1 hx, e⟩, fun ⟨x, hx, e⟩ => ⟨x, h.mem_iff.2 hx, e⟩⟩
theorem ins_perm (m : Mg) : ∀ L : List Mg, (ins m L).Perm (L ++ [m])
  | [] => List.Perm.refl _
  | x :: xs => by
    unfold ins
    split
    · exact (List.perm_append_singleton m (x :: xs)).symm
    · exact (ins_perm m xs).cons x
theorem Fst.put {F G : List Mg} {n : Nat} (h : Fst F G n) {m : Mg} (hm : m.k = 1 ∧ m.p = 3 ∧ 0 ≤ m.q ∧ Q64 m.q) (hq : hasq F m.q = false) : Fst (F ++ [m]) (gotL G m) (n + 1) := by
  have hG : hasq G m.q = false := (hasq_perm h.perm _).trans hq
  have e : gotL G m = ins m G := by unfold gotL; rw [if_neg (by rw [hG]; simp)]
  rw [e]
  refine ⟨by have := h.few; simp; omega, fun x hx => ?_, (ins_perm m G).trans (h.perm.append_right [m]), ris_ins h.ris (hasq_no hG)⟩
  rcases List.mem_append.1 hx with hx | hx
  · exact h.all x hx
  · simp at hx; subst hx; exact hm
theorem Fst.had {F G : List Mg} {n : Nat} (h : Fst F G n) {m : Mg} (hq : hasq F m.q = true) : gotL G m = G := by
  unfold gotL; rw [if_pos ((hasq_perm h.perm _).trans hq)]
theorem hear_yes {m : Mg} (hm : m.k = 1 ∧ m.p = 3 ∧ 0 ≤ m.q ∧ Q64 m.q) : hearM 3 m = ⟨2, 3, m.q, ⟨#[]⟩, 0⟩ ∧ hearB 3 m = true ∧ (∀ G, hearK 3 G m = gotL G m) ∧ hearL 3 [] m = [] := by
  have h : forMe 3 m ∧ m.k = 1 := ⟨⟨hm.2.1, hm.2.2.1⟩, hm.1⟩
  refine ⟨by unfold hearM; rw [if_pos h], decide_eq_true h, fun G => by unfold hearK; rw [if_pos h], ?_⟩
  unfold hearL
  rw [if_neg (fun h2 => by have := h2.2.1; omega)]
def anyM (F : List Mg) (x : Mg) : Bool := F.any fun y => eqM y x
theorem any_snoc {F : List Mg} {k : Nat} {y : Mg} (h : F[k]? = some y) (x : Mg) : anyM (F.take (k + 1)) x = (anyM (F.take k) x || eqM y x) := by
  unfold anyM; rw [List.take_add_one, h, Option.toList_some, List.any_append]; simp
theorem any_yes {F : List Mg} {x : Mg} (h : x ∈ F) : anyM F x = true := List.any_eq_true.2 ⟨x, h, by simp [eqM]⟩
theorem Fst.got {F G : List Mg} {n i : Nat} {x : Mg} (h : Fst F G n) (hx : G[i]? = some x) : anyM F x = true := any_yes (h.perm.mem_iff.1 (List.mem_of_getElem? hx))
theorem Fst.rise {F G : List Mg} {n i : Nat} {x y : Mg} (h : Fst F G n) (hx : G[i]? = some x) (hy : G[i + 1]? = some y) : x.q < y.q := by
  obtain ⟨h1, e1⟩ := List.getElem?_eq_some_iff.1 hx
  obtain ⟨h2, e2⟩ := List.getElem?_eq_some_iff.1 hy
  have := List.pairwise_iff_getElem.1 h.ris i (i + 1) h1 h2 (by omega)
  rw [e1, e2] at this
  exact this
end Pr
/-- The peer, and the row behind it. -/
structure Onc (w0 w3 wr : World) (g b1 b2 b3 : Nat) (G F : List Pr.Mg) (A : Option Addr) (cap : Nat) : Prop where
  peer : Peer wr g b1 b2 b3 3 [] [] G
  row : OwnC 5 wr w3.heap.size 59 A F.length cap (Pr.flat F)
  low : w0.heap.size ≤ b1 ∧ w0.heap.size ≤ b2 ∧ w0.heap.size ≤ b3
  lt : b1 < w3.heap.size ∧ b2 < w3.heap.size ∧ b3 < w3.heap.size ∧ g < w3.heap.size
  bel : Below w0.heap.size w0 wr
  s0 : w0.heap.size ≤ w3.heap.size
  sz : w3.heap.size ≤ wr.heap.size
section
variable {w0 w3 wr w' : World} {g b1 b2 b3 : Nat} {G G' F : List Pr.Mg} {A A' : Option Addr} {cap cap' : Nat}
theorem Onc.below (h : Onc w0 w3 wr g b1 b2 b3 G F A cap) (hb : Below wr.heap.size wr w') : Onc w0 w3 w' g b1 b2 b3 G F A cap :=
  ⟨h.peer.below hb, h.row.below hb, h.low, h.lt, below_next h.bel hb, h.s0, Nat.le_trans h.sz hb.size⟩
theorem OwnC.pch {s n : Nat} {base : Nat} {E : TypeId} {vs : List Value} (h : OwnC s wr base E A n cap vs) (hc : PCh b1 b2 b3 wr w') (h1 : b1 < base) (h2 : b2 < base) (h3 : b3 < base) : OwnC s w' base E A n cap vs := by
  obtain ⟨e1, e2⟩ := h
  refine ⟨e1, ?_⟩
  rcases e2 with e2 | ⟨g, c, cur, hv, hb, hg, r⟩
  · exact .inl e2
  · have hgs := (Array.getElem?_eq_some_iff.1 hg).1
    exact .inr ⟨g, c, cur, hv, hb, (hc.block g hgs (by omega) (by omega) (by omega)).trans hg, r⟩
theorem Onc.change (h : Onc w0 w3 wr g b1 b2 b3 G F A cap) (hp : Peer w' g b1 b2 b3 3 [] [] G') (hc : PCh b1 b2 b3 wr w') : Onc w0 w3 w' g b1 b2 b3 G' F A cap :=
  ⟨hp, h.row.pch hc h.lt.1 h.lt.2.1 h.lt.2.2.1, h.low, h.lt, hc.low h.bel h.low.1 h.low.2.1 h.low.2.2 h.bel.size, h.s0, Nat.le_trans h.sz hc.size⟩
theorem Peer.grown {who : Int} {S O G : List Pr.Mg} (h : Peer wr g b1 b2 b3 who S O G) {row : Option Nat} (hg : wr.grownBy w' row) (hne : ∀ k, row = some k → k ≠ g ∧ k ≠ b1 ∧ k ≠ b2 ∧ k ≠ b3) : Peer w' g b1 b2 b3 who S O G := by
  have hb : ∀ k, k < wr.heap.size → some k ≠ row → w'.heap[k]? = wr.heap[k]? := fun k hk h => hg.block k hk h
  have z0 := h.box.1
  have z1 := h.sent.lt
  have z2 := h.open_.lt
  have z3 := h.got.lt
  have q0 := hb g z0 (fun e => (hne g e.symm).1 rfl)
  exact ⟨⟨Nat.lt_of_lt_of_le z0 hg.size, fun i v hv => (World.cell?_of_block (a := ⟨g, i, none⟩) q0).trans (h.box.2.1 i v hv), fun i => (World.frozen?_of_block (a := ⟨g, i, none⟩) q0).trans (h.box.2.2 i)⟩,
    h.sent.block (hb b1 z1 (fun e => (hne b1 e.symm).2.1 rfl)), h.open_.block (hb b2 z2 (fun e => (hne b2 e.symm).2.2.1 rfl)), h.got.block (hb b3 z3 (fun e => (hne b3 e.symm).2.2.2 rfl)), h.far⟩
theorem Onc.push (h : Onc w0 w3 wr g b1 b2 b3 G F A cap) {m : Pr.Mg} (hg : GrewC 5 wr w' w3.heap.size 59 A A' F.length cap (F.length + 1) cap' (Pr.flat F ++ m.cells)) : Onc w0 w3 w' g b1 b2 b3 G (F ++ [m]) A' cap' := by
  have hk := fun k (e : (Value.slice A F.length cap).ownBlock = some k) => (h.row.blk k e).1
  have hlt := h.lt
  refine ⟨h.peer.grown hg.grew (fun k e => by have := hk k e; omega), ?_, h.low, h.lt, h.bel.grown hg.grew h.bel.size (fun k e => by have := hk k e; have := h.s0; omega), h.s0, Nat.le_trans h.sz hg.grew.size⟩
  have h2 := hg.own
  rw [← Pr.flat_snoc] at h2
  have : (F ++ [m]).length = F.length + 1 := by simp
  rw [this]
  exact h2
theorem Onc.rd (h : Onc w0 w3 wr g b1 b2 b3 G F A cap) : RdP wr A F.length F := ⟨rfl, h.row.rd⟩
end
theorem hear_once (w0 w3 wr : World) (g b1 b2 b3 cap n : Nat) (G F : List Pr.Mg) (A : Option Addr) (m : Pr.Mg) (h : Onc w0 w3 wr g b1 b2 b3 G F A cap) (hF : Pr.Fst F G n) (hn : n ≤ 1000) (hm : m.k = 1 ∧ m.p = 3 ∧ 0 ≤ m.q ∧ Q64 m.q) :
    Calls Try.prog 25 #[.pointer (some ⟨g, 0, none⟩), .agg m.cells.toArray] wr fun e w' => e = .returned (.tuple #[.agg #[.int .i64 2, .int .i64 3, .int .i64 m.q, .string ⟨#[]⟩, .int .i64 0], .bool true]) ∧ Onc w0 w3 w' g b1 b2 b3 (Pr.gotL G m) F A cap ∧ PCh b1 b2 b3 wr w' := by
  obtain ⟨e1, e2, e3, e4⟩ := Pr.hear_yes hm
  refine (hear_uni g b1 b2 b3 3 [] G n m wr h.peer (by omega) hF.lst hn hm.2.2.2).mono ?_
  rintro e w' ⟨mk, mp, mq, ms, mn, hM, he, hp, hc⟩
  rw [e1] at hM
  rw [e2] at he
  rw [e3, e4] at hp
  injection hM with i1 i2 i3 i4 i5
  subst i1 i2 i3 i4 i5
  exact ⟨he, h.change hp hc, hc⟩
theorem toList_eq (a b : ByteArray) : a.toList = b.toList ↔ a = b := by
  have h := toList_beq a b
  refine ⟨fun e => bs_inj (of_decide_eq_true (h.symm.trans (beq_iff_eq.2 e))), fun e => by rw [e]⟩
set_option maxRecDepth 100000 in
theorem eq_msg (xk xp xq : Int) (xs : ByteArray) (xn : Int) (yk yp yq : Int) (ys : ByteArray) (yn : Int) (w : World) : (binOp .eql 59 (.agg #[.int .i64 xk, .int .i64 xp, .int .i64 xq, .string xs, .int .i64 xn]) (.agg #[.int .i64 yk, .int .i64 yp, .int .i64 yq, .string ys, .int .i64 yn])).run Try.prog w = .ok (.bool (Pr.eqM ⟨xk, xp, xq, xs, xn⟩ ⟨yk, yp, yq, ys, yn⟩)) w := by
  unfold Pr.eqM
  simp [go_sem, toList_eq]
  by_cases hk : xk = yk
  case neg => simp [hk]
  by_cases hp : xp = yp
  case neg => simp [hp]
  by_cases hq : xq = yq
  case neg => simp [hq]
  by_cases hs : xs = ys
  case neg => simp [hs]
  by_cases hn : xn = yn
  case neg => simp [hn]
  simp [hk, hp, hq, hs, hn]
end Go.Proofs.Ythganbbiclmgpaa
