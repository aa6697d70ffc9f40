/- Payloads in memory while Cut fills the last one. What the function does that Cut hands to walk. -/
import Derived.Test.YtpggomekbahddaaFgWalkC
import Derived.Test.YtpggomekbahddaaM06
import Derived.Test.YtpggomekbahddaaSuA
import Derived.Deep.RegionHeld3
import Derived.Deep.DeepCutAuto
namespace Go.Proofs.Ytpggomekbahddaa
open Go.RowKit
set_option linter.unusedVariables false
theorem grown_setCell (w : World) (p : Addr) (u : Value) : w.grownBy (w.setCell p u) (some p.block) :=
  ⟨rfl, rfl, rfl, by simp [World.setCell], fun k hk hne => Below.heap_setCell _ _ _ _ (fun e => hne (by rw [e]))⟩
theorem Holds.gr {w w' : World} {b : Nat} {cs : List Value} {row : Option Nat} (k : Holds w b cs) (h : w.grownBy w' row) (hne : some b ≠ row) : Holds w' b cs :=
  ⟨Nat.lt_of_lt_of_le k.1 h.size, fun i v hv => h.cell (a := ⟨b, i, none⟩) (k.2.1 i v hv) hne, fun i => (World.frozen?_of_block (h.block b k.1 hne)).trans (k.2.2 i)⟩
/-- Where the full payloads may lie: in blocks of the call's own that are no more written. -/
def Cold (base : Nat) (row now : Option Nat) (b : Nat) : Prop := base ≤ b ∧ some b ≠ row ∧ some b ≠ now
/-- Payloads, the last of which is being filled: its header in the row may be an old one. -/
structure Mid (a : World) (p : Nat) (v : World) (A : Option Addr) (n cap : Nat) (vs : List Value) (old : Value) (out : List (List Nat)) (B : Option Addr) (c : Nat) (cur : List Nat) : Prop where
  below : Below p a v
  size : p < v.heap.size
  var : Holds v p [.slice A n cap]
  row : OwnV v (p + 1) 23 A n cap (vs ++ [old])
  items : Items v (Cold (p + 1) (Value.slice A n cap).ownBlock (Value.slice B cur.length c).ownBlock) vs out
  now : Own v (p + 1) B cur.length c cur
  apart : (Value.slice B cur.length c).ownBlock = none ∨ (Value.slice B cur.length c).ownBlock ≠ (Value.slice A n cap).ownBlock
section
variable {a v v' : World} {p : Nat} {A B B' : Option Addr} {n cap c c' m : Nat} {vs : List Value} {old : Value} {out : List (List Nat)} {cur news : List Nat}
theorem Mid.keep (h : Mid a p v A n cap vs old out B c cur) (hb : Below v.heap.size v v') : Mid a p v' A n cap vs old out B c cur :=
  ⟨h.below.trans (hb.mono (Nat.le_of_lt h.size)), Nat.lt_of_lt_of_le h.size hb.size, h.var.below hb, h.row.below hb, h.items.below hb, h.now.below hb, h.apart⟩
theorem Mid.drew (h : Mid a p v A n cap vs old out B c cur) : Mid a p v.drew A n cap vs old out B c cur := h.keep (Below.refl _ _).drew
theorem Mid.app (h : Mid a p v A n cap vs old out B c cur) (hg : Grew v v' (p + 1) B B' cur.length c (cur.length + m) c' (cur ++ news)) (hm : news.length = m) : Mid a p v' A n cap vs old out B' c' (cur ++ news) := by
  have hl : (cur ++ news).length = cur.length + m := by rw [List.length_append, hm]
  have hbl := h.now.blk
  have hrl := h.row.blk
  refine ⟨hg.below h.below (Nat.le_of_lt h.size) (fun g e => by have := (hbl g e).1; omega), Nat.lt_of_lt_of_le h.size hg.grew.size, h.var.gr hg.grew (fun e => by have := (hbl p e.symm).1; omega), h.row.grown hg.grew ?_, ?_, by rw [hl]; exact hg.own, ?_⟩
  · rcases h.apart with e | e
    · exact .inl e
    · exact .inr fun g e1 e2 => e (by rw [e1, e2])
  · have h1 := h.items.imp (Y := fun b => Cold (p + 1) (Value.slice A n cap).ownBlock (Value.slice B' (cur ++ news).length c').ownBlock b ∧ some b ≠ (Value.slice B cur.length c).ownBlock) (fun b hb hx => ⟨⟨hx.1, hx.2.1, by
      rw [hl]
      rcases hg.blk with e | e
      · rw [e]; exact hx.2.2
      · rw [e]; intro e2; injection e2 with e2; omega⟩, hx.2.2⟩)
    exact (h1.grown hg.grew (fun b hb hx => hx.2)).imp fun b hb hx => hx.1
  · rw [hl]
    rcases hg.blk with e | e
    · rw [e]; exact h.apart
    · rw [e]
      refine .inr fun e2 => ?_
      have := (hrl _ e2.symm).2
      omega
/-- The last payload's header is written. -/
theorem Mid.store {g : Nat} (h : Mid a p v (some ⟨g, 0, none⟩) n cap vs old out B c cur) : Mid a p (v.setCell ⟨g, vs.length, none⟩ (.slice B cur.length c)) (some ⟨g, 0, none⟩) n cap vs (.slice B cur.length c) out B c cur := by
  have hg1 : p + 1 ≤ g ∧ g < v.heap.size := h.row.blk g rfl
  have hgr := grown_setCell v ⟨g, vs.length, none⟩ (.slice B cur.length c)
  refine ⟨h.below.setCell (by show p ≤ g; omega) _, by simpa [World.setCell] using h.size, h.var.gr hgr (fun e => by injection e with e; change p = g at e; omega), ?_, h.items.grown hgr (fun b hb hx => hx.2.1), ?_, h.apart⟩
  · have := h.row.set vs.length (.slice B cur.length c)
    rw [List.set_append_right _ _ (Nat.le_refl _), Nat.sub_self] at this
    exact this
  · refine h.now.grown hgr ?_
    rcases h.apart with e | e
    · refine .inr fun g' e1 e2 => ?_
      rw [e] at e2; cases e2
    · refine .inr fun g' e1 e2 => e ?_
      rw [e2, ← e1]; rfl
end
/-- The payloads behind some fragments; none, ahead of the first. -/
def PaysAt (a : World) (p : Nat) (b : Bool) (st : Fg.St) (v : World) : Prop :=
  (b = false ∧ st = ([], []) ∧ Below p a v ∧ p < v.heap.size ∧ Holds v p [.slice none 0 0]) ∨
  (b = true ∧ ∃ (A : Option Addr) (n cap : Nat) (vs : List Value) (B : Option Addr) (c : Nat), Mid a p v A n cap vs (.slice B st.2.length c) st.1 B c st.2)
theorem PaysAt.below {a v : World} {p : Nat} {b : Bool} {st : Fg.St} (h : PaysAt a p b st v) : Below p a v := by
  rcases h with ⟨_, _, h, _⟩ | ⟨_, _, _, _, _, _, _, h⟩
  · exact h
  · exact h.below
/-- What fresh leaves of a state. -/
def mid (b : Bool) (st : Fg.St) (fr : Bool) : Fg.St := if fr then (if b then st.1 ++ [st.2] else [], []) else st
theorem mid_lay {b : Bool} {st : Fg.St} {fr : Bool} {kd : Nat} {c : List Nat} (hb : b = false → st = ([], [])) (hfr : fr = decide (Fg.left b st < 3)) : Fg.lay st kd c = ((mid b st fr).1, (mid b st fr).2 ++ Fg.piece kd c) := by
  cases b with
  | false =>
    rw [hb rfl] at hfr ⊢
    subst hfr
    rfl
  | true =>
    unfold Fg.lay mid
    unfold Fg.left at hfr
    rw [if_pos rfl] at hfr
    by_cases h : 108 - st.2.length < 3
    · rw [if_pos h, hfr, decide_eq_true h]; rfl
    · rw [if_neg h, hfr, decide_eq_false h]; rfl
end Go.Proofs.Ytpggomekbahddaa
namespace Go.Proofs.Ytpggomekbahddaa
open Go.RowKit
set_option linter.unusedVariables false
theorem step_appB {w : World} {base n cap : Nat} {A : Option Addr} {l : List Nat} {ops : Array Oper} {o : Oper} {a : Act} {K : Act → World → Prop} {Q : Exit → Act → World → Prop} {E : Prop} (hw : Region.wanted o (yielded ops a.tmps) = true) (d : Nat) (hd : o.dst = some d) (s x : Operand)
    (ho : o.op = .call { callee := .builtin .append, args := #[s, x], argTypes := #[23, 23] })
    (hs : a.eval s = .slice A n cap) (hown : Own w base A n cap l) (B : Option Addr) (m c : Nat) (news : List Nat) (hx : a.eval x = .slice B m c) (hr : Rd w B m news) (hlen : n + m ≤ 100000000) (hbase : base ≤ w.heap.size)
    (h : ∀ A' cap' w', Grew w w' base A A' n cap (n + m) cap' (l ++ news) → K (a.put (some d) (.slice A' (n + m) cap')) w') :
    if Region.wanted o (yielded ops a.tmps) = true then Oper.wp Try.prog o a w K Q else E := by
  rw [if_pos hw]
  obtain ⟨A', cap', w', hrun, hg⟩ := run_appB hown B m c news hr hlen hbase o.type
  unfold Oper.wp execOp
  simp only [ho, resolve, invoke, builtin, Sem.run_bind, Sem.run_pure, Result.andThen_ok, List.map_toArray, List.map_cons, List.map_nil, hs, hx, hrun]
  have h2 := h A' cap' w' hg
  rw [← hd] at h2
  exact h2
/-- A payload begun. -/
theorem Mid.begun {a v v' : World} {p : Nat} {A A' : Option Addr} {n cap cap' : Nat} {vs : List Value} {out : List (List Nat)} (hb : Below p a v) (hs : p < v.heap.size) (hv : Holds v p [.slice A n cap]) (hr : OwnV v (p + 1) 23 A n cap vs)
    (hi : Items v (fun b => p + 1 ≤ b ∧ some b ≠ (Value.slice A n cap).ownBlock) vs out) (hg : GrewV v v' (p + 1) 23 A A' n cap (n + 1) cap' (vs ++ [.slice none 0 0])) :
    Mid a p (v'.setCell ⟨p, 0, none⟩ (.slice A' (n + 1) cap')) A' (n + 1) cap' vs (.slice none 0 0) out none 0 [] := by
  have hrb := hr.blk
  have hb' : Below p a v' := hg.below hb (Nat.le_of_lt hs) (fun g e => by have := (hrb g e).1; omega)
  have hs' : p < v'.heap.size := Nat.lt_of_lt_of_le hs hg.grew.size
  have hv' := hv.gr hg.grew (fun e => by have := (hrb p e.symm).1; omega)
  refine ⟨hb'.setCell (Nat.le_refl _) _, by simpa [World.setCell] using hs', hv'.set 0 _ (by simp), hg.own.far (by omega) _, ?_, Own.none_ _ _, .inl rfl⟩
  have h1 := hi.imp (Y := fun b => Cold (p + 1) (Value.slice A' (n + 1) cap').ownBlock (Value.slice none ([] : List Nat).length 0).ownBlock b ∧ some b ≠ (Value.slice A n cap).ownBlock) (fun b hb hx => ⟨⟨hx.1, by
      rcases hg.blk with e | e
      · rw [e]; exact hx.2
      · rw [e]; intro e2; injection e2 with e2; omega, fun e2 => by cases e2⟩, hx.2⟩)
  have h2 := (h1.grown hg.grew (fun b hb hx => hx.2)).imp (Y := Cold (p + 1) (Value.slice A' (n + 1) cap').ownBlock (Value.slice none ([] : List Nat).length 0).ownBlock) fun b hb hx => hx.1
  exact h2.grown (grown_setCell v' ⟨p, 0, none⟩ (.slice A' (n + 1) cap')) (fun b hb hx => by intro e; injection e with e; have := hx.1; change b = p at e; omega)
theorem Mid.shut {a v : World} {p : Nat} {A B : Option Addr} {n cap c : Nat} {vs : List Value} {out : List (List Nat)} {cur : List Nat} (h : Mid a p v A n cap vs (.slice B cur.length c) out B c cur) : Items v (fun b => p + 1 ≤ b ∧ some b ≠ (Value.slice A n cap).ownBlock) (vs ++ [.slice B cur.length c]) (out ++ [cur]) := by
  refine (h.items.imp fun b hb hx => ⟨hx.1, hx.2.1⟩).snoc ⟨B, c, rfl, h.now.rd, h.now.cap, ?_, fun b o e hl => ?_⟩
  · have := h.now.2.2.1
    rcases h.now.2.2.2 with ⟨_, h0⟩ | ⟨g, c', cur', _, _, _, h1, h2, _⟩
    · omega
    · simp only [maxLen] at h2; omega
  · subst e
    have := h.now.blk b rfl
    refine ⟨this.1, ?_⟩
    rcases h.apart with e | e
    · cases e
    · exact e
/-- Where a part of bytes lies. -/
def partOf (A : Option Addr) (c f : Nat) : Option Addr := if c = f then A else A.map (·.add f)
theorem run_cut (A : Option Addr) (n c f t : Nat) (hf : f ≤ t) (ht : t ≤ n) (hc : n ≤ c) (w : World) : (Instr.slice 23 (.slice A n c) (some (.int .i64 (f : Int))) (some (.int .i64 (t : Int))) none).run Try.prog w = .ok (.slice (partOf A c f) (t - f) (c - f)) w := by
  have h2 : t ≤ c := by omega
  unfold partOf
  by_cases e : c = f
  · subst e
    simp [Instr.slice, run_underlying Try.underlying23, Instr.sliceBounds, Instr.sliceBound, asIntOf, go_sem, hf, h2]
  · simp [Instr.slice, run_underlying Try.underlying23, Instr.sliceBounds, Instr.sliceBound, asIntOf, go_sem, hf, h2, e]
theorem rd_cut {w : World} {A : Option Addr} {n c f t : Nat} {l : List Nat} (h : Rd w A n l) (hf : f ≤ t) (ht : t ≤ n) (hc : n ≤ c) : Rd w (partOf A c f) (t - f) ((l.drop f).take (t - f)) := by
  refine ⟨by rw [List.length_take, List.length_drop, h.1]; omega, fun x hx => h.lt (List.mem_of_mem_drop (List.mem_of_mem_take hx)), fun hm => ?_⟩
  obtain ⟨b, o, rfl, hb, hcl⟩ := h.2.2 (by omega)
  refine ⟨b, o + f, ?_, hb, fun j x hx => ?_⟩
  · unfold partOf
    rw [if_neg (by omega)]
    simp [Addr.add]
  · rw [List.getElem?_take] at hx
    split at hx
    · rw [List.getElem?_drop] at hx
      rw [Nat.add_assoc]
      exact hcl _ _ hx
    · cases hx
end Go.Proofs.Ytpggomekbahddaa
