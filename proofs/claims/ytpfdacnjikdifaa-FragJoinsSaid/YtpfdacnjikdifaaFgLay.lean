/- What the function does that Cut hands to walk. -/
import Derived.Test.YtpfdacnjikdifaaFgPays
import Derived.Test.YtpfdacnjikdifaaStepV
import Derived.Deep.RegionHeld3
import Derived.Deep.DeepCutAuto
namespace Go.Proofs.Ytpfdacnjikdifaa
open Go.RowKit
set_option linter.unusedVariables false
theorem step_appB {w : World} {base n cap : Nat} {A : Option Addr} {l : List Nat} {ops : Array Oper} {o : Oper} {a : Act} {K : Act → World → Prop} {Q : Exit → Act → World → Prop} {E : Prop} (hw : Region.wanted o (yielded ops a.tmps) = true) (d : Nat) (hd : o.dst = some d) (s x : Operand)
    (ho : o.op = .call { callee := .builtin .append, args := #[s, x], argTypes := #[29, 29] })
    (hs : a.eval s = .slice A n cap) (hown : Own w base A n cap l) (B : Option Addr) (m c : Nat) (news : List Nat) (hx : a.eval x = .slice B m c) (hr : Rd w B m news) (hlen : n + m ≤ 100000000) (hbase : base ≤ w.heap.size)
    (h : ∀ A' cap' w', Grew w w' base A A' n cap (n + m) cap' (l ++ news) → K (a.put (some d) (.slice A' (n + m) cap')) w') :
    if Region.wanted o (yielded ops a.tmps) = true then Oper.wp Try.prog o a w K Q else E := by
  rw [if_pos hw]
  obtain ⟨A', cap', w', hrun, hg⟩ := run_appB hown B m c news hr hlen hbase o.type
  unfold Oper.wp execOp
  simp only [ho, resolve, invoke, builtin, Sem.run_bind, Sem.run_pure, Result.andThen_ok, List.map_toArray, List.map_cons, List.map_nil, hs, hx, hrun]
  have h2 := h A' cap' w' hg
  rw [← hd] at h2
  exact h2
/-- A payload begun. -/
theorem Mid.begun {a v v' : World} {p : Nat} {A A' : Option Addr} {n cap cap' : Nat} {vs : List Value} {out : List (List Nat)} (hb : Below p a v) (hs : p < v.heap.size) (hv : Holds v p [.slice A n cap]) (hr : OwnV v (p + 1) 29 A n cap vs)
    (hi : Items v (fun b => p + 1 ≤ b ∧ some b ≠ (Value.slice A n cap).ownBlock) vs out) (hg : GrewV v v' (p + 1) 29 A A' n cap (n + 1) cap' (vs ++ [.slice none 0 0])) :
    Mid a p (v'.setCell ⟨p, 0, none⟩ (.slice A' (n + 1) cap')) A' (n + 1) cap' vs (.slice none 0 0) out none 0 [] := by
  have hrb := hr.blk
  have hb' : Below p a v' := hg.below hb (Nat.le_of_lt hs) (fun g e => by have := (hrb g e).1; omega)
  have hs' : p < v'.heap.size := Nat.lt_of_lt_of_le hs hg.grew.size
  have hv' := hv.gr hg.grew (fun e => by have := (hrb p e.symm).1; omega)
  refine ⟨hb'.setCell (Nat.le_refl _) _, by simpa [World.setCell] using hs', hv'.set 0 _ (by simp), hg.own.far (by omega) _, ?_, Own.none_ _ _, .inl rfl⟩
  have h1 := hi.imp (Y := fun b => Cold (p + 1) (Value.slice A' (n + 1) cap').ownBlock (Value.slice none ([] : List Nat).length 0).ownBlock b ∧ some b ≠ (Value.slice A n cap).ownBlock) (fun b hb hx => ⟨⟨hx.1, by
      rcases hg.blk with e | e
      · rw [e]; exact hx.2
      · rw [e]; intro e2; injection e2 with e2; omega, fun e2 => by cases e2⟩, hx.2⟩)
  have h2 := (h1.grown hg.grew (fun b hb hx => hx.2)).imp (Y := Cold (p + 1) (Value.slice A' (n + 1) cap').ownBlock (Value.slice none ([] : List Nat).length 0).ownBlock) fun b hb hx => hx.1
  exact h2.grown (grown_setCell v' ⟨p, 0, none⟩ (.slice A' (n + 1) cap')) (fun b hb hx => by intro e; injection e with e; have := hx.1; change b = p at e; omega)
theorem Mid.shut {a v : World} {p : Nat} {A B : Option Addr} {n cap c : Nat} {vs : List Value} {out : List (List Nat)} {cur : List Nat} (h : Mid a p v A n cap vs (.slice B cur.length c) out B c cur) : Items v (fun b => p + 1 ≤ b ∧ some b ≠ (Value.slice A n cap).ownBlock) (vs ++ [.slice B cur.length c]) (out ++ [cur]) := by
  refine (h.items.imp fun b hb hx => ⟨hx.1, hx.2.1⟩).snoc ⟨B, c, rfl, h.now.rd, h.now.cap, ?_, fun b o e hl => ?_⟩
  · have := h.now.2.2.1
    rcases h.now.2.2.2 with ⟨_, h0⟩ | ⟨g, c', cur', _, _, _, h1, h2, _⟩
    · omega
    · simp only [maxLen] at h2; omega
  · subst e
    have := h.now.blk b rfl
    refine ⟨this.1, ?_⟩
    rcases h.apart with e | e
    · cases e
    · exact e
/-- Where a part of bytes lies. -/
def partOf (A : Option Addr) (c f : Nat) : Option Addr := if c = f then A else A.map (·.add f)
theorem run_cut (A : Option Addr) (n c f t : Nat) (hf : f ≤ t) (ht : t ≤ n) (hc : n ≤ c) (w : World) : (Instr.slice 29 (.slice A n c) (some (.int .i64 (f : Int))) (some (.int .i64 (t : Int))) none).run Try.prog w = .ok (.slice (partOf A c f) (t - f) (c - f)) w := by
  have h2 : t ≤ c := by omega
  unfold partOf
  by_cases e : c = f
  · subst e
    simp [Instr.slice, run_underlying Try.underlying29, Instr.sliceBounds, Instr.sliceBound, asIntOf, go_sem, hf, h2]
  · simp [Instr.slice, run_underlying Try.underlying29, Instr.sliceBounds, Instr.sliceBound, asIntOf, go_sem, hf, h2, e]
theorem rd_cut {w : World} {A : Option Addr} {n c f t : Nat} {l : List Nat} (h : Rd w A n l) (hf : f ≤ t) (ht : t ≤ n) (hc : n ≤ c) : Rd w (partOf A c f) (t - f) ((l.drop f).take (t - f)) := by
  refine ⟨by rw [List.length_take, List.length_drop, h.1]; omega, fun x hx => h.lt (List.mem_of_mem_drop (List.mem_of_mem_take hx)), fun hm => ?_⟩
  obtain ⟨b, o, rfl, hb, hcl⟩ := h.2.2 (by omega)
  refine ⟨b, o + f, ?_, hb, fun j x hx => ?_⟩
  · unfold partOf
    rw [if_neg (by omega)]
    simp [Addr.add]
  · rw [List.getElem?_take] at hx
    split at hx
    · rw [List.getElem?_drop] at hx
      rw [Nat.add_assoc]
      exact hcl _ _ hx
    · cases hx
end Go.Proofs.Ytpfdacnjikdifaa
