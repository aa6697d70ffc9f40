/- Words for slices of ints of the call's own; append of an int. -/
import Derived.Test.YtpfdacnjikdifaaBytes
namespace Go.Proofs.Ytpfdacnjikdifaa
open Go.ChangeShapes Go.WideShapes Go.ChangeAt Go.RowKit
def iv (l : List Int) : List Value := l.map fun (s : Int) => .int .i64 s
theorem iv_length (l : List Int) : (iv l).length = l.length := by simp [iv]
theorem iv_at {l : List Int} {j : Nat} {s : Int} (h : l[j]? = some s) : (iv l)[j]? = some (.int .i64 s) := by simp [iv, h]
theorem iv_append (a b : List Int) : iv (a ++ b) = iv a ++ iv b := by simp [iv]
theorem iv_one (l : List Int) : ∀ u ∈ iv l, u.oneCell' = true := by
  intro u hu
  obtain ⟨x, _, rfl⟩ := List.mem_map.1 hu
  rfl
/-- A slice of n ints with this address reads as l. -/
def RdZ (w : World) (A : Option Addr) (n : Nat) (l : List Int) : Prop :=
  l.length = n ∧ (0 < n → ∃ b o, A = some ⟨b, o, none⟩ ∧ b < w.heap.size ∧ ∀ (j : Nat) (s : Int), l[j]? = some s → w.cell? ⟨b, o + j, none⟩ = some (.int .i64 s))
theorem RdZ.below {w w' : World} {A : Option Addr} {n : Nat} {l : List Int} (h : RdZ w A n l) (hb : Below w.heap.size w w') : RdZ w' A n l := by
  refine ⟨h.1, fun hn => ?_⟩
  obtain ⟨b, o, rfl, hbl, hc⟩ := h.2 hn
  exact ⟨b, o, rfl, Nat.lt_of_lt_of_le hbl hb.size, fun j s hs => (hb.cell (p := ⟨b, o + j, none⟩) hbl).trans (hc j s hs)⟩
/-- A slice of the call's own that holds the ints l. -/
def OwnI (w : World) (base : Nat) (A : Option Addr) (n cap : Nat) (l : List Int) : Prop :=
  l.length = n ∧ w.ownsRow base 3 1 (.slice A n cap) n (iv l)
theorem infoI : (Try.prog.info? 3).map (fun i => (i.zero, i.size, i.bytes)) = some (some (.int .i64 0), 1, 8) := by kernel_rfl
section
variable {w w' : World} {base n cap : Nat} {A : Option Addr} {l : List Int}
theorem OwnI.rd (h : OwnI w base A n cap l) : RdZ w A n l := by
  refine ⟨h.1, fun hn => ?_⟩
  rcases h.2.2 with ⟨hv, h0⟩ | ⟨g, c, cur, hv, hb, hg, hnc, hc, hs, ht⟩
  · omega
  · injection hv with hA _ _
    subst hA
    refine ⟨g, 0, rfl, (Array.getElem?_eq_some_iff.1 hg).1, fun j x hx => ?_⟩
    rw [Nat.zero_add, cell_of_row w g j cur _ (0, 0) hg]
    have h1 : (iv l)[j]? = some (.int .i64 x) := iv_at hx
    rw [← ht, List.getElem?_take] at h1
    split at h1
    · simpa using h1
    · cases h1
theorem OwnI.below (h : OwnI w base A n cap l) (hb : Below w.heap.size w w') : OwnI w' base A n cap l := by
  refine ⟨h.1, h.2.kept (grown_of_below hb) ?_⟩
  rcases e : (Value.slice A n cap).ownBlock with _ | g
  · exact .inl rfl
  · exact .inr (fun e2 => by cases e2)
theorem OwnI.alloc (h : OwnI w base A n cap l) (o : Obj) : OwnI (w.alloc o) base A n cap l := h.below ((Below.refl _ _).alloc (Nat.le_refl _) o)
theorem OwnI.none_ (w : World) (base : Nat) : OwnI w base none 0 0 [] := ⟨rfl, World.ownsRow_nil w base 3 1⟩
theorem OwnI.blk (h : OwnI w base A n cap l) : ∀ g, (Value.slice A n cap).ownBlock = some g → base ≤ g ∧ g < w.heap.size := h.2.lt
theorem OwnI.fits (h : OwnI w base A n cap l) : n ≤ cap := by
  rcases h.2.2 with ⟨hv, hn⟩ | ⟨g, c, cur, hv, _, _, hc, _⟩
  · omega
  · injection hv with _ _ h3
    omega
theorem run_appI (hown : OwnI w base A n cap l) (ad : Addr) (s : Int) (c : Nat) (hcell : w.cell? ad = some (.int .i64 s)) (hlen : n + 1 ≤ 1000000) (hbase : base ≤ w.heap.size) (ty : TypeId) :
    ∃ A' cap' w', (Builtin.append_ #[28, 28] ty #[.slice A n cap, .slice (some ad) 1 c]).run Try.prog w = .ok (.slice A' (n + 1) cap') w' ∧ OwnI w' base A' (n + 1) cap' (l ++ [s]) ∧ w.grownBy w' (Value.slice A n cap).ownBlock := by
  obtain ⟨i0, hi, hz0, hz1, hz2⟩ := info_parts infoI
  have hnews : ∀ j u, (iv [s])[j]? = some u → w.cell? (ad.add j) = some u := by
    intro j u hu
    match j, hu with
    | 0, hu =>
      simp [iv] at hu
      subst hu
      simpa [Addr.add] using hcell
  obtain ⟨v', w', hrun, h2, h3, _, h5⟩ := run_append_own_at (P := Try.prog) w base 28 ty 3 i0 _ 1 8 Try.underlying28 hi hz0 hz1 hz2 rfl (by omega) (.slice A n cap) n (iv l) hown.2 ad 1 c (iv [s])
    (by simp [iv]) hnews (iv_one _) (by simp only [maxLen]; omega) (by omega) hbase
  have hf : ∃ A' cap', v' = .slice A' (n + 1) cap' := by
    rcases h2.2 with ⟨hv, h0⟩ | ⟨g, c', cur, hv, _⟩
    · omega
    · exact ⟨_, _, hv⟩
  obtain ⟨A', cap', rfl⟩ := hf
  exact ⟨A', cap', w', hrun, ⟨by rw [List.length_append, hown.1]; rfl, by rw [iv_append]; exact h2⟩, h3⟩
theorem wpList_appI {ops : Array Oper} {rest : List Oper} {o : Oper} {a : Act} {Q : Exit → Act → World → Prop} (hgd : o.guard = none) (s x : Operand)
    (ho : o.op = .call { callee := .builtin .append, args := #[s, x], argTypes := #[28, 28] })
    (hs : a.eval s = .slice A n cap) (hown : OwnI w base A n cap l) (ad : Addr) (t : Int) (c : Nat) (hx : a.eval x = .slice (some ad) 1 c) (hcell : w.cell? ad = some (.int .i64 t)) (hlen : n + 1 ≤ 1000000) (hbase : base ≤ w.heap.size)
    (h : ∀ A' cap' w', OwnI w' base A' (n + 1) cap' (l ++ [t]) → w.grownBy w' (Value.slice A n cap).ownBlock → wpList Try.prog ops Q rest (a.put o.dst (.slice A' (n + 1) cap')) w') : wpList Try.prog ops Q (o :: rest) a w := by
  obtain ⟨A', cap', w', hrun, h1, h2⟩ := run_appI hown ad t c hcell hlen hbase o.type
  refine wpList_plain hgd fun K hK => ?_
  unfold Oper.wp execOp
  simp only [ho, resolve, invoke, builtin, Sem.run_bind, Sem.run_pure, Result.andThen_ok, List.map_toArray, List.map_cons, List.map_nil, hs, hx, hrun]
  exact hK _ _ (h A' cap' w' h1 h2)
end
end Go.Proofs.Ytpfdacnjikdifaa
