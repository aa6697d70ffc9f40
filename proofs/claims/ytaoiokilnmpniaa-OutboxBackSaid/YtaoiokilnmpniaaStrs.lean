/- Words for slices of strings: a slice that reads as a list of strings, one that the call owns, append of a string; slices of strings that came in. -/
import Derived.Test.YtaoiokilnmpniaaStr
import Derived.SliceStrings
namespace Go.Proofs.Ytaoiokilnmpniaa
open Go.ChangeShapes Go.WideShapes Go.ChangeAt Go.RowKit
def sv (l : List ByteArray) : List Value := l.map fun (s : ByteArray) => .string s
theorem sv_length (l : List ByteArray) : (sv l).length = l.length := by simp [sv]
theorem sv_at {l : List ByteArray} {j : Nat} {s : ByteArray} (h : l[j]? = some s) : (sv l)[j]? = some (.string s) := by simp [sv, h]
theorem sv_append (a b : List ByteArray) : sv (a ++ b) = sv a ++ sv b := by simp [sv]
theorem sv_one (l : List ByteArray) : ∀ u ∈ sv l, u.oneCell' = true := by
  intro u hu
  obtain ⟨x, _, rfl⟩ := List.mem_map.1 hu
  rfl
/-- A slice of n strings with this address reads as l. -/
def RdS (w : World) (A : Option Addr) (n : Nat) (l : List ByteArray) : Prop :=
  l.length = n ∧ (0 < n → ∃ b o, A = some ⟨b, o, none⟩ ∧ b < w.heap.size ∧ ∀ (j : Nat) (s : ByteArray), l[j]? = some s → w.cell? ⟨b, o + j, none⟩ = some (.string s))
section
variable {w w' : World} {A : Option Addr} {n : Nat} {l : List ByteArray}
theorem RdS.nil (w : World) (A : Option Addr) : RdS w A 0 [] := ⟨rfl, by simp⟩
theorem RdS.keep (h : RdS w A n l) (hs : w.heap.size ≤ w'.heap.size) (hk : ∀ p : Addr, p.block < w.heap.size → w'.cell? p = w.cell? p) : RdS w' A n l := by
  refine ⟨h.1, fun hn => ?_⟩
  obtain ⟨b, o, rfl, hb, hc⟩ := h.2 hn
  exact ⟨b, o, rfl, by omega, fun j x hx => (hk _ hb).trans (hc j x hx)⟩
theorem RdS.below (h : RdS w A n l) (hb : Below w.heap.size w w') : RdS w' A n l := h.keep hb.size fun _ hp => hb.cell hp
theorem RdS.drew (h : RdS w A n l) : RdS w.drew A n l := h
theorem RdS.alloc (h : RdS w A n l) (o : Obj) : RdS (w.alloc o) A n l := h.below ((Below.refl _ _).alloc (Nat.le_refl _) o)
theorem RdS.at_ (h : RdS w A n l) {k : Nat} (hk : k < n) : ∃ b o s, A = some ⟨b, o, none⟩ ∧ b < w.heap.size ∧ l[k]? = some s ∧ w.cell? ⟨b, o + k, none⟩ = some (.string s) := by
  obtain ⟨b, o, rfl, hb, hc⟩ := h.2 (by omega)
  have hx : l[k]? = some (l[k]'(by rw [h.1]; exact hk)) := List.getElem?_eq_getElem _
  exact ⟨b, o, _, rfl, hb, hx, hc k _ hx⟩
end
/-- A slice of the call's own that holds the strings l. -/
def OwnS (w : World) (base : Nat) (A : Option Addr) (n cap : Nat) (l : List ByteArray) : Prop :=
  l.length = n ∧ w.ownsRow base 9 1 (.slice A n cap) n (sv l)
theorem info9 : (Try.prog.info? 9).map (fun i => (i.zero, i.size, i.bytes)) = some (some (.string ⟨#[]⟩), 1, 16) := by kernel_rfl
section
variable {w w' : World} {base n cap : Nat} {A : Option Addr} {l : List ByteArray}
theorem OwnS.rd (h : OwnS w base A n cap l) : RdS w A n l := by
  refine ⟨h.1, fun hn => ?_⟩
  rcases h.2.2 with ⟨hv, h0⟩ | ⟨g, c, cur, hv, hb, hg, hnc, hc, hs, ht⟩
  · omega
  · injection hv with hA _ _
    subst hA
    refine ⟨g, 0, rfl, (Array.getElem?_eq_some_iff.1 hg).1, fun j x hx => ?_⟩
    rw [Nat.zero_add, cell_of_row w g j cur _ (0, 0) hg]
    have h1 : (sv l)[j]? = some (.string x) := sv_at hx
    rw [← ht, List.getElem?_take] at h1
    split at h1
    · simpa using h1
    · cases h1
theorem OwnS.below (h : OwnS w base A n cap l) (hb : Below w.heap.size w w') : OwnS w' base A n cap l := by
  refine ⟨h.1, h.2.kept (grown_of_below hb) ?_⟩
  rcases e : (Value.slice A n cap).ownBlock with _ | g
  · exact .inl rfl
  · exact .inr (fun e2 => by cases e2)
theorem OwnS.alloc (h : OwnS w base A n cap l) (o : Obj) : OwnS (w.alloc o) base A n cap l := h.below ((Below.refl _ _).alloc (Nat.le_refl _) o)
theorem OwnS.none_ (w : World) (base : Nat) : OwnS w base none 0 0 [] := ⟨rfl, World.ownsRow_nil w base 9 1⟩
theorem OwnS.blk (h : OwnS w base A n cap l) : ∀ g, (Value.slice A n cap).ownBlock = some g → base ≤ g ∧ g < w.heap.size := h.2.lt
theorem OwnS.fits (h : OwnS w base A n cap l) : n ≤ cap := by
  rcases h.2.2 with ⟨hv, hn⟩ | ⟨g, c, cur, hv, _, _, hc, _⟩
  · omega
  · injection hv with _ _ h3
    omega
theorem run_appSS (hown : OwnS w base A n cap l) (ad : Addr) (s : ByteArray) (c : Nat) (hcell : w.cell? ad = some (.string s)) (hlen : n + 1 ≤ 1000000) (hbase : base ≤ w.heap.size) (ty : TypeId) :
    ∃ A' cap' w', (Builtin.append_ #[87, 87] ty #[.slice A n cap, .slice (some ad) 1 c]).run Try.prog w = .ok (.slice A' (n + 1) cap') w' ∧ OwnS w' base A' (n + 1) cap' (l ++ [s]) ∧ w.grownBy w' (Value.slice A n cap).ownBlock := by
  obtain ⟨i0, hi, hz0, hz1, hz2⟩ := info_parts info9
  have hnews : ∀ j u, (sv [s])[j]? = some u → w.cell? (ad.add j) = some u := by
    intro j u hu
    match j, hu with
    | 0, hu =>
      simp [sv] at hu
      subst hu
      simpa [Addr.add] using hcell
  obtain ⟨v', w', hrun, h2, h3, _, h5⟩ := run_append_own_at (P := Try.prog) w base 87 ty 9 i0 _ 1 16 Try.underlying87 hi hz0 hz1 hz2 rfl (by omega) (.slice A n cap) n (sv l) hown.2 ad 1 c (sv [s])
    (by simp [sv]) hnews (sv_one _) (by simp only [maxLen]; omega) (by omega) hbase
  have hf : ∃ A' cap', v' = .slice A' (n + 1) cap' := by
    rcases h2.2 with ⟨hv, h0⟩ | ⟨g, c', cur, hv, _⟩
    · omega
    · exact ⟨_, _, hv⟩
  obtain ⟨A', cap', rfl⟩ := hf
  exact ⟨A', cap', w', hrun, ⟨by rw [List.length_append, hown.1]; rfl, by rw [sv_append]; exact h2⟩, h3⟩
theorem wpList_appSS {ops : Array Oper} {rest : List Oper} {o : Oper} {a : Act} {Q : Exit → Act → World → Prop} (hgd : o.guard = none) (s x : Operand)
    (ho : o.op = .call { callee := .builtin .append, args := #[s, x], argTypes := #[87, 87] })
    (hs : a.eval s = .slice A n cap) (hown : OwnS w base A n cap l) (ad : Addr) (t : ByteArray) (c : Nat) (hx : a.eval x = .slice (some ad) 1 c) (hcell : w.cell? ad = some (.string t)) (hlen : n + 1 ≤ 1000000) (hbase : base ≤ w.heap.size)
    (h : ∀ A' cap' w', OwnS w' base A' (n + 1) cap' (l ++ [t]) → w.grownBy w' (Value.slice A n cap).ownBlock → wpList Try.prog ops Q rest (a.put o.dst (.slice A' (n + 1) cap')) w') : wpList Try.prog ops Q (o :: rest) a w := by
  obtain ⟨A', cap', w', hrun, h1, h2⟩ := run_appSS hown ad t c hcell hlen hbase o.type
  refine wpList_plain hgd fun K hK => ?_
  unfold Oper.wp execOp
  simp only [ho, resolve, invoke, builtin, Sem.run_bind, Sem.run_pure, Result.andThen_ok, List.map_toArray, List.map_cons, List.map_nil, hs, hx, hrun]
  exact hK _ _ (h A' cap' w' h1 h2)
end
end Go.Proofs.Ytaoiokilnmpniaa
