/- Words for slices whose elements take s cells each: a slice that reads as a list of cells, one that the call owns, append. -/
import Derived.Test.YtpompjihmcmmaaaRow
namespace Go.Proofs.Ytpompjihmcmmaaa
open Go.RowKit
/-- A slice of n elements of s cells each with this address reads as vs. -/
def RdC (s : Nat) (w : World) (A : Option Addr) (n : Nat) (vs : List Value) : Prop :=
  vs.length = n * s ∧ (0 < n → ∃ b o, A = some ⟨b, o, none⟩ ∧ b < w.heap.size ∧ ∀ (j : Nat) (v : Value), vs[j]? = some v → w.cell? ⟨b, o + j, none⟩ = some v)
section
variable {s : Nat} {w w' : World} {A : Option Addr} {n : Nat} {vs : List Value}
theorem RdC.nil (s : Nat) (w : World) (A : Option Addr) : RdC s w A 0 [] := ⟨by simp, by simp⟩
theorem RdC.keep (h : RdC s w A n vs) (hs : w.heap.size ≤ w'.heap.size) (hk : ∀ p : Addr, p.block < w.heap.size → w'.cell? p = w.cell? p) : RdC s w' A n vs := by
  refine ⟨h.1, fun hn => ?_⟩
  obtain ⟨b, o, rfl, hb, hc⟩ := h.2 hn
  exact ⟨b, o, rfl, by omega, fun j x hx => (hk _ hb).trans (hc j x hx)⟩
theorem RdC.below (h : RdC s w A n vs) (hb : Below w.heap.size w w') : RdC s w' A n vs := h.keep hb.size fun _ hp => hb.cell hp
theorem RdC.drew (h : RdC s w A n vs) : RdC s w.drew A n vs := h
theorem RdC.alloc (h : RdC s w A n vs) (o : Obj) : RdC s (w.alloc o) A n vs := h.below ((Below.refl _ _).alloc (Nat.le_refl _) o)
theorem RdC.take (h : RdC s w A n vs) {k : Nat} (hk : k ≤ n) : RdC s w A k (vs.take (k * s)) := by
  refine ⟨by rw [List.length_take, h.1, Nat.min_eq_left (Nat.mul_le_mul_right s hk)], fun hn => ?_⟩
  obtain ⟨b, o, rfl, hb, hc⟩ := h.2 (by omega)
  refine ⟨b, o, rfl, hb, fun j x hx => hc j x ?_⟩
  rw [List.getElem?_take] at hx
  split at hx
  · exact hx
  · cases hx
end
/-- A slice of the call's own that holds the cells vs. -/
def OwnC (s : Nat) (w : World) (base : Nat) (E : TypeId) (A : Option Addr) (n cap : Nat) (vs : List Value) : Prop :=
  w.ownsRow base E s (.slice A n cap) n vs
/-- An element type whose values take s cells: its zero and its bytes. -/
structure Many (s : Nat) (S E : TypeId) (z : Value) (bytes : Nat) : Prop where
  info : (Try.prog.info? E).map (fun i => (i.zero, i.size, i.bytes)) = some (some z, s, bytes)
  under : Try.prog.underlying S = some (.slice E)
  zero : z.cells.size = s
  pos : 0 < s
  few : bytes ≤ 1000
section
variable {s : Nat} {w w' : World} {base n cap : Nat} {A : Option Addr} {vs : List Value} {S E : TypeId} {z : Value} {bytes : Nat}
set_option maxRecDepth 100000 in
theorem OwnC.rd (h : OwnC s w base E A n cap vs) : RdC s w A n vs := by
  refine ⟨h.1, fun hn => ?_⟩
  rcases h.2 with ⟨hv, h0⟩ | ⟨g, c, cur, hv, hb, hg, hnc, hc, hs, ht⟩
  · omega
  · injection hv with hA _ _
    subst hA
    refine ⟨g, 0, rfl, (Array.getElem?_eq_some_iff.1 hg).1, fun j x hx => ?_⟩
    rw [Nat.zero_add, cell_of_row w g j cur _ (0, 0) hg]
    rw [← ht, List.getElem?_take] at hx
    split at hx
    · simpa using hx
    · cases hx
theorem OwnC.grown (h : OwnC s w base E A n cap vs) {row : Option Nat} (hg : w.grownBy w' row) (hne : row = none ∨ ∀ g, row = some g → (Value.slice A n cap).ownBlock ≠ some g) : OwnC s w' base E A n cap vs := by
  refine World.ownsRow.kept h hg ?_
  rcases hb : (Value.slice A n cap).ownBlock with _ | g
  · exact .inl rfl
  · refine .inr fun e => ?_
    rcases hne with e2 | e2
    · rw [e2] at e; cases e
    · exact e2 g e.symm hb
theorem OwnC.below (h : OwnC s w base E A n cap vs) (hb : Below w.heap.size w w') : OwnC s w' base E A n cap vs := h.grown (grown_of_below hb) (.inl rfl)
theorem OwnC.alloc (h : OwnC s w base E A n cap vs) (o : Obj) : OwnC s (w.alloc o) base E A n cap vs := h.below ((Below.refl _ _).alloc (Nat.le_refl _) o)
theorem OwnC.drew (h : OwnC s w base E A n cap vs) : OwnC s w.drew base E A n cap vs := h
theorem OwnC.none_ (s : Nat) (w : World) (base : Nat) (E : TypeId) : OwnC s w base E none 0 0 [] := World.ownsRow_nil w base E s
theorem OwnC.blk (h : OwnC s w base E A n cap vs) : ∀ g, (Value.slice A n cap).ownBlock = some g → base ≤ g ∧ g < w.heap.size := World.ownsRow.lt h
theorem OwnC.fits (h : OwnC s w base E A n cap vs) : n ≤ cap := by
  rcases h.2 with ⟨hv, hn⟩ | ⟨g, c, cur, hv, _, _, hc, _⟩
  · omega
  · injection hv with _ _ h3
    omega
theorem OwnC.form (h : OwnC s w base E A n cap vs) (hn : 0 < n) : ∃ g, A = some ⟨g, 0, none⟩ ∧ base ≤ g ∧ g < w.heap.size := by
  rcases h.2 with ⟨hv, h0⟩ | ⟨g, c, cur, hv, hb, hg, _⟩
  · omega
  · injection hv with hA _ _
    exact ⟨g, hA, hb, (Array.getElem?_eq_some_iff.1 hg).1⟩
theorem OwnC.base_ {base' : Nat} (h : OwnC s w base E A n cap vs) (hb : base' ≤ base) : OwnC s w base' E A n cap vs := by
  refine ⟨h.1, ?_⟩
  rcases h.2 with hn | ⟨g, c, cur, hv, hbg, rest⟩
  · exact .inl hn
  · exact .inr ⟨g, c, cur, hv, Nat.le_trans hb hbg, rest⟩
/-- What append leaves. -/
structure GrewC (s : Nat) (w w' : World) (base : Nat) (E : TypeId) (A A' : Option Addr) (n cap n' cap' : Nat) (vs : List Value) : Prop where
  own : OwnC s w' base E A' n' cap' vs
  grew : w.grownBy w' (Value.slice A n cap).ownBlock
  blk : (Value.slice A' n' cap').ownBlock = (Value.slice A n cap).ownBlock ∨ (Value.slice A' n' cap').ownBlock = some w.heap.size
theorem GrewC.below {a : World} {n' cap' : Nat} {A' : Option Addr} {B : Nat} (h : GrewC s w w' base E A A' n cap n' cap' vs) (hb : Below B a w) (hB : B ≤ w.heap.size) (hr : ∀ g, (Value.slice A n cap).ownBlock = some g → B ≤ g) : Below B a w' :=
  hb.grown h.grew hB hr
set_option maxRecDepth 100000 in
theorem run_appC (O : Many s S E z bytes) (hown : OwnC s w base E A n cap vs) (ad : Addr) (m c : Nat) (news : List Value) (h1 : ∀ u ∈ news, u.oneCell' = true) (hr : RdC s w (some ad) m news) (hlen : n + m ≤ 1000000) (hbase : base ≤ w.heap.size) (ty : TypeId) :
    ∃ A' cap' w', (Builtin.append_ #[S, S] ty #[.slice A n cap, .slice (some ad) m c]).run Try.prog w = .ok (.slice A' (n + m) cap') w' ∧ GrewC s w w' base E A A' n cap (n + m) cap' (vs ++ news) := by
  obtain ⟨i0, hi, hz0, hz1, hz2⟩ := info_parts O.info
  have hnews : ∀ j u, news[j]? = some u → w.cell? (ad.add j) = some u := by
    intro j u hu
    by_cases hm : 0 < m
    · obtain ⟨b, o, he, _, hc⟩ := hr.2 hm
      injection he with he
      subst he
      have e : (⟨b, o, none⟩ : Addr).add j = ⟨b, o + j, none⟩ := by unfold Addr.add; split <;> simp_all
      rw [e]
      exact hc j _ hu
    · have h00 : m = 0 := by omega
      subst h00
      have h0 : news = [] := List.eq_nil_of_length_eq_zero (by rw [hr.1]; simp)
      subst h0
      simp at hu
  have hbytes : (n + m) * bytes ≤ 140737488355328 := by
    have : (n + m) * bytes ≤ 1000000 * 1000 := Nat.mul_le_mul hlen O.few
    omega
  obtain ⟨v', w', hrun, h2, h3, _, h5⟩ := run_append_own_at (P := Try.prog) w base S ty E i0 z s bytes O.under hi hz0 hz1 hz2 O.zero O.pos (.slice A n cap) n vs hown ad m c news
    hr.1 hnews h1 (by simp only [maxLen]; omega) hbytes hbase
  have hf : ∃ A' cap', v' = .slice A' (n + m) cap' := by
    rcases h2.2 with ⟨hv, h0⟩ | ⟨g, c', cur, hv, _⟩
    · exact ⟨none, 0, by rw [hv, h0]⟩
    · exact ⟨_, _, hv⟩
  obtain ⟨A', cap', rfl⟩ := hf
  exact ⟨A', cap', w', hrun, ⟨h2, h3, h5⟩⟩
theorem wpList_appC (O : Many s S E z bytes) {ops : Array Oper} {rest : List Oper} {o : Oper} {a : Act} {Q : Exit → Act → World → Prop} (hgd : o.guard = none) (s1 x : Operand)
    (ho : o.op = .call { callee := .builtin .append, args := #[s1, x], argTypes := #[S, S] })
    (hs : a.eval s1 = .slice A n cap) (hown : OwnC s w base E A n cap vs) (ad : Addr) (m c : Nat) (news : List Value) (h1 : ∀ u ∈ news, u.oneCell' = true) (hx : a.eval x = .slice (some ad) m c) (hr : RdC s w (some ad) m news) (hlen : n + m ≤ 1000000) (hbase : base ≤ w.heap.size)
    (h : ∀ A' cap' w', GrewC s w w' base E A A' n cap (n + m) cap' (vs ++ news) → wpList Try.prog ops Q rest (a.put o.dst (.slice A' (n + m) cap')) w') : wpList Try.prog ops Q (o :: rest) a w := by
  obtain ⟨A', cap', w', hrun, hg⟩ := run_appC O hown ad m c news h1 hr hlen hbase o.type
  refine wpList_plain hgd fun K hK => ?_
  unfold Oper.wp execOp
  simp only [ho, resolve, invoke, builtin, Sem.run_bind, Sem.run_pure, Result.andThen_ok, List.map_toArray, List.map_cons, List.map_nil, hs, hx, hrun]
  exact hK _ _ (h A' cap' w' hg)
end
/-- A new row of cells reads as it. -/
theorem rdc_new (s : Nat) (w : World) (E : TypeId) (vs : List Value) (n : Nat) (hn : vs.length = n * s) (fr : Nat × Nat) : RdC s (w.alloc (.cells vs.toArray E fr)) (some ⟨w.heap.size, 0, none⟩) n vs := by
  refine ⟨hn, fun _ => ⟨w.heap.size, 0, rfl, by simp, fun j x hx => ?_⟩⟩
  rw [Nat.zero_add, World.cell?_alloc_mark]
  simpa using hx
end Go.Proofs.Ytpompjihmcmmaaa
