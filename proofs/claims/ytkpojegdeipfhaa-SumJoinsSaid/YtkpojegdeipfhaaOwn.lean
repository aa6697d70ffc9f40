/- Slices of bytes that a call owns: made, grown by append, and read; and the law of append in a walk over bytes. -/
import Derived.Test.YtkpojegdeipfhaaSums
import Derived.OwnWalk
import Derived.Laws.MakeOwn
namespace Go.Proofs.Ytkpojegdeipfhaa
open Go.RowKit
theorem info5 : (Try.prog.info? 5).map (fun i => (i.zero, i.size, i.bytes)) = some (some (.int .u8 0), 1, 1) := by kernel_rfl
/-- A slice of the call's own that holds the bytes l. -/
def Own (w : World) (base : Nat) (A : Option Addr) (n cap : Nat) (l : List Nat) : Prop :=
  l.length = n ∧ (∀ x ∈ l, x < 256) ∧ w.ownsRow base 5 1 (.slice A n cap) n (bv l)
section
variable {w w' : World} {base n cap : Nat} {A : Option Addr} {l : List Nat}
theorem Own.rd (h : Own w base A n cap l) : Rd w A n l := Rd.own h.2.2 h.2.1
theorem Own.grown (h : Own w base A n cap l) {row : Option Nat} (hg : w.grownBy w' row) (hne : row = none ∨ ∀ g, row = some g → (Value.slice A n cap).ownBlock ≠ some g) : Own w' base A n cap l := by
  refine ⟨h.1, h.2.1, h.2.2.kept hg ?_⟩
  rcases hb : (Value.slice A n cap).ownBlock with _ | g
  · exact .inl rfl
  · refine .inr fun e => ?_
    rcases hne with e2 | e2
    · rw [e2] at e; cases e
    · exact e2 g e.symm hb
theorem grown_of_below (h : Below w.heap.size w w') : w.grownBy w' none := ⟨h.os, h.tape, h.output, h.size, fun k hk _ => h.block k hk⟩
theorem Own.below (h : Own w base A n cap l) (hb : Below w.heap.size w w') : Own w' base A n cap l := h.grown (grown_of_below hb) (.inl rfl)
theorem Own.alloc (h : Own w base A n cap l) (o : Obj) : Own (w.alloc o) base A n cap l := h.below ((Below.refl _ _).alloc (Nat.le_refl _) o)
theorem Own.none_ (w : World) (base : Nat) : Own w base none 0 0 [] := ⟨rfl, by simp, World.ownsRow_nil w base 5 1⟩
theorem Own.made (w : World) (c : Nat) (hb : base ≤ w.heap.size) (hm : c ≤ 100000000) : Own (w.alloc (.cells (madeCells #[.int .u8 0] c) 5)) base (some ⟨w.heap.size, 0, none⟩) 0 c [] :=
  ⟨rfl, by simp, World.ownsRow_made w _ c hb (by simp only [maxLen]; omega) (by rw [size_madeCells, Nat.mul_one])⟩
theorem Own.lit (w : World) (l : List Nat) (hl : ∀ x ∈ l, x < 256) (hb : base ≤ w.heap.size) (hm : l.length ≤ 100000000) : Own (w.alloc (.cells (bv l).toArray 5)) base (some ⟨w.heap.size, 0, none⟩) l.length l.length l :=
  ⟨rfl, hl, by
    have := World.ownsRow_lit (base := base) (e := 5) (size := 1) w (bv l).toArray l.length hb (by simp only [maxLen]; omega) (by simp [bv])
    simpa using this⟩
theorem Own.blk (h : Own w base A n cap l) : ∀ g, (Value.slice A n cap).ownBlock = some g → base ≤ g ∧ g < w.heap.size := h.2.2.lt
/-- What append leaves. -/
structure Grew (w w' : World) (base : Nat) (A A' : Option Addr) (n cap n' cap' : Nat) (l : List Nat) : Prop where
  own : Own w' base A' n' cap' l
  grew : w.grownBy w' (Value.slice A n cap).ownBlock
  blk : (Value.slice A' n' cap').ownBlock = (Value.slice A n cap).ownBlock ∨ (Value.slice A' n' cap').ownBlock = some w.heap.size
theorem Grew.below {a : World} {n' cap' : Nat} {A' : Option Addr} {B : Nat} (h : Grew w w' base A A' n cap n' cap' l) (hb : Below B a w) (hB : B ≤ w.heap.size) (hr : ∀ g, (Value.slice A n cap).ownBlock = some g → B ≤ g) : Below B a w' :=
  hb.grown h.grew hB hr
theorem run_appB (hown : Own w base A n cap l) (B : Option Addr) (m c : Nat) (news : List Nat) (hr : Rd w B m news) (hlen : n + m ≤ 100000000) (hbase : base ≤ w.heap.size) (ty : TypeId) :
    ∃ A' cap' w', (Builtin.append_ #[22, 22] ty #[.slice A n cap, .slice B m c]).run Try.prog w = .ok (.slice A' (n + m) cap') w' ∧ Grew w w' base A A' n cap (n + m) cap' (l ++ news) := by
  obtain ⟨i0, hi, hz0, hz1, hz2⟩ := info_parts info5
  have hbytes : ∀ x ∈ l ++ news, x < 256 := fun x hx => (List.mem_append.1 hx).elim (hown.2.1 x) (hr.2.1 x)
  have hlen2 : (l ++ news).length = n + m := by rw [List.length_append, hown.1, hr.1]
  by_cases hB : ∃ ad, B = some ad
  · obtain ⟨ad, rfl⟩ := hB
    have hnews : ∀ j u, (bv news)[j]? = some u → w.cell? (ad.add j) = some u := by
      intro j u hu
      by_cases hm : 0 < m
      · obtain ⟨b, o, he, _, hc⟩ := hr.2.2 hm
        injection he with he
        subst he
        have hj : j < news.length := by
          have := (List.getElem?_eq_some_iff.1 hu).1
          simpa [bv] using this
        have hx : news[j]? = some news[j] := List.getElem?_eq_getElem hj
        have e : (⟨b, o, none⟩ : Addr).add j = ⟨b, o + j, none⟩ := by unfold Addr.add; split <;> simp_all
        rw [e, hc j _ hx]
        rw [bv_at hx] at hu
        exact hu
      · have h0 : news = [] := List.eq_nil_of_length_eq_zero (by rw [hr.1]; omega)
        subst h0
        simp [bv] at hu
    obtain ⟨v', w', hrun, h2, h3, _, h5⟩ := run_append_own_at (P := Try.prog) w base 22 ty 5 i0 _ 1 1 Try.underlying22 hi hz0 hz1 hz2 rfl (by omega) (.slice A n cap) n (bv l) hown.2.2 ad m c (bv news)
      (by rw [bv_length, hr.1]; omega) hnews (bv_one _) (by simp only [maxLen]; omega) (by omega) hbase
    have hf : ∃ A' cap', v' = .slice A' (n + m) cap' := by
      rcases h2.2 with ⟨hv, h0⟩ | ⟨g, c', cur, hv, _⟩
      · exact ⟨none, 0, by rw [hv, h0]⟩
      · exact ⟨_, _, hv⟩
    obtain ⟨A', cap', rfl⟩ := hf
    exact ⟨A', cap', w', hrun, ⟨hlen2, hbytes, by rw [bv_append]; exact h2⟩, h3, h5⟩
  · have hB : B = none := by
      rcases B with _ | ad
      · rfl
      · exact absurd ⟨ad, rfl⟩ hB
    subst hB
    have hm : m = 0 := by
      rcases Nat.eq_zero_or_pos m with h0 | h0
      · exact h0
      · obtain ⟨b, o, he, _⟩ := hr.2.2 h0
        cases he
    subst hm
    have h0 : news = [] := List.eq_nil_of_length_eq_zero hr.1
    subst h0
    have hrun : (Builtin.append_ #[22, 22] ty #[.slice A n cap, .slice none 0 c]).run Try.prog w = .ok (.slice A n cap) w := by
      rcases hown.2.2.2 with ⟨hv, hn0⟩ | ⟨g, c', cur, hv, _, _, hnc, _⟩
      · rw [hv]
        simp [Builtin.append_, run_underlying Try.underlying22, sizeOf, typeInfo, hi, Builtin.lenOf, Builtin.firstCells]
      · rw [hv]
        simp [Builtin.append_, run_underlying Try.underlying22, sizeOf, typeInfo, hi, Builtin.lenOf, Builtin.firstCells, hnc, storeCells]
    exact ⟨A, cap, w, hrun, ⟨by simpa using hown, World.grownBy.refl w _, .inl rfl⟩⟩
theorem wpList_appB {ops : Array Oper} {rest : List Oper} {o : Oper} {a : Act} {Q : Exit → Act → World → Prop} (hgd : o.guard = none) (s x : Operand)
    (ho : o.op = .call { callee := .builtin .append, args := #[s, x], argTypes := #[22, 22] })
    (hs : a.eval s = .slice A n cap) (hown : Own w base A n cap l) (B : Option Addr) (m c : Nat) (news : List Nat) (hx : a.eval x = .slice B m c) (hr : Rd w B m news) (hlen : n + m ≤ 100000000) (hbase : base ≤ w.heap.size)
    (h : ∀ A' cap' w', Grew w w' base A A' n cap (n + m) cap' (l ++ news) → wpList Try.prog ops Q rest (a.put o.dst (.slice A' (n + m) cap')) w') : wpList Try.prog ops Q (o :: rest) a w := by
  obtain ⟨A', cap', w', hrun, hg⟩ := run_appB hown B m c news hr hlen hbase o.type
  refine wpList_plain hgd fun K hK => ?_
  unfold Oper.wp execOp
  simp only [ho, resolve, invoke, builtin, Sem.run_bind, Sem.run_pure, Result.andThen_ok, List.map_toArray, List.map_cons, List.map_nil, hs, hx, hrun]
  exact hK _ _ (h A' cap' w' hg)
end
end Go.Proofs.Ytkpojegdeipfhaa
