/- Two Mems that go their own ways. -/
import Derived.Test.YtfmbnoafmnbhcaaMmRan
namespace Go.Proofs.Ytfmbnoafmnbhcaa
open Go.RowKit
theorem few_apart2 {S : Nat → Prop} {w v : World} {A B : Option Addr} {n : Nat} {es : List Bk.P} (h0 : RdI w A n es) (hm : ∀ k, S k → w.heap.size ≤ k) (hr : RdE v B (Bk.few es).length (Bk.few es)) (hB : 0 < (Bk.few es).length → ∀ g o, B = some ⟨g, o, none⟩ → ∀ k, S k → k < g) : RdS S v B (Bk.few es).length (Bk.few es) := by
  refine ⟨hr, fun h1 g o e hs => ?_, fun q hq h1 g o e hs => ?_⟩
  · have := hB h1 g o e g hs
    omega
  · obtain ⟨hq1, _⟩ := Bk.few_mem hq
    obtain ⟨b', o', e', hb', _⟩ := (h0.2.2 q hq1).1.2.2 h1
    rw [e] at e'
    injection e' with e'
    injection e' with e'
    have := hm g hs
    omega
/-- Two Mems and the document's, each beside its own. -/
structure Fk (U : Nat → Prop) (w wr : World) (m gx : Nat) (T : Bk.Tr) (top : Int) (A : Option Addr) (c : Nat) (es : List Bk.P) (k : Nat) (o gy : Nat) (To : Bk.Tr) (topo : Int) (Ao : Option Addr) (co : Nat) (eso : List Bk.P) (ko : Nat) : Prop where
  p : Tw U wr m T top A es k
  q : Tw U wr o To topo Ao eso ko
  bx : Holds wr gx [.slice A es.length c, .int .i64 top]
  by_ : Holds wr gy [.slice Ao eso.length co, .int .i64 topo]
  low : ∀ k, U k → k < wr.heap.size
  below : Below w.heap.size w wr
theorem Tw.grown {U : Nat → Prop} {w w' : World} {o m : Nat} {T : Bk.Tr} {top : Int} {A : Option Addr} {es : List Bk.P} {k : Nat} (h : Tw U w o T top A es k) (hg : w.grownBy w' (some m)) (hm : U m) (hne : m ≠ o) : Tw U w' o T top A es k := by
  obtain ⟨p, h1, h2, h3⟩ := h.mem
  have hs : Sm U w w' := Sm.of_grown hg hm
  exact ⟨⟨p, h1.grown hg (fun e => by injection e with e; exact hne e), h2.sm hs, h3⟩, h.row.sm hs, h.same, h.inv, h.few, h.low⟩
theorem sm_set2 {U : Nat → Prop} (w : World) (g : Nat) (x y : Value) (hg : U g) : Sm U w ((w.setCell ⟨g, 0, none⟩ x).setCell ⟨g, 1, none⟩ y) := (Sm.of_grown (grown_setCell w ⟨g, 0, none⟩ _) hg).trans (Sm.of_grown (grown_setCell _ ⟨g, 1, none⟩ _) hg)
theorem Fk.swap {U : Nat → Prop} {w wr : World} {m gx : Nat} {T : Bk.Tr} {top : Int} {A : Option Addr} {c : Nat} {es : List Bk.P} {k : Nat} {o gy : Nat} {To : Bk.Tr} {topo : Int} {Ao : Option Addr} {co : Nat} {eso : List Bk.P} {ko : Nat} (h : Fk U w wr m gx T top A c es k o gy To topo Ao co eso ko) : Fk U w wr o gy To topo Ao co eso ko m gx T top A c es k := ⟨h.q, h.p, h.by_, h.bx, h.low, h.below⟩
theorem Tw.later {S U : Nat → Prop} {w : World} {m : Nat} {t : Bk.Tr} {top : Int} {A : Option Addr} {es : List Bk.P} {k : Nat} (h : Tw S w m t top A es k) (hU : ∀ k, U k → S k ∨ w.heap.size ≤ k) (hm : U m) : Tw U w m t top A es k := by
  obtain ⟨p, h1, h2, _⟩ := h.mem
  exact ⟨⟨p, h1, h2.later hU, hm⟩, h.row.later hU, h.same, h.inv, h.few, h.low⟩
/-- A round. -/
theorem Fk.step {U : Nat → Prop} {w wr w5 wc : World} {m gx : Nat} {T : Bk.Tr} {top : Int} {A : Option Addr} {c : Nat} {es : List Bk.P} {k : Nat} {o gy : Nat} {To : Bk.Tr} {topo : Int} {Ao : Option Addr} {co : Nat} {eso : List Bk.P} {ko : Nat} {T' : Bk.Tr} {top' rtop : Int} {A' : Option Addr} {c' g9 : Nat} {es' : List Bk.P} {x : Bk.P}
    (h : Fk U w wr m gx T top A c es k o gy To topo Ao co eso ko) (hmo : m ≠ o) (hxy : gx ≠ gy) (hmx : m ≠ gx) (hmy : m ≠ gy) (hox : o ≠ gx) (hUm : U m) (hUx : U gx) (hwx : w.heap.size ≤ gx) (hwm : w.heap.size ≤ m) (hx : Bk.At wr x)
    (hM : Bk.IsM U w5 m T' top') (hg : wr.grownBy w5 (some m)) (hno : Bk.putE T top x ≠ 0 → T' = T ∧ top' = top) (hyes : Bk.putE T top x = 0 → ∃ V c, T' = Bk.Tr.ins (x.1, V, x.2.2.1, c) T ∧ top' = x.1.seq) (hI : InBox U w5 wc g9 A' c' es es' top rtop x) :
    Fk U w ((wc.setCell ⟨gx, 0, none⟩ (.slice A' es'.length c')).setCell ⟨gx, 1, none⟩ (.int .i64 rtop)) m gx T' top' A' c' es' (k + 1) o gy To topo Ao co eso ko := by
  obtain ⟨hp, hr⟩ := h.p.put hx hM hno hyes hI.row hI.below hI.no hI.yes
  refine ⟨(hp.set gx 0 _ hUx hmx).set gx 1 _ hUx hmx, ((((h.q.grown hg hUm hmo).below hI.below).set gx 0 _ hUx hox).set gx 1 _ hUx hox), ?_, ?_, fun j hj => ?_, ?_⟩
  · have := ((h.bx.grown hg (fun e => by injection e with e; exact hmx e)).below hI.below).set2 (.slice A' es'.length c') (.int .i64 rtop)
    rw [hr] at this ⊢
    exact this
  · exact (((h.by_.grown hg (fun e => by injection e with e; exact hmy e)).below hI.below).other (fun e => hxy e.symm)).other (fun e => hxy e.symm)
  · have h1 := h.low j hj
    have h2 := hg.size
    have h3 := hI.below.size
    simp only [World.size_setCell]
    omega
  · have h2 := h.below.size
    exact below_set (below_set ((h.below.grown hg h2 (fun g e => by injection e with e; omega)).trans (hI.below.mono (Nat.le_trans h2 hg.size))) _ _ hwx) _ _ hwx
theorem RdS.step {U : Nat → Prop} {wr w5 wc : World} {m gx g9 : Nat} {A A' : Option Addr} {n c' : Nat} {es es' xs : List Bk.P} {top rtop : Int} {x : Bk.P} {y z : Value} (h : RdS U wr A n xs) (hUm : U m) (hUx : U gx) (hg : wr.grownBy w5 (some m)) (hI : InBox U w5 wc g9 A' c' es es' top rtop x) : RdS U ((wc.setCell ⟨gx, 0, none⟩ y).setCell ⟨gx, 1, none⟩ z) A n xs :=
  (((h.sm (Sm.of_grown hg hUm)).below hI.below)).sm (sm_set2 wc gx y z hUx)
end Go.Proofs.Ytfmbnoafmnbhcaa
