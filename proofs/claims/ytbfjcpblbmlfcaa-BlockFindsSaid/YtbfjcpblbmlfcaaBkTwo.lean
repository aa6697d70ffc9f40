/- Two rows of bytes side by side, and an entry in a cell of its own, while Encode lays them; what Encode lays. -/
import Derived.Test.YtbfjcpblbmlfcaaBkMay
import Derived.Test.YtbfjcpblbmlfcaaBkAlike
import Derived.Test.YtbfjcpblbmlfcaaBkFix
import Derived.Deep.AppendLies
namespace Go.Proofs.Ytbfjcpblbmlfcaa
open Go.RowKit
namespace Bk
/-- How much of its key an entry shares. -/
def shr (es : List (En × Sl)) (k : Nat) (e : En) : Nat := if k % 8 = 0 then 0 else match es[k - 1]? with
  | some q => preS q.1.key e.key
  | none => 0
def gone (e : En) : Nat := if e.del then 1 else 0
/-- An entry's bytes. -/
def ent (s : Nat) (e : En) : List Nat := Cd.num s ++ Cd.text (e.key.extract s e.key.size) ++ Cd.num (e.seq.toNat * 2 + gone e) ++ (if e.del then [] else Cd.text (str e.val))
/-- The bytes of the first k entries. -/
def enc (es : List (En × Sl)) : Nat → List Nat
  | 0 => []
  | k + 1 => enc es k ++ (match es[k]? with
    | some p => ent (shr es k p.1) p.1
    | none => [])
/-- The restarts of the first k entries. -/
def rst (es : List (En × Sl)) : Nat → List Nat
  | 0 => []
  | k + 1 => rst es k ++ (if k % 8 = 0 then (Cd.lowTo (enc es k).length 2).reverse else [])
/-- A block. -/
def out (es : List (En × Sl)) : List Nat := enc es es.length ++ rst es es.length ++ (Cd.lowTo es.length 1).reverse
theorem enc_next {es : List (En × Sl)} {k : Nat} {p : En × Sl} (h : es[k]? = some p) : enc es (k + 1) = enc es k ++ ent (shr es k p.1) p.1 := by
  show enc es k ++ _ = _
  rw [h]
theorem shr_le (es : List (En × Sl)) (k : Nat) (e : En) : shr es k e ≤ e.key.size := by
  unfold shr
  split
  · omega
  · split
    · rename_i q _
      have := (pre_le (bs q.1.key) (bs e.key)).2
      rw [bs_length] at this
      exact this
    · omega
end Bk
theorem Holds.grown {w w' : World} {b : Nat} {cs : List Value} (k : Holds w b cs) {row : Option Nat} (hg : w.grownBy w' row) (hne : row ≠ some b) : Holds w' b cs :=
  ⟨Nat.lt_of_lt_of_le k.1 hg.size, fun i v h => (World.grownBy.cell_far hg ⟨b, i, none⟩ k.1 (fun e => hne e.symm)).trans (k.2.1 i v h), fun i => (World.frozen?_of_block (a := ⟨b, i, none⟩) (hg.block b k.1 (fun e => hne e.symm))).trans (k.2.2 i)⟩
/-- Two rows of bytes side by side. -/
structure Two (a v : World) (A : Option Addr) (n c : Nat) (X : List Nat) (B : Option Addr) (m d : Nat) (Y : List Nat) : Prop where
  bel : Below a.heap.size a v
  x : Own v a.heap.size A n c X
  y : Own v a.heap.size B m d Y
  ne : ∀ g, (Value.slice A n c).ownBlock = some g → (Value.slice B m d).ownBlock ≠ some g
/-- Two rows of bytes, and cells beside them. -/
structure Thr (a v : World) (A : Option Addr) (n c : Nat) (X : List Nat) (B : Option Addr) (m d : Nat) (Y : List Nat) (b : Nat) (cs : List Value) : Prop where
  two : Two a v A n c X B m d Y
  box : Holds v b cs
  nx : (Value.slice A n c).ownBlock ≠ some b
  ny : (Value.slice B m d).ownBlock ≠ some b
section
variable {a v v' : World} {A A' B B' : Option Addr} {n c m d c' d' k : Nat} {X Y Z : List Nat} {b : Nat} {cs : List Value}
theorem Two.size (h : Two a v A n c X B m d Y) : a.heap.size ≤ v.heap.size := h.bel.size
theorem Two.keep (h : Two a v A n c X B m d Y) (hb : Below v.heap.size v v') : Two a v' A n c X B m d Y := ⟨below_next h.bel hb, h.x.below hb, h.y.below hb, h.ne⟩
theorem Two.swap (h : Two a v A n c X B m d Y) : Two a v B m d Y A n c X := ⟨h.bel, h.y, h.x, fun g h1 h2 => h.ne g h2 h1⟩
theorem Two.app (h : Two a v A n c X B m d Y) (hg : Grew v v' a.heap.size A A' n c (n + k) c' (X ++ Z)) : Two a v' A' (n + k) c' (X ++ Z) B m d Y :=
  ⟨hg.below h.bel h.size fun g hgg => (h.x.blk g hgg).1, hg.own, h.y.grown hg.grew (.inr fun g e => h.ne g e), fun g hg1 hg2 => by
    rcases hg.blk with e | e
    · rw [e] at hg1
      exact h.ne g hg1 hg2
    · rw [e] at hg1
      injection hg1 with hg1
      have := (h.y.blk g hg2).2
      omega⟩
theorem Two.open_ (h : Two a v A n c X B m d Y) (cs : Array Value) (t : TypeId) : Thr a (v.alloc (.cells cs t)) A n c X B m d Y v.heap.size cs.toList :=
  ⟨h.keep ((Below.refl _ _).alloc (Nat.le_refl _) _), Holds.new v cs t, fun e => by have := (h.x.blk _ e).2; omega, fun e => by have := (h.y.blk _ e).2; omega⟩
theorem Thr.size (h : Thr a v A n c X B m d Y b cs) : a.heap.size ≤ v.heap.size := h.two.size
theorem Thr.keep (h : Thr a v A n c X B m d Y b cs) (hb : Below v.heap.size v v') : Thr a v' A n c X B m d Y b cs := ⟨h.two.keep hb, h.box.below hb, h.nx, h.ny⟩
theorem Thr.appX (h : Thr a v A n c X B m d Y b cs) (hg : Grew v v' a.heap.size A A' n c (n + k) c' (X ++ Z)) : Thr a v' A' (n + k) c' (X ++ Z) B m d Y b cs :=
  ⟨h.two.app hg, h.box.grown hg.grew h.nx, fun e => by
    rcases hg.blk with e2 | e2
    · rw [e2] at e
      exact h.nx e
    · rw [e2] at e
      injection e with e
      have := h.box.1
      omega, h.ny⟩
theorem Thr.swap (h : Thr a v A n c X B m d Y b cs) : Thr a v B m d Y A n c X b cs := ⟨h.two.swap, h.box, h.ny, h.nx⟩
theorem Thr.appY (h : Thr a v A n c X B m d Y b cs) (hg : Grew v v' a.heap.size B B' m d (m + k) d' (Y ++ Z)) : Thr a v' A n c X B' (m + k) d' (Y ++ Z) b cs := (h.swap.appX hg).swap
end
theorem Cd.text_length (s : ByteArray) : (Cd.text s).length ≤ s.size + 11 := by
  have := Cd.num_length s.size
  unfold Cd.text
  rw [List.length_append, bs_length]
  omega
namespace Bk
theorem ent_length (s : Nat) (e : En) (h : ok e = true) : (ent s e).length ≤ 500 := by
  unfold ok at h
  simp only [decide_eq_true_eq] at h
  have h1 := Cd.num_length s
  have h2 := Cd.text_length (e.key.extract s e.key.size)
  have h3 := Cd.num_length (e.seq.toNat * 2 + gone e)
  have h4 := Cd.text_length (str e.val)
  have h5 : (e.key.extract s e.key.size).size ≤ e.key.size := by rw [ByteArray.size_extract]; omega
  have h6 : (str e.val).size = e.val.length := by simp [str, ByteArray.size]
  unfold ent
  split <;> simp only [List.length_append, List.length_nil] <;> omega
set_option maxRecDepth 100000 in
theorem enc_length {es : List (En × Sl)} (h : upto es es.length) (k : Nat) : (enc es k).length ≤ k * 500 := by
  induction k with
  | zero => simp [enc]
  | succ k ih =>
    show (enc es k ++ _).length ≤ _
    rw [List.length_append]
    split
    · rename_i p hp
      have := ent_length (shr es k p.1) p.1 (h.1 k p (List.getElem?_eq_some_iff.1 hp).1 hp)
      omega
    · simp only [List.length_nil]
      omega
theorem rst_length (es : List (En × Sl)) (k : Nat) : (rst es k).length ≤ k * 2 := by
  induction k with
  | zero => simp [rst]
  | succ k ih =>
    show (rst es k ++ _).length ≤ _
    rw [List.length_append]
    split
    · rw [List.length_reverse, Cd.lowTo_length]
      omega
    · simp only [List.length_nil]
      omega
end Bk
end Go.Proofs.Ytbfjcpblbmlfcaa
