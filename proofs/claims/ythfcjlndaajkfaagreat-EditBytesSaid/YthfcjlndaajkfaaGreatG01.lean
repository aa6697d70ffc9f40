/- Words for bytes in memory, over whatever program has []uint8, uint8 and string among its types: a slice that reads as a list of numbers, a slice that the call owns, append, make, a byte written, bytes as a string; regions that draw their order; slices that came in. Words for slices whose elements take one cell each, over whatever element type: a slice that reads as a list of values, one that the call owns, append of values, make, a cell written. Words for slices whose elements take s cells each: a slice that reads as a list of cells, one that the call owns, append. Words for blocks of the call's own that hold plain cells: what they hold, that it stays, and what a store of three cells makes of them. append of values at a step of a region that draws its order. Tables of a version: rows of them; which keys are ahead; which tables meet a range. -/
import Derived.Test.YthfcjlndaajkfaaGreatRows
import Derived.WalkKit
import Derived.WalkLawsBesides
import Derived.ProofKit
import Derived.OpenShut
import Derived.ShutString
import Derived.ChangeOld
import Derived.Below
import Derived.Lib.Hide
import Derived.Laws.OwnMore
import Derived.Laws.MakeOwn
import Derived.Laws.BytesArg
import Derived.Laws.BitsAllLaws
import Derived.Deep.AppendLies
import Derived.Deep.Draws
import Derived.Maps.AppendAt
import Derived.OwnWalk
import Derived.BigRegion
import Derived.RegionTactic
import Derived.Deep.QuietTactic
import Derived.BigQuiet
import Derived.Deep.RegionWith
import Derived.Deep.RegionHeld
import Derived.Lib.SlBytesConst
import Derived.Laws.IdiomStrings
import Derived.Deep.RegionLaw
import Derived.Deep.RegionHeldLaw
namespace Go.Proofs.YthfcjlndaajkfaaGreat
open Go.ChangeShapes Go.WideShapes Go.ChangeAt Go.RowKit
/-- Bytes as values. -/
def bv (l : List Nat) : List Value := l.map fun (x : Nat) => .int .u8 (x : Int)
theorem bv_length (l : List Nat) : (bv l).length = l.length := by simp [bv]
theorem bv_at {l : List Nat} {j x : Nat} (h : l[j]? = some x) : (bv l)[j]? = some (.int .u8 (x : Int)) := by simp [bv, h]
theorem bv_append (a b : List Nat) : bv (a ++ b) = bv a ++ bv b := by simp [bv]
theorem bv_one (l : List Nat) : ∀ u ∈ bv l, u.oneCell' = true := by
  intro u hu
  obtain ⟨x, _, rfl⟩ := List.mem_map.1 hu
  rfl
/-- A slice of n bytes with this address reads as l. -/
def Rd (w : World) (A : Option Addr) (n : Nat) (l : List Nat) : Prop :=
  l.length = n ∧ (∀ x ∈ l, x < 256) ∧ (0 < n → ∃ b o, A = some ⟨b, o, none⟩ ∧ b < w.heap.size ∧ ∀ (j x : Nat), l[j]? = some x → w.cell? ⟨b, o + j, none⟩ = some (.int .u8 (x : Int)))
theorem Rd.nil (w : World) (A : Option Addr) : Rd w A 0 [] := ⟨rfl, by simp, by simp⟩
theorem Rd.keep {w w' : World} {A : Option Addr} {n : Nat} {l : List Nat} (h : Rd w A n l) (hs : w.heap.size ≤ w'.heap.size) (hk : ∀ p : Addr, p.block < w.heap.size → w'.cell? p = w.cell? p) : Rd w' A n l := by
  refine ⟨h.1, h.2.1, fun hn => ?_⟩
  obtain ⟨b, o, rfl, hb, hc⟩ := h.2.2 hn
  exact ⟨b, o, rfl, by omega, fun j x hx => (hk _ hb).trans (hc j x hx)⟩
theorem Rd.below {w w' : World} {A : Option Addr} {n : Nat} {l : List Nat} (h : Rd w A n l) (hb : Below w.heap.size w w') : Rd w' A n l := h.keep hb.size fun _ hp => hb.cell hp
theorem Rd.drew {w : World} {A : Option Addr} {n : Nat} {l : List Nat} (h : Rd w A n l) : Rd w.drew A n l := h
theorem Rd.alloc {w : World} {A : Option Addr} {n : Nat} {l : List Nat} (h : Rd w A n l) (o : Obj) : Rd (w.alloc o) A n l := h.below ((Below.refl _ _).alloc (Nat.le_refl _) o)
theorem Rd.len {w : World} {A : Option Addr} {n : Nat} {l : List Nat} (h : Rd w A n l) : l.length = n := h.1
theorem Rd.lt {w : World} {A : Option Addr} {n : Nat} {l : List Nat} (h : Rd w A n l) {x : Nat} (hx : x ∈ l) : x < 256 := h.2.1 x hx
theorem Rd.lt' {w : World} {A : Option Addr} {n : Nat} {l : List Nat} (h : Rd w A n l) {j x : Nat} (hx : l[j]? = some x) : x < 256 := h.2.1 x (List.mem_of_getElem? hx)
/-- The byte at a place that is there. -/
theorem Rd.at_ {w : World} {A : Option Addr} {n : Nat} {l : List Nat} (h : Rd w A n l) {k : Nat} (hk : k < n) : ∃ b o x, A = some ⟨b, o, none⟩ ∧ b < w.heap.size ∧ l[k]? = some x ∧ x < 256 ∧ w.cell? ⟨b, o + k, none⟩ = some (.int .u8 (x : Int)) := by
  obtain ⟨b, o, rfl, hb, hc⟩ := h.2.2 (by omega)
  have hx : l[k]? = some (l[k]'(by rw [h.1]; exact hk)) := List.getElem?_eq_getElem _
  exact ⟨b, o, _, rfl, hb, hx, h.lt' hx, hc k _ hx⟩
theorem Rd.take {w : World} {A : Option Addr} {n : Nat} {l : List Nat} (h : Rd w A n l) {k : Nat} (hk : k ≤ n) : Rd w A k (l.take k) := by
  refine ⟨by rw [List.length_take, h.1]; omega, fun x hx => h.2.1 x (List.mem_of_mem_take hx), fun hn => ?_⟩
  obtain ⟨b, o, rfl, hb, hc⟩ := h.2.2 (by omega)
  refine ⟨b, o, rfl, hb, fun j x hx => hc j x ?_⟩
  rw [List.getElem?_take] at hx
  split at hx
  · exact hx
  · cases hx
/-- A row that the call owns reads as its cells. -/
theorem Rd.own {w : World} {base n cap : Nat} {A : Option Addr} {l : List Nat} (h : w.ownsRow base 5 1 (.slice A n cap) n (bv l)) (hl : ∀ x ∈ l, x < 256) : Rd w A n l := by
  have hlen : l.length = n := by have := h.1; rw [bv_length] at this; omega
  refine ⟨hlen, hl, fun hn => ?_⟩
  rcases h.2 with ⟨hv, h0⟩ | ⟨g, c, cur, hv, hb, hg, hnc, hc, hs, ht⟩
  · omega
  · injection hv with hA _ _
    subst hA
    refine ⟨g, 0, rfl, (Array.getElem?_eq_some_iff.1 hg).1, fun j x hx => ?_⟩
    rw [Nat.zero_add, cell_of_row w g j cur 5 (0, 0) hg]
    have h1 : (bv l)[j]? = some (.int .u8 (x : Int)) := bv_at hx
    rw [← ht, List.getElem?_take] at h1
    split at h1
    · simpa using h1
    · cases h1
theorem take_snoc {l : List Nat} {k x : Nat} (h : l[k]? = some x) : l.take (k + 1) = l.take k ++ [x] := by
  rw [List.take_add_one, h]; rfl
theorem info5 : (Tryz.prog.info? 5).map (fun i => (i.zero, i.size, i.bytes)) = some (some (.int .u8 0), 1, 1) := by kernel_rfl
/-- A slice of the call's own that holds the bytes l. -/
def Own (w : World) (base : Nat) (A : Option Addr) (n cap : Nat) (l : List Nat) : Prop :=
  l.length = n ∧ (∀ x ∈ l, x < 256) ∧ w.ownsRow base 5 1 (.slice A n cap) n (bv l)
section
variable {w w' : World} {base n cap : Nat} {A : Option Addr} {l : List Nat}
theorem Own.rd (h : Own w base A n cap l) : Rd w A n l := Rd.own h.2.2 h.2.1
theorem Own.grown (h : Own w base A n cap l) {row : Option Nat} (hg : w.grownBy w' row) (hne : row = none ∨ ∀ g, row = some g → (Value.slice A n cap).ownBlock ≠ some g) : Own w' base A n cap l := by
  refine ⟨h.1, h.2.1, h.2.2.kept hg ?_⟩
  rcases hb : (Value.slice A n cap).ownBlock with _ | g
  · exact .inl rfl
  · refine .inr fun e => ?_
    rcases hne with e2 | e2
    · rw [e2] at e; cases e
    · exact e2 g e.symm hb
theorem grown_of_below (h : Below w.heap.size w w') : w.grownBy w' none := ⟨h.os, h.tape, h.output, h.size, fun k hk _ => h.block k hk⟩
theorem Own.below (h : Own w base A n cap l) (hb : Below w.heap.size w w') : Own w' base A n cap l := h.grown (grown_of_below hb) (.inl rfl)
theorem Own.alloc (h : Own w base A n cap l) (o : Obj) : Own (w.alloc o) base A n cap l := h.below ((Below.refl _ _).alloc (Nat.le_refl _) o)
theorem Own.none_ (w : World) (base : Nat) : Own w base none 0 0 [] := ⟨rfl, by simp, World.ownsRow_nil w base 5 1⟩
theorem Own.made (w : World) (c : Nat) (hb : base ≤ w.heap.size) (hm : c ≤ 100000000) : Own (w.alloc (.cells (madeCells #[.int .u8 0] c) 5)) base (some ⟨w.heap.size, 0, none⟩) 0 c [] :=
  ⟨rfl, by simp, World.ownsRow_made w _ c hb (by simp only [maxLen]; omega) (by rw [size_madeCells, Nat.mul_one])⟩
theorem Own.lit (w : World) (l : List Nat) (hl : ∀ x ∈ l, x < 256) (hb : base ≤ w.heap.size) (hm : l.length ≤ 100000000) : Own (w.alloc (.cells (bv l).toArray 5)) base (some ⟨w.heap.size, 0, none⟩) l.length l.length l :=
  ⟨rfl, hl, by
    have := World.ownsRow_lit (base := base) (e := 5) (size := 1) w (bv l).toArray l.length hb (by simp only [maxLen]; omega) (by simp [bv])
    simpa using this⟩
theorem Own.blk (h : Own w base A n cap l) : ∀ g, (Value.slice A n cap).ownBlock = some g → base ≤ g ∧ g < w.heap.size := h.2.2.lt
/-- What append leaves. -/
structure Grew (w w' : World) (base : Nat) (A A' : Option Addr) (n cap n' cap' : Nat) (l : List Nat) : Prop where
  own : Own w' base A' n' cap' l
  grew : w.grownBy w' (Value.slice A n cap).ownBlock
  blk : (Value.slice A' n' cap').ownBlock = (Value.slice A n cap).ownBlock ∨ (Value.slice A' n' cap').ownBlock = some w.heap.size
theorem Grew.below {a : World} {n' cap' : Nat} {A' : Option Addr} {B : Nat} (h : Grew w w' base A A' n cap n' cap' l) (hb : Below B a w) (hB : B ≤ w.heap.size) (hr : ∀ g, (Value.slice A n cap).ownBlock = some g → B ≤ g) : Below B a w' :=
  hb.grown h.grew hB hr
end
def GivesBytes (w : World) (l : List Nat) (e : Ending) (w' : World) : Prop :=
  ∃ A cap, e = .returned (.slice A l.length cap) ∧ Own w' w.heap.size A l.length cap l ∧ Below w.heap.size w w'
theorem own_len {w : World} {base n m cap : Nat} {A : Option Addr} {l : List Nat} (h : Own w base A n cap l) (e : n = m) : Own w base A m cap l := by subst e; exact h
/-- Bytes as a string. -/
def str (l : List Nat) : ByteArray := ⟨(l.map fun (n : Nat) => UInt8.ofNat n).toArray⟩
theorem str_inj {a b : List Nat} (ha : ∀ x ∈ a, x < 256) (hb : ∀ x ∈ b, x < 256) (h : str a = str b) : a = b := by
  have h1 : (a.map fun (n : Nat) => UInt8.ofNat n) = b.map fun (n : Nat) => UInt8.ofNat n := by
    have := congrArg (fun s : ByteArray => s.data.toList) h
    simpa [str] using this
  have back : ∀ l : List Nat, (∀ x ∈ l, x < 256) → (l.map fun (n : Nat) => UInt8.ofNat n).map UInt8.toNat = l := by
    intro l hl
    induction l with
    | nil => rfl
    | cons x t ih =>
      rw [List.map_cons, List.map_cons, ih (fun y hy => hl y (List.mem_cons_of_mem _ hy))]
      congr 1
      have := hl x (List.mem_cons_self ..)
      simp [UInt8.toNat_ofNat']
      omega
  rw [← back a ha, ← back b hb, h1]
theorem str_same {a b : List Nat} (h : a = b) : ((str a).toList == (str b).toList) = true := by rw [h]; simp
theorem str_other {a b : List Nat} (ha : ∀ x ∈ a, x < 256) (hb : ∀ x ∈ b, x < 256) (h : a ≠ b) : ((str a).toList == (str b).toList) = false := by
  rw [beq_eq_false_iff_ne]
  intro e
  rw [ByteArray.toList_eq, ByteArray.toList_eq] at e
  apply h
  refine str_inj ha hb ?_
  have e2 : (str a).data = (str b).data := by
    have := congrArg List.toArray e
    simpa using this
  cases ha' : str a
  cases hb' : str b
  rw [ha', hb'] at e2
  exact congrArg ByteArray.mk e2
theorem Own.drew {w : World} {base n cap : Nat} {A : Option Addr} {l : List Nat} (h : Own w base A n cap l) : Own w.drew base A n cap l := h
theorem rd_new (w : World) (l : List Nat) (hl : ∀ x ∈ l, x < 256) (fr : Nat × Nat) : Rd (w.alloc (.cells (bv l).toArray 5 fr)) (some ⟨w.heap.size, 0, none⟩) l.length l := by
  refine ⟨rfl, hl, fun hn => ⟨w.heap.size, 0, rfl, by simp, fun j x hx => ?_⟩⟩
  rw [Nat.zero_add, World.cell?_alloc_mark]
  have := bv_at hx
  simpa using this
theorem Own.cap {w : World} {base n cap : Nat} {A : Option Addr} {l : List Nat} (h : Own w base A n cap l) : n ≤ cap := by
  rcases h.2.2.2 with ⟨hv, hn⟩ | ⟨g, c, cur, hv, _, _, hc, _⟩
  · omega
  · injection hv with _ _ h3
    omega
theorem Own.set {w : World} {base n cap g : Nat} {l : List Nat} (h : Own w base (some ⟨g, 0, none⟩) n cap l) (j y : Nat) (hy : y < 256) : Own (w.setCell ⟨g, j, none⟩ (.int .u8 (y : Int))) base (some ⟨g, 0, none⟩) n cap (l.set j y) := by
  refine ⟨by rw [List.length_set]; exact h.1, fun x hx => ?_, ?_⟩
  · rcases List.mem_or_eq_of_mem_set hx with h1 | h1
    · exact h.2.1 x h1
    · omega
  · have e : bv (l.set j y) = (bv l).set j (.int .u8 (y : Int)) := by unfold bv; rw [List.map_set]
    rw [e]
    exact (h.2.2.stored j _).1
theorem Own.cell {w : World} {base n cap g : Nat} {l : List Nat} (h : Own w base (some ⟨g, 0, none⟩) n cap l) {j x : Nat} (hx : l[j]? = some x) : w.cell? ⟨g, j, none⟩ = some (.int .u8 (x : Int)) := by
  have hj : j < n := by have := (List.getElem?_eq_some_iff.1 hx).1; rw [h.1] at this; exact this
  rw [h.2.2.cellAt j (by omega)]
  exact bv_at hx
theorem Own.free {w : World} {base n cap g : Nat} {l : List Nat} (h : Own w base (some ⟨g, 0, none⟩) n cap l) (j : Nat) : w.frozen? ⟨g, j, none⟩ = false := h.2.2.frozenAt j
theorem Own.zeros (w : World) (base n : Nat) (hb : base ≤ w.heap.size) (hn : n ≤ 100000000) : Own (w.alloc (.cells (madeCells #[.int .u8 0] n) 5)) base (some ⟨w.heap.size, 0, none⟩) n n (List.replicate n 0) := by
  refine ⟨by simp, fun x hx => by rw [List.eq_of_mem_replicate hx]; omega, ?_⟩
  have h := World.ownsRow_lit (base := base) (e := 5) (size := 1) w (madeCells #[.int .u8 0] n) n hb (by simp only [maxLen]; omega) (by rw [size_madeCells, Nat.mul_one])
  rw [toList_madeCells_one] at h
  have e : bv (List.replicate n 0) = List.replicate n (.int .u8 0) := by simp [bv]
  rw [e]
  exact h
/-- A region that draws its order and whose operations leave a world of the class C: one walk serves every order. -/
theorem region_class {P : Program} {id : Nat} {Q : Exit → Act → World → Prop} {a : Act} {w : World} {l : List Oper} (C : World → Prop) (hm : P.follows .mixedOrders = true) (hB : Region.lexB .any l.toArray = true) (hC : C w.drew)
    (h : wpQuiet P l.toArray C (fun a' => ∀ w', C w' → Q .normal a' w') l a) : (Code.region id l.toArray true).wp P Q a w :=
  wp_region_quiet (C := C) hm hB hC (by simpa using h)
theorem calls_class {P : Program} {f : FuncId} {args : Array Value} {W w : World} {v : Value} (hq : Below W.heap.size W w) (h : Calls P f args w fun e w' => e = .returned v ∧ Below w.heap.size w w') :
    Calls P f args w fun e w' => e = .returned v ∧ Below W.heap.size W w' := h.mono fun _ _ ⟨he, hb⟩ => ⟨he, hq.trans (hb.mono hq.size)⟩
theorem Own.form {w : World} {base n cap : Nat} {A : Option Addr} {l : List Nat} (h : Own w base A n cap l) (hn : 0 < n) : ∃ g, A = some ⟨g, 0, none⟩ ∧ base ≤ g ∧ g < w.heap.size := by
  rcases h.2.2.2 with ⟨hv, h0⟩ | ⟨g, c, cur, hv, hb, hg, _⟩
  · omega
  · injection hv with hA _ _
    exact ⟨g, hA, hb, (Array.getElem?_eq_some_iff.1 hg).1⟩
/-- append onto a new, empty slice. -/
theorem Grew.fresh {w w1 : World} {A1 : Option Addr} {n cap1 : Nat} {l : List Nat} (h : Grew (w.alloc (.cells #[] 5)) w1 w.heap.size (some ⟨w.heap.size, 0, none⟩) A1 0 0 (0 + n) cap1 ([] ++ l)) : Below w.heap.size w w1 ∧ Own w1 w.heap.size A1 n cap1 l := by
  refine ⟨h.below ((Below.refl _ _).alloc (Nat.le_refl _) _) (by simp) (fun g hg => by simp [Value.ownBlock] at hg; omega), ?_⟩
  have := h.own
  rw [Nat.zero_add, List.nil_append] at this
  exact this
theorem Own.empty (w : World) : Own (w.alloc (.cells #[] 5)) w.heap.size (some ⟨w.heap.size, 0, none⟩) 0 0 [] := Own.lit (base := w.heap.size) w [] (by simp) (Nat.le_refl _) (by simp)
theorem size_alloc_le (w : World) (o : Obj) : w.heap.size ≤ (w.alloc o).heap.size := by simp
/-- What the walk is told of a slice of integers that came in: it is nil, or it leads to a row of 'cap' cells whose numbers fit their kind. -/
def IsRow (k : IntKind) (w : World) (a : Option Addr) (len cap : Nat) (zs : List Int) : Prop :=
  (a = none ∧ len = 0 ∧ cap = 0 ∧ zs = []) ∨
  ∃ x, a = some x ∧ len ≤ cap ∧ cap ≤ maxLen ∧ zs.length = cap ∧ (∀ i, i < zs.length → w.cell? (x.add i) = some (.int k (zs.getD i 0))) ∧ ∀ n ∈ zs, (Lit.int k n).wf = true
theorem row_rd {w : World} {a : Option Addr} {len cap : Nat} {zs : List Int} (h : IsRow .u8 w a len cap zs) : ∃ l, Rd w a len l ∧ len ≤ cap ∧ len ≤ 9223372036854775807 := by
  rcases h with ⟨rfl, rfl, rfl, rfl⟩ | ⟨x, rfl, hc, hm, hz, hcell, hwf⟩
  · exact ⟨[], Rd.nil w none, Nat.le_refl _, by omega⟩
  · simp only [maxLen] at hm
    have hb : ∀ n ∈ zs, 0 ≤ n ∧ n < 256 := by
      intro n hn
      have := hwf n hn
      simp [Lit.wf, IntKind.min, IntKind.max, IntKind.signed, IntKind.bits] at this
      omega
    refine ⟨(zs.take len).map Int.toNat, ⟨by rw [List.length_map, List.length_take]; omega, fun x hx => ?_, fun hn => ?_⟩, hc, by omega⟩
    · obtain ⟨n, hn, rfl⟩ := List.mem_map.1 hx
      have := hb n (List.mem_of_mem_take hn)
      omega
    · obtain ⟨b, off, rfl, hc2⟩ := ints_at hcell (by omega)
      refine ⟨b, off, rfl, ?_, fun j y hy => ?_⟩
      · have h0 := hc2 0 (by omega)
        exact block_lt_of_cell h0
      · rw [List.getElem?_map, List.getElem?_take] at hy
        split at hy
        · rename_i hj
          have hj2 : j < zs.length := by omega
          rw [hc2 j hj2]
          rw [List.getElem?_eq_getElem hj2] at hy
          simp only [Option.map_some, Option.some.injEq] at hy
          have := hb zs[j] (List.getElem_mem hj2)
          rw [List.getD_eq_getElem?_getD, List.getElem?_eq_getElem hj2, Option.getD_some, ← hy]
          congr 2
          omega
        · cases hy
theorem u32_in {a : Int} (h : (Lit.int .u32 a).wf = true) : ∃ c : Nat, a = (c : Int) ∧ c < 4294967296 := by
  simp [Lit.wf, IntKind.min, IntKind.max, IntKind.signed, IntKind.bits] at h
  exact ⟨a.toNat, by omega, by omega⟩
theorem u64_in {a : Int} (h : (Lit.int .u64 a).wf = true) : ∃ c : Nat, a = (c : Int) ∧ c < 18446744073709551616 := by
  simp [Lit.wf, IntKind.min, IntKind.max, IntKind.signed, IntKind.bits] at h
  exact ⟨a.toNat, by omega, by omega⟩
theorem i64_in {a : Int} (h : (Lit.int .i64 a).wf = true) : -9223372036854775808 ≤ a ∧ a ≤ 9223372036854775807 := by
  simp [Lit.wf, IntKind.min, IntKind.max, IntKind.signed, IntKind.bits] at h
  omega
theorem below_next {a v v' : World} (h : Below a.heap.size a v) (hb : Below v.heap.size v v') : Below a.heap.size a v' := h.trans (hb.mono h.size)
end Go.Proofs.YthfcjlndaajkfaaGreat
namespace Go.Proofs.YthfcjlndaajkfaaGreat
open Go.RowKit
/-- A slice of n elements with this address reads as vs. -/
def RdV (w : World) (A : Option Addr) (n : Nat) (vs : List Value) : Prop :=
  vs.length = n ∧ (0 < n → ∃ b o, A = some ⟨b, o, none⟩ ∧ b < w.heap.size ∧ ∀ (j : Nat) (v : Value), vs[j]? = some v → w.cell? ⟨b, o + j, none⟩ = some v)
section
variable {w w' : World} {A : Option Addr} {n : Nat} {vs : List Value}
theorem RdV.nil (w : World) (A : Option Addr) : RdV w A 0 [] := ⟨rfl, by simp⟩
theorem RdV.keep (h : RdV w A n vs) (hs : w.heap.size ≤ w'.heap.size) (hk : ∀ p : Addr, p.block < w.heap.size → w'.cell? p = w.cell? p) : RdV w' A n vs := by
  refine ⟨h.1, fun hn => ?_⟩
  obtain ⟨b, o, rfl, hb, hc⟩ := h.2 hn
  exact ⟨b, o, rfl, by omega, fun j x hx => (hk _ hb).trans (hc j x hx)⟩
theorem RdV.below (h : RdV w A n vs) (hb : Below w.heap.size w w') : RdV w' A n vs := h.keep hb.size fun _ hp => hb.cell hp
theorem RdV.drew (h : RdV w A n vs) : RdV w.drew A n vs := h
theorem RdV.alloc (h : RdV w A n vs) (o : Obj) : RdV (w.alloc o) A n vs := h.below ((Below.refl _ _).alloc (Nat.le_refl _) o)
theorem RdV.at_ (h : RdV w A n vs) {k : Nat} (hk : k < n) : ∃ b o v, A = some ⟨b, o, none⟩ ∧ b < w.heap.size ∧ vs[k]? = some v ∧ w.cell? ⟨b, o + k, none⟩ = some v := by
  obtain ⟨b, o, rfl, hb, hc⟩ := h.2 (by omega)
  have hx : vs[k]? = some (vs[k]'(by rw [h.1]; exact hk)) := List.getElem?_eq_getElem _
  exact ⟨b, o, _, rfl, hb, hx, hc k _ hx⟩
theorem RdV.take (h : RdV w A n vs) {k : Nat} (hk : k ≤ n) : RdV w A k (vs.take k) := by
  refine ⟨by rw [List.length_take, h.1]; omega, fun hn => ?_⟩
  obtain ⟨b, o, rfl, hb, hc⟩ := h.2 (by omega)
  refine ⟨b, o, rfl, hb, fun j x hx => hc j x ?_⟩
  rw [List.getElem?_take] at hx
  split at hx
  · exact hx
  · cases hx
end
theorem Rd.row {w : World} {A : Option Addr} {n : Nat} {l : List Nat} (h : Rd w A n l) : RdV w A n (bv l) := by
  refine ⟨by rw [bv_length, h.1], fun hn => ?_⟩
  obtain ⟨b, o, rfl, hb, hc⟩ := h.2.2 hn
  refine ⟨b, o, rfl, hb, fun j v hv => ?_⟩
  unfold bv at hv
  rw [List.getElem?_map] at hv
  cases hx : l[j]? with
  | none => rw [hx] at hv; cases hv
  | some x => rw [hx] at hv; injection hv with hv; subst hv; exact hc j x hx
/-- A slice of the call's own that holds the values vs. -/
def OwnV (w : World) (base : Nat) (E : TypeId) (A : Option Addr) (n cap : Nat) (vs : List Value) : Prop :=
  vs.length = n ∧ w.ownsRow base E 1 (.slice A n cap) n vs
/-- An element type whose values take one cell: its zero and its bytes. -/
structure One (S E : TypeId) (z : Value) (bytes : Nat) : Prop where
  info : (Tryz.prog.info? E).map (fun i => (i.zero, i.size, i.bytes)) = some (some z, 1, bytes)
  under : Tryz.prog.underlying S = some (.slice E)
  zero : z.cells = #[z]
  few : bytes ≤ 100
section
variable {w w' : World} {base n cap : Nat} {A : Option Addr} {vs : List Value} {S E : TypeId} {z : Value} {bytes : Nat}
set_option maxRecDepth 100000 in
theorem OwnV.rd (h : OwnV w base E A n cap vs) : RdV w A n vs := by
  refine ⟨h.1, fun hn => ?_⟩
  rcases h.2.2 with ⟨hv, h0⟩ | ⟨g, c, cur, hv, hb, hg, hnc, hc, hs, ht⟩
  · omega
  · injection hv with hA _ _
    subst hA
    refine ⟨g, 0, rfl, (Array.getElem?_eq_some_iff.1 hg).1, fun j x hx => ?_⟩
    rw [Nat.zero_add, cell_of_row w g j cur _ (0, 0) hg]
    rw [← ht, List.getElem?_take] at hx
    split at hx
    · simpa using hx
    · cases hx
theorem OwnV.grown (h : OwnV w base E A n cap vs) {row : Option Nat} (hg : w.grownBy w' row) (hne : row = none ∨ ∀ g, row = some g → (Value.slice A n cap).ownBlock ≠ some g) : OwnV w' base E A n cap vs := by
  refine ⟨h.1, h.2.kept hg ?_⟩
  rcases hb : (Value.slice A n cap).ownBlock with _ | g
  · exact .inl rfl
  · refine .inr fun e => ?_
    rcases hne with e2 | e2
    · rw [e2] at e; cases e
    · exact e2 g e.symm hb
theorem OwnV.below (h : OwnV w base E A n cap vs) (hb : Below w.heap.size w w') : OwnV w' base E A n cap vs := h.grown (grown_of_below hb) (.inl rfl)
theorem OwnV.alloc (h : OwnV w base E A n cap vs) (o : Obj) : OwnV (w.alloc o) base E A n cap vs := h.below ((Below.refl _ _).alloc (Nat.le_refl _) o)
theorem OwnV.drew (h : OwnV w base E A n cap vs) : OwnV w.drew base E A n cap vs := h
theorem OwnV.none_ (w : World) (base : Nat) (E : TypeId) : OwnV w base E none 0 0 [] := ⟨rfl, World.ownsRow_nil w base E 1⟩
theorem OwnV.blk (h : OwnV w base E A n cap vs) : ∀ g, (Value.slice A n cap).ownBlock = some g → base ≤ g ∧ g < w.heap.size := h.2.lt
theorem OwnV.fits (h : OwnV w base E A n cap vs) : n ≤ cap := by
  rcases h.2.2 with ⟨hv, hn⟩ | ⟨g, c, cur, hv, _, _, hc, _⟩
  · omega
  · injection hv with _ _ h3
    omega
theorem OwnV.form (h : OwnV w base E A n cap vs) (hn : 0 < n) : ∃ g, A = some ⟨g, 0, none⟩ ∧ base ≤ g ∧ g < w.heap.size := by
  rcases h.2.2 with ⟨hv, h0⟩ | ⟨g, c, cur, hv, hb, hg, _⟩
  · omega
  · injection hv with hA _ _
    exact ⟨g, hA, hb, (Array.getElem?_eq_some_iff.1 hg).1⟩
theorem OwnV.base_ {base' : Nat} (h : OwnV w base E A n cap vs) (hb : base' ≤ base) : OwnV w base' E A n cap vs := by
  refine ⟨h.1, h.2.1, ?_⟩
  rcases h.2.2 with hn | ⟨g, c, cur, hv, hbg, rest⟩
  · exact .inl hn
  · exact .inr ⟨g, c, cur, hv, Nat.le_trans hb hbg, rest⟩
theorem OwnV.lit (w : World) (E : TypeId) (vs : List Value) (hb : base ≤ w.heap.size) (hm : vs.length ≤ 100000000) : OwnV (w.alloc (.cells vs.toArray E)) base E (some ⟨w.heap.size, 0, none⟩) vs.length vs.length vs :=
  ⟨rfl, by
    have := World.ownsRow_lit (base := base) (e := E) (size := 1) w vs.toArray vs.length hb (by simp only [maxLen]; omega) (by simp)
    simpa using this⟩
theorem OwnV.zeros (w : World) (E : TypeId) (z : Value) (base n : Nat) (hb : base ≤ w.heap.size) (hn : n ≤ 100000000) : OwnV (w.alloc (.cells (madeCells #[z] n) E)) base E (some ⟨w.heap.size, 0, none⟩) n n (List.replicate n z) := by
  refine ⟨by simp, ?_⟩
  have h := World.ownsRow_lit (base := base) (e := E) (size := 1) w (madeCells #[z] n) n hb (by simp only [maxLen]; omega) (by rw [size_madeCells, Nat.mul_one])
  rw [toList_madeCells_one] at h
  exact h
theorem OwnV.set {g : Nat} (h : OwnV w base E (some ⟨g, 0, none⟩) n cap vs) (j : Nat) (y : Value) : OwnV (w.setCell ⟨g, j, none⟩ y) base E (some ⟨g, 0, none⟩) n cap (vs.set j y) :=
  ⟨by rw [List.length_set]; exact h.1, (h.2.stored j _).1⟩
theorem OwnV.cell {g : Nat} (h : OwnV w base E (some ⟨g, 0, none⟩) n cap vs) {j : Nat} {x : Value} (hx : vs[j]? = some x) : w.cell? ⟨g, j, none⟩ = some x := by
  have hj : j < n := by have := (List.getElem?_eq_some_iff.1 hx).1; rw [h.1] at this; exact this
  rw [h.2.cellAt j (by omega)]
  exact hx
theorem OwnV.free {g : Nat} (h : OwnV w base E (some ⟨g, 0, none⟩) n cap vs) (j : Nat) : w.frozen? ⟨g, j, none⟩ = false := h.2.frozenAt j
theorem OwnV.far {g j : Nat} (h : OwnV w base E A n cap vs) (hg : g < base) (u : Value) : OwnV (w.setCell ⟨g, j, none⟩ u) base E A n cap vs := by
  refine h.grown (row := some g) ⟨rfl, rfl, rfl, by simp [World.setCell], fun k hk hne => Below.heap_setCell _ _ _ _ (fun e => hne (by rw [e]))⟩ (.inr fun g' hg' e => ?_)
  injection hg' with hg'
  have := (h.blk _ e).1
  omega
/-- What append leaves. -/
structure GrewV (w w' : World) (base : Nat) (E : TypeId) (A A' : Option Addr) (n cap n' cap' : Nat) (vs : List Value) : Prop where
  own : OwnV w' base E A' n' cap' vs
  grew : w.grownBy w' (Value.slice A n cap).ownBlock
  blk : (Value.slice A' n' cap').ownBlock = (Value.slice A n cap).ownBlock ∨ (Value.slice A' n' cap').ownBlock = some w.heap.size
theorem GrewV.below {a : World} {n' cap' : Nat} {A' : Option Addr} {B : Nat} (h : GrewV w w' base E A A' n cap n' cap' vs) (hb : Below B a w) (hB : B ≤ w.heap.size) (hr : ∀ g, (Value.slice A n cap).ownBlock = some g → B ≤ g) : Below B a w' :=
  hb.grown h.grew hB hr
end
end Go.Proofs.YthfcjlndaajkfaaGreat
namespace Go.Proofs.YthfcjlndaajkfaaGreat
open Go.RowKit
/-- A slice of n elements of s cells each with this address reads as vs. -/
def RdC (s : Nat) (w : World) (A : Option Addr) (n : Nat) (vs : List Value) : Prop :=
  vs.length = n * s ∧ (0 < n → ∃ b o, A = some ⟨b, o, none⟩ ∧ b < w.heap.size ∧ ∀ (j : Nat) (v : Value), vs[j]? = some v → w.cell? ⟨b, o + j, none⟩ = some v)
section
variable {s : Nat} {w w' : World} {A : Option Addr} {n : Nat} {vs : List Value}
theorem RdC.nil (s : Nat) (w : World) (A : Option Addr) : RdC s w A 0 [] := ⟨by simp, by simp⟩
theorem RdC.keep (h : RdC s w A n vs) (hs : w.heap.size ≤ w'.heap.size) (hk : ∀ p : Addr, p.block < w.heap.size → w'.cell? p = w.cell? p) : RdC s w' A n vs := by
  refine ⟨h.1, fun hn => ?_⟩
  obtain ⟨b, o, rfl, hb, hc⟩ := h.2 hn
  exact ⟨b, o, rfl, by omega, fun j x hx => (hk _ hb).trans (hc j x hx)⟩
theorem RdC.below (h : RdC s w A n vs) (hb : Below w.heap.size w w') : RdC s w' A n vs := h.keep hb.size fun _ hp => hb.cell hp
theorem RdC.drew (h : RdC s w A n vs) : RdC s w.drew A n vs := h
theorem RdC.alloc (h : RdC s w A n vs) (o : Obj) : RdC s (w.alloc o) A n vs := h.below ((Below.refl _ _).alloc (Nat.le_refl _) o)
theorem RdC.take (h : RdC s w A n vs) {k : Nat} (hk : k ≤ n) : RdC s w A k (vs.take (k * s)) := by
  refine ⟨by rw [List.length_take, h.1, Nat.min_eq_left (Nat.mul_le_mul_right s hk)], fun hn => ?_⟩
  obtain ⟨b, o, rfl, hb, hc⟩ := h.2 (by omega)
  refine ⟨b, o, rfl, hb, fun j x hx => hc j x ?_⟩
  rw [List.getElem?_take] at hx
  split at hx
  · exact hx
  · cases hx
end
/-- A slice of the call's own that holds the cells vs. -/
def OwnC (s : Nat) (w : World) (base : Nat) (E : TypeId) (A : Option Addr) (n cap : Nat) (vs : List Value) : Prop :=
  w.ownsRow base E s (.slice A n cap) n vs
/-- An element type whose values take s cells: its zero and its bytes. -/
structure Many (s : Nat) (S E : TypeId) (z : Value) (bytes : Nat) : Prop where
  info : (Tryz.prog.info? E).map (fun i => (i.zero, i.size, i.bytes)) = some (some z, s, bytes)
  under : Tryz.prog.underlying S = some (.slice E)
  zero : z.cells.size = s
  pos : 0 < s
  few : bytes ≤ 1000
section
variable {s : Nat} {w w' : World} {base n cap : Nat} {A : Option Addr} {vs : List Value} {S E : TypeId} {z : Value} {bytes : Nat}
set_option maxRecDepth 100000 in
theorem OwnC.rd (h : OwnC s w base E A n cap vs) : RdC s w A n vs := by
  refine ⟨h.1, fun hn => ?_⟩
  rcases h.2 with ⟨hv, h0⟩ | ⟨g, c, cur, hv, hb, hg, hnc, hc, hs, ht⟩
  · omega
  · injection hv with hA _ _
    subst hA
    refine ⟨g, 0, rfl, (Array.getElem?_eq_some_iff.1 hg).1, fun j x hx => ?_⟩
    rw [Nat.zero_add, cell_of_row w g j cur _ (0, 0) hg]
    rw [← ht, List.getElem?_take] at hx
    split at hx
    · simpa using hx
    · cases hx
theorem OwnC.grown (h : OwnC s w base E A n cap vs) {row : Option Nat} (hg : w.grownBy w' row) (hne : row = none ∨ ∀ g, row = some g → (Value.slice A n cap).ownBlock ≠ some g) : OwnC s w' base E A n cap vs := by
  refine World.ownsRow.kept h hg ?_
  rcases hb : (Value.slice A n cap).ownBlock with _ | g
  · exact .inl rfl
  · refine .inr fun e => ?_
    rcases hne with e2 | e2
    · rw [e2] at e; cases e
    · exact e2 g e.symm hb
theorem OwnC.below (h : OwnC s w base E A n cap vs) (hb : Below w.heap.size w w') : OwnC s w' base E A n cap vs := h.grown (grown_of_below hb) (.inl rfl)
theorem OwnC.alloc (h : OwnC s w base E A n cap vs) (o : Obj) : OwnC s (w.alloc o) base E A n cap vs := h.below ((Below.refl _ _).alloc (Nat.le_refl _) o)
theorem OwnC.drew (h : OwnC s w base E A n cap vs) : OwnC s w.drew base E A n cap vs := h
theorem OwnC.none_ (s : Nat) (w : World) (base : Nat) (E : TypeId) : OwnC s w base E none 0 0 [] := World.ownsRow_nil w base E s
theorem OwnC.blk (h : OwnC s w base E A n cap vs) : ∀ g, (Value.slice A n cap).ownBlock = some g → base ≤ g ∧ g < w.heap.size := World.ownsRow.lt h
theorem OwnC.fits (h : OwnC s w base E A n cap vs) : n ≤ cap := by
  rcases h.2 with ⟨hv, hn⟩ | ⟨g, c, cur, hv, _, _, hc, _⟩
  · omega
  · injection hv with _ _ h3
    omega
theorem OwnC.form (h : OwnC s w base E A n cap vs) (hn : 0 < n) : ∃ g, A = some ⟨g, 0, none⟩ ∧ base ≤ g ∧ g < w.heap.size := by
  rcases h.2 with ⟨hv, h0⟩ | ⟨g, c, cur, hv, hb, hg, _⟩
  · omega
  · injection hv with hA _ _
    exact ⟨g, hA, hb, (Array.getElem?_eq_some_iff.1 hg).1⟩
theorem OwnC.base_ {base' : Nat} (h : OwnC s w base E A n cap vs) (hb : base' ≤ base) : OwnC s w base' E A n cap vs := by
  refine ⟨h.1, ?_⟩
  rcases h.2 with hn | ⟨g, c, cur, hv, hbg, rest⟩
  · exact .inl hn
  · exact .inr ⟨g, c, cur, hv, Nat.le_trans hb hbg, rest⟩
/-- What append leaves. -/
structure GrewC (s : Nat) (w w' : World) (base : Nat) (E : TypeId) (A A' : Option Addr) (n cap n' cap' : Nat) (vs : List Value) : Prop where
  own : OwnC s w' base E A' n' cap' vs
  grew : w.grownBy w' (Value.slice A n cap).ownBlock
  blk : (Value.slice A' n' cap').ownBlock = (Value.slice A n cap).ownBlock ∨ (Value.slice A' n' cap').ownBlock = some w.heap.size
theorem GrewC.below {a : World} {n' cap' : Nat} {A' : Option Addr} {B : Nat} (h : GrewC s w w' base E A A' n cap n' cap' vs) (hb : Below B a w) (hB : B ≤ w.heap.size) (hr : ∀ g, (Value.slice A n cap).ownBlock = some g → B ≤ g) : Below B a w' :=
  hb.grown h.grew hB hr
set_option maxRecDepth 100000 in
theorem run_appC (O : Many s S E z bytes) (hown : OwnC s w base E A n cap vs) (ad : Addr) (m c : Nat) (news : List Value) (h1 : ∀ u ∈ news, u.oneCell' = true) (hr : RdC s w (some ad) m news) (hlen : n + m ≤ 1000000) (hbase : base ≤ w.heap.size) (ty : TypeId) :
    ∃ A' cap' w', (Builtin.append_ #[S, S] ty #[.slice A n cap, .slice (some ad) m c]).run Tryz.prog w = .ok (.slice A' (n + m) cap') w' ∧ GrewC s w w' base E A A' n cap (n + m) cap' (vs ++ news) := by
  obtain ⟨i0, hi, hz0, hz1, hz2⟩ := info_parts O.info
  have hnews : ∀ j u, news[j]? = some u → w.cell? (ad.add j) = some u := by
    intro j u hu
    by_cases hm : 0 < m
    · obtain ⟨b, o, he, _, hc⟩ := hr.2 hm
      injection he with he
      subst he
      have e : (⟨b, o, none⟩ : Addr).add j = ⟨b, o + j, none⟩ := by unfold Addr.add; split <;> simp_all
      rw [e]
      exact hc j _ hu
    · have h00 : m = 0 := by omega
      subst h00
      have h0 : news = [] := List.eq_nil_of_length_eq_zero (by rw [hr.1]; simp)
      subst h0
      simp at hu
  have hbytes : (n + m) * bytes ≤ 140737488355328 := by
    have : (n + m) * bytes ≤ 1000000 * 1000 := Nat.mul_le_mul hlen O.few
    omega
  obtain ⟨v', w', hrun, h2, h3, _, h5⟩ := run_append_own_at (P := Tryz.prog) w base S ty E i0 z s bytes O.under hi hz0 hz1 hz2 O.zero O.pos (.slice A n cap) n vs hown ad m c news
    hr.1 hnews h1 (by simp only [maxLen]; omega) hbytes hbase
  have hf : ∃ A' cap', v' = .slice A' (n + m) cap' := by
    rcases h2.2 with ⟨hv, h0⟩ | ⟨g, c', cur, hv, _⟩
    · exact ⟨none, 0, by rw [hv, h0]⟩
    · exact ⟨_, _, hv⟩
  obtain ⟨A', cap', rfl⟩ := hf
  exact ⟨A', cap', w', hrun, ⟨h2, h3, h5⟩⟩
theorem wpList_appC (O : Many s S E z bytes) {ops : Array Oper} {rest : List Oper} {o : Oper} {a : Act} {Q : Exit → Act → World → Prop} (hgd : o.guard = none) (s1 x : Operand)
    (ho : o.op = .call { callee := .builtin .append, args := #[s1, x], argTypes := #[S, S] })
    (hs : a.eval s1 = .slice A n cap) (hown : OwnC s w base E A n cap vs) (ad : Addr) (m c : Nat) (news : List Value) (h1 : ∀ u ∈ news, u.oneCell' = true) (hx : a.eval x = .slice (some ad) m c) (hr : RdC s w (some ad) m news) (hlen : n + m ≤ 1000000) (hbase : base ≤ w.heap.size)
    (h : ∀ A' cap' w', GrewC s w w' base E A A' n cap (n + m) cap' (vs ++ news) → wpList Tryz.prog ops Q rest (a.put o.dst (.slice A' (n + m) cap')) w') : wpList Tryz.prog ops Q (o :: rest) a w := by
  obtain ⟨A', cap', w', hrun, hg⟩ := run_appC O hown ad m c news h1 hr hlen hbase o.type
  refine wpList_plain hgd fun K hK => ?_
  unfold Oper.wp execOp
  simp only [ho, resolve, invoke, builtin, Sem.run_bind, Sem.run_pure, Result.andThen_ok, List.map_toArray, List.map_cons, List.map_nil, hs, hx, hrun]
  exact hK _ _ (h A' cap' w' hg)
end
/-- A new row of cells reads as it. -/
theorem rdc_new (s : Nat) (w : World) (E : TypeId) (vs : List Value) (n : Nat) (hn : vs.length = n * s) (fr : Nat × Nat) : RdC s (w.alloc (.cells vs.toArray E fr)) (some ⟨w.heap.size, 0, none⟩) n vs := by
  refine ⟨hn, fun _ => ⟨w.heap.size, 0, rfl, by simp, fun j x hx => ?_⟩⟩
  rw [Nat.zero_add, World.cell?_alloc_mark]
  simpa using hx
end Go.Proofs.YthfcjlndaajkfaaGreat
namespace Go.Proofs.YthfcjlndaajkfaaGreat
open Go.RowKit
/-- Block b holds these cells, from its head on, and may be written. -/
def Holds (w : World) (b : Nat) (cs : List Value) : Prop := b < w.heap.size ∧ (∀ (i : Nat) v, cs[i]? = some v → w.cell? ⟨b, i, none⟩ = some v) ∧ ∀ i, w.frozen? ⟨b, i, none⟩ = false
theorem Holds.below {w w' : World} {b : Nat} {cs : List Value} (k : Holds w b cs) (hb : Below w.heap.size w w') : Holds w' b cs :=
  ⟨Nat.lt_of_lt_of_le k.1 hb.size, fun i v h => (hb.cell (p := ⟨b, i, none⟩) k.1).trans (k.2.1 i v h), fun i => (hb.frozen (p := ⟨b, i, none⟩) k.1).trans (k.2.2 i)⟩
theorem Holds.alloc {w : World} {b : Nat} {cs : List Value} (k : Holds w b cs) (o : Obj) : Holds (w.alloc o) b cs := k.below ((Below.refl _ _).alloc (Nat.le_refl _) o)
theorem Holds.new (w : World) (cs : Array Value) (t : TypeId) : Holds (w.alloc (.cells cs t)) w.heap.size cs.toList :=
  ⟨by simp, fun i v h => by rw [World.cell?_alloc_mark]; simpa using h, fun i => by rw [World.frozen?_alloc_mark]; simp⟩
theorem Holds.next {w w' : World} {cs : Array Value} {t : TypeId} (hb : Below (w.alloc (.cells cs t)).heap.size (w.alloc (.cells cs t)) w') : Holds w' w.heap.size cs.toList := (Holds.new w cs t).below hb
theorem Holds.at_ {w : World} {b : Nat} {cs : List Value} (k : Holds w b cs) (i : Nat) {v : Value} (h : cs[i]? = some v) : w.cell? ⟨b, i, none⟩ = some v := k.2.1 i v h
theorem Holds.other {w : World} {b c i : Nat} {cs : List Value} {v : Value} (k : Holds w c cs) (h : c ≠ b) : Holds (w.setCell ⟨b, i, none⟩ v) c cs :=
  ⟨by simpa [World.setCell] using k.1, fun j u hj => by rw [World.cell?_setCell_other w _ _ _ (fun e => h (by injection e with e1 _; exact e1.symm))]; exact k.2.1 j u hj, fun j => by rw [World.frozen?_setCell]; exact k.2.2 j⟩
theorem Holds.set {w : World} {b : Nat} {cs : List Value} (k : Holds w b cs) (i : Nat) (v : Value) (hi : i < cs.length) : Holds (w.setCell ⟨b, i, none⟩ v) b (cs.set i v) := by
  refine ⟨by simpa [World.setCell] using k.1, fun j u hj => ?_, fun j => by rw [World.frozen?_setCell]; exact k.2.2 j⟩
  by_cases e : j = i
  · subst e
    rw [List.getElem?_set_self hi] at hj
    injection hj with hj
    subst hj
    exact World.cell?_setCell_same w _ _ (k.2.1 j _ (List.getElem?_eq_getElem hi))
  · rw [List.getElem?_set_ne (fun e2 => e e2.symm)] at hj
    rw [World.cell?_setCell_other w _ _ _ (fun e2 => e (by injection e2 with _ e3; exact e3.symm))]
    exact k.2.1 j u hj
theorem Holds.set3 {w : World} {b : Nat} {x y z : Value} (k : Holds w b [x, y, z]) (x' y' z' : Value) : Holds (((w.setCell ⟨b, 0, none⟩ x').setCell ⟨b, 1, none⟩ y').setCell ⟨b, 2, none⟩ z') b [x', y', z'] :=
  ((k.set 0 x' (by simp)).set 1 y' (by simp)).set 2 z' (by simp)
theorem Holds.all4 {w : World} {b : Nat} {a0 a1 a2 a3 : Value} (k : Holds w b [a0, a1, a2, a3]) : w.cell? ⟨b, 0, none⟩ = some a0 ∧ w.cell? ⟨b, 1, none⟩ = some a1 ∧ w.cell? ⟨b, 2, none⟩ = some a2 ∧ w.cell? ⟨b, 3, none⟩ = some a3 := ⟨k.at_ 0 rfl, k.at_ 1 rfl, k.at_ 2 rfl, k.at_ 3 rfl⟩
theorem Holds.all9 {w : World} {b : Nat} {a0 a1 a2 a3 a4 a5 a6 a7 a8 : Value} (k : Holds w b [a0, a1, a2, a3, a4, a5, a6, a7, a8]) : w.cell? ⟨b, 0, none⟩ = some a0 ∧ w.cell? ⟨b, 1, none⟩ = some a1 ∧ w.cell? ⟨b, 2, none⟩ = some a2 ∧ w.cell? ⟨b, 3, none⟩ = some a3 ∧ w.cell? ⟨b, 4, none⟩ = some a4 ∧ w.cell? ⟨b, 5, none⟩ = some a5 ∧ w.cell? ⟨b, 6, none⟩ = some a6 ∧ w.cell? ⟨b, 7, none⟩ = some a7 ∧ w.cell? ⟨b, 8, none⟩ = some a8 := ⟨k.at_ 0 rfl, k.at_ 1 rfl, k.at_ 2 rfl, k.at_ 3 rfl, k.at_ 4 rfl, k.at_ 5 rfl, k.at_ 6 rfl, k.at_ 7 rfl, k.at_ 8 rfl⟩
theorem Holds.all15 {w : World} {b : Nat} {a0 a1 a2 a3 a4 a5 a6 a7 a8 a9 a10 a11 a12 a13 a14 : Value} (k : Holds w b [a0, a1, a2, a3, a4, a5, a6, a7, a8, a9, a10, a11, a12, a13, a14]) : w.cell? ⟨b, 0, none⟩ = some a0 ∧ w.cell? ⟨b, 1, none⟩ = some a1 ∧ w.cell? ⟨b, 2, none⟩ = some a2 ∧ w.cell? ⟨b, 3, none⟩ = some a3 ∧ w.cell? ⟨b, 4, none⟩ = some a4 ∧ w.cell? ⟨b, 5, none⟩ = some a5 ∧ w.cell? ⟨b, 6, none⟩ = some a6 ∧ w.cell? ⟨b, 7, none⟩ = some a7 ∧ w.cell? ⟨b, 8, none⟩ = some a8 ∧ w.cell? ⟨b, 9, none⟩ = some a9 ∧ w.cell? ⟨b, 10, none⟩ = some a10 ∧ w.cell? ⟨b, 11, none⟩ = some a11 ∧ w.cell? ⟨b, 12, none⟩ = some a12 ∧ w.cell? ⟨b, 13, none⟩ = some a13 ∧ w.cell? ⟨b, 14, none⟩ = some a14 := ⟨k.at_ 0 rfl, k.at_ 1 rfl, k.at_ 2 rfl, k.at_ 3 rfl, k.at_ 4 rfl, k.at_ 5 rfl, k.at_ 6 rfl, k.at_ 7 rfl, k.at_ 8 rfl, k.at_ 9 rfl, k.at_ 10 rfl, k.at_ 11 rfl, k.at_ 12 rfl, k.at_ 13 rfl, k.at_ 14 rfl⟩
theorem Holds.free4 {w : World} {b : Nat} {cs : List Value} (k : Holds w b cs) : w.frozen? ⟨b, 0, none⟩ = false ∧ w.frozen? ⟨b, 1, none⟩ = false ∧ w.frozen? ⟨b, 2, none⟩ = false ∧ w.frozen? ⟨b, 3, none⟩ = false := ⟨k.2.2 0, k.2.2 1, k.2.2 2, k.2.2 3⟩
end Go.Proofs.YthfcjlndaajkfaaGreat
namespace Go.Proofs.YthfcjlndaajkfaaGreat
open Go.RowKit
end Go.Proofs.YthfcjlndaajkfaaGreat
namespace Go.Proofs.YthfcjlndaajkfaaGreat
open Go.RowKit
namespace Pk
/-- A table. -/
structure Tb where
  id : Int
  ep : Int
  P : Option Addr
  pn : Nat
  pc : Nat
  sz : Int
  lv : Int
  ct : Int
  lo : ByteArray
  hi : ByteArray
  tp : Int
def Tb.cells (t : Tb) : List Value := [.int .i64 t.id, .int .i64 t.ep, .slice t.P t.pn t.pc, .int .i64 t.sz, .int .i64 t.lv, .int .i64 t.ct, .string t.lo, .string t.hi, .int .i64 t.tp]
def flat (l : List Tb) : List Value := l.flatMap Tb.cells
theorem flatMap_at {α : Type} {f : α → List Value} {s : Nat} (hs : ∀ x, (f x).length = s) {j : Nat} {v : Value} : ∀ {l : List α} {k : Nat} {x : α}, l[k]? = some x → (f x)[j]? = some v → (l.flatMap f)[k * s + j]? = some v
  | [], k, x, h, _ => by cases h
  | y :: ys, k, x, h, hj => by
    rw [List.flatMap_cons]
    have hjs : j < s := by rw [← hs x]; exact (List.getElem?_eq_some_iff.1 hj).1
    cases k with
    | zero =>
      have h : y = x := by simpa using h
      subst h
      rw [Nat.zero_mul, Nat.zero_add, List.getElem?_append_left (by rw [hs]; exact hjs)]
      exact hj
    | succ k =>
      rw [List.getElem?_append_right (by rw [hs, Nat.succ_mul]; omega), hs, show (k + 1) * s + j - s = k * s + j by rw [Nat.succ_mul]; omega]
      exact flatMap_at hs (by simpa using h) hj
theorem flatMap_length {α : Type} {f : α → List Value} {s : Nat} (hs : ∀ x, (f x).length = s) : ∀ l : List α, (l.flatMap f).length = l.length * s
  | [] => by simp
  | y :: ys => by rw [List.flatMap_cons, List.length_append, hs, flatMap_length hs ys, List.length_cons, Nat.succ_mul]; omega
theorem cells_one (x : Tb) : ∀ u ∈ Tb.cells x, u.oneCell' = true := by
  intro u hu
  simp only [Tb.cells, List.mem_cons, List.not_mem_nil, or_false] at hu
  rcases hu with rfl | rfl | rfl | rfl | rfl | rfl | rfl | rfl | rfl <;> rfl
/-- Numbers and texts as a machine has them. -/
def Tb.fits (t : Tb) : Prop := t.lo.size ≤ 9223372036854775807 ∧ t.hi.size ≤ 9223372036854775807 ∧ (-9223372036854775808 ≤ t.lv ∧ t.lv ≤ 9223372036854775807) ∧ (-9223372036854775808 ≤ t.ct ∧ t.ct ≤ 9223372036854775807) ∧ (-9223372036854775808 ≤ t.id ∧ t.id ≤ 9223372036854775807)
/-- A key's bytes. -/
def kb (s : ByteArray) : List UInt8 := s.data.toList
theorem kb_inj {s t : ByteArray} (h : kb s = kb t) : s = t := by
  cases s; cases t
  simp [kb] at h
  rw [h]
theorem bytesLess_lt : ∀ x y : List UInt8, Op.bytesLess x y = decide (x < y)
  | [], [] => by simp [Op.bytesLess]
  | _ :: _, [] => by simp [Op.bytesLess]
  | [], _ :: _ => by simp [Op.bytesLess]
  | a :: x, b :: y => by
    rw [Op.bytesLess, bytesLess_lt x y]
    by_cases h1 : a < b
    · simp [h1, List.cons_lt_cons_iff]
    · by_cases h2 : a = b
      · subst h2; simp [h1]
      · have h3 : (a == b) = false := beq_eq_false_iff_ne.2 h2
        simp [h1, h2, h3, List.cons_lt_cons_iff]
/-- Is a key ahead of another? -/
def lt (a b : ByteArray) : Bool := Op.bytesLess a.toList b.toList
theorem lt_iff (a b : ByteArray) : lt a b = true ↔ kb a < kb b := by
  unfold lt
  rw [ByteArray.toList_eq, ByteArray.toList_eq, bytesLess_lt]
  exact decide_eq_true_iff
/-- '<=' on texts, as the walk has it. -/
theorem le_eq (a b : ByteArray) : (Op.bytesLess a.toList b.toList || a.toList == b.toList) = !lt b a := by
  have h1 := lt_iff a b
  have h2 := lt_iff b a
  unfold lt at h1 h2 ⊢
  by_cases e : a = b
  · subst e
    have h3 : Op.bytesLess a.toList a.toList = false := by
      cases h : Op.bytesLess a.toList a.toList with
      | false => rfl
      | true => exact absurd (h1.1 h) (List.lt_irrefl _)
    rw [h3]; simp
  · have h3 : (a.toList == b.toList) = false := by
      rw [beq_eq_false_iff_ne]
      intro h
      apply e
      rw [ByteArray.toList_eq, ByteArray.toList_eq] at h
      exact kb_inj h
    rw [h3, Bool.or_false]
    cases h4 : Op.bytesLess b.toList a.toList with
    | true =>
      have h5 := h2.1 h4
      cases h6 : Op.bytesLess a.toList b.toList with
      | false => rfl
      | true => exact absurd (List.lt_trans (h1.1 h6) h5) (List.lt_irrefl _)
    | false =>
      cases h6 : Op.bytesLess a.toList b.toList with
      | true => rfl
      | false =>
        have h7 : kb b ≤ kb a := List.not_lt.1 (fun h => by rw [h1.2 h] at h6; cases h6)
        have h8 : kb a ≤ kb b := List.not_lt.1 (fun h => by rw [h2.2 h] at h4; cases h4)
        exact absurd (kb_inj (List.le_antisymm h8 h7)) e
/-- Does a table meet a range? -/
def meets (t : Tb) (low high : ByteArray) : Bool := !lt t.hi low && !lt high t.lo
end Pk
/-- A slice that reads as tables. -/
def RdTb (w : World) (A : Option Addr) (n : Nat) (l : List Pk.Tb) : Prop := l.length = n ∧ RdC 9 w A n (Pk.flat l) ∧ ∀ x ∈ l, x.fits
theorem RdTb.at_ {w : World} {A : Option Addr} {n k : Nat} {l : List Pk.Tb} {x : Pk.Tb} (h : RdTb w A n l) (hx : l[k]? = some x) : ∃ b o, A = some ⟨b, o, none⟩ ∧ b < w.heap.size ∧ ∀ j u, x.cells[j]? = some u → w.cell? ⟨b, o + (k * 9 + j), none⟩ = some u := by
  have hk : k < n := by rw [← h.1]; exact (List.getElem?_eq_some_iff.1 hx).1
  obtain ⟨b, o, rfl, hb, hc⟩ := h.2.1.2 (by omega)
  exact ⟨b, o, rfl, hb, fun j u hu => hc _ u (Pk.flatMap_at (f := Pk.Tb.cells) (s := 9) (fun _ => rfl) hx hu)⟩
theorem RdTb.below {w w' : World} {A : Option Addr} {n : Nat} {l : List Pk.Tb} (h : RdTb w A n l) (hb : Below w.heap.size w w') : RdTb w' A n l := ⟨h.1, h.2.1.below hb, h.2.2⟩
/-- The nine cells of one. -/
theorem RdTb.nine {w : World} {A : Option Addr} {n k : Nat} {l : List Pk.Tb} {x : Pk.Tb} (h : RdTb w A n l) (hx : l[k]? = some x) : ∃ b o, A = some ⟨b, o, none⟩ ∧ b < w.heap.size ∧ ∀ w', Below w.heap.size w w' →
    w'.cell? ⟨b, o + k * 9, none⟩ = some (.int .i64 x.id) ∧ w'.cell? ⟨b, o + k * 9 + 1, none⟩ = some (.int .i64 x.ep) ∧ w'.cell? ⟨b, o + k * 9 + 2, none⟩ = some (.slice x.P x.pn x.pc) ∧ w'.cell? ⟨b, o + k * 9 + 3, none⟩ = some (.int .i64 x.sz) ∧ w'.cell? ⟨b, o + k * 9 + 4, none⟩ = some (.int .i64 x.lv) ∧ w'.cell? ⟨b, o + k * 9 + 5, none⟩ = some (.int .i64 x.ct) ∧ w'.cell? ⟨b, o + k * 9 + 6, none⟩ = some (.string x.lo) ∧ w'.cell? ⟨b, o + k * 9 + 7, none⟩ = some (.string x.hi) ∧ w'.cell? ⟨b, o + k * 9 + 8, none⟩ = some (.int .i64 x.tp) := by
  obtain ⟨b, o, rfl, hb, hc⟩ := h.at_ hx
  exact ⟨b, o, rfl, hb, fun w' hw => ⟨(hw.cell hb).trans (hc 0 _ rfl), (hw.cell hb).trans (hc 1 _ rfl), (hw.cell hb).trans (hc 2 _ rfl), (hw.cell hb).trans (hc 3 _ rfl), (hw.cell hb).trans (hc 4 _ rfl), (hw.cell hb).trans (hc 5 _ rfl), (hw.cell hb).trans (hc 6 _ rfl), (hw.cell hb).trans (hc 7 _ rfl), (hw.cell hb).trans (hc 8 _ rfl)⟩⟩
end Go.Proofs.YthfcjlndaajkfaaGreat
