/- Words for bytes in memory, over whatever program has []uint8, uint8 and string among its types: a slice that reads as a list of numbers, a slice that the call owns, append, make, a byte written, bytes as a string; regions that draw their order; slices that came in. -/
import Derived.Test.YtbdomhookjmmgaaRows
import Derived.WalkKit
import Derived.WalkLawsBesides
import Derived.ProofKit
import Derived.OpenShut
import Derived.ShutString
import Derived.ChangeOld
import Derived.Below
import Derived.Lib.Hide
import Derived.Laws.OwnMore
import Derived.Laws.MakeOwn
import Derived.Laws.BytesArg
import Derived.Laws.BitsAllLaws
import Derived.Deep.AppendLies
import Derived.Deep.Draws
import Derived.Maps.AppendAt
import Derived.OwnWalk
import Derived.BigRegion
import Derived.RegionTactic
import Derived.Deep.QuietTactic
import Derived.BigQuiet
import Derived.Deep.RegionWith
import Derived.Deep.RegionHeld
import Derived.Lib.SlBytesConst
namespace Go.Proofs.Ytbdomhookjmmgaa
open Go.ChangeShapes Go.WideShapes Go.ChangeAt Go.RowKit
theorem ret_u32 {a b : Int} (h : a = b) : Ending.returned (.int .u32 a) = .returned (.int .u32 b) := by rw [h]
theorem ret_i64 {a b : Int} (h : a = b) : Ending.returned (.int .i64 a) = .returned (.int .i64 b) := by rw [h]
theorem ofInt_i64 (a : Nat) (ha : a < 9223372036854775808) : (BitVec.ofInt 64 (a : Int)).toNat = a := by
  rw [BitVec.ofInt_natCast, BitVec.toNat_ofNat]; exact Nat.mod_eq_of_lt (by omega)
theorem i64_and_nat (a b : Nat) (ha : a < 9223372036854775808) (hb : b < 9223372036854775808) : bits .and .i64 (a : Int) (b : Int) = ((a &&& b : Nat) : Int) := by
  have hx : a &&& b < 2 ^ 63 := Nat.and_lt_two_pow _ (by omega)
  show IntKind.i64.wrap ((BitVec.ofInt 64 (a : Int) &&& BitVec.ofInt 64 (b : Int)).toNat : Int) = _
  rw [BitVec.toNat_and, ofInt_i64 a ha, ofInt_i64 b hb, IntKind.wrap_i64]
  omega
theorem i64_odd (q : Nat) (h : q < 9223372036854775808) : bits .and .i64 (q : Int) 1 = ((q % 2 : Nat) : Int) := by
  have := i64_and_nat q 1 h (by omega)
  rw [Nat.and_one_is_mod] at this
  exact this
/-- Bytes as values. -/
def bv (l : List Nat) : List Value := l.map fun (x : Nat) => .int .u8 (x : Int)
theorem bv_length (l : List Nat) : (bv l).length = l.length := by simp [bv]
theorem bv_at {l : List Nat} {j x : Nat} (h : l[j]? = some x) : (bv l)[j]? = some (.int .u8 (x : Int)) := by simp [bv, h]
theorem bv_append (a b : List Nat) : bv (a ++ b) = bv a ++ bv b := by simp [bv]
theorem bv_one (l : List Nat) : ∀ u ∈ bv l, u.oneCell' = true := by
  intro u hu
  obtain ⟨x, _, rfl⟩ := List.mem_map.1 hu
  rfl
/-- A slice of n bytes with this address reads as l. -/
def Rd (w : World) (A : Option Addr) (n : Nat) (l : List Nat) : Prop :=
  l.length = n ∧ (∀ x ∈ l, x < 256) ∧ (0 < n → ∃ b o, A = some ⟨b, o, none⟩ ∧ b < w.heap.size ∧ ∀ (j x : Nat), l[j]? = some x → w.cell? ⟨b, o + j, none⟩ = some (.int .u8 (x : Int)))
theorem Rd.nil (w : World) (A : Option Addr) : Rd w A 0 [] := ⟨rfl, by simp, by simp⟩
theorem Rd.keep {w w' : World} {A : Option Addr} {n : Nat} {l : List Nat} (h : Rd w A n l) (hs : w.heap.size ≤ w'.heap.size) (hk : ∀ p : Addr, p.block < w.heap.size → w'.cell? p = w.cell? p) : Rd w' A n l := by
  refine ⟨h.1, h.2.1, fun hn => ?_⟩
  obtain ⟨b, o, rfl, hb, hc⟩ := h.2.2 hn
  exact ⟨b, o, rfl, by omega, fun j x hx => (hk _ hb).trans (hc j x hx)⟩
theorem Rd.below {w w' : World} {A : Option Addr} {n : Nat} {l : List Nat} (h : Rd w A n l) (hb : Below w.heap.size w w') : Rd w' A n l := h.keep hb.size fun _ hp => hb.cell hp
theorem Rd.drew {w : World} {A : Option Addr} {n : Nat} {l : List Nat} (h : Rd w A n l) : Rd w.drew A n l := h
theorem Rd.alloc {w : World} {A : Option Addr} {n : Nat} {l : List Nat} (h : Rd w A n l) (o : Obj) : Rd (w.alloc o) A n l := h.below ((Below.refl _ _).alloc (Nat.le_refl _) o)
theorem Rd.len {w : World} {A : Option Addr} {n : Nat} {l : List Nat} (h : Rd w A n l) : l.length = n := h.1
theorem Rd.lt {w : World} {A : Option Addr} {n : Nat} {l : List Nat} (h : Rd w A n l) {x : Nat} (hx : x ∈ l) : x < 256 := h.2.1 x hx
theorem Rd.lt' {w : World} {A : Option Addr} {n : Nat} {l : List Nat} (h : Rd w A n l) {j x : Nat} (hx : l[j]? = some x) : x < 256 := h.2.1 x (List.mem_of_getElem? hx)
/-- The byte at a place that is there. -/
theorem Rd.at_ {w : World} {A : Option Addr} {n : Nat} {l : List Nat} (h : Rd w A n l) {k : Nat} (hk : k < n) : ∃ b o x, A = some ⟨b, o, none⟩ ∧ b < w.heap.size ∧ l[k]? = some x ∧ x < 256 ∧ w.cell? ⟨b, o + k, none⟩ = some (.int .u8 (x : Int)) := by
  obtain ⟨b, o, rfl, hb, hc⟩ := h.2.2 (by omega)
  have hx : l[k]? = some (l[k]'(by rw [h.1]; exact hk)) := List.getElem?_eq_getElem _
  exact ⟨b, o, _, rfl, hb, hx, h.lt' hx, hc k _ hx⟩
theorem Rd.take {w : World} {A : Option Addr} {n : Nat} {l : List Nat} (h : Rd w A n l) {k : Nat} (hk : k ≤ n) : Rd w A k (l.take k) := by
  refine ⟨by rw [List.length_take, h.1]; omega, fun x hx => h.2.1 x (List.mem_of_mem_take hx), fun hn => ?_⟩
  obtain ⟨b, o, rfl, hb, hc⟩ := h.2.2 (by omega)
  refine ⟨b, o, rfl, hb, fun j x hx => hc j x ?_⟩
  rw [List.getElem?_take] at hx
  split at hx
  · exact hx
  · cases hx
/-- A row that the call owns reads as its cells. -/
theorem Rd.own {w : World} {base n cap : Nat} {A : Option Addr} {l : List Nat} (h : w.ownsRow base 5 1 (.slice A n cap) n (bv l)) (hl : ∀ x ∈ l, x < 256) : Rd w A n l := by
  have hlen : l.length = n := by have := h.1; rw [bv_length] at this; omega
  refine ⟨hlen, hl, fun hn => ?_⟩
  rcases h.2 with ⟨hv, h0⟩ | ⟨g, c, cur, hv, hb, hg, hnc, hc, hs, ht⟩
  · omega
  · injection hv with hA _ _
    subst hA
    refine ⟨g, 0, rfl, (Array.getElem?_eq_some_iff.1 hg).1, fun j x hx => ?_⟩
    rw [Nat.zero_add, cell_of_row w g j cur 5 (0, 0) hg]
    have h1 : (bv l)[j]? = some (.int .u8 (x : Int)) := bv_at hx
    rw [← ht, List.getElem?_take] at h1
    split at h1
    · simpa using h1
    · cases h1
theorem take_snoc {l : List Nat} {k x : Nat} (h : l[k]? = some x) : l.take (k + 1) = l.take k ++ [x] := by
  rw [List.take_add_one, h]; rfl
theorem below_setRow {B : Nat} {a w : World} (h : Below B a w) {g : Nat} (hg : B ≤ g) (cs : Array Value) : Below B a (w.setRow g cs) :=
  h.trans ⟨rfl, rfl, rfl, by simp, fun k hk => setRow_other w g k cs (by omega)⟩
theorem info5 : (Try.prog.info? 5).map (fun i => (i.zero, i.size, i.bytes)) = some (some (.int .u8 0), 1, 1) := by kernel_rfl
/-- A slice of the call's own that holds the bytes l. -/
def Own (w : World) (base : Nat) (A : Option Addr) (n cap : Nat) (l : List Nat) : Prop :=
  l.length = n ∧ (∀ x ∈ l, x < 256) ∧ w.ownsRow base 5 1 (.slice A n cap) n (bv l)
section
variable {w w' : World} {base n cap : Nat} {A : Option Addr} {l : List Nat}
theorem Own.rd (h : Own w base A n cap l) : Rd w A n l := Rd.own h.2.2 h.2.1
theorem Own.grown (h : Own w base A n cap l) {row : Option Nat} (hg : w.grownBy w' row) (hne : row = none ∨ ∀ g, row = some g → (Value.slice A n cap).ownBlock ≠ some g) : Own w' base A n cap l := by
  refine ⟨h.1, h.2.1, h.2.2.kept hg ?_⟩
  rcases hb : (Value.slice A n cap).ownBlock with _ | g
  · exact .inl rfl
  · refine .inr fun e => ?_
    rcases hne with e2 | e2
    · rw [e2] at e; cases e
    · exact e2 g e.symm hb
theorem grown_of_below (h : Below w.heap.size w w') : w.grownBy w' none := ⟨h.os, h.tape, h.output, h.size, fun k hk _ => h.block k hk⟩
theorem Own.below (h : Own w base A n cap l) (hb : Below w.heap.size w w') : Own w' base A n cap l := h.grown (grown_of_below hb) (.inl rfl)
theorem Own.alloc (h : Own w base A n cap l) (o : Obj) : Own (w.alloc o) base A n cap l := h.below ((Below.refl _ _).alloc (Nat.le_refl _) o)
theorem Own.none_ (w : World) (base : Nat) : Own w base none 0 0 [] := ⟨rfl, by simp, World.ownsRow_nil w base 5 1⟩
theorem Own.made (w : World) (c : Nat) (hb : base ≤ w.heap.size) (hm : c ≤ 100000000) : Own (w.alloc (.cells (madeCells #[.int .u8 0] c) 5)) base (some ⟨w.heap.size, 0, none⟩) 0 c [] :=
  ⟨rfl, by simp, World.ownsRow_made w _ c hb (by simp only [maxLen]; omega) (by rw [size_madeCells, Nat.mul_one])⟩
theorem Own.lit (w : World) (l : List Nat) (hl : ∀ x ∈ l, x < 256) (hb : base ≤ w.heap.size) (hm : l.length ≤ 100000000) : Own (w.alloc (.cells (bv l).toArray 5)) base (some ⟨w.heap.size, 0, none⟩) l.length l.length l :=
  ⟨rfl, hl, by
    have := World.ownsRow_lit (base := base) (e := 5) (size := 1) w (bv l).toArray l.length hb (by simp only [maxLen]; omega) (by simp [bv])
    simpa using this⟩
theorem Own.blk (h : Own w base A n cap l) : ∀ g, (Value.slice A n cap).ownBlock = some g → base ≤ g ∧ g < w.heap.size := h.2.2.lt
/-- What append leaves. -/
structure Grew (w w' : World) (base : Nat) (A A' : Option Addr) (n cap n' cap' : Nat) (l : List Nat) : Prop where
  own : Own w' base A' n' cap' l
  grew : w.grownBy w' (Value.slice A n cap).ownBlock
  blk : (Value.slice A' n' cap').ownBlock = (Value.slice A n cap).ownBlock ∨ (Value.slice A' n' cap').ownBlock = some w.heap.size
theorem Grew.below {a : World} {n' cap' : Nat} {A' : Option Addr} {B : Nat} (h : Grew w w' base A A' n cap n' cap' l) (hb : Below B a w) (hB : B ≤ w.heap.size) (hr : ∀ g, (Value.slice A n cap).ownBlock = some g → B ≤ g) : Below B a w' :=
  hb.grown h.grew hB hr
set_option maxRecDepth 100000 in
theorem run_appB (hown : Own w base A n cap l) (B : Option Addr) (m c : Nat) (news : List Nat) (hr : Rd w B m news) (hlen : n + m ≤ 100000000) (hbase : base ≤ w.heap.size) (ty : TypeId) :
    ∃ A' cap' w', (Builtin.append_ #[28, 28] ty #[.slice A n cap, .slice B m c]).run Try.prog w = .ok (.slice A' (n + m) cap') w' ∧ Grew w w' base A A' n cap (n + m) cap' (l ++ news) := by
  obtain ⟨i0, hi, hz0, hz1, hz2⟩ := info_parts info5
  have hbytes : ∀ x ∈ l ++ news, x < 256 := fun x hx => (List.mem_append.1 hx).elim (hown.2.1 x) (hr.2.1 x)
  have hlen2 : (l ++ news).length = n + m := by rw [List.length_append, hown.1, hr.1]
  by_cases hB : ∃ ad, B = some ad
  · obtain ⟨ad, rfl⟩ := hB
    have hnews : ∀ j u, (bv news)[j]? = some u → w.cell? (ad.add j) = some u := by
      intro j u hu
      by_cases hm : 0 < m
      · obtain ⟨b, o, he, _, hc⟩ := hr.2.2 hm
        injection he with he
        subst he
        have hj : j < news.length := by
          have := (List.getElem?_eq_some_iff.1 hu).1
          simpa [bv] using this
        have hx : news[j]? = some news[j] := List.getElem?_eq_getElem hj
        have e : (⟨b, o, none⟩ : Addr).add j = ⟨b, o + j, none⟩ := by unfold Addr.add; split <;> simp_all
        rw [e, hc j _ hx]
        rw [bv_at hx] at hu
        exact hu
      · have h0 : news = [] := List.eq_nil_of_length_eq_zero (by rw [hr.1]; omega)
        subst h0
        simp [bv] at hu
    obtain ⟨v', w', hrun, h2, h3, _, h5⟩ := run_append_own_at (P := Try.prog) w base 28 ty 5 i0 _ 1 1 Try.underlying28 hi hz0 hz1 hz2 rfl (by omega) (.slice A n cap) n (bv l) hown.2.2 ad m c (bv news)
      (by rw [bv_length, hr.1]; omega) hnews (bv_one _) (by simp only [maxLen]; omega) (by omega) hbase
    have hf : ∃ A' cap', v' = .slice A' (n + m) cap' := by
      rcases h2.2 with ⟨hv, h0⟩ | ⟨g, c', cur, hv, _⟩
      · exact ⟨none, 0, by rw [hv, h0]⟩
      · exact ⟨_, _, hv⟩
    obtain ⟨A', cap', rfl⟩ := hf
    exact ⟨A', cap', w', hrun, ⟨hlen2, hbytes, by rw [bv_append]; exact h2⟩, h3, h5⟩
  · have hB : B = none := by
      rcases B with _ | ad
      · rfl
      · exact absurd ⟨ad, rfl⟩ hB
    subst hB
    have hm : m = 0 := by
      rcases Nat.eq_zero_or_pos m with h0 | h0
      · exact h0
      · obtain ⟨b, o, he, _⟩ := hr.2.2 h0
        cases he
    subst hm
    have h0 : news = [] := List.eq_nil_of_length_eq_zero hr.1
    subst h0
    have hrun : (Builtin.append_ #[28, 28] ty #[.slice A n cap, .slice none 0 c]).run Try.prog w = .ok (.slice A n cap) w := by
      rcases hown.2.2.2 with ⟨hv, hn0⟩ | ⟨g, c', cur, hv, _, _, hnc, _⟩
      · rw [hv]
        simp [Builtin.append_, run_underlying Try.underlying28, sizeOf, typeInfo, hi, Builtin.lenOf, Builtin.firstCells]
      · rw [hv]
        simp [Builtin.append_, run_underlying Try.underlying28, sizeOf, typeInfo, hi, Builtin.lenOf, Builtin.firstCells, hnc, storeCells]
    exact ⟨A, cap, w, hrun, ⟨by simpa using hown, World.grownBy.refl w _, .inl rfl⟩⟩
theorem wpList_appB {ops : Array Oper} {rest : List Oper} {o : Oper} {a : Act} {Q : Exit → Act → World → Prop} (hgd : o.guard = none) (s x : Operand)
    (ho : o.op = .call { callee := .builtin .append, args := #[s, x], argTypes := #[28, 28] })
    (hs : a.eval s = .slice A n cap) (hown : Own w base A n cap l) (B : Option Addr) (m c : Nat) (news : List Nat) (hx : a.eval x = .slice B m c) (hr : Rd w B m news) (hlen : n + m ≤ 100000000) (hbase : base ≤ w.heap.size)
    (h : ∀ A' cap' w', Grew w w' base A A' n cap (n + m) cap' (l ++ news) → wpList Try.prog ops Q rest (a.put o.dst (.slice A' (n + m) cap')) w') : wpList Try.prog ops Q (o :: rest) a w := by
  obtain ⟨A', cap', w', hrun, hg⟩ := run_appB hown B m c news hr hlen hbase o.type
  refine wpList_plain hgd fun K hK => ?_
  unfold Oper.wp execOp
  simp only [ho, resolve, invoke, builtin, Sem.run_bind, Sem.run_pure, Result.andThen_ok, List.map_toArray, List.map_cons, List.map_nil, hs, hx, hrun]
  exact hK _ _ (h A' cap' w' hg)
end
def GivesBytes (w : World) (l : List Nat) (e : Ending) (w' : World) : Prop :=
  ∃ A cap, e = .returned (.slice A l.length cap) ∧ Own w' w.heap.size A l.length cap l ∧ Below w.heap.size w w'
theorem own_len {w : World} {base n m cap : Nat} {A : Option Addr} {l : List Nat} (h : Own w base A n cap l) (e : n = m) : Own w base A m cap l := by subst e; exact h
/-- Bytes as a string. -/
def str (l : List Nat) : ByteArray := ⟨(l.map fun (n : Nat) => UInt8.ofNat n).toArray⟩
theorem str_inj {a b : List Nat} (ha : ∀ x ∈ a, x < 256) (hb : ∀ x ∈ b, x < 256) (h : str a = str b) : a = b := by
  have h1 : (a.map fun (n : Nat) => UInt8.ofNat n) = b.map fun (n : Nat) => UInt8.ofNat n := by
    have := congrArg (fun s : ByteArray => s.data.toList) h
    simpa [str] using this
  have back : ∀ l : List Nat, (∀ x ∈ l, x < 256) → (l.map fun (n : Nat) => UInt8.ofNat n).map UInt8.toNat = l := by
    intro l hl
    induction l with
    | nil => rfl
    | cons x t ih =>
      rw [List.map_cons, List.map_cons, ih (fun y hy => hl y (List.mem_cons_of_mem _ hy))]
      congr 1
      have := hl x (List.mem_cons_self ..)
      simp [UInt8.toNat_ofNat']
      omega
  rw [← back a ha, ← back b hb, h1]
theorem str_eq {a b : List Nat} (ha : ∀ x ∈ a, x < 256) (hb : ∀ x ∈ b, x < 256) : str a = str b ↔ a = b := ⟨str_inj ha hb, fun h => by rw [h]⟩
set_option maxRecDepth 100000 in
theorem run_str {w : World} {A : Option Addr} {n cap : Nat} {l : List Nat} (h : Rd w A n l) : (convert 28 9 (.slice A n cap)).run Try.prog w = .ok (.string (str l)) w := by
  rcases A with _ | ad
  · have h0 : n = 0 := by
      rcases Nat.eq_zero_or_pos n with h0 | h0
      · exact h0
      · obtain ⟨b, o, he, _⟩ := h.2.2 h0
        cases he
    subst h0
    have hl : l = [] := List.eq_nil_of_length_eq_zero h.1
    subst hl
    exact run_convert_bytes_nil w 28 5 Try.underlying28 Try.underlying5 0 cap 9 Try.underlying9
  · by_cases h0 : 0 < n
    · obtain ⟨b, o, he, _, hc⟩ := h.2.2 h0
      injection he with he
      subst he
      have hr := run_convert_bytes_arg (P := Try.prog) w 28 5 Try.underlying28 Try.underlying5 b o n cap (l.map fun (x : Nat) => (x : Int)) (by simpa using h.1)
        (fun i hi => by
          have hi2 : i < l.length := by rw [h.1]; exact hi
          rw [hc i l[i] (List.getElem?_eq_getElem hi2)]
          simp [hi2]) 9 Try.underlying9
      rw [hr]
      congr 2
      simp [strOfNums, str]
    · have h1 : n = 0 := by omega
      subst h1
      have hl : l = [] := List.eq_nil_of_length_eq_zero h.1
      subst hl
      rw [run_convert_bytes_string w 28 9 5 (some ad) 0 cap Try.underlying28 Try.underlying5 Try.underlying9]
      have := run_bytesToString (P := Try.prog) w ad 0 cap [] (by simp [loadCells, loadCellsFrom, Sem.run_pure])
      exact this
theorem str_same {a b : List Nat} (h : a = b) : ((str a).toList == (str b).toList) = true := by rw [h]; simp
theorem str_other {a b : List Nat} (ha : ∀ x ∈ a, x < 256) (hb : ∀ x ∈ b, x < 256) (h : a ≠ b) : ((str a).toList == (str b).toList) = false := by
  rw [beq_eq_false_iff_ne]
  intro e
  rw [ByteArray.toList_eq, ByteArray.toList_eq] at e
  apply h
  refine str_inj ha hb ?_
  have e2 : (str a).data = (str b).data := by
    have := congrArg List.toArray e
    simpa using this
  cases ha' : str a
  cases hb' : str b
  rw [ha', hb'] at e2
  exact congrArg ByteArray.mk e2
theorem Own.drew {w : World} {base n cap : Nat} {A : Option Addr} {l : List Nat} (h : Own w base A n cap l) : Own w.drew base A n cap l := h
theorem rd_new (w : World) (l : List Nat) (hl : ∀ x ∈ l, x < 256) (fr : Nat × Nat) : Rd (w.alloc (.cells (bv l).toArray 5 fr)) (some ⟨w.heap.size, 0, none⟩) l.length l := by
  refine ⟨rfl, hl, fun hn => ⟨w.heap.size, 0, rfl, by simp, fun j x hx => ?_⟩⟩
  rw [Nat.zero_add, World.cell?_alloc_mark]
  have := bv_at hx
  simpa using this
theorem Own.cap {w : World} {base n cap : Nat} {A : Option Addr} {l : List Nat} (h : Own w base A n cap l) : n ≤ cap := by
  rcases h.2.2.2 with ⟨hv, hn⟩ | ⟨g, c, cur, hv, _, _, hc, _⟩
  · omega
  · injection hv with _ _ h3
    omega
theorem mod_u32 (x : Nat) (h : x < 4294967296) : (x : Int) % 4294967296 = x := by omega
theorem mod_u8 (x : Nat) (h : x < 256) : (x : Int) % 256 = x := by omega
theorem pow_cast (k : Nat) : (2 : Int) ^ k = ((2 ^ k : Nat) : Int) := by simp
theorem Own.set {w : World} {base n cap g : Nat} {l : List Nat} (h : Own w base (some ⟨g, 0, none⟩) n cap l) (j y : Nat) (hy : y < 256) : Own (w.setCell ⟨g, j, none⟩ (.int .u8 (y : Int))) base (some ⟨g, 0, none⟩) n cap (l.set j y) := by
  refine ⟨by rw [List.length_set]; exact h.1, fun x hx => ?_, ?_⟩
  · rcases List.mem_or_eq_of_mem_set hx with h1 | h1
    · exact h.2.1 x h1
    · omega
  · have e : bv (l.set j y) = (bv l).set j (.int .u8 (y : Int)) := by unfold bv; rw [List.map_set]
    rw [e]
    exact (h.2.2.stored j _).1
theorem Own.cell {w : World} {base n cap g : Nat} {l : List Nat} (h : Own w base (some ⟨g, 0, none⟩) n cap l) {j x : Nat} (hx : l[j]? = some x) : w.cell? ⟨g, j, none⟩ = some (.int .u8 (x : Int)) := by
  have hj : j < n := by have := (List.getElem?_eq_some_iff.1 hx).1; rw [h.1] at this; exact this
  rw [h.2.2.cellAt j (by omega)]
  exact bv_at hx
theorem Own.free {w : World} {base n cap g : Nat} {l : List Nat} (h : Own w base (some ⟨g, 0, none⟩) n cap l) (j : Nat) : w.frozen? ⟨g, j, none⟩ = false := h.2.2.frozenAt j
/-- make of n bytes. -/
theorem make_all (n : Nat) (hn : n ≤ 1000000) : ∀ w : World, (Instr.makeSlice 28 (.int .i64 (n : Int)) (.int .i64 (n : Int))).run Try.prog w = .ok (.slice (some ⟨w.heap.size, 0, none⟩) n n) (w.alloc (.cells (madeCells #[.int .u8 0] n) 5)) := by
  intro w
  obtain ⟨i0, hi, hz0, hz1, hz2⟩ := info_parts info5
  have hr := run_make (P := Try.prog) w 28 5 i0 _ Try.underlying28 hi hz0 .i64 .i64 n n (by omega) (by omega) (by rw [hz2]; omega) (by omega)
  rw [hz1] at hr
  rw [Int.toNat_natCast, Nat.mul_one] at hr
  exact hr
theorem Own.zeros (w : World) (base n : Nat) (hb : base ≤ w.heap.size) (hn : n ≤ 100000000) : Own (w.alloc (.cells (madeCells #[.int .u8 0] n) 5)) base (some ⟨w.heap.size, 0, none⟩) n n (List.replicate n 0) := by
  refine ⟨by simp, fun x hx => by rw [List.eq_of_mem_replicate hx]; omega, ?_⟩
  have h := World.ownsRow_lit (base := base) (e := 5) (size := 1) w (madeCells #[.int .u8 0] n) n hb (by simp only [maxLen]; omega) (by rw [size_madeCells, Nat.mul_one])
  rw [toList_madeCells_one] at h
  have e : bv (List.replicate n 0) = List.replicate n (.int .u8 0) := by simp [bv]
  rw [e]
  exact h
/-- A region that draws its order and whose operations leave a world of the class C: one walk serves every order. -/
theorem region_class {P : Program} {id : Nat} {Q : Exit → Act → World → Prop} {a : Act} {w : World} {l : List Oper} (C : World → Prop) (hm : P.follows .mixedOrders = true) (hB : Region.lexB .any l.toArray = true) (hC : C w.drew)
    (h : wpQuiet P l.toArray C (fun a' => ∀ w', C w' → Q .normal a' w') l a) : (Code.region id l.toArray true).wp P Q a w :=
  wp_region_quiet (C := C) hm hB hC (by simpa using h)
theorem calls_class {P : Program} {f : FuncId} {args : Array Value} {W w : World} {v : Value} (hq : Below W.heap.size W w) (h : Calls P f args w fun e w' => e = .returned v ∧ Below w.heap.size w w') :
    Calls P f args w fun e w' => e = .returned v ∧ Below W.heap.size W w' := h.mono fun _ _ ⟨he, hb⟩ => ⟨he, hq.trans (hb.mono hq.size)⟩
theorem Own.form {w : World} {base n cap : Nat} {A : Option Addr} {l : List Nat} (h : Own w base A n cap l) (hn : 0 < n) : ∃ g, A = some ⟨g, 0, none⟩ ∧ base ≤ g ∧ g < w.heap.size := by
  rcases h.2.2.2 with ⟨hv, h0⟩ | ⟨g, c, cur, hv, hb, hg, _⟩
  · omega
  · injection hv with hA _ _
    exact ⟨g, hA, hb, (Array.getElem?_eq_some_iff.1 hg).1⟩
/-- append onto a new, empty slice. -/
theorem Grew.fresh {w w1 : World} {A1 : Option Addr} {n cap1 : Nat} {l : List Nat} (h : Grew (w.alloc (.cells #[] 5)) w1 w.heap.size (some ⟨w.heap.size, 0, none⟩) A1 0 0 (0 + n) cap1 ([] ++ l)) : Below w.heap.size w w1 ∧ Own w1 w.heap.size A1 n cap1 l := by
  refine ⟨h.below ((Below.refl _ _).alloc (Nat.le_refl _) _) (by simp) (fun g hg => by simp [Value.ownBlock] at hg; omega), ?_⟩
  have := h.own
  rw [Nat.zero_add, List.nil_append] at this
  exact this
theorem Own.empty (w : World) : Own (w.alloc (.cells #[] 5)) w.heap.size (some ⟨w.heap.size, 0, none⟩) 0 0 [] := Own.lit (base := w.heap.size) w [] (by simp) (Nat.le_refl _) (by simp)
theorem size_alloc_le (w : World) (o : Obj) : w.heap.size ≤ (w.alloc o).heap.size := by simp
/-- What the walk is told of a slice of integers that came in: it is nil, or it leads to a row of 'cap' cells whose numbers fit their kind. -/
def IsRow (k : IntKind) (w : World) (a : Option Addr) (len cap : Nat) (zs : List Int) : Prop :=
  (a = none ∧ len = 0 ∧ cap = 0 ∧ zs = []) ∨
  ∃ x, a = some x ∧ len ≤ cap ∧ cap ≤ maxLen ∧ zs.length = cap ∧ (∀ i, i < zs.length → w.cell? (x.add i) = some (.int k (zs.getD i 0))) ∧ ∀ n ∈ zs, (Lit.int k n).wf = true
theorem row_rd {w : World} {a : Option Addr} {len cap : Nat} {zs : List Int} (h : IsRow .u8 w a len cap zs) : ∃ l, Rd w a len l ∧ len ≤ cap ∧ len ≤ 9223372036854775807 := by
  rcases h with ⟨rfl, rfl, rfl, rfl⟩ | ⟨x, rfl, hc, hm, hz, hcell, hwf⟩
  · exact ⟨[], Rd.nil w none, Nat.le_refl _, by omega⟩
  · simp only [maxLen] at hm
    have hb : ∀ n ∈ zs, 0 ≤ n ∧ n < 256 := by
      intro n hn
      have := hwf n hn
      simp [Lit.wf, IntKind.min, IntKind.max, IntKind.signed, IntKind.bits] at this
      omega
    refine ⟨(zs.take len).map Int.toNat, ⟨by rw [List.length_map, List.length_take]; omega, fun x hx => ?_, fun hn => ?_⟩, hc, by omega⟩
    · obtain ⟨n, hn, rfl⟩ := List.mem_map.1 hx
      have := hb n (List.mem_of_mem_take hn)
      omega
    · obtain ⟨b, off, rfl, hc2⟩ := ints_at hcell (by omega)
      refine ⟨b, off, rfl, ?_, fun j y hy => ?_⟩
      · have h0 := hc2 0 (by omega)
        exact block_lt_of_cell h0
      · rw [List.getElem?_map, List.getElem?_take] at hy
        split at hy
        · rename_i hj
          have hj2 : j < zs.length := by omega
          rw [hc2 j hj2]
          rw [List.getElem?_eq_getElem hj2] at hy
          simp only [Option.map_some, Option.some.injEq] at hy
          have := hb zs[j] (List.getElem_mem hj2)
          rw [List.getD_eq_getElem?_getD, List.getElem?_eq_getElem hj2, Option.getD_some, ← hy]
          congr 2
          omega
        · cases hy
theorem u32_in {a : Int} (h : (Lit.int .u32 a).wf = true) : ∃ c : Nat, a = (c : Int) ∧ c < 4294967296 := by
  simp [Lit.wf, IntKind.min, IntKind.max, IntKind.signed, IntKind.bits] at h
  exact ⟨a.toNat, by omega, by omega⟩
theorem u64_in {a : Int} (h : (Lit.int .u64 a).wf = true) : ∃ c : Nat, a = (c : Int) ∧ c < 18446744073709551616 := by
  simp [Lit.wf, IntKind.min, IntKind.max, IntKind.signed, IntKind.bits] at h
  exact ⟨a.toNat, by omega, by omega⟩
theorem i64_in {a : Int} (h : (Lit.int .i64 a).wf = true) : -9223372036854775808 ≤ a ∧ a ≤ 9223372036854775807 := by
  simp [Lit.wf, IntKind.min, IntKind.max, IntKind.signed, IntKind.bits] at h
  omega
theorem below_next {a v v' : World} (h : Below a.heap.size a v) (hb : Below v.heap.size v v') : Below a.heap.size a v' := h.trans (hb.mono h.size)
theorem byte_at {w : World} {A : Option Addr} {n : Nat} {l : List Nat} (h : Rd w A n l) {k : Nat} (hk : k < n) : ∃ x, l[k]? = some x ∧ x < 256 := by
  obtain ⟨_, _, x, _, _, hx, hx2, _⟩ := h.at_ hk
  exact ⟨x, hx, hx2⟩
theorem own_far {w : World} {base n cap g j : Nat} {A : Option Addr} {l : List Nat} (h : Own w base A n cap l) (hg : g < base) (u : Value) : Own (w.setCell ⟨g, j, none⟩ u) base A n cap l := by
  refine h.grown (row := some g) ⟨rfl, rfl, rfl, by simp [World.setCell], fun k hk hne => Below.heap_setCell _ _ _ _ (fun e => hne (by rw [e]))⟩ (.inr fun g' hg' e => ?_)
  injection hg' with hg'
  have := (h.blk _ e).1
  omega
end Go.Proofs.Ytbdomhookjmmgaa
