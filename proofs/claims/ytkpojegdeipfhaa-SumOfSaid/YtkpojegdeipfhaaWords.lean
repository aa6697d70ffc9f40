/- Words for memory: a slice of bytes that reads as a list of numbers, and how such a reading lives on when memory grows. -/
import Derived.Below
import Derived.Lib.Hide
import Derived.Laws.OwnMore
import Derived.Deep.AppendLies
import Derived.Deep.Draws
import Derived.Maps.AppendAt
namespace Go.Proofs.Ytkpojegdeipfhaa
open Go.RowKit
/-- Bytes as values. -/
def bv (l : List Nat) : List Value := l.map fun (x : Nat) => .int .u8 (x : Int)
theorem bv_length (l : List Nat) : (bv l).length = l.length := by simp [bv]
theorem bv_at {l : List Nat} {j x : Nat} (h : l[j]? = some x) : (bv l)[j]? = some (.int .u8 (x : Int)) := by simp [bv, h]
theorem bv_append (a b : List Nat) : bv (a ++ b) = bv a ++ bv b := by simp [bv]
theorem bv_one (l : List Nat) : ∀ u ∈ bv l, u.oneCell' = true := by
  intro u hu
  obtain ⟨x, _, rfl⟩ := List.mem_map.1 hu
  rfl
/-- A slice of n bytes with this address reads as l. -/
def Rd (w : World) (A : Option Addr) (n : Nat) (l : List Nat) : Prop :=
  l.length = n ∧ (∀ x ∈ l, x < 256) ∧ (0 < n → ∃ b o, A = some ⟨b, o, none⟩ ∧ b < w.heap.size ∧ ∀ (j x : Nat), l[j]? = some x → w.cell? ⟨b, o + j, none⟩ = some (.int .u8 (x : Int)))
theorem Rd.nil (w : World) (A : Option Addr) : Rd w A 0 [] := ⟨rfl, by simp, by simp⟩
theorem Rd.keep {w w' : World} {A : Option Addr} {n : Nat} {l : List Nat} (h : Rd w A n l) (hs : w.heap.size ≤ w'.heap.size) (hk : ∀ p : Addr, p.block < w.heap.size → w'.cell? p = w.cell? p) : Rd w' A n l := by
  refine ⟨h.1, h.2.1, fun hn => ?_⟩
  obtain ⟨b, o, rfl, hb, hc⟩ := h.2.2 hn
  exact ⟨b, o, rfl, by omega, fun j x hx => (hk _ hb).trans (hc j x hx)⟩
theorem Rd.below {w w' : World} {A : Option Addr} {n : Nat} {l : List Nat} (h : Rd w A n l) (hb : Below w.heap.size w w') : Rd w' A n l := h.keep hb.size fun _ hp => hb.cell hp
theorem Rd.drew {w : World} {A : Option Addr} {n : Nat} {l : List Nat} (h : Rd w A n l) : Rd w.drew A n l := h
theorem Rd.alloc {w : World} {A : Option Addr} {n : Nat} {l : List Nat} (h : Rd w A n l) (o : Obj) : Rd (w.alloc o) A n l := h.below ((Below.refl _ _).alloc (Nat.le_refl _) o)
theorem Rd.len {w : World} {A : Option Addr} {n : Nat} {l : List Nat} (h : Rd w A n l) : l.length = n := h.1
theorem Rd.lt {w : World} {A : Option Addr} {n : Nat} {l : List Nat} (h : Rd w A n l) {x : Nat} (hx : x ∈ l) : x < 256 := h.2.1 x hx
theorem Rd.lt' {w : World} {A : Option Addr} {n : Nat} {l : List Nat} (h : Rd w A n l) {j x : Nat} (hx : l[j]? = some x) : x < 256 := h.2.1 x (List.mem_of_getElem? hx)
/-- The byte at a place that is there. -/
theorem Rd.at_ {w : World} {A : Option Addr} {n : Nat} {l : List Nat} (h : Rd w A n l) {k : Nat} (hk : k < n) : ∃ b o x, A = some ⟨b, o, none⟩ ∧ b < w.heap.size ∧ l[k]? = some x ∧ x < 256 ∧ w.cell? ⟨b, o + k, none⟩ = some (.int .u8 (x : Int)) := by
  obtain ⟨b, o, rfl, hb, hc⟩ := h.2.2 (by omega)
  have hx : l[k]? = some (l[k]'(by rw [h.1]; exact hk)) := List.getElem?_eq_getElem _
  exact ⟨b, o, _, rfl, hb, hx, h.lt' hx, hc k _ hx⟩
theorem Rd.take {w : World} {A : Option Addr} {n : Nat} {l : List Nat} (h : Rd w A n l) {k : Nat} (hk : k ≤ n) : Rd w A k (l.take k) := by
  refine ⟨by rw [List.length_take, h.1]; omega, fun x hx => h.2.1 x (List.mem_of_mem_take hx), fun hn => ?_⟩
  obtain ⟨b, o, rfl, hb, hc⟩ := h.2.2 (by omega)
  refine ⟨b, o, rfl, hb, fun j x hx => hc j x ?_⟩
  rw [List.getElem?_take] at hx
  split at hx
  · exact hx
  · cases hx
/-- A row that the call owns reads as its cells. -/
theorem Rd.own {w : World} {base n cap : Nat} {A : Option Addr} {l : List Nat} (h : w.ownsRow base 5 1 (.slice A n cap) n (bv l)) (hl : ∀ x ∈ l, x < 256) : Rd w A n l := by
  have hlen : l.length = n := by have := h.1; rw [bv_length] at this; omega
  refine ⟨hlen, hl, fun hn => ?_⟩
  rcases h.2 with ⟨hv, h0⟩ | ⟨g, c, cur, hv, hb, hg, hnc, hc, hs, ht⟩
  · omega
  · injection hv with hA _ _
    subst hA
    refine ⟨g, 0, rfl, (Array.getElem?_eq_some_iff.1 hg).1, fun j x hx => ?_⟩
    rw [Nat.zero_add, cell_of_row w g j cur 5 (0, 0) hg]
    have h1 : (bv l)[j]? = some (.int .u8 (x : Int)) := bv_at hx
    rw [← ht, List.getElem?_take] at h1
    split at h1
    · simpa using h1
    · cases h1
theorem take_snoc {l : List Nat} {k x : Nat} (h : l[k]? = some x) : l.take (k + 1) = l.take k ++ [x] := by
  rw [List.take_add_one, h]; rfl
theorem below_setRow {B : Nat} {a w : World} (h : Below B a w) {g : Nat} (hg : B ≤ g) (cs : Array Value) : Below B a (w.setRow g cs) :=
  h.trans ⟨rfl, rfl, rfl, by simp, fun k hk => setRow_other w g k cs (by omega)⟩
end Go.Proofs.Ytkpojegdeipfhaa
