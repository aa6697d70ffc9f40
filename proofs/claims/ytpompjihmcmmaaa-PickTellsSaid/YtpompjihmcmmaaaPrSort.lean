/- slices.Sort over a slice of ints of the call's own. -/
import Derived.Test.YtpompjihmcmmaaaMlSort
import Derived.Test.YtpompjihmcmmaaaRowC
namespace Go.Proofs.Ytpompjihmcmmaaa
open Go.RowKit
theorem sort_any (A : Option Addr) (base n cap : Nat) (xs : List Int) (w : World) (h : OwnV w base 3 A n cap (xs.map (Value.int .i64))) (hn : n ≤ 1000000) :
    Calls Try.prog 39 #[.slice A n cap] w fun e w' => e = .returned (.tuple #[]) ∧ RdV w' A n ((xs.mergeSort fun x y => decide (x ≤ y)).map (Value.int .i64)) ∧ w.grownBy w' (Value.slice A n cap).ownBlock := by
  have hl : xs.length = n := by have := h.1; simpa using this
  rcases Nat.eq_zero_or_pos n with h0 | h0
  · subst h0
    have e0 : xs = [] := List.eq_nil_of_length_eq_zero hl
    subst e0
    refine (Try.slices_Sort_int_none A cap w).mono ?_
    rintro e w' ⟨rfl, rfl⟩
    exact ⟨rfl, by simpa using RdV.nil w' A, World.grownBy.refl _ _⟩
  · obtain ⟨g, rfl, hg1, hg2⟩ := h.form h0
    have hH : Go.Sort.Holds (Value.int .i64) w g 0 xs.toArray := by
      intro j hj
      have hj : j < xs.length := by simpa using hj
      refine ⟨?_, h.free _⟩
      rw [Nat.zero_add]
      refine h.cell ?_
      rw [List.getElem?_map, List.getElem?_eq_getElem hj]
      simp [hj]
    have hc := Try.slices_Sort_int g 0 cap xs w hH hg2 (by omega)
    rw [hl] at hc
    refine hc.mono ?_
    rintro e w' ⟨rfl, m, os, rfl⟩
    have hys : (xs.mergeSort fun x y => decide (x ≤ y)).length = n := by rw [List.length_mergeSort]; exact hl
    have hbs : g < (Go.Sort.putRow (Value.int .i64) (Go.Sort.ahead w m) g 0 (xs.mergeSort fun x y => decide (x ≤ y)).toArray).heap.size := by simpa using hg2
    refine ⟨rfl, ⟨by simp [hys], fun _ => ⟨g, 0, rfl, by simp; omega, fun j v hv => ?_⟩⟩, rfl, rfl, rfl, by simp, fun k hk hne => ?_⟩
    · rw [Go.Sort.cell?_grow _ _ _ hbs]
      rw [List.getElem?_map] at hv
      obtain ⟨y, hy, rfl⟩ := Option.map_eq_some_iff.1 hv
      have hj := (List.getElem?_eq_some_iff.1 hy).1
      have := ((Go.Sort.holds_putRow (Value.int .i64) (Go.Sort.ahead w m) g 0 xs.toArray (xs.mergeSort fun x y => decide (x ≤ y)).toArray hH (by simp)) j (by simpa using hj)).1
      rw [this]
      congr 2
      simp [hy]
    · rw [Go.Sort.heap_grow_old _ _ (by simpa using hk)]
      show (Go.Sort.mapBlock _ _ _).heap[k]? = _
      have hkg : g ≠ k := fun e => hne (by rw [e]; rfl)
      simp [Go.Sort.mapBlock, Array.getElem?_modify, hkg]
end Go.Proofs.Ytpompjihmcmmaaa
