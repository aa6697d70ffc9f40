/- A disk and the document's, side by side. -/
import Derived.Test.YtamdihodconjiaaRkSame
import Derived.Test.YtamdihodconjiaaDkRun
namespace Go.Proofs.Ytamdihodconjiaa
open Go.RowKit
set_option linter.unusedVariables false
structure Duo (a w : World) (d g : Nat) (st : Dk.St) (cnt : Nat) (lab labR : Nat → Tag) : Prop where
  base : Below a.heap.size a w
  disk : IsDisk w d lab st
  ref : IsRef w g labR st
  la : ∀ k, lab k ≠ .no → a.heap.size ≤ k
  lr : ∀ k, labR k ≠ .no → a.heap.size ≤ k
  apart : ∀ k, lab k = .no ∨ labR k = .no
  low : st.low cnt
/-- Blocks of neither disk stay. -/
structure Fr (lab labR : Nat → Tag) (w w' : World) : Prop where
  size : w.heap.size ≤ w'.heap.size
  block : ∀ k, k < w.heap.size → lab k = .no → labR k = .no → w'.heap[k]? = w.heap[k]?
section
variable {a w w1 w2 : World} {d g cnt : Nat} {st st1 : Dk.St} {lab labR lab1 : Nat → Tag}
theorem Duo.below (h : Duo a w d g st cnt lab labR) (hb : Below w.heap.size w w1) : Duo a w1 d g st cnt lab labR := ⟨h.base.trans (hb.mono h.base.size), h.disk.below hb, h.ref.below hb, h.la, h.lr, h.apart, h.low⟩
theorem Duo.more (h : Duo a w d g st cnt lab labR) : Duo a w d g st (cnt + 1) lab labR := ⟨h.base, h.disk, h.ref, h.la, h.lr, h.apart, ⟨h.low.1, by have := h.low.2.1; omega, h.low.2.2.1, h.low.2.2.2.1, fun s hs => Nat.le_succ_of_le (h.low.2.2.2.2 s hs)⟩⟩
theorem Duo.new_ (h : Duo a w d g st cnt lab labR) {k : Nat} (hk : w.heap.size ≤ k) : lab k = .no ∧ labR k = .no := ⟨h.disk.new_ hk, by
  cases e : labR k with
  | no => rfl
  | _ => exact absurd (h.ref.old k (by rw [e]; simp)) (by omega)⟩
/-- Behind the program's call: the document's stands as it stood. -/
structure Half (a w w1 : World) (d g : Nat) (st st1 : Dk.St) (lab labR lab1 : Nat → Tag) : Prop where
  base : Below a.heap.size a w1
  disk : IsDisk w1 d lab1 st1
  ref : IsRef w1 g labR st
  la : ∀ k, lab1 k ≠ .no → a.heap.size ≤ k
  apart : ∀ k, lab1 k = .no ∨ labR k = .no
  stay : Lab w lab lab1
  fr : Fr lab labR w w1
theorem Duo.half (h : Duo a w d g st cnt lab labR) (hD : IsDisk w1 d lab1 st1) (hC : Chg lab w w1) (hL : Lab w lab lab1) : Half a w w1 d g st st1 lab labR lab1 where
  base := hC.below h.base h.la h.base.size
  disk := hD
  ref := h.ref.keep hC.size fun k hk => hC.block k (h.ref.old k hk) ((h.apart k).resolve_right hk)
  la := hL.above h.la h.base.size
  apart := fun k => by
    by_cases e : k < w.heap.size
    · rw [hL k e]; exact h.apart k
    · exact .inr (h.new_ (by omega)).2
  stay := hL
  fr := ⟨hC.size, fun k hk h1 _ => hC.block k hk h1⟩
theorem Half.whole (h : Half a w w1 d g st st1 lab labR lab1) (h0 : Duo a w d g st cnt lab labR) (hl : LeftR labR g st1 w1 w2) {cnt' : Nat} (hlow : st1.low cnt') : ∃ lab2, Duo a w2 d g st1 cnt' lab1 lab2 ∧ Fr lab labR w w2 ∧ Lab w1 labR lab2 := by
  obtain ⟨lab2, hR, hC, hL⟩ := hl
  refine ⟨lab2, ⟨hC.below h.base h0.lr h.base.size, h.disk.keep hC.size fun k hk => hC.block k (h.disk.old k hk) ((h.apart k).resolve_left hk), hR, h.la, hL.above h0.lr h.base.size, fun k => ?_, hlow⟩, ⟨Nat.le_trans h.fr.size hC.size, fun k hk h1 h2 => (hC.block k (Nat.lt_of_lt_of_le hk h.fr.size) h2).trans (h.fr.block k hk h1 h2)⟩, hL⟩
  by_cases e : k < w1.heap.size
  · rw [hL k e]; exact h.apart k
  · exact .inl (h.disk.new_ (by omega))
end
theorem Fr.cell {lab labR : Nat → Tag} {w w' : World} (h : Fr lab labR w w') {b i : Nat} (hb : b < w.heap.size) (h1 : lab b = .no) (h2 : labR b = .no) : w'.cell? ⟨b, i, none⟩ = w.cell? ⟨b, i, none⟩ := World.cell?_of_block (a := ⟨b, i, none⟩) (h.block b hb h1 h2)
/-- The numbers stay within bounds. -/
theorem Dk.St.low.more {st : Dk.St} {c : Nat} (h : st.low c) : st.low (c + 1) := ⟨h.1, by have := h.2.1; omega, h.2.2.1, h.2.2.2.1, fun s hs => Nat.le_succ_of_le (h.2.2.2.2 s hs)⟩
theorem low_burn {st : Dk.St} {c : Nat} {L : List Dk.Sec} (h : st.low c) (hd : st.down = false) (hL : ∀ s ∈ L, s.l.length ≤ c + 1) : (Dk.St.burn ⟨L, st.n, st.fused, st.left⟩).low (c + 1) := by
  refine ⟨by have := h.1; show 0 ≤ st.n + 1; omega, by have := h.2.1; show st.n + 1 ≤ ((c + 1 : Nat) : Int); omega, ?_, ?_, hL⟩
  · show 0 ≤ (if st.fused then st.left - 1 else st.left)
    have h1 := h.2.2.1
    cases hf : st.fused with
    | false => simp; exact h1
    | true =>
      have h2 : st.left ≠ 0 := fun e => by unfold Dk.St.down at hd; rw [hf, e] at hd; simp at hd
      simp
      omega
  · show (if st.fused then st.left - 1 else st.left) ≤ 1048576
    have := h.2.2.2.1
    split <;> omega
theorem low_write {st : Dk.St} {c : Nat} (h : st.low c) (i : Int) (b : List Nat) : (st.write i b).low (c + 1) := by
  unfold Dk.St.write
  split
  · rename_i he
    have hd : st.down = false := by
      cases e : st.down with
      | false => rfl
      | true => unfold Dk.St.writeE Dk.St.ready at he; rw [e] at he; simp at he
    refine low_burn h hd fun t ht => ?_
    rcases mem_upd ht with h1 | ⟨s, hs, rfl⟩
    · exact Nat.le_succ_of_le (h.2.2.2.2 t h1)
    · show (s.l ++ [b]).length ≤ c + 1
      rw [List.length_append]
      have := h.2.2.2.2 s hs
      simp
      omega
  · exact h.more
theorem low_flush {st : Dk.St} {c : Nat} (h : st.low c) : st.flush.low (c + 1) := by
  unfold Dk.St.flush
  split
  · rename_i he
    have hd : st.down = false := by
      cases e : st.down with
      | false => rfl
      | true => unfold Dk.St.flushE at he; rw [e] at he; simp at he
    refine low_burn h hd fun t ht => ?_
    unfold Dk.fixed at ht
    obtain ⟨s, _, rfl⟩ := List.mem_map.1 ht
    exact Nat.zero_le _
  · exact h.more
theorem low_fuse {st : Dk.St} {c : Nat} (h : st.low c) (n : Int) : (st.fuse n).low (c + 1) := by
  unfold Dk.St.fuse
  split
  · rename_i he
    have hn : 0 ≤ n ∧ n ≤ 1048576 := by
      unfold Dk.St.fuseE at he
      split at he
      · omega
      · split at he
        · assumption
        · omega
    exact ⟨h.more.1, h.more.2.1, hn.1, hn.2, h.more.2.2.2.2⟩
  · exact h.more
theorem low_rot {st : Dk.St} {c : Nat} (h : st.low c) (i p : Int) (m : Nat) : (st.rot i p m).low (c + 1) := by
  unfold Dk.St.rot
  split
  · refine ⟨h.more.1, h.more.2.1, h.more.2.2.1, h.more.2.2.2.1, fun t ht => ?_⟩
    rcases mem_upd ht with h1 | ⟨s, hs, rfl⟩
    · exact h.more.2.2.2.2 t h1
    · exact h.more.2.2.2.2 s hs
  · exact h.more
theorem low_crash (st : Dk.St) (fs : List Dk.Fa) (c : Nat) : (st.crash fs).low c := by
  refine ⟨Int.le_refl 0, Int.natCast_nonneg c, Int.le_refl 0, by show (0 : Int) ≤ 1048576; decide, fun s hs => ?_⟩
  have hs' : s ∈ Dk.crashL st.s fs := hs
  obtain ⟨i, hi⟩ := List.getElem?_of_mem hs'
  rw [crashL_l st.s fs i s hi]
  exact Nat.zero_le _
end Go.Proofs.Ytamdihodconjiaa
