/- Disks through many calls: plain maths. -/
import Derived.Test.YtamdihodconjiaaDkOps
namespace Go.Proofs.Ytamdihodconjiaa
open Go.RowKit
set_option linter.unusedVariables false
/-- A disk of k sectors behind c calls, with no fuse. -/
structure Plain (st : Dk.St) (k c : Nat) : Prop where
  len : st.s.length = k
  fused : st.fused = false
  low : st.low c
theorem Plain.new (k c : Nat) : Plain (Dk.St.new k) k c := ⟨by unfold Dk.St.new; simp, rfl, ⟨Int.le_refl 0, Int.natCast_nonneg c, Int.le_refl 0, show (0 : Int) ≤ 1048576 by decide, fun s hs => by
  have : s = ⟨Dk.zeros, []⟩ := List.eq_of_mem_replicate hs
  subst this
  exact Nat.zero_le c⟩⟩
theorem mem_upd {L : List Dk.Sec} {i : Nat} {g : Dk.Sec → Dk.Sec} {t : Dk.Sec} (h : t ∈ Dk.upd L i g) : t ∈ L ∨ ∃ s ∈ L, t = g s := by
  obtain ⟨j, hj⟩ := List.getElem?_of_mem h
  by_cases e : j = i
  · subst e
    cases hs : L[j]? with
    | none => unfold Dk.upd at hj; rw [List.getElem?_modify, hs] at hj; simp at hj
    | some s =>
      rw [upd_at hs] at hj
      injection hj with hj
      exact .inr ⟨s, List.mem_of_getElem? hs, hj.symm⟩
  · rw [upd_other e] at hj
    exact .inl (List.mem_of_getElem? hj)
theorem Plain.down {st : Dk.St} {k c : Nat} (h : Plain st k c) : st.down = false := by unfold Dk.St.down; rw [h.fused]; rfl
theorem Plain.more {st : Dk.St} {k c : Nat} (h : Plain st k c) : Plain st k (c + 1) := ⟨h.len, h.fused, ⟨h.low.1, by have := h.low.2.1; omega, h.low.2.2.1, h.low.2.2.2.1, fun s hs => Nat.le_succ_of_le (h.low.2.2.2.2 s hs)⟩⟩
theorem Plain.write {st : Dk.St} {k c : Nat} (h : Plain st k c) (a : Int) (b : List Nat) : Plain (st.write a b) k (c + 1) := by
  unfold Dk.St.write
  split
  · refine ⟨by show (Dk.upd st.s _ _).length = k; rw [upd_len]; exact h.len, h.fused, ⟨by have := h.low.1; show 0 ≤ st.n + 1; omega, by have := h.low.2.1; show st.n + 1 ≤ ((c + 1 : Nat) : Int); omega, ?_, ?_, fun t ht => ?_⟩⟩
    · show 0 ≤ (if st.fused then st.left - 1 else st.left)
      rw [h.fused]
      exact h.low.2.2.1
    · show (if st.fused then st.left - 1 else st.left) ≤ 1048576
      rw [h.fused]
      exact h.low.2.2.2.1
    · rcases mem_upd ht with h1 | ⟨s, hs, rfl⟩
      · exact Nat.le_succ_of_le (h.low.2.2.2.2 t h1)
      · show (s.l ++ [b]).length ≤ c + 1
        rw [List.length_append]
        have := h.low.2.2.2.2 s hs
        simp
        omega
  · exact h.more
theorem Plain.flush {st : Dk.St} {k c : Nat} (h : Plain st k c) : Plain st.flush k (c + 1) ∧ (∀ s ∈ st.flush.s, s.l = []) ∧ st.flushE = 0 := by
  have e : st.flushE = 0 := by unfold Dk.St.flushE; rw [h.down]; rfl
  have e2 : st.flush = Dk.St.burn ⟨Dk.fixed st.s, st.n, st.fused, st.left⟩ := by unfold Dk.St.flush; rw [if_pos e]
  have hl : ∀ s ∈ Dk.fixed st.s, s.l = [] := fun s hs => by
    unfold Dk.fixed at hs
    obtain ⟨t, _, rfl⟩ := List.mem_map.1 hs
    rfl
  rw [e2]
  refine ⟨⟨by show (Dk.fixed st.s).length = k; unfold Dk.fixed; rw [List.length_map]; exact h.len, h.fused, ⟨by have := h.low.1; show 0 ≤ st.n + 1; omega, by have := h.low.2.1; show st.n + 1 ≤ ((c + 1 : Nat) : Int); omega, ?_, ?_, fun t ht => ?_⟩⟩, hl, e⟩
  · show 0 ≤ (if st.fused then st.left - 1 else st.left)
    rw [h.fused]
    exact h.low.2.2.1
  · show (if st.fused then st.left - 1 else st.left) ≤ 1048576
    rw [h.fused]
    exact h.low.2.2.2.1
  · rw [hl t ht]
    exact Nat.zero_le _
theorem loose_none {L : List Dk.Sec} : ∀ {k : Nat}, (∀ s ∈ L, s.l = []) → Dk.looseF k L = [] := by
  induction L with
  | nil => intro k _; rfl
  | cons s r ih =>
    intro k h
    unfold Dk.looseF
    rw [if_pos (h s (by simp))]
    exact ih fun t ht => h t (by simp [ht])
theorem crash_same {L : List Dk.Sec} (h : ∀ s ∈ L, s.l = []) : Dk.crashL L [] = L := by
  rw [crashL_nil]
  conv => rhs; rw [← List.map_id L]
  refine List.map_congr_left fun s hs => ?_
  obtain ⟨f, l⟩ := s
  obtain rfl : l = [] := h _ hs
  rfl
/-- Behind a flush: nothing is loose, a crash without fates is that disk, and both read the same. -/
theorem flushed {st : Dk.St} {k c : Nat} (h : Plain st k c) (hl : ∀ s ∈ st.s, s.l = []) : st.loose = [] ∧ st.crashE [] = 0 ∧ st.crash [] = ⟨st.s, 0, false, 0⟩ ∧ ∀ i : Int, (Dk.St.mk st.s 0 false 0).ready i = st.ready i ∧ (Dk.St.mk st.s 0 false 0).readB i = st.readB i := by
  have hr : ∀ i : Int, (Dk.St.mk st.s 0 false 0).ready i = st.ready i := fun i => by
    unfold Dk.St.ready
    rw [h.down]
    rfl
  refine ⟨loose_none hl, ?_, ?_, fun i => ⟨hr i, ?_⟩⟩
  · unfold Dk.St.crashE
    rw [if_neg (by simp)]
    simp [Dk.fit]
  · unfold Dk.St.crash
    rw [crash_same hl]
  · unfold Dk.St.readB
    rw [hr i]
    rfl
end Go.Proofs.Ytamdihodconjiaa
