/- Disks with a fuse: plain maths. -/
import Derived.Test.YtamdihodconjiaaDkKeep
namespace Go.Proofs.Ytamdihodconjiaa
open Go.RowKit
set_option linter.unusedVariables false
/-- A disk of k sectors behind c calls, with a fuse of L calls more. -/
structure Fsd (st : Dk.St) (k c L : Nat) : Prop where
  len : st.s.length = k
  fused : st.fused = true
  left : st.left = (L : Int)
  low : st.low c
/-- What a writing call tells. -/
def Dk.tell (L : Nat) : Int := if L = 0 then 30 else 0
theorem Fsd.down {st : Dk.St} {k c L : Nat} (h : Fsd st k c L) : st.down = decide (L = 0) := by
  unfold Dk.St.down
  rw [h.fused, h.left, Bool.true_and]
  by_cases e : L = 0
  · subst e; rfl
  · rw [decide_eq_false e, decide_eq_false (by omega)]
theorem Fsd.more {st : Dk.St} {k c L : Nat} (h : Fsd st k c L) : Fsd st k (c + 1) L := ⟨h.len, h.fused, h.left, ⟨h.low.1, by have := h.low.2.1; omega, h.low.2.2.1, h.low.2.2.2.1, fun s hs => Nat.le_succ_of_le (h.low.2.2.2.2 s hs)⟩⟩
theorem Fsd.new {st : Dk.St} {k c : Nat} (h : Plain st k c) (L : Nat) (hL : L ≤ 20) : st.fuseE (L : Int) = 0 ∧ Fsd (st.fuse (L : Int)) k c L := by
  have e : st.fuseE (L : Int) = 0 := by
    unfold Dk.St.fuseE
    rw [h.down, if_neg (by simp), if_pos (by omega)]
  refine ⟨e, ?_⟩
  unfold Dk.St.fuse
  rw [if_pos e]
  exact ⟨h.len, rfl, rfl, ⟨h.low.1, h.low.2.1, by show (0 : Int) ≤ (L : Int); omega, by show (L : Int) ≤ 1048576; omega, h.low.2.2.2.2⟩⟩
theorem Fsd.ready {st : Dk.St} {k c L : Nat} (h : Fsd st k c L) {a : Int} (h0 : 0 ≤ a) (h1 : a < (k : Int)) : st.ready a = Dk.tell L := by
  unfold Dk.St.ready Dk.St.has Dk.tell
  rw [h.down, h.len, decide_eq_true h0, decide_eq_true h1]
  by_cases e : L = 0
  · subst e; rfl
  · rw [decide_eq_false e, if_neg e]; rfl
theorem Fsd.write {st : Dk.St} {k c L : Nat} (h : Fsd st k c L) {a : Int} (h0 : 0 ≤ a) (h1 : a < (k : Int)) {b : List Nat} (hb : b.length = 128) : st.writeE a b.length = Dk.tell L ∧ Fsd (st.write a b) k (c + 1) (L - 1) := by
  have hr := h.ready h0 h1
  by_cases e : L = 0
  · subst e
    have h2 : st.writeE a b.length = 30 := by unfold Dk.St.writeE; rw [hr]; rfl
    refine ⟨h2, ?_⟩
    unfold Dk.St.write
    rw [h2, if_neg (by omega)]
    exact h.more
  · have ht : Dk.tell L = 0 := by unfold Dk.tell; rw [if_neg e]
    rw [ht] at hr
    have h2 : st.writeE a b.length = 0 := by unfold Dk.St.writeE; rw [if_pos hr, if_pos hb]
    refine ⟨h2.trans ht.symm, ?_⟩
    unfold Dk.St.write
    rw [if_pos h2]
    refine ⟨by show (Dk.upd st.s _ _).length = k; rw [upd_len]; exact h.len, h.fused, ?_, ⟨by have := h.low.1; show 0 ≤ st.n + 1; omega, by have := h.low.2.1; show st.n + 1 ≤ ((c + 1 : Nat) : Int); omega, ?_, ?_, fun t ht => ?_⟩⟩
    · show (if st.fused then st.left - 1 else st.left) = _
      rw [h.fused, h.left, if_pos rfl]
      omega
    · show 0 ≤ (if st.fused then st.left - 1 else st.left)
      rw [h.fused, h.left, if_pos rfl]
      omega
    · show (if st.fused then st.left - 1 else st.left) ≤ 1048576
      have := h.low.2.2.2.1
      rw [h.fused, if_pos rfl]
      omega
    · rcases mem_upd ht with h1 | ⟨s, hs, rfl⟩
      · exact Nat.le_succ_of_le (h.low.2.2.2.2 t h1)
      · show (s.l ++ [b]).length ≤ c + 1
        rw [List.length_append]
        have := h.low.2.2.2.2 s hs
        simp
        omega
theorem Fsd.flush {st : Dk.St} {k c L : Nat} (h : Fsd st k c L) : st.flushE = Dk.tell L ∧ Fsd st.flush k (c + 1) (L - 1) := by
  by_cases e : L = 0
  · subst e
    have h2 : st.flushE = 30 := by unfold Dk.St.flushE; rw [h.down]; rfl
    refine ⟨h2, ?_⟩
    unfold Dk.St.flush
    rw [h2, if_neg (by omega)]
    exact h.more
  · have ht : Dk.tell L = 0 := by unfold Dk.tell; rw [if_neg e]
    have h2 : st.flushE = 0 := by unfold Dk.St.flushE; rw [h.down, decide_eq_false e]; rfl
    refine ⟨h2.trans ht.symm, ?_⟩
    unfold Dk.St.flush
    rw [if_pos h2]
    have hl : ∀ s ∈ Dk.fixed st.s, s.l = [] := fun s hs => by
      unfold Dk.fixed at hs
      obtain ⟨t, _, rfl⟩ := List.mem_map.1 hs
      rfl
    refine ⟨by show (Dk.fixed st.s).length = k; unfold Dk.fixed; rw [List.length_map]; exact h.len, h.fused, ?_, ⟨by have := h.low.1; show 0 ≤ st.n + 1; omega, by have := h.low.2.1; show st.n + 1 ≤ ((c + 1 : Nat) : Int); omega, ?_, ?_, fun t ht => ?_⟩⟩
    · show (if st.fused then st.left - 1 else st.left) = _
      rw [h.fused, h.left, if_pos rfl]
      omega
    · show 0 ≤ (if st.fused then st.left - 1 else st.left)
      rw [h.fused, h.left, if_pos rfl]
      omega
    · show (if st.fused then st.left - 1 else st.left) ≤ 1048576
      have := h.low.2.2.2.1
      rw [h.fused, if_pos rfl]
      omega
    · rw [hl t ht]
      exact Nat.zero_le _
/-- A crash without fates. -/
theorem crash_none (st : Dk.St) : st.crashE [] = 0 ∧ (st.crash []).down = false ∧ (st.crash []).n = 0 := by
  refine ⟨?_, rfl, rfl⟩
  unfold Dk.St.crashE
  rw [if_neg (by simp)]
  simp [Dk.fit]
end Go.Proofs.Ytamdihodconjiaa
