/- The program's disk: its calls over IsDisk; Full. How many calls a disk has borne. -/
import Derived.Test.YtpggomekbahddaaDkE
namespace Go.Proofs.Ytpggomekbahddaa
open Go.RowKit
set_option linter.unusedVariables false
theorem size_any (w : World) (d : Nat) (lab : Nat → Tag) (st : Dk.St) (h : IsDisk w d lab st) : Calls Try.prog 22 #[.pointer (some ⟨d, 0, none⟩)] w fun e w' => e = .returned (.int .i64 (st.s.length : Nat)) ∧ w = w' := by
  obtain ⟨fb, mb, M, E, h⟩ := h
  exact size_m w d fb mb M E lab st h
theorem down_any (w : World) (d : Nat) (lab : Nat → Tag) (st : Dk.St) (h : IsDisk w d lab st) : Calls Try.prog 33 #[.pointer (some ⟨d, 0, none⟩)] w fun e w' => e = .returned (.bool st.down) ∧ w = w' := by
  obtain ⟨fb, mb, M, E, h⟩ := h
  exact down_m w d fb mb M E lab st h
theorem read_any (at_ : Int) (w : World) (d : Nat) (lab : Nat → Tag) (st : Dk.St) (h : IsDisk w d lab st) : Calls Try.prog 12 #[.pointer (some ⟨d, 0, none⟩), .int .i64 at_] w (GivesRead st at_ w) := by
  obtain ⟨fb, mb, M, E, h⟩ := h
  exact read_m at_ w d fb mb M E lab st h
theorem IsDisk.old {w : World} {d : Nat} {lab : Nat → Tag} {st : Dk.St} (h : IsDisk w d lab st) : ∀ k, lab k ≠ .no → k < w.heap.size := by
  obtain ⟨fb, mb, M, E, h⟩ := h
  exact h.old
theorem IsDisk.new_ {w : World} {d : Nat} {lab : Nat → Tag} {st : Dk.St} (h : IsDisk w d lab st) {k : Nat} (hk : w.heap.size ≤ k) : lab k = .no := by
  cases e : lab k with
  | no => rfl
  | _ => exact absurd (h.old k (by rw [e]; simp)) (by omega)
/-- A block that is none of a disk's stays through its calls. -/
theorem Buf.chg {w w' : World} {lab : Nat → Tag} {q : Nat} {l : List Nat} (h : Buf w q l) (hc : Chg lab w w') (hq : lab q = .no) : Buf w' q l := h.block (hc.block q h.lt hq)
theorem Chg.below {B : Nat} {a w w' : World} {lab : Nat → Tag} (h : Chg lab w w') (ha : Below B a w) (hl : ∀ k, lab k ≠ .no → B ≤ k) (hs : B ≤ w.heap.size) : Below B a w' :=
  ⟨h.os.trans ha.os, h.tape.trans ha.tape, h.output.trans ha.output, Nat.le_trans ha.size h.size, fun k hk => (h.block k (by omega) (by
    cases e : lab k with
    | no => rfl
    | _ => exact absurd (hl k (by rw [e]; simp)) (by omega))).trans (ha.block k hk)⟩
theorem Lab.above {B : Nat} {w : World} {lab lab' : Nat → Tag} (h : Lab w lab lab') (hl : ∀ k, lab k ≠ .no → B ≤ k) (hs : B ≤ w.heap.size) : ∀ k, lab' k ≠ .no → B ≤ k := fun k hk => by
  by_cases e : k < w.heap.size
  · exact hl k (by rw [← h k e]; exact hk)
  · omega
/-- Bytes as a sector. -/
def Dk.full (b : List Nat) : List Nat := b.take 128 ++ List.replicate (128 - b.length) 0
theorem Dk.full_length (b : List Nat) : (Dk.full b).length = 128 := by unfold Dk.full; rw [List.length_append, List.length_take, List.length_replicate]; omega
end Go.Proofs.Ytpggomekbahddaa
namespace Go.Proofs.Ytpggomekbahddaa
open Go.RowKit
set_option linter.unusedVariables false
theorem mem_upd {L : List Dk.Sec} {i : Nat} {g : Dk.Sec → Dk.Sec} {t : Dk.Sec} (h : t ∈ Dk.upd L i g) : t ∈ L ∨ ∃ s ∈ L, t = g s := by
  obtain ⟨j, hj⟩ := List.getElem?_of_mem h
  by_cases e : j = i
  · subst e
    cases hs : L[j]? with
    | none => unfold Dk.upd at hj; rw [List.getElem?_modify, hs] at hj; simp at hj
    | some s =>
      rw [upd_at hs] at hj
      injection hj with hj
      exact .inr ⟨s, List.mem_of_getElem? hs, hj.symm⟩
  · rw [upd_other e] at hj
    exact .inl (List.mem_of_getElem? hj)
theorem Dk.St.low.more {st : Dk.St} {c : Nat} (h : st.low c) : st.low (c + 1) := ⟨h.1, by have := h.2.1; omega, h.2.2.1, h.2.2.2.1, fun s hs => Nat.le_succ_of_le (h.2.2.2.2 s hs)⟩
theorem low_burn {st : Dk.St} {c : Nat} {L : List Dk.Sec} (h : st.low c) (hd : st.down = false) (hL : ∀ s ∈ L, s.l.length ≤ c + 1) : (Dk.St.burn ⟨L, st.n, st.fused, st.left⟩).low (c + 1) := by
  refine ⟨by have := h.1; show 0 ≤ st.n + 1; omega, by have := h.2.1; show st.n + 1 ≤ ((c + 1 : Nat) : Int); omega, ?_, ?_, hL⟩
  · show 0 ≤ (if st.fused then st.left - 1 else st.left)
    have h1 := h.2.2.1
    cases hf : st.fused with
    | false => simp; exact h1
    | true =>
      have h2 : st.left ≠ 0 := fun e => by unfold Dk.St.down at hd; rw [hf, e] at hd; simp at hd
      simp
      omega
  · show (if st.fused then st.left - 1 else st.left) ≤ 1048576
    have := h.2.2.2.1
    split <;> omega
theorem low_write {st : Dk.St} {c : Nat} (h : st.low c) (i : Int) (b : List Nat) : (st.write i b).low (c + 1) := by
  unfold Dk.St.write
  split
  · rename_i he
    have hd : st.down = false := by
      cases e : st.down with
      | false => rfl
      | true => unfold Dk.St.writeE Dk.St.ready at he; rw [e] at he; simp at he
    refine low_burn h hd fun t ht => ?_
    rcases mem_upd ht with h1 | ⟨s, hs, rfl⟩
    · exact Nat.le_succ_of_le (h.2.2.2.2 t h1)
    · show (s.l ++ [b]).length ≤ c + 1
      rw [List.length_append]
      have := h.2.2.2.2 s hs
      simp
      omega
  · exact h.more
theorem low_flush {st : Dk.St} {c : Nat} (h : st.low c) : st.flush.low (c + 1) := by
  unfold Dk.St.flush
  split
  · rename_i he
    have hd : st.down = false := by
      cases e : st.down with
      | false => rfl
      | true => unfold Dk.St.flushE at he; rw [e] at he; simp at he
    refine low_burn h hd fun t ht => ?_
    unfold Dk.fixed at ht
    obtain ⟨s, _, rfl⟩ := List.mem_map.1 ht
    exact Nat.zero_le _
  · exact h.more
theorem low_fuse {st : Dk.St} {c : Nat} (h : st.low c) (n : Int) : (st.fuse n).low (c + 1) := by
  unfold Dk.St.fuse
  split
  · rename_i he
    have hn : 0 ≤ n ∧ n ≤ 1048576 := by
      unfold Dk.St.fuseE at he
      split at he
      · omega
      · split at he
        · assumption
        · omega
    exact ⟨h.more.1, h.more.2.1, hn.1, hn.2, h.more.2.2.2.2⟩
  · exact h.more
theorem low_rot {st : Dk.St} {c : Nat} (h : st.low c) (i p : Int) (m : Nat) : (st.rot i p m).low (c + 1) := by
  unfold Dk.St.rot
  split
  · refine ⟨h.more.1, h.more.2.1, h.more.2.2.1, h.more.2.2.2.1, fun t ht => ?_⟩
    rcases mem_upd ht with h1 | ⟨s, hs, rfl⟩
    · exact h.more.2.2.2.2 t h1
    · exact h.more.2.2.2.2 s hs
  · exact h.more
end Go.Proofs.Ytpggomekbahddaa
