/- The program's disk: its calls over IsDisk; Full. How many calls a disk has borne. -/
import Derived.Test.YtbdomhookjmmgaaDkF
namespace Go.Proofs.Ytbdomhookjmmgaa
open Go.RowKit
set_option linter.unusedVariables false
theorem size_any (w : World) (d : Nat) (lab : Nat → Tag) (st : Dk.St) (h : IsDisk w d lab st) : Calls Try.prog 66 #[.pointer (some ⟨d, 0, none⟩)] w fun e w' => e = .returned (.int .i64 (st.s.length : Nat)) ∧ w = w' := by
  obtain ⟨fb, mb, M, E, h⟩ := h
  exact size_m w d fb mb M E lab st h
theorem down_any (w : World) (d : Nat) (lab : Nat → Tag) (st : Dk.St) (h : IsDisk w d lab st) : Calls Try.prog 82 #[.pointer (some ⟨d, 0, none⟩)] w fun e w' => e = .returned (.bool st.down) ∧ w = w' := by
  obtain ⟨fb, mb, M, E, h⟩ := h
  exact down_m w d fb mb M E lab st h
theorem read_any (at_ : Int) (w : World) (d : Nat) (lab : Nat → Tag) (st : Dk.St) (h : IsDisk w d lab st) : Calls Try.prog 41 #[.pointer (some ⟨d, 0, none⟩), .int .i64 at_] w (GivesRead st at_ w) := by
  obtain ⟨fb, mb, M, E, h⟩ := h
  exact read_m at_ w d fb mb M E lab st h
theorem loose_any (w : World) (d : Nat) (lab : Nat → Tag) (st : Dk.St) (h : IsDisk w d lab st) : Calls Try.prog 40 #[.pointer (some ⟨d, 0, none⟩)] w (GivesLoose w st.loose) := by
  obtain ⟨fb, mb, M, E, h⟩ := h
  exact loose_m w d fb mb M E lab st h
theorem crash_any (w : World) (d : Nat) (lab : Nat → Tag) (st : Dk.St) (h : IsDisk w d lab st) (A : Option Addr) (n c : Nat) (fs : List Dk.Fa) (hr : RdC 2 w A n (flatFa fs)) (hn : fs.length = n) (hbig : n ≤ 9223372036854775807) :
    Calls Try.prog 35 #[.pointer (some ⟨d, 0, none⟩), .slice A n c] w (GivesCrash st fs w) := by
  obtain ⟨fb, mb, M, E, h⟩ := h
  exact crash_m w d fb mb M E lab st h A n c fs hr hn hbig
theorem IsDisk.old {w : World} {d : Nat} {lab : Nat → Tag} {st : Dk.St} (h : IsDisk w d lab st) : ∀ k, lab k ≠ .no → k < w.heap.size := by
  obtain ⟨fb, mb, M, E, h⟩ := h
  exact h.old
theorem IsDisk.new_ {w : World} {d : Nat} {lab : Nat → Tag} {st : Dk.St} (h : IsDisk w d lab st) {k : Nat} (hk : w.heap.size ≤ k) : lab k = .no := by
  cases e : lab k with
  | no => rfl
  | _ => exact absurd (h.old k (by rw [e]; simp)) (by omega)
/-- A block that is none of a disk's stays through its calls. -/
theorem Buf.chg {w w' : World} {lab : Nat → Tag} {q : Nat} {l : List Nat} (h : Buf w q l) (hc : Chg lab w w') (hq : lab q = .no) : Buf w' q l := h.block (hc.block q h.lt hq)
theorem Chg.below {B : Nat} {a w w' : World} {lab : Nat → Tag} (h : Chg lab w w') (ha : Below B a w) (hl : ∀ k, lab k ≠ .no → B ≤ k) (hs : B ≤ w.heap.size) : Below B a w' :=
  ⟨h.os.trans ha.os, h.tape.trans ha.tape, h.output.trans ha.output, Nat.le_trans ha.size h.size, fun k hk => (h.block k (by omega) (by
    cases e : lab k with
    | no => rfl
    | _ => exact absurd (hl k (by rw [e]; simp)) (by omega))).trans (ha.block k hk)⟩
theorem Lab.above {B : Nat} {w : World} {lab lab' : Nat → Tag} (h : Lab w lab lab') (hl : ∀ k, lab k ≠ .no → B ≤ k) (hs : B ≤ w.heap.size) : ∀ k, lab' k ≠ .no → B ≤ k := fun k hk => by
  by_cases e : k < w.heap.size
  · exact hl k (by rw [← h k e]; exact hk)
  · omega
/-- Bytes as a sector. -/
def Dk.full (b : List Nat) : List Nat := b.take 128 ++ List.replicate (128 - b.length) 0
theorem Dk.full_length (b : List Nat) : (Dk.full b).length = 128 := by unfold Dk.full; rw [List.length_append, List.length_take, List.length_replicate]; omega
set_option maxRecDepth 100000 in
theorem full_any (A : Option Addr) (n c : Nat) (b : List Nat) (w : World) (h : Rd w A n b) : Calls Try.prog 27 #[.slice A n c] w fun e w' => e = .returned (.slice (some ⟨w.heap.size, 0, none⟩) 128 128) ∧ Below w.heap.size w w' ∧ Buf w' w.heap.size (Dk.full b) := by
  have hm : ∀ w : World, (Instr.makeSlice 28 (.int .i64 128) (.int .i64 128)).run Try.prog w = .ok (.slice (some ⟨w.heap.size, 0, none⟩) 128 128) (w.alloc (.cells (madeCells #[.int .u8 0] 128) 5)) := make_all 128 (by omega)
  have HZ := Lib.hid (buf_zeros w 128)
  have HB := Lib.hid (show Below w.heap.size w (w.alloc (.cells (madeCells #[.int .u8 0] 128) 5)) from (Below.refl _ _).alloc (Nat.le_refl _) _)
  have HR := Lib.hid (h.below HB.out)
  have HL := Lib.hid h.1
  clear h
  go_enter Try.func27, Try.ntmps27
  go_upto_region 2 with fail
  generalize (w.alloc (.cells (madeCells #[.int .u8 0] 128) 5)) = w1 at *
  clear hm
  by_cases hn : n ≤ 128
  · go_wp2_with (refine wpList_copyF rfl (.tmp 5) (.tmp 6) rfl HZ.out 0 128 128 rfl A n c b rfl HR.out hn (by simp; omega) ?_; intro w2 hb2 hc2)
    go_ret
    refine ⟨rfl, hc2.below HB.out (Nat.le_refl _) HB.out.size, ?_⟩
    have e : (List.replicate 128 0).take 0 ++ (b ++ (List.replicate 128 0).drop (0 + b.length)) = Dk.full b := by
      have := HL.out
      unfold Dk.full
      rw [List.take_zero, List.nil_append, List.take_of_length_le (by omega), List.drop_replicate, Nat.zero_add]
    rw [e] at hb2
    exact hb2
  · have hsz : (Try.prog.info? 5).map (·.size) = some 1 := by kernel_rfl
    have HR8 := Lib.hid (HR.out.take (k := 128) (by omega))
    obtain ⟨q, o, rfl, hq, hc⟩ := HR8.out.2.2 (by omega)
    have h128 : (b.take 128).length = 128 := HR8.out.1
    have H128 := Lib.hid h128
    have HC := Lib.hid hc
    have HNn := Lib.hid hn
    have HG := Lib.hid HZ.out.1
    clear hc hn h128
    go_wp2_with (refine wpList_copy_own rfl (.tmp 5) (.tmp 6) 28 28 rfl 5 Try.underlying28 (by kernel_rfl) w.heap.size 0 128 128 ⟨q, o, none⟩ n c rfl rfl (bv (List.replicate 128 0)).toArray 5 HG.out (bv (b.take 128)) (by rw [bv_length, H128.out]; have := HNn.out; show 128 = min n 128; omega) (fun j x hx => by
        unfold bv at hx
        rw [List.getElem?_map] at hx
        cases hq : (b.take 128)[j]? with
        | none => rw [hq] at hx; cases hx
        | some y =>
          rw [hq] at hx
          injection hx with hx
          subst hx
          have e : (⟨q, o, none⟩ : Addr).add j = ⟨q, o + j, none⟩ := by unfold Addr.add; split <;> simp_all
          rw [e]; exact HC.out j y hq) (by rw [bv_length, H128.out]; simp [bv]) (bv_one _) ?_)
    go_ret
    refine ⟨rfl, (Ch1.row _ _ _).below HB.out (Nat.le_refl _) HB.out.size, ?_, fun x hx => ?_⟩
    · rw [setRow_heap _ _ _ _ _ _ HG.out]
      have e : Dk.full b = b.take 128 := by
        have := HL.out
        have := HNn.out
        unfold Dk.full
        rw [show 128 - b.length = 0 by omega]
        simp
      rw [e, bv_length, H128.out]
      simp [bv]
    · unfold Dk.full at hx
      rcases List.mem_append.1 hx with h1 | h1
      · exact HR.out.lt (List.mem_of_mem_take h1)
      · rw [List.eq_of_mem_replicate h1]; omega
end Go.Proofs.Ytbdomhookjmmgaa
namespace Go.Proofs.Ytbdomhookjmmgaa
open Go.RowKit
set_option linter.unusedVariables false
theorem mem_upd {L : List Dk.Sec} {i : Nat} {g : Dk.Sec → Dk.Sec} {t : Dk.Sec} (h : t ∈ Dk.upd L i g) : t ∈ L ∨ ∃ s ∈ L, t = g s := by
  obtain ⟨j, hj⟩ := List.getElem?_of_mem h
  by_cases e : j = i
  · subst e
    cases hs : L[j]? with
    | none => unfold Dk.upd at hj; rw [List.getElem?_modify, hs] at hj; simp at hj
    | some s =>
      rw [upd_at hs] at hj
      injection hj with hj
      exact .inr ⟨s, List.mem_of_getElem? hs, hj.symm⟩
  · rw [upd_other e] at hj
    exact .inl (List.mem_of_getElem? hj)
theorem Dk.St.low.more {st : Dk.St} {c : Nat} (h : st.low c) : st.low (c + 1) := ⟨h.1, by have := h.2.1; omega, h.2.2.1, h.2.2.2.1, fun s hs => Nat.le_succ_of_le (h.2.2.2.2 s hs)⟩
theorem low_burn {st : Dk.St} {c : Nat} {L : List Dk.Sec} (h : st.low c) (hd : st.down = false) (hL : ∀ s ∈ L, s.l.length ≤ c + 1) : (Dk.St.burn ⟨L, st.n, st.fused, st.left⟩).low (c + 1) := by
  refine ⟨by have := h.1; show 0 ≤ st.n + 1; omega, by have := h.2.1; show st.n + 1 ≤ ((c + 1 : Nat) : Int); omega, ?_, ?_, hL⟩
  · show 0 ≤ (if st.fused then st.left - 1 else st.left)
    have h1 := h.2.2.1
    cases hf : st.fused with
    | false => simp; exact h1
    | true =>
      have h2 : st.left ≠ 0 := fun e => by unfold Dk.St.down at hd; rw [hf, e] at hd; simp at hd
      simp
      omega
  · show (if st.fused then st.left - 1 else st.left) ≤ 1048576
    have := h.2.2.2.1
    split <;> omega
theorem low_write {st : Dk.St} {c : Nat} (h : st.low c) (i : Int) (b : List Nat) : (st.write i b).low (c + 1) := by
  unfold Dk.St.write
  split
  · rename_i he
    have hd : st.down = false := by
      cases e : st.down with
      | false => rfl
      | true => unfold Dk.St.writeE Dk.St.ready at he; rw [e] at he; simp at he
    refine low_burn h hd fun t ht => ?_
    rcases mem_upd ht with h1 | ⟨s, hs, rfl⟩
    · exact Nat.le_succ_of_le (h.2.2.2.2 t h1)
    · show (s.l ++ [b]).length ≤ c + 1
      rw [List.length_append]
      have := h.2.2.2.2 s hs
      simp
      omega
  · exact h.more
theorem low_flush {st : Dk.St} {c : Nat} (h : st.low c) : st.flush.low (c + 1) := by
  unfold Dk.St.flush
  split
  · rename_i he
    have hd : st.down = false := by
      cases e : st.down with
      | false => rfl
      | true => unfold Dk.St.flushE at he; rw [e] at he; simp at he
    refine low_burn h hd fun t ht => ?_
    unfold Dk.fixed at ht
    obtain ⟨s, _, rfl⟩ := List.mem_map.1 ht
    exact Nat.zero_le _
  · exact h.more
theorem low_fuse {st : Dk.St} {c : Nat} (h : st.low c) (n : Int) : (st.fuse n).low (c + 1) := by
  unfold Dk.St.fuse
  split
  · rename_i he
    have hn : 0 ≤ n ∧ n ≤ 1048576 := by
      unfold Dk.St.fuseE at he
      split at he
      · omega
      · split at he
        · assumption
        · omega
    exact ⟨h.more.1, h.more.2.1, hn.1, hn.2, h.more.2.2.2.2⟩
  · exact h.more
theorem low_rot {st : Dk.St} {c : Nat} (h : st.low c) (i p : Int) (m : Nat) : (st.rot i p m).low (c + 1) := by
  unfold Dk.St.rot
  split
  · refine ⟨h.more.1, h.more.2.1, h.more.2.2.1, h.more.2.2.2.1, fun t ht => ?_⟩
    rcases mem_upd ht with h1 | ⟨s, hs, rfl⟩
    · exact h.more.2.2.2.2 t h1
    · exact h.more.2.2.2.2 s hs
  · exact h.more
theorem low_crash (st : Dk.St) (fs : List Dk.Fa) (c : Nat) : (st.crash fs).low c := by
  refine ⟨Int.le_refl 0, Int.natCast_nonneg c, Int.le_refl 0, by show (0 : Int) ≤ 1048576; decide, fun s hs => ?_⟩
  have hs' : s ∈ Dk.crashL st.s fs := hs
  obtain ⟨i, hi⟩ := List.getElem?_of_mem hs'
  rw [crashL_l st.s fs i s hi]
  exact Nat.zero_le _
end Go.Proofs.Ytbdomhookjmmgaa
