/- The program's disk: its calls over IsDisk; Full. -/
import Derived.Test.YtamdihodconjiaaDkCrash
namespace Go.Proofs.Ytamdihodconjiaa
open Go.RowKit
set_option linter.unusedVariables false
theorem size_any (w : World) (d : Nat) (lab : Nat → Tag) (st : Dk.St) (h : IsDisk w d lab st) : Calls Try.prog 29 #[.pointer (some ⟨d, 0, none⟩)] w fun e w' => e = .returned (.int .i64 (st.s.length : Nat)) ∧ w = w' := by
  obtain ⟨fb, mb, M, E, h⟩ := h
  exact size_m w d fb mb M E lab st h
theorem down_any (w : World) (d : Nat) (lab : Nat → Tag) (st : Dk.St) (h : IsDisk w d lab st) : Calls Try.prog 26 #[.pointer (some ⟨d, 0, none⟩)] w fun e w' => e = .returned (.bool st.down) ∧ w = w' := by
  obtain ⟨fb, mb, M, E, h⟩ := h
  exact down_m w d fb mb M E lab st h
theorem done_any (w : World) (d : Nat) (lab : Nat → Tag) (st : Dk.St) (h : IsDisk w d lab st) : Calls Try.prog 27 #[.pointer (some ⟨d, 0, none⟩)] w fun e w' => e = .returned (.int .i64 st.n) ∧ w = w' := by
  obtain ⟨fb, mb, M, E, h⟩ := h
  exact done_m w d fb mb M E lab st h
theorem read_any (at_ : Int) (w : World) (d : Nat) (lab : Nat → Tag) (st : Dk.St) (h : IsDisk w d lab st) : Calls Try.prog 18 #[.pointer (some ⟨d, 0, none⟩), .int .i64 at_] w (GivesRead st at_ w) := by
  obtain ⟨fb, mb, M, E, h⟩ := h
  exact read_m at_ w d fb mb M E lab st h
theorem loose_any (w : World) (d : Nat) (lab : Nat → Tag) (st : Dk.St) (h : IsDisk w d lab st) : Calls Try.prog 19 #[.pointer (some ⟨d, 0, none⟩)] w (GivesLoose w st.loose) := by
  obtain ⟨fb, mb, M, E, h⟩ := h
  exact loose_m w d fb mb M E lab st h
theorem crash_any (w : World) (d : Nat) (lab : Nat → Tag) (st : Dk.St) (h : IsDisk w d lab st) (A : Option Addr) (n c : Nat) (fs : List Dk.Fa) (hr : RdC 2 w A n (flatFa fs)) (hn : fs.length = n) (hbig : n ≤ 9223372036854775807) :
    Calls Try.prog 20 #[.pointer (some ⟨d, 0, none⟩), .slice A n c] w (GivesCrash st fs w) := by
  obtain ⟨fb, mb, M, E, h⟩ := h
  exact crash_m w d fb mb M E lab st h A n c fs hr hn hbig
theorem IsDisk.old {w : World} {d : Nat} {lab : Nat → Tag} {st : Dk.St} (h : IsDisk w d lab st) : ∀ k, lab k ≠ .no → k < w.heap.size := by
  obtain ⟨fb, mb, M, E, h⟩ := h
  exact h.old
theorem IsDisk.new_ {w : World} {d : Nat} {lab : Nat → Tag} {st : Dk.St} (h : IsDisk w d lab st) {k : Nat} (hk : w.heap.size ≤ k) : lab k = .no := by
  cases e : lab k with
  | no => rfl
  | _ => exact absurd (h.old k (by rw [e]; simp)) (by omega)
/-- A block that is none of a disk's stays through its calls. -/
theorem Buf.chg {w w' : World} {lab : Nat → Tag} {q : Nat} {l : List Nat} (h : Buf w q l) (hc : Chg lab w w') (hq : lab q = .no) : Buf w' q l := h.block (hc.block q h.lt hq)
theorem Chg.below {B : Nat} {a w w' : World} {lab : Nat → Tag} (h : Chg lab w w') (ha : Below B a w) (hl : ∀ k, lab k ≠ .no → B ≤ k) (hs : B ≤ w.heap.size) : Below B a w' :=
  ⟨h.os.trans ha.os, h.tape.trans ha.tape, h.output.trans ha.output, Nat.le_trans ha.size h.size, fun k hk => (h.block k (by omega) (by
    cases e : lab k with
    | no => rfl
    | _ => exact absurd (hl k (by rw [e]; simp)) (by omega))).trans (ha.block k hk)⟩
theorem Lab.above {B : Nat} {w : World} {lab lab' : Nat → Tag} (h : Lab w lab lab') (hl : ∀ k, lab k ≠ .no → B ≤ k) (hs : B ≤ w.heap.size) : ∀ k, lab' k ≠ .no → B ≤ k := fun k hk => by
  by_cases e : k < w.heap.size
  · exact hl k (by rw [← h k e]; exact hk)
  · omega
/-- Bytes as a sector. -/
def Dk.full (b : List Nat) : List Nat := b.take 128 ++ List.replicate (128 - b.length) 0
theorem Dk.full_length (b : List Nat) : (Dk.full b).length = 128 := by unfold Dk.full; rw [List.length_append, List.length_take, List.length_replicate]; omega
set_option maxRecDepth 100000 in
theorem full_any (A : Option Addr) (n c : Nat) (b : List Nat) (w : World) (h : Rd w A n b) : Calls Try.prog 15 #[.slice A n c] w fun e w' => e = .returned (.slice (some ⟨w.heap.size, 0, none⟩) 128 128) ∧ Below w.heap.size w w' ∧ Buf w' w.heap.size (Dk.full b) := by
  have hm : ∀ w : World, (Instr.makeSlice 35 (.int .i64 128) (.int .i64 128)).run Try.prog w = .ok (.slice (some ⟨w.heap.size, 0, none⟩) 128 128) (w.alloc (.cells (madeCells #[.int .u8 0] 128) 5)) := make_all 128 (by omega)
  have HZ := Lib.hid (buf_zeros w 128)
  have HB := Lib.hid (show Below w.heap.size w (w.alloc (.cells (madeCells #[.int .u8 0] 128) 5)) from (Below.refl _ _).alloc (Nat.le_refl _) _)
  have HR := Lib.hid (h.below HB.out)
  have HL := Lib.hid h.1
  clear h
  go_enter Try.func15, Try.ntmps15
  go_upto_region 2 with fail
  generalize (w.alloc (.cells (madeCells #[.int .u8 0] 128) 5)) = w1 at *
  clear hm
  by_cases hn : n ≤ 128
  · go_wp2_with (refine wpList_copyF rfl (.tmp 5) (.tmp 6) rfl HZ.out 0 128 128 rfl A n c b rfl HR.out hn (by simp; omega) ?_; intro w2 hb2 hc2)
    go_ret
    refine ⟨rfl, hc2.below HB.out (Nat.le_refl _) HB.out.size, ?_⟩
    have e : (List.replicate 128 0).take 0 ++ (b ++ (List.replicate 128 0).drop (0 + b.length)) = Dk.full b := by
      have := HL.out
      unfold Dk.full
      rw [List.take_zero, List.nil_append, List.take_of_length_le (by omega), List.drop_replicate, Nat.zero_add]
    rw [e] at hb2
    exact hb2
  · have hsz : (Try.prog.info? 5).map (·.size) = some 1 := by kernel_rfl
    have HR8 := Lib.hid (HR.out.take (k := 128) (by omega))
    obtain ⟨q, o, rfl, hq, hc⟩ := HR8.out.2.2 (by omega)
    have h128 : (b.take 128).length = 128 := HR8.out.1
    have H128 := Lib.hid h128
    have HC := Lib.hid hc
    have HNn := Lib.hid hn
    have HG := Lib.hid HZ.out.1
    clear hc hn h128
    go_wp2_with (refine wpList_copy_own rfl (.tmp 5) (.tmp 6) 35 35 rfl 5 Try.underlying35 (by kernel_rfl) w.heap.size 0 128 128 ⟨q, o, none⟩ n c rfl rfl (bv (List.replicate 128 0)).toArray 5 HG.out (bv (b.take 128)) (by rw [bv_length, H128.out]; have := HNn.out; show 128 = min n 128; omega) (fun j x hx => by
        unfold bv at hx
        rw [List.getElem?_map] at hx
        cases hq : (b.take 128)[j]? with
        | none => rw [hq] at hx; cases hx
        | some y =>
          rw [hq] at hx
          injection hx with hx
          subst hx
          have e : (⟨q, o, none⟩ : Addr).add j = ⟨q, o + j, none⟩ := by unfold Addr.add; split <;> simp_all
          rw [e]; exact HC.out j y hq) (by rw [bv_length, H128.out]; simp [bv]) (bv_one _) ?_)
    go_ret
    refine ⟨rfl, (Ch1.row _ _ _).below HB.out (Nat.le_refl _) HB.out.size, ?_, fun x hx => ?_⟩
    · rw [setRow_heap _ _ _ _ _ _ HG.out]
      have e : Dk.full b = b.take 128 := by
        have := HL.out
        have := HNn.out
        unfold Dk.full
        rw [show 128 - b.length = 0 by omega]
        simp
      rw [e, bv_length, H128.out]
      simp [bv]
    · unfold Dk.full at hx
      rcases List.mem_append.1 hx with h1 | h1
      · exact HR.out.lt (List.mem_of_mem_take h1)
      · rw [List.eq_of_mem_replicate h1]; omega
end Go.Proofs.Ytamdihodconjiaa
