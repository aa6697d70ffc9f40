/- The program's disk: sector, burn, Fuse, Rot, Read. -/
import Derived.Test.YtamdihodconjiaaDkDisk
import Derived.Deep.DeepCutAuto
import Derived.Deep.CutRange
import Derived.Deep.CutBlock
import Derived.Deep.RegionHeld3
import Derived.Deep.RegionHeldLaw
import Derived.BigQuiet
import Derived.LoopTactic
namespace Go.Proofs.Ytamdihodconjiaa
open Go.RowKit
set_option linter.unusedVariables false
theorem buf_zeros (w : World) (n : Nat) : Buf (w.alloc (.cells (madeCells #[.int .u8 0] n) 5)) w.heap.size (List.replicate n 0) := by
  refine ⟨?_, fun x hx => by rw [List.eq_of_mem_replicate hx]; omega⟩
  have e : madeCells #[.int .u8 0] n = (bv (List.replicate n 0)).toArray := by
    apply Array.ext'
    rw [toList_madeCells_one]
    simp [bv]
  rw [e]
  exact heap_alloc_new w _
set_option maxRecDepth 100000 in
theorem sector_any (A : Option Addr) (c : Nat) (b : List Nat) (w : World) (h : Rd w A 128 b) : Calls Try.prog 39 #[.slice A 128 c] w fun e w' => e = .returned (.slice (some ⟨w.heap.size, 0, none⟩) 128 128) ∧ Below w.heap.size w w' ∧ Buf w' w.heap.size b := by
  have hm : ∀ w : World, (Instr.makeSlice 35 (.int .i64 128) (.int .i64 128)).run Try.prog w = .ok (.slice (some ⟨w.heap.size, 0, none⟩) 128 128) (w.alloc (.cells (madeCells #[.int .u8 0] 128) 5)) := make_all 128 (by omega)
  have HZ := Lib.hid (buf_zeros w 128)
  have HB := Lib.hid (show Below w.heap.size w (w.alloc (.cells (madeCells #[.int .u8 0] 128) 5)) from (Below.refl _ _).alloc (Nat.le_refl _) _)
  have HR := Lib.hid (h.below HB.out)
  have HL := Lib.hid h.1
  clear h
  go_enter Try.func39, Try.ntmps39
  go_upto_region 2 with fail
  generalize (w.alloc (.cells (madeCells #[.int .u8 0] 128) 5)) = w1 at *
  clear hm
  go_wp2_with (refine wpList_copyF rfl (.tmp 5) (.tmp 6) rfl HZ.out 0 128 128 rfl A 128 c b rfl HR.out (by omega) (by simp) ?_; intro w2 hb2 hc2)
  go_ret
  refine ⟨rfl, hc2.below HB.out (Nat.le_refl _) HB.out.size, ?_⟩
  have e : (List.replicate 128 0).take 0 ++ (b ++ (List.replicate 128 0).drop (0 + b.length)) = b := by rw [HL.out]; simp
  rw [e] at hb2
  exact hb2
set_option maxRecDepth 100000 in
theorem burn_m (w : World) (d : Nat) (x y : Value) (n left : Int) (fu : Bool) (h : Holds w d [x, y, .int .i64 n, .bool fu, .int .i64 left]) (hn : 0 ≤ n ∧ n ≤ 1000000000) (hl : -1000000000 ≤ left ∧ left ≤ 1000000000) :
    Calls Try.prog 40 #[.pointer (some ⟨d, 0, none⟩)] w fun e w' => e = .returned (.tuple #[]) ∧ Holds w' d [x, y, .int .i64 (n + 1), .bool fu, .int .i64 (if fu then left - 1 else left)] ∧ Ch1 d w w' := by
  have H := Lib.hid h
  have c2 := h.at_ 2 rfl
  have c3 := h.at_ 3 rfl
  have c4 := h.at_ 4 rfl
  have f2 := h.2.2 2
  have f4 := h.2.2 4
  obtain ⟨hn1, hn2⟩ := hn
  obtain ⟨hl1, hl2⟩ := hl
  clear h
  cases fu
  · go_enter Try.func40, Try.ntmps40
    go_wp2
    go_end0
    exact ⟨rfl, H.out.set 2 _ (by simp), Ch1.set _ _ _ _⟩
  · go_enter Try.func40, Try.ntmps40
    go_wp2
    go_end0
    exact ⟨rfl, (H.out.set 2 _ (by simp)).set 4 _ (by simp), (Ch1.set _ _ _ _).trans (Ch1.set _ _ _ _)⟩
/-- The box is written anew. -/
theorem DiskM.boxed {w w' : World} {d fb mb M : Nat} {E : List Dm.Mp} {lab : Nat → Tag} {st : Dk.St} (h : DiskM w d fb mb M E lab st) (n left : Int) (fu : Bool) (hb : Holds w' d [.slice (some ⟨fb, 0, none⟩) M M, .map (some mb), .int .i64 n, .bool fu, .int .i64 left]) (hc : Ch1 d w w') : DiskM w' d fb mb M E lab ⟨st.s, n, fu, left⟩ ∧ Chg lab w w' := by
  have hd : lab d ≠ .no := by rw [h.tags.1]; simp
  have hk : ∀ k, lab k ≠ .no → lab k ≠ .box → w'.heap[k]? = w.heap[k]? := fun k h1 h2 => hc.block k (h.old k h1) (fun e => h2 (by rw [e, h.tags.1]))
  refine ⟨⟨hb, h.len, h.buf.block (hk fb (by rw [h.tags.2.1]; simp) (by rw [h.tags.2.1]; simp)), h.map.block (hk mb (by rw [h.tags.2.2]; simp) (by rw [h.tags.2.2]; simp)), h.ris, fun m hm => ?_, h.all, h.tags, fun k hk => Nat.lt_of_lt_of_le (h.old k hk) hc.size, h.fine⟩, Chg.of_ch1 hc hd⟩
  obtain ⟨i, s, hs, h1, h2, h3, h4, h5⟩ := h.row m hm
  refine ⟨i, s, hs, h1, h2, h3, h4, ⟨h5.tag, h5.own.block (hk _ (by rw [h5.tag]; simp) (by rw [h5.tag]; simp)), h5.len, fun j x b e1 e2 => ?_⟩⟩
  obtain ⟨g1, g2⟩ := h5.leaf j x b e1 e2
  exact ⟨g1.block (hk x (by rw [g2]; simp) (by rw [g2]; simp)), g2⟩
set_option maxRecDepth 100000 in
theorem done_m (w : World) (d fb mb M : Nat) (E : List Dm.Mp) (lab : Nat → Tag) (st : Dk.St) (h : DiskM w d fb mb M E lab st) : Calls Try.prog 27 #[.pointer (some ⟨d, 0, none⟩)] w fun e w' => e = .returned (.int .i64 st.n) ∧ w = w' := by
  have c0 := h.box.at_ 2 rfl
  clear h
  go_enter Try.func27, Try.ntmps27
  go_wp2
  go_ret
  exact ⟨rfl, rfl⟩
/-- What a call that writes leaves: the labels, and the disk. -/
def Left (lab : Nat → Tag) (d : Nat) (st : Dk.St) (w w' : World) : Prop := ∃ lab', IsDisk w' d lab' st ∧ Chg lab w w' ∧ Lab w lab lab'
set_option maxRecDepth 100000 in
theorem fuse_m (n : Int) (w : World) (d : Nat) (lab : Nat → Tag) (st : Dk.St) (h : IsDisk w d lab st) : Calls Try.prog 25 #[.pointer (some ⟨d, 0, none⟩), .int .i64 n] w fun e w' => e = .returned (.int .i64 (st.fuseE n)) ∧ Left lab d (st.fuse n) w w' := by
  obtain ⟨fb, mb, M, E, h⟩ := h
  have HR := Lib.hid (ready_m 0 w d fb mb M E lab st h)
  have H := Lib.hid h
  have f3 := h.box.2.2 3
  have f4 := h.box.2.2 4
  have c3 := h.box.at_ 3 rfl
  have c4 := h.box.at_ 4 rfl
  have h0 : st.has 0 = true := by unfold Dk.St.has; have := h.fine.2.1; rw [decide_eq_true (by omega), decide_eq_true (by omega)]; rfl
  have er : st.ready 0 = if st.down then 30 else 0 := by unfold Dk.St.ready; rw [h0]; rfl
  rw [er] at HR
  clear h h0 er
  by_cases hd : st.down = true
  · have e1 : st.fuseE n = 30 := by unfold Dk.St.fuseE; rw [hd]; rfl
    have e2 : st.fuse n = st := by unfold Dk.St.fuse; rw [e1]; rfl
    rw [e1, e2]
    rw [hd] at HR
    clear e1 e2 hd
    go_enter Try.func25, Try.ntmps25
    go_wp2_with fail
    refine HR.out.mono ?_
    rintro e w' ⟨rfl, rfl⟩
    go_wp2
    go_ret
    exact ⟨rfl, lab, ⟨fb, mb, M, E, H.out⟩, Chg.refl _ _, Lab.refl _ _⟩
  · have hd : st.down = false := by simpa using hd
    have e1 : st.fuseE n = if 0 ≤ n ∧ n ≤ 1048576 then 0 else 5 := by unfold Dk.St.fuseE; rw [hd]; rfl
    rw [hd] at HR
    have hcase : (0 ≤ n ∧ n ≤ 1048576) ∨ n < 0 ∨ (¬ n < 0 ∧ 1048576 < n) := by omega
    rcases hcase with hn | hn | hn
    · rw [if_pos hn] at e1
      have e2 : st.fuse n = ⟨st.s, st.n, true, n⟩ := by unfold Dk.St.fuse; rw [e1]; rfl
      rw [e1, e2]
      have q1 : ¬ n < 0 := by omega
      have q2 : ¬ 1048576 < n := by omega
      clear e1 e2 hd
      go_enter Try.func25, Try.ntmps25
      go_wp2_with fail
      refine HR.out.mono ?_
      rintro e w' ⟨rfl, rfl⟩
      go_wp2
      go_ret
      obtain ⟨hA, hB⟩ := H.out.boxed st.n n true ((H.out.box.set 3 (.bool true) (by simp)).set 4 (.int .i64 n) (by simp)) ((Ch1.set _ _ _ _).trans (Ch1.set _ _ _ _))
      exact ⟨rfl, lab, ⟨fb, mb, M, E, hA⟩, hB, Lab.refl _ _⟩
    · rw [if_neg (by omega)] at e1
      have e2 : st.fuse n = st := by unfold Dk.St.fuse; rw [e1]; rfl
      rw [e1, e2]
      clear e1 e2 hd
      go_enter Try.func25, Try.ntmps25
      go_wp2_with fail
      refine HR.out.mono ?_
      rintro e w' ⟨rfl, rfl⟩
      go_wp2
      go_ret
      exact ⟨rfl, lab, ⟨fb, mb, M, E, H.out⟩, Chg.refl _ _, Lab.refl _ _⟩
    · rw [if_neg (by omega)] at e1
      have e2 : st.fuse n = st := by unfold Dk.St.fuse; rw [e1]; rfl
      rw [e1, e2]
      obtain ⟨q1, q2⟩ := hn
      clear e1 e2 hd
      go_enter Try.func25, Try.ntmps25
      go_wp2_with fail
      refine HR.out.mono ?_
      rintro e w' ⟨rfl, rfl⟩
      go_wp2
      go_ret
      exact ⟨rfl, lab, ⟨fb, mb, M, E, H.out⟩, Chg.refl _ _, Lab.refl _ _⟩
end Go.Proofs.Ytamdihodconjiaa
