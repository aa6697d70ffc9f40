/- The program's disk: what holds of its memory, and how it stays. The program's disk: sector, burn, Fuse, Rot, Read. The program's disk: Read. What a write leaves of a disk in memory. -/
import Derived.Test.YtbdomhookjmmgaaDkA
import Derived.Deep.DeepCutAuto
import Derived.Deep.CutRange
import Derived.Deep.CutBlock
import Derived.Deep.RegionHeld3
import Derived.Deep.RegionHeldLaw
import Derived.BigQuiet
import Derived.LoopTactic
namespace Go.Proofs.Ytbdomhookjmmgaa
open Go.RowKit
set_option linter.unusedVariables false
/-- What a block is for a disk. -/
inductive Tag where
  | no | box | buf | map | row (i : Nat) | leaf
  deriving DecidableEq
def leafV (h : Nat) : Value := .slice (some ⟨h, 0, none⟩) 128 128
/-- A sector's row of loose writes. -/
structure Row (w : World) (lab : Nat → Tag) (i a n c : Nat) (hs : List Nat) (ws : List (List Nat)) : Prop where
  tag : lab a = .row i
  own : OwnV w 0 28 (some ⟨a, 0, none⟩) n c (hs.map leafV)
  len : hs.length = ws.length
  leaf : ∀ (j h : Nat) (b : List Nat), hs[j]? = some h → ws[j]? = some b → Buf w h b ∧ lab h = .leaf
def flatF (L : List Dk.Sec) : List Nat := L.flatMap (·.f)
/-- A disk in memory. -/
structure DiskM (w : World) (d fb mb M : Nat) (E : List Dm.Mp) (lab : Nat → Tag) (st : Dk.St) : Prop where
  box : Holds w d [.slice (some ⟨fb, 0, none⟩) M M, .map (some mb), .int .i64 st.n, .bool st.fused, .int .i64 st.left]
  len : M = 128 * st.s.length
  buf : Buf w fb (flatF st.s)
  map : Mk w mb E
  ris : Dm.Ris E
  row : ∀ m ∈ E, ∃ (i : Nat) (s : Dk.Sec) (hs : List Nat), m.q = (i : Int) ∧ st.s[i]? = some s ∧ s.l ≠ [] ∧ m.n = s.l.length ∧ Row w lab i m.a m.n m.c hs s.l
  all : ∀ (i : Nat) (s : Dk.Sec), st.s[i]? = some s → s.l ≠ [] → Dm.hasq E (i : Int) = true
  tags : lab d = .box ∧ lab fb = .buf ∧ lab mb = .map
  old : ∀ k, lab k ≠ .no → k < w.heap.size
  fine : st.fine
/-- How many calls there were, and the fuse: within bounds. -/
def Dk.St.low (st : Dk.St) (c : Nat) : Prop := 0 ≤ st.n ∧ st.n ≤ (c : Int) ∧ 0 ≤ st.left ∧ st.left ≤ 1048576 ∧ ∀ s ∈ st.s, s.l.length ≤ c
def IsDisk (w : World) (d : Nat) (lab : Nat → Tag) (st : Dk.St) : Prop := ∃ fb mb M E, DiskM w d fb mb M E lab st
/-- Only labelled blocks, and new ones, may be other. -/
structure Chg (lab : Nat → Tag) (w w' : World) : Prop where
  os : w'.os = w.os
  tape : w'.tape = w.tape
  output : w'.output = w.output
  size : w.heap.size ≤ w'.heap.size
  block : ∀ k, k < w.heap.size → lab k = .no → w'.heap[k]? = w.heap[k]?
section
variable {lab lab' : Nat → Tag} {w w' w'' : World} {d fb mb M i a n c : Nat} {E : List Dm.Mp} {st : Dk.St} {hs : List Nat} {ws : List (List Nat)}
theorem Chg.refl (lab : Nat → Tag) (w : World) : Chg lab w w := ⟨rfl, rfl, rfl, Nat.le_refl _, fun _ _ _ => rfl⟩
theorem Chg.of_below (h : Below w.heap.size w w') : Chg lab w w' := ⟨h.os, h.tape, h.output, h.size, fun k hk _ => h.block k hk⟩
theorem Chg.of_ch1 {b : Nat} (h : Ch1 b w w') (hb : lab b ≠ .no) : Chg lab w w' := ⟨h.os, h.tape, h.output, h.size, fun k hk e => h.block k hk (fun e2 => hb (by rw [← e2]; exact e))⟩
/-- The labels stay, but for new blocks. -/
def Lab (w : World) (lab lab' : Nat → Tag) : Prop := ∀ k, k < w.heap.size → lab' k = lab k
theorem Chg.trans (h : Chg lab w w') (hl : Lab w lab lab') (k : Chg lab' w' w'') : Chg lab w w'' :=
  ⟨k.os.trans h.os, k.tape.trans h.tape, k.output.trans h.output, Nat.le_trans h.size k.size, fun i hi e => (k.block i (Nat.lt_of_lt_of_le hi h.size) ((hl i hi).trans e)).trans (h.block i hi e)⟩
theorem Lab.refl (w : World) (lab : Nat → Tag) : Lab w lab lab := fun _ _ => rfl
theorem Lab.trans {lab'' : Nat → Tag} (h : Lab w lab lab') (k : Lab w' lab' lab'') (hs : w.heap.size ≤ w'.heap.size) : Lab w lab lab'' := fun i hi => (k i (Nat.lt_of_lt_of_le hi hs)).trans (h i hi)
theorem Row.keep (h : Row w lab i a n c hs ws) (hb : ∀ k, lab k ≠ .no → w'.heap[k]? = w.heap[k]?) : Row w' lab i a n c hs ws :=
  ⟨h.tag, h.own.block (hb a (by rw [h.tag]; simp)), h.len, fun j x b h1 h2 => ⟨(h.leaf j x b h1 h2).1.block (hb x (by rw [(h.leaf j x b h1 h2).2]; simp)), (h.leaf j x b h1 h2).2⟩⟩
theorem Row.relab (h : Row w lab i a n c hs ws) (hl : ∀ k, lab k ≠ .no → lab' k = lab k) : Row w lab' i a n c hs ws :=
  ⟨(hl a (by rw [h.tag]; simp)).trans h.tag, h.own, h.len, fun j x b h1 h2 => ⟨(h.leaf j x b h1 h2).1, (hl x (by rw [(h.leaf j x b h1 h2).2]; simp)).trans (h.leaf j x b h1 h2).2⟩⟩
theorem DiskM.keep (h : DiskM w d fb mb M E lab st) (hs : w.heap.size ≤ w'.heap.size) (hb : ∀ k, lab k ≠ .no → w'.heap[k]? = w.heap[k]?) : DiskM w' d fb mb M E lab st where
  box := h.box.block hs (hb d (by rw [h.tags.1]; simp))
  len := h.len
  buf := h.buf.block (hb fb (by rw [h.tags.2.1]; simp))
  map := h.map.block (hb mb (by rw [h.tags.2.2]; simp))
  ris := h.ris
  row := fun m hm => by
    obtain ⟨i, s, hs, h1, h2, h3, h4, h5⟩ := h.row m hm
    exact ⟨i, s, hs, h1, h2, h3, h4, h5.keep hb⟩
  all := h.all
  tags := h.tags
  old := fun k hk => Nat.lt_of_lt_of_le (h.old k hk) hs
  fine := h.fine
theorem DiskM.below (h : DiskM w d fb mb M E lab st) (hb : Below w.heap.size w w') : DiskM w' d fb mb M E lab st := h.keep hb.size fun k hk => hb.block k (h.old k hk)
theorem IsDisk.keep (h : IsDisk w d lab st) (hs : w.heap.size ≤ w'.heap.size) (hb : ∀ k, lab k ≠ .no → w'.heap[k]? = w.heap[k]?) : IsDisk w' d lab st := by
  obtain ⟨fb, mb, M, E, h⟩ := h
  exact ⟨fb, mb, M, E, h.keep hs hb⟩
theorem IsDisk.below (h : IsDisk w d lab st) (hb : Below w.heap.size w w') : IsDisk w' d lab st := by
  obtain ⟨fb, mb, M, E, h⟩ := h
  exact ⟨fb, mb, M, E, h.below hb⟩
theorem flatF_length {L : List Dk.Sec} (h : ∀ s ∈ L, s.f.length = 128) : (flatF L).length = 128 * L.length := by
  induction L with
  | nil => rfl
  | cons s r ih =>
    show (s.f ++ flatF r).length = _
    rw [List.length_append, ih (fun x hx => h x (by simp [hx])), h s (by simp), List.length_cons]
    omega
theorem flatF_at {L : List Dk.Sec} (h : ∀ s ∈ L, s.f.length = 128) {i : Nat} {s : Dk.Sec} (hs : L[i]? = some s) : ((flatF L).drop (i * 128)).take 128 = s.f := by
  induction L generalizing i with
  | nil => simp at hs
  | cons x r ih =>
    have hx := h x (by simp)
    show ((x.f ++ flatF r).drop (i * 128)).take 128 = _
    cases i with
    | zero =>
      simp at hs
      subst hs
      rw [Nat.zero_mul, List.drop_zero, List.take_append_of_le_length (by omega), List.take_of_length_le (by omega)]
    | succ i =>
      simp only [List.getElem?_cons_succ] at hs
      rw [List.drop_append, hx, show (i + 1) * 128 - 128 = i * 128 by omega, List.drop_of_length_le (by omega), List.nil_append]
      exact ih (fun y hy => h y (by simp [hy])) hs
theorem DiskM.f128 (h : DiskM w d fb mb M E lab st) : ∀ s ∈ st.s, s.f.length = 128 := fun s hs => (h.fine.1 s hs).1
end
set_option maxRecDepth 100000 in
theorem size_m (w : World) (d fb mb M : Nat) (E : List Dm.Mp) (lab : Nat → Tag) (st : Dk.St) (h : DiskM w d fb mb M E lab st) : Calls Try.prog 66 #[.pointer (some ⟨d, 0, none⟩)] w fun e w' => e = .returned (.int .i64 (st.s.length : Nat)) ∧ w = w' := by
  have c0 := h.box.at_ 0 rfl
  have hdiv : (M : Int) / 128 = (st.s.length : Int) := by rw [h.len]; omega
  have hN := h.fine.2.2
  have hNi : (st.s.length : Int) ≤ 4096 := by omega
  clear h
  go_enter Try.func66, Try.ntmps66
  go_wp2
  go_ret
  exact ⟨rfl, rfl⟩
set_option maxRecDepth 100000 in
theorem down_m (w : World) (d fb mb M : Nat) (E : List Dm.Mp) (lab : Nat → Tag) (st : Dk.St) (h : DiskM w d fb mb M E lab st) : Calls Try.prog 82 #[.pointer (some ⟨d, 0, none⟩)] w fun e w' => e = .returned (.bool st.down) ∧ w = w' := by
  have c3 := h.box.at_ 3 rfl
  have c4 := h.box.at_ 4 rfl
  obtain ⟨s, n, fu, le⟩ := st
  clear h
  cases fu
  · have e : Dk.St.down ⟨s, n, false, le⟩ = false := rfl
    rw [e]
    go_enter Try.func82, Try.ntmps82
    go_wp2
    go_ret
    exact ⟨rfl, rfl⟩
  · have e : Dk.St.down ⟨s, n, true, le⟩ = (le == 0) := by unfold Dk.St.down; rw [Bool.eq_iff_iff]; simp
    rw [e]
    clear e
    go_enter Try.func82, Try.ntmps82
    go_wp2
    go_ret
    exact ⟨rfl, rfl⟩
set_option maxRecDepth 100000 in
theorem ready_m (at_ : Int) (w : World) (d fb mb M : Nat) (E : List Dm.Mp) (lab : Nat → Tag) (st : Dk.St) (h : DiskM w d fb mb M E lab st) : Calls Try.prog 60 #[.pointer (some ⟨d, 0, none⟩), .int .i64 at_] w fun e w' => e = .returned (.int .i64 (st.ready at_)) ∧ w = w' := by
  have HS := Lib.hid (size_m w d fb mb M E lab st h)
  have HD := Lib.hid (down_m w d fb mb M E lab st h)
  have hN1 := h.fine.2.1
  have hNi : ¬ (st.s.length : Int) = 0 := by omega
  have hNb : ((st.s.length : Int) == 0) = false := by simpa using hNi
  clear h hN1
  cases hd : st.down
  · by_cases h1 : at_ < 0
    · have hr : st.ready at_ = 5 := by unfold Dk.St.ready Dk.St.has; rw [hd, decide_eq_false (by omega : ¬ 0 ≤ at_)]; rfl
      rw [hr]
      clear hr
      rw [hd] at HD
      clear hd
      go_enter Try.func60, Try.ntmps60
      go_wp2_with (first | (go_at_call 66; refine HS.out.mono ?_; rintro e w' ⟨rfl, rfl⟩) | (go_at_call 82; refine HD.out.mono ?_; rintro e w' ⟨rfl, rfl⟩))
      go_ret
      exact ⟨rfl, rfl⟩
    · by_cases h2 : (st.s.length : Int) ≤ at_
      · have hr : st.ready at_ = 5 := by unfold Dk.St.ready Dk.St.has; rw [hd, decide_eq_false (by omega : ¬ at_ < (st.s.length : Int)), Bool.and_false]; rfl
        rw [hr]
        clear hr
        rw [hd] at HD
        clear hd
        go_enter Try.func60, Try.ntmps60
        go_wp2_with (first | (go_at_call 66; refine HS.out.mono ?_; rintro e w' ⟨rfl, rfl⟩) | (go_at_call 82; refine HD.out.mono ?_; rintro e w' ⟨rfl, rfl⟩))
        go_ret
        exact ⟨rfl, rfl⟩
      · have hr : st.ready at_ = 0 := by unfold Dk.St.ready Dk.St.has; rw [hd, decide_eq_true (by omega : 0 ≤ at_), decide_eq_true (by omega : at_ < (st.s.length : Int))]; rfl
        rw [hr]
        clear hr
        rw [hd] at HD
        clear hd
        go_enter Try.func60, Try.ntmps60
        go_wp2_with (first | (go_at_call 66; refine HS.out.mono ?_; rintro e w' ⟨rfl, rfl⟩) | (go_at_call 82; refine HD.out.mono ?_; rintro e w' ⟨rfl, rfl⟩))
        go_ret
        exact ⟨rfl, rfl⟩
  · have hr : st.ready at_ = 30 := by unfold Dk.St.ready; rw [hd]; rfl
    rw [hr]
    clear hr
    rw [hd] at HD
    clear hd
    go_enter Try.func60, Try.ntmps60
    go_wp2_with (first | (go_at_call 66; refine HS.out.mono ?_; rintro e w' ⟨rfl, rfl⟩) | (go_at_call 82; refine HD.out.mono ?_; rintro e w' ⟨rfl, rfl⟩))
    go_ret
    exact ⟨rfl, rfl⟩
set_option maxRecDepth 100000 in
theorem part_m (i : Nat) (w : World) (d fb mb M : Nat) (E : List Dm.Mp) (lab : Nat → Tag) (st : Dk.St) (h : DiskM w d fb mb M E lab st) (hi : i < st.s.length) : Calls Try.prog 67 #[.pointer (some ⟨d, 0, none⟩), .int .i64 (i : Int)] w fun e w' => e = .returned (.slice (some ⟨fb, i * 128, none⟩) 128 (M - i * 128)) ∧ w = w' := by
  have c0 := h.box.at_ 0 rfl
  have hM := h.len
  have hN := h.fine.2.2
  clear h
  have hi1 : (i : Int) ≤ 4096 := by omega
  have hM1 : (M : Int) ≤ 524288 := by omega
  have hb1 : (i : Int) * 128 ≤ ((i : Int) + 1) * 128 := by omega
  have hb2 : ((i : Int) + 1) * 128 ≤ (M : Int) := by omega
  clear hM
  go_enter Try.func67, Try.ntmps67
  go_wp2
  go_ret
  exact ⟨by rw [show (i + 1) * 128 - i * 128 = 128 by omega]; rfl, rfl⟩
end Go.Proofs.Ytbdomhookjmmgaa
namespace Go.Proofs.Ytbdomhookjmmgaa
open Go.RowKit
set_option linter.unusedVariables false
theorem buf_zeros (w : World) (n : Nat) : Buf (w.alloc (.cells (madeCells #[.int .u8 0] n) 5)) w.heap.size (List.replicate n 0) := by
  refine ⟨?_, fun x hx => by rw [List.eq_of_mem_replicate hx]; omega⟩
  have e : madeCells #[.int .u8 0] n = (bv (List.replicate n 0)).toArray := by
    apply Array.ext'
    rw [toList_madeCells_one]
    simp [bv]
  rw [e]
  exact heap_alloc_new w _
set_option maxRecDepth 100000 in
theorem sector_any (A : Option Addr) (c : Nat) (b : List Nat) (w : World) (h : Rd w A 128 b) : Calls Try.prog 61 #[.slice A 128 c] w fun e w' => e = .returned (.slice (some ⟨w.heap.size, 0, none⟩) 128 128) ∧ Below w.heap.size w w' ∧ Buf w' w.heap.size b := by
  have hm : ∀ w : World, (Instr.makeSlice 28 (.int .i64 128) (.int .i64 128)).run Try.prog w = .ok (.slice (some ⟨w.heap.size, 0, none⟩) 128 128) (w.alloc (.cells (madeCells #[.int .u8 0] 128) 5)) := make_all 128 (by omega)
  have HZ := Lib.hid (buf_zeros w 128)
  have HB := Lib.hid (show Below w.heap.size w (w.alloc (.cells (madeCells #[.int .u8 0] 128) 5)) from (Below.refl _ _).alloc (Nat.le_refl _) _)
  have HR := Lib.hid (h.below HB.out)
  have HL := Lib.hid h.1
  clear h
  go_enter Try.func61, Try.ntmps61
  go_upto_region 2 with fail
  generalize (w.alloc (.cells (madeCells #[.int .u8 0] 128) 5)) = w1 at *
  clear hm
  go_wp2_with (refine wpList_copyF rfl (.tmp 5) (.tmp 6) rfl HZ.out 0 128 128 rfl A 128 c b rfl HR.out (by omega) (by simp) ?_; intro w2 hb2 hc2)
  go_ret
  refine ⟨rfl, hc2.below HB.out (Nat.le_refl _) HB.out.size, ?_⟩
  have e : (List.replicate 128 0).take 0 ++ (b ++ (List.replicate 128 0).drop (0 + b.length)) = b := by rw [HL.out]; simp
  rw [e] at hb2
  exact hb2
set_option maxRecDepth 100000 in
theorem burn_m (w : World) (d : Nat) (x y : Value) (n left : Int) (fu : Bool) (h : Holds w d [x, y, .int .i64 n, .bool fu, .int .i64 left]) (hn : 0 ≤ n ∧ n ≤ 1000000000) (hl : -1000000000 ≤ left ∧ left ≤ 1000000000) :
    Calls Try.prog 62 #[.pointer (some ⟨d, 0, none⟩)] w fun e w' => e = .returned (.tuple #[]) ∧ Holds w' d [x, y, .int .i64 (n + 1), .bool fu, .int .i64 (if fu then left - 1 else left)] ∧ Ch1 d w w' := by
  have H := Lib.hid h
  have c2 := h.at_ 2 rfl
  have c3 := h.at_ 3 rfl
  have c4 := h.at_ 4 rfl
  have f2 := h.2.2 2
  have f4 := h.2.2 4
  obtain ⟨hn1, hn2⟩ := hn
  obtain ⟨hl1, hl2⟩ := hl
  clear h
  cases fu
  · go_enter Try.func62, Try.ntmps62
    go_wp2
    go_end0
    exact ⟨rfl, H.out.set 2 _ (by simp), Ch1.set _ _ _ _⟩
  · go_enter Try.func62, Try.ntmps62
    go_wp2
    go_end0
    exact ⟨rfl, (H.out.set 2 _ (by simp)).set 4 _ (by simp), (Ch1.set _ _ _ _).trans (Ch1.set _ _ _ _)⟩
/-- The box is written anew. -/
theorem DiskM.boxed {w w' : World} {d fb mb M : Nat} {E : List Dm.Mp} {lab : Nat → Tag} {st : Dk.St} (h : DiskM w d fb mb M E lab st) (n left : Int) (fu : Bool) (hb : Holds w' d [.slice (some ⟨fb, 0, none⟩) M M, .map (some mb), .int .i64 n, .bool fu, .int .i64 left]) (hc : Ch1 d w w') : DiskM w' d fb mb M E lab ⟨st.s, n, fu, left⟩ ∧ Chg lab w w' := by
  have hd : lab d ≠ .no := by rw [h.tags.1]; simp
  have hk : ∀ k, lab k ≠ .no → lab k ≠ .box → w'.heap[k]? = w.heap[k]? := fun k h1 h2 => hc.block k (h.old k h1) (fun e => h2 (by rw [e, h.tags.1]))
  refine ⟨⟨hb, h.len, h.buf.block (hk fb (by rw [h.tags.2.1]; simp) (by rw [h.tags.2.1]; simp)), h.map.block (hk mb (by rw [h.tags.2.2]; simp) (by rw [h.tags.2.2]; simp)), h.ris, fun m hm => ?_, h.all, h.tags, fun k hk => Nat.lt_of_lt_of_le (h.old k hk) hc.size, h.fine⟩, Chg.of_ch1 hc hd⟩
  obtain ⟨i, s, hs, h1, h2, h3, h4, h5⟩ := h.row m hm
  refine ⟨i, s, hs, h1, h2, h3, h4, ⟨h5.tag, h5.own.block (hk _ (by rw [h5.tag]; simp) (by rw [h5.tag]; simp)), h5.len, fun j x b e1 e2 => ?_⟩⟩
  obtain ⟨g1, g2⟩ := h5.leaf j x b e1 e2
  exact ⟨g1.block (hk x (by rw [g2]; simp) (by rw [g2]; simp)), g2⟩
/-- What a call that writes leaves: the labels, and the disk. -/
def Left (lab : Nat → Tag) (d : Nat) (st : Dk.St) (w w' : World) : Prop := ∃ lab', IsDisk w' d lab' st ∧ Chg lab w w' ∧ Lab w lab lab'
set_option maxRecDepth 100000 in
theorem fuse_m (n : Int) (w : World) (d : Nat) (lab : Nat → Tag) (st : Dk.St) (h : IsDisk w d lab st) : Calls Try.prog 31 #[.pointer (some ⟨d, 0, none⟩), .int .i64 n] w fun e w' => e = .returned (.int .i64 (st.fuseE n)) ∧ Left lab d (st.fuse n) w w' := by
  obtain ⟨fb, mb, M, E, h⟩ := h
  have HR := Lib.hid (ready_m 0 w d fb mb M E lab st h)
  have H := Lib.hid h
  have f3 := h.box.2.2 3
  have f4 := h.box.2.2 4
  have c3 := h.box.at_ 3 rfl
  have c4 := h.box.at_ 4 rfl
  have h0 : st.has 0 = true := by unfold Dk.St.has; have := h.fine.2.1; rw [decide_eq_true (by omega), decide_eq_true (by omega)]; rfl
  have er : st.ready 0 = if st.down then 30 else 0 := by unfold Dk.St.ready; rw [h0]; rfl
  rw [er] at HR
  clear h h0 er
  by_cases hd : st.down = true
  · have e1 : st.fuseE n = 30 := by unfold Dk.St.fuseE; rw [hd]; rfl
    have e2 : st.fuse n = st := by unfold Dk.St.fuse; rw [e1]; rfl
    rw [e1, e2]
    rw [hd] at HR
    clear e1 e2 hd
    go_enter Try.func31, Try.ntmps31
    go_wp2_with fail
    refine HR.out.mono ?_
    rintro e w' ⟨rfl, rfl⟩
    go_wp2
    go_ret
    exact ⟨rfl, lab, ⟨fb, mb, M, E, H.out⟩, Chg.refl _ _, Lab.refl _ _⟩
  · have hd : st.down = false := by simpa using hd
    have e1 : st.fuseE n = if 0 ≤ n ∧ n ≤ 1048576 then 0 else 5 := by unfold Dk.St.fuseE; rw [hd]; rfl
    rw [hd] at HR
    have hcase : (0 ≤ n ∧ n ≤ 1048576) ∨ n < 0 ∨ (¬ n < 0 ∧ 1048576 < n) := by omega
    rcases hcase with hn | hn | hn
    · rw [if_pos hn] at e1
      have e2 : st.fuse n = ⟨st.s, st.n, true, n⟩ := by unfold Dk.St.fuse; rw [e1]; rfl
      rw [e1, e2]
      have q1 : ¬ n < 0 := by omega
      have q2 : ¬ 1048576 < n := by omega
      clear e1 e2 hd
      go_enter Try.func31, Try.ntmps31
      go_wp2_with fail
      refine HR.out.mono ?_
      rintro e w' ⟨rfl, rfl⟩
      go_wp2
      go_ret
      obtain ⟨hA, hB⟩ := H.out.boxed st.n n true ((H.out.box.set 3 (.bool true) (by simp)).set 4 (.int .i64 n) (by simp)) ((Ch1.set _ _ _ _).trans (Ch1.set _ _ _ _))
      exact ⟨rfl, lab, ⟨fb, mb, M, E, hA⟩, hB, Lab.refl _ _⟩
    · rw [if_neg (by omega)] at e1
      have e2 : st.fuse n = st := by unfold Dk.St.fuse; rw [e1]; rfl
      rw [e1, e2]
      clear e1 e2 hd
      go_enter Try.func31, Try.ntmps31
      go_wp2_with fail
      refine HR.out.mono ?_
      rintro e w' ⟨rfl, rfl⟩
      go_wp2
      go_ret
      exact ⟨rfl, lab, ⟨fb, mb, M, E, H.out⟩, Chg.refl _ _, Lab.refl _ _⟩
    · rw [if_neg (by omega)] at e1
      have e2 : st.fuse n = st := by unfold Dk.St.fuse; rw [e1]; rfl
      rw [e1, e2]
      obtain ⟨q1, q2⟩ := hn
      clear e1 e2 hd
      go_enter Try.func31, Try.ntmps31
      go_wp2_with fail
      refine HR.out.mono ?_
      rintro e w' ⟨rfl, rfl⟩
      go_wp2
      go_ret
      exact ⟨rfl, lab, ⟨fb, mb, M, E, H.out⟩, Chg.refl _ _, Lab.refl _ _⟩
end Go.Proofs.Ytbdomhookjmmgaa
namespace Go.Proofs.Ytbdomhookjmmgaa
open Go.RowKit
set_option linter.unusedVariables false
/-- What Read gives. -/
def GivesRead (st : Dk.St) (at_ : Int) (w : World) (e : Ending) (w' : World) : Prop :=
  ∃ (A : Option Addr) (n c : Nat), e = .returned (.tuple #[.slice A n c, .int .i64 (st.ready at_)]) ∧ Rd w' A n (st.readB at_) ∧ Below w.heap.size w w' ∧ n ≤ 128 ∧
    (st.ready at_ = 0 → A = some ⟨w.heap.size, 0, none⟩ ∧ n = 128 ∧ c = 128 ∧ Buf w' w.heap.size (st.readB at_))
theorem ready_in {st : Dk.St} {at_ : Int} (h : st.ready at_ = 0) : ∃ i s, at_ = ((i : Nat) : Int) ∧ st.s[i]? = some s ∧ st.sec at_ = s ∧ st.readB at_ = s.now := by
  have h0 : st.has at_ = true := by
    unfold Dk.St.ready at h
    split at h
    · omega
    · split at h
      · assumption
      · omega
  unfold Dk.St.has at h0
  rw [Bool.and_eq_true, decide_eq_true_eq, decide_eq_true_eq] at h0
  obtain ⟨h1, h2⟩ := h0
  have hi : at_.toNat < st.s.length := by omega
  refine ⟨at_.toNat, st.s[at_.toNat], by omega, List.getElem?_eq_getElem hi, ?_, ?_⟩
  · unfold Dk.St.sec; rw [List.getElem?_eq_getElem hi]; rfl
  · unfold Dk.St.readB Dk.St.sec; rw [if_pos h, List.getElem?_eq_getElem hi]; rfl
theorem fine_now {st : Dk.St} (h : st.fine) {i : Nat} {s : Dk.Sec} (hs : st.s[i]? = some s) : s.now.length = 128 := by
  obtain ⟨h1, h2, h3⟩ := h.1 s (List.mem_of_getElem? hs)
  unfold Dk.Sec.now
  cases hl : s.l.getLast? with
  | none => exact h1
  | some b => exact (h3 b (List.mem_of_getLast? hl)).1
theorem hasq_no_of {w : World} {d fb mb M : Nat} {E : List Dm.Mp} {lab : Nat → Tag} {st : Dk.St} (h : DiskM w d fb mb M E lab st) {i : Nat} {s : Dk.Sec} (hs : st.s[i]? = some s) (hl : s.l = []) : Dm.hasq E (i : Int) = false := by
  rw [Bool.eq_false_iff]
  intro he
  obtain ⟨m, hm, hq⟩ := Dm.hasq_yes.1 he
  obtain ⟨i', s', hs', h1, h2, h3, _⟩ := h.row m hm
  have : i' = i := by omega
  subst this
  rw [hs] at h2
  injection h2 with h2
  subst h2
  exact h3 hl
theorem row_of {w : World} {d fb mb M : Nat} {E : List Dm.Mp} {lab : Nat → Tag} {st : Dk.St} (h : DiskM w d fb mb M E lab st) {i : Nat} {s : Dk.Sec} (hs : st.s[i]? = some s) (hl : s.l ≠ []) : ∃ m hs, m ∈ E ∧ m.q = (i : Int) ∧ m.n = s.l.length ∧ Row w lab i m.a m.n m.c hs s.l := by
  obtain ⟨m, hm, hq⟩ := Dm.hasq_yes.1 (h.all i s hs hl)
  obtain ⟨i', s', hs', h1, h2, h3, h4, h5⟩ := h.row m hm
  have : i' = i := by omega
  subst this
  rw [hs] at h2
  injection h2 with h2
  subst h2
  exact ⟨m, hs', hm, hq, h4, h5⟩
theorem last_of {l : List (List Nat)} {k : Nat} {f b : List Nat} (hl : l.length = k + 1) (hb : l[k]? = some b) : l.getLast?.getD f = b := by
  rw [List.getLast?_eq_getElem?, hl, Nat.add_sub_cancel, hb]
  rfl
theorem give_read {st : Dk.St} {at_ : Int} {w w1 : World} {b : List Nat} (hr : st.ready at_ = 0) (hB : st.readB at_ = b) (hl : b.length = 128) (hb : Below w.heap.size w w1) (hbf : Buf w1 w.heap.size b) :
    GivesRead st at_ w (.returned (.tuple #[.slice (some ⟨w.heap.size, 0, none⟩) 128 128, .int .i64 0])) w1 := by
  refine ⟨some ⟨w.heap.size, 0, none⟩, 128, 128, by rw [hr], ?_, hb, Nat.le_refl _, fun _ => ⟨rfl, rfl, rfl, by rw [hB]; exact hbf⟩⟩
  have := hbf.all
  rw [hl] at this
  rw [hB]
  exact this
set_option maxRecDepth 100000 in
theorem read_m (at_ : Int) (w : World) (d fb mb M : Nat) (E : List Dm.Mp) (lab : Nat → Tag) (st : Dk.St) (h : DiskM w d fb mb M E lab st) : Calls Try.prog 41 #[.pointer (some ⟨d, 0, none⟩), .int .i64 at_] w (GivesRead st at_ w) := by
  have HR := Lib.hid (ready_m at_ w d fb mb M E lab st h)
  by_cases hr : st.ready at_ = 0
  · obtain ⟨i, s, rfl, hs, _, hB⟩ := ready_in hr
    have HB := Lib.hid hB
    have HR0 := Lib.hid hr
    have hN := h.fine.2.2
    have hil := (List.getElem?_eq_some_iff.1 hs).1
    have hii : (i : Int) ≤ 4096 := by omega
    have c1 := h.box.at_ 1 rfl
    have HP := Lib.hid (part_m i w d fb mb M E lab st h hil)
    rw [hr] at HR
    clear hr hB
    by_cases hl : s.l = []
    · have hlook := h.map.look_no (q := (i : Int)) (by constructor <;> omega) (hasq_no_of h hs hl)
      have hnow : s.now = s.f := by unfold Dk.Sec.now; rw [hl]; rfl
      have hrd := h.buf.rd (i * 128) 128 (by rw [flatF_length h.f128]; omega)
      rw [flatF_at h.f128 hs] at hrd
      have HSec := Lib.hid (sector_any (some ⟨fb, i * 128, none⟩) (M - i * 128) s.f w hrd)
      have HNow := Lib.hid hnow
      have HL := Lib.hid (h.f128 s (List.mem_of_getElem? hs))
      clear h hl hnow hs hrd
      go_enter Try.func41, Try.ntmps41
      go_wp2_with (first | (go_at_call 60; refine HR.out.mono ?_; rintro e w' ⟨rfl, rfl⟩) | (go_at_call 67; refine HP.out.mono ?_; rintro e w' ⟨rfl, rfl⟩) | (go_at_call 61; refine HSec.out.mono ?_; rintro e w1 ⟨rfl, hb1, hbf⟩; have HX := Lib.hid (And.intro hb1 hbf); clear hb1 hbf))
      go_ret2
      exact give_read HR0.out (HB.out.trans HNow.out) HL.out HX.out.1 HX.out.2
    · obtain ⟨m, hs', hm, hq, hmn, hrow⟩ := row_of h hs hl
      obtain ⟨q, a, n, c⟩ := m
      obtain rfl : q = (i : Int) := hq
      obtain rfl : n = s.l.length := hmn
      obtain ⟨k, hk⟩ : ∃ k, s.l.length = k + 1 := ⟨s.l.length - 1, by have := List.length_pos_iff.2 hl; omega⟩
      have hlook := h.map.look_yes h.ris hm (show Q64 (i : Int) by constructor <;> omega)
      replace hlook : (Instr.lookup 87 (.map (some mb)) (.int .i64 (i : Int)) false).run Try.prog w = .ok (.slice (some ⟨a, 0, none⟩) s.l.length c) w := hlook
      obtain ⟨b, hb⟩ : ∃ b, s.l[k]? = some b := ⟨_, List.getElem?_eq_getElem (by omega)⟩
      have hlen := hrow.len
      obtain ⟨x, hx⟩ : ∃ x, hs'[k]? = some x := ⟨_, List.getElem?_eq_getElem (by omega)⟩
      have hcell := hrow.own.cell (j := k) (x := leafV x) (by rw [List.getElem?_map, hx]; rfl)
      replace hcell : w.cell? ⟨a, k, none⟩ = some (.slice (some ⟨x, 0, none⟩) 128 128) := hcell
      have hbuf := (hrow.leaf k x b hx hb).1
      have hb128 : b.length = 128 := ((h.fine.1 s (List.mem_of_getElem? hs)).2.2 b (List.mem_of_getElem? hb)).1
      have hrd := hbuf.all
      rw [hb128] at hrd
      have hnow : s.now = b := last_of hk hb
      have HSec := Lib.hid (sector_any (some ⟨x, 0, none⟩) 128 b w hrd)
      have HNow := Lib.hid hnow
      have HL := Lib.hid hb128
      rw [hk] at hlook
      have hk2 : (k : Int) < 9223372036854775807 := by
        have a1 : s.l.length ≤ c := hrow.own.fits
        have a2 : c ≤ 9223372036854775807 := hrow.own.small
        omega
      clear h hl hnow hs hrd hm hrow hbuf hlen hb hx hb128 hk
      go_enter Try.func41, Try.ntmps41
      go_wp2_with (first | (go_at_call 60; refine HR.out.mono ?_; rintro e w' ⟨rfl, rfl⟩) | (go_at_call 61; refine HSec.out.mono ?_; rintro e w1 ⟨rfl, hb1, hbf⟩; have HX := Lib.hid (And.intro hb1 hbf); clear hb1 hbf))
      go_ret2
      exact give_read HR0.out (HB.out.trans HNow.out) HL.out HX.out.1 HX.out.2
  · have hB : st.readB at_ = [] := by unfold Dk.St.readB; rw [if_neg hr]
    have HBl := Lib.hid hB
    have HNr := Lib.hid hr
    have hne : ((st.ready at_) == 0) = false := by simpa using hr
    have hne2 : ((st.ready at_) != 0) = true := by simpa using hr
    clear h hB
    obtain ⟨E0, hE⟩ : ∃ E0, st.ready at_ = E0 := ⟨_, rfl⟩
    rw [hE] at HR hne hne2 hr
    have HE := Lib.hid hE
    clear hE
    go_enter Try.func41, Try.ntmps41
    go_wp2_with (go_at_call 60; refine HR.out.mono ?_; rintro e w' ⟨rfl, rfl⟩)
    go_ret2
    exact ⟨none, 0, 0, by rw [HE.out]; rfl, by rw [HBl.out]; exact Rd.nil _ _, Below.refl _ _, by omega, fun e => absurd e HNr.out⟩
end Go.Proofs.Ytbdomhookjmmgaa
namespace Go.Proofs.Ytbdomhookjmmgaa
open Go.RowKit
set_option linter.unusedVariables false
theorem row_one : One 111 28 (.slice none 0 0) 24 := ⟨by kernel_rfl, Try.underlying111, rfl, by decide⟩
theorem upd_len (L : List Dk.Sec) (i : Nat) (g : Dk.Sec → Dk.Sec) : (Dk.upd L i g).length = L.length := by unfold Dk.upd; simp
theorem upd_at {L : List Dk.Sec} {i : Nat} {g : Dk.Sec → Dk.Sec} {s : Dk.Sec} (h : L[i]? = some s) : (Dk.upd L i g)[i]? = some (g s) := by unfold Dk.upd; rw [List.getElem?_modify]; simp [h]
theorem upd_other {L : List Dk.Sec} {i j : Nat} {g : Dk.Sec → Dk.Sec} (h : j ≠ i) : (Dk.upd L i g)[j]? = L[j]? := by unfold Dk.upd; rw [List.getElem?_modify]; simp [Ne.symm h]
theorem flatF_eq (L : List Dk.Sec) : flatF L = (L.map (·.f)).flatten := by unfold flatF; rw [List.flatMap_def]
theorem flatF_upd {L : List Dk.Sec} {i : Nat} {g : Dk.Sec → Dk.Sec} (hg : ∀ s, (g s).f = s.f) : flatF (Dk.upd L i g) = flatF L := by
  rw [flatF_eq, flatF_eq]
  congr 1
  unfold Dk.upd
  apply List.ext_getElem?
  intro j
  rw [List.getElem?_map, List.getElem?_map, List.getElem?_modify]
  cases L[j]? with
  | none => rfl
  | some s => by_cases h : i = j <;> simp [h, hg]
/-- The labels behind a write. -/
def labW (lab : Nat → Tag) (i x a S : Nat) : Nat → Tag := fun k => if k = x then .leaf else if k = a then .row i else if k < S then lab k else .no
section
variable {w w1 w2 w3 w4 : World} {d fb mb M i n0 c0 a' c' : Nat} {E : List Dm.Mp} {lab : Nat → Tag} {st : Dk.St} {s : Dk.Sec} {b : List Nat} {hs0 : List Nat} {A0 : Option Addr}
theorem DiskM.wrote (h : DiskM w d fb mb M E lab st) (hi : st.s[i]? = some s) (hrow : ∀ g, (Value.slice A0 n0 c0).ownBlock = some g → lab g = .row i) (hn0 : n0 = s.l.length) (hlen0 : hs0.length = s.l.length)
    (hleaf : ∀ (j h : Nat) (b : List Nat), hs0[j]? = some h → s.l[j]? = some b → Buf w h b ∧ lab h = .leaf)
    (hb1 : Below w.heap.size w w1) (hx : Buf w1 w.heap.size b) (hb128 : b.length = 128) (hb2 : Below w1.heap.size w1 w2)
    (hg : GrewV w2 w3 0 28 A0 (some ⟨a', 0, none⟩) n0 c0 (n0 + 1) c' (hs0.map leafV ++ [leafV w.heap.size]))
    (hm : Mk w4 mb (Dm.ins ⟨(i : Int), a', n0 + 1, c'⟩ (Dm.str E (i : Int)))) (ht : Ch1 mb w3 w4) :
    DiskM w4 d fb mb M (Dm.ins ⟨(i : Int), a', n0 + 1, c'⟩ (Dm.str E (i : Int))) (labW lab i w.heap.size a' w.heap.size) ⟨Dk.upd st.s i (fun s => ⟨s.f, s.l ++ [b]⟩), st.n, st.fused, st.left⟩ ∧ Chg lab w w4 ∧ Lab w lab (labW lab i w.heap.size a' w.heap.size) := by
  have hs1 := hx.lt
  have hs2 := hb2.size
  have hs3 := hg.grew.size
  have hs4 := ht.size
  have hA0 : ∀ g, (Value.slice A0 n0 c0).ownBlock = some g → g < w.heap.size := fun g e => h.old g (by rw [hrow g e]; simp)
  -- the new row's block: the old one, or new
  have ha : (lab a' = .row i ∧ a' < w.heap.size) ∨ w1.heap.size ≤ a' := by
    rcases hg.blk with e | e
    · have e' : (Value.slice A0 n0 c0).ownBlock = some a' := by rw [← e]; rfl
      exact .inl ⟨hrow a' e', hA0 a' e'⟩
    · have e' : some a' = some w2.heap.size := e
      injection e' with e'
      exact .inr (by omega)
  have ha4 : a' < w4.heap.size := by
    obtain ⟨g, e, _, hlt⟩ := hg.own.form (by omega)
    injection e with e
    injection e with e
    omega
  have hxa : w.heap.size ≠ a' := by
    rcases ha with ⟨_, h2⟩ | h2 <;> omega
  have hmb := h.old mb (by rw [h.tags.2.2]; simp)
  have hmbr : lab mb = .map := h.tags.2.2
  -- old blocks stay
  have keep3 : ∀ k, k < w.heap.size → lab k ≠ .row i → w3.heap[k]? = w.heap[k]? := fun k hk hr =>
    (hg.grew.block k (by omega) (fun e => hr (hrow k e.symm))).trans ((hb2.block k (by omega)).trans (hb1.block k hk))
  have keep : ∀ k, k < w.heap.size → lab k ≠ .row i → lab k ≠ .map → w4.heap[k]? = w.heap[k]? := fun k hk hr h2 =>
    (ht.block k (by omega) (fun e => h2 (by rw [e]; exact hmbr))).trans (keep3 k hk hr)
  have hl : Lab w lab (labW lab i w.heap.size a' w.heap.size) := by
    intro k hk
    unfold labW
    rw [if_neg (by omega), if_pos hk]
    split
    · rename_i e
      subst e
      rcases ha with ⟨h1, _⟩ | h1
      · exact h1.symm
      · omega
    · rfl
  have hlo : ∀ k, lab k ≠ .no → labW lab i w.heap.size a' w.heap.size k = lab k := fun k hk => hl k (h.old k hk)
  have hd := h.old d (by rw [h.tags.1]; simp)
  have hfb := h.old fb (by rw [h.tags.2.1]; simp)
  have hil := (List.getElem?_eq_some_iff.1 hi).1
  have hxw4 : Buf w4 w.heap.size b := by
    refine (((hx.below hb2).block (hg.grew.block _ (by omega) (fun e => ?_))).block (ht.block _ (by omega) (by omega)))
    have := hA0 _ e.symm
    omega
  refine ⟨⟨?_, by rw [upd_len]; exact h.len, ?_, hm, ?_, ?_, ?_, ?_, ?_, ?_⟩, ?_, hl⟩
  · exact h.box.block (by omega) (keep d hd (by rw [h.tags.1]; simp) (by rw [h.tags.1]; simp))
  · show Buf w4 fb (flatF (Dk.upd st.s i fun s => ⟨s.f, s.l ++ [b]⟩))
    rw [flatF_upd (g := fun s => ⟨s.f, s.l ++ [b]⟩) (fun _ => rfl)]
    exact h.buf.block (keep fb hfb (by rw [h.tags.2.1]; simp) (by rw [h.tags.2.1]; simp))
  · exact Dm.ris_ins (Dm.ris_str h.ris _) (fun x hx => (Dm.mem_str.1 hx).2)
  · intro m hm'
    rcases Dm.mem_ins.1 hm' with rfl | hm'
    · refine ⟨i, _, hs0 ++ [w.heap.size], rfl, upd_at hi, by simp, by rw [hn0]; simp, ⟨?_, ?_, by simp [hlen0], fun j x y e1 e2 => ?_⟩⟩
      · show labW lab i w.heap.size a' w.heap.size a' = .row i
        unfold labW
        rw [if_neg (Ne.symm hxa), if_pos rfl]
      · have := hg.own
        rw [List.map_append]
        refine this.block (ht.block a' ?_ ?_)
        · obtain ⟨g, e, _, hlt⟩ := hg.own.form (by omega)
          injection e with e
          injection e with e
          omega
        · intro e
          rcases ha with ⟨h1, _⟩ | h1
          · rw [e, hmbr] at h1; cases h1
          · omega
      · by_cases hj : j < hs0.length
        · rw [List.getElem?_append_left hj] at e1
          have e2 : (s.l ++ [b])[j]? = some y := e2
          rw [List.getElem?_append_left (by omega)] at e2
          obtain ⟨g1, g2⟩ := hleaf j x y e1 e2
          have hxo := h.old x (by rw [g2]; simp)
          exact ⟨g1.block (keep x hxo (by rw [g2]; simp) (by rw [g2]; simp)), (hl x hxo).trans g2⟩
        · rw [List.getElem?_append_right (by omega)] at e1
          have hj2 : j = hs0.length := by
            have := (List.getElem?_eq_some_iff.1 e1).1
            simp at this; omega
          subst hj2
          have e2 : (s.l ++ [b])[hs0.length]? = some y := e2
          rw [hlen0, List.getElem?_append_right (Nat.le_refl _), Nat.sub_self] at e2
          rw [Nat.sub_self] at e1
          simp at e1 e2
          subst e1 e2
          refine ⟨hxw4, ?_⟩
          unfold labW
          rw [if_pos rfl]
    · obtain ⟨hm1, hm2⟩ := Dm.mem_str.1 hm'
      obtain ⟨i', s', hs', h1, h2, h3, h4, h5⟩ := h.row m hm1
      have hne : i' ≠ i := fun e => hm2 (by rw [h1, e])
      refine ⟨i', s', hs', h1, by show (Dk.upd st.s i _)[i']? = _; rw [upd_other hne]; exact h2, h3, h4, ⟨?_, ?_, h5.len, fun j x y e1 e2 => ?_⟩⟩
      · exact (hlo m.a (by rw [h5.tag]; simp)).trans h5.tag
      · exact h5.own.block (keep m.a (h.old m.a (by rw [h5.tag]; simp)) (by rw [h5.tag]; intro e; injection e; omega) (by rw [h5.tag]; simp))
      · obtain ⟨g1, g2⟩ := h5.leaf j x y e1 e2
        have hxo := h.old x (by rw [g2]; simp)
        exact ⟨g1.block (keep x hxo (by rw [g2]; simp) (by rw [g2]; simp)), (hl x hxo).trans g2⟩
  · intro j s' hj hne
    rw [Dm.hasq_yes]
    by_cases e : j = i
    · subst e
      exact ⟨_, Dm.mem_ins.2 (.inl rfl), rfl⟩
    · have hj : (Dk.upd st.s i _)[j]? = some s' := hj
      rw [upd_other e] at hj
      obtain ⟨m, hm1, hm2⟩ := Dm.hasq_yes.1 (h.all j s' hj hne)
      exact ⟨m, Dm.mem_ins.2 (.inr (Dm.mem_str.2 ⟨hm1, by rw [hm2]; omega⟩)), hm2⟩
  · exact ⟨(hlo d (by rw [h.tags.1]; simp)).trans h.tags.1, (hlo fb (by rw [h.tags.2.1]; simp)).trans h.tags.2.1, (hlo mb (by rw [h.tags.2.2]; simp)).trans h.tags.2.2⟩
  · intro k hk
    unfold labW at hk
    split at hk
    · omega
    · split at hk
      · omega
      · split at hk
        · omega
        · exact absurd rfl hk
  · obtain ⟨f1, f2, f3⟩ := h.fine
    refine ⟨fun t ht => ?_, by show 1 ≤ (Dk.upd st.s i _).length; rw [upd_len]; exact f2, by show (Dk.upd st.s i _).length ≤ 4096; rw [upd_len]; exact f3⟩
    obtain ⟨j, hj⟩ := List.getElem?_of_mem ht
    have hj : (Dk.upd st.s i _)[j]? = some t := hj
    by_cases e : j = i
    · subst e
      rw [upd_at hi] at hj
      injection hj with hj
      subst hj
      obtain ⟨a1, a2, a3⟩ := f1 s (List.mem_of_getElem? hi)
      refine ⟨a1, a2, fun y hy => ?_⟩
      rcases List.mem_append.1 hy with hy | hy
      · exact a3 y hy
      · simp at hy
        subst hy
        exact ⟨hb128, hx.2⟩
    · rw [upd_other e] at hj
      exact f1 t (List.mem_of_getElem? hj)
  · refine ⟨ht.os.trans (hg.grew.os.trans (hb2.os.trans hb1.os)), ht.tape.trans (hg.grew.tape.trans (hb2.tape.trans hb1.tape)), ht.output.trans (hg.grew.output.trans (hb2.output.trans hb1.output)), by omega, fun k hk e => keep k hk (by rw [e]; simp) (by rw [e]; simp)⟩
end
end Go.Proofs.Ytbdomhookjmmgaa
