/- The program's disk: what holds of its memory, and how it stays. -/
import Derived.Test.YtamdihodconjiaaDmMap
namespace Go.Proofs.Ytamdihodconjiaa
open Go.RowKit
set_option linter.unusedVariables false
/-- What a block is for a disk. -/
inductive Tag where
  | no | box | buf | map | row (i : Nat) | leaf
  deriving DecidableEq
def leafV (h : Nat) : Value := .slice (some ⟨h, 0, none⟩) 128 128
/-- A sector's row of loose writes. -/
structure Row (w : World) (lab : Nat → Tag) (i a n c : Nat) (hs : List Nat) (ws : List (List Nat)) : Prop where
  tag : lab a = .row i
  own : OwnV w 0 35 (some ⟨a, 0, none⟩) n c (hs.map leafV)
  len : hs.length = ws.length
  leaf : ∀ (j h : Nat) (b : List Nat), hs[j]? = some h → ws[j]? = some b → Buf w h b ∧ lab h = .leaf
def flatF (L : List Dk.Sec) : List Nat := L.flatMap (·.f)
/-- A disk in memory. -/
structure DiskM (w : World) (d fb mb M : Nat) (E : List Dm.Mp) (lab : Nat → Tag) (st : Dk.St) : Prop where
  box : Holds w d [.slice (some ⟨fb, 0, none⟩) M M, .map (some mb), .int .i64 st.n, .bool st.fused, .int .i64 st.left]
  len : M = 128 * st.s.length
  buf : Buf w fb (flatF st.s)
  map : Mk w mb E
  ris : Dm.Ris E
  row : ∀ m ∈ E, ∃ (i : Nat) (s : Dk.Sec) (hs : List Nat), m.q = (i : Int) ∧ st.s[i]? = some s ∧ s.l ≠ [] ∧ m.n = s.l.length ∧ Row w lab i m.a m.n m.c hs s.l
  all : ∀ (i : Nat) (s : Dk.Sec), st.s[i]? = some s → s.l ≠ [] → Dm.hasq E (i : Int) = true
  tags : lab d = .box ∧ lab fb = .buf ∧ lab mb = .map
  old : ∀ k, lab k ≠ .no → k < w.heap.size
  fine : st.fine
/-- How many calls there were, and the fuse: within bounds. -/
def Dk.St.low (st : Dk.St) (c : Nat) : Prop := 0 ≤ st.n ∧ st.n ≤ (c : Int) ∧ 0 ≤ st.left ∧ st.left ≤ 1048576 ∧ ∀ s ∈ st.s, s.l.length ≤ c
def IsDisk (w : World) (d : Nat) (lab : Nat → Tag) (st : Dk.St) : Prop := ∃ fb mb M E, DiskM w d fb mb M E lab st
/-- Only labelled blocks, and new ones, may be other. -/
structure Chg (lab : Nat → Tag) (w w' : World) : Prop where
  os : w'.os = w.os
  tape : w'.tape = w.tape
  output : w'.output = w.output
  size : w.heap.size ≤ w'.heap.size
  block : ∀ k, k < w.heap.size → lab k = .no → w'.heap[k]? = w.heap[k]?
section
variable {lab lab' : Nat → Tag} {w w' w'' : World} {d fb mb M i a n c : Nat} {E : List Dm.Mp} {st : Dk.St} {hs : List Nat} {ws : List (List Nat)}
theorem Chg.refl (lab : Nat → Tag) (w : World) : Chg lab w w := ⟨rfl, rfl, rfl, Nat.le_refl _, fun _ _ _ => rfl⟩
theorem Chg.of_below (h : Below w.heap.size w w') : Chg lab w w' := ⟨h.os, h.tape, h.output, h.size, fun k hk _ => h.block k hk⟩
theorem Chg.of_ch1 {b : Nat} (h : Ch1 b w w') (hb : lab b ≠ .no) : Chg lab w w' := ⟨h.os, h.tape, h.output, h.size, fun k hk e => h.block k hk (fun e2 => hb (by rw [← e2]; exact e))⟩
/-- The labels stay, but for new blocks. -/
def Lab (w : World) (lab lab' : Nat → Tag) : Prop := ∀ k, k < w.heap.size → lab' k = lab k
theorem Chg.trans (h : Chg lab w w') (hl : Lab w lab lab') (k : Chg lab' w' w'') : Chg lab w w'' :=
  ⟨k.os.trans h.os, k.tape.trans h.tape, k.output.trans h.output, Nat.le_trans h.size k.size, fun i hi e => (k.block i (Nat.lt_of_lt_of_le hi h.size) ((hl i hi).trans e)).trans (h.block i hi e)⟩
theorem Lab.refl (w : World) (lab : Nat → Tag) : Lab w lab lab := fun _ _ => rfl
theorem Lab.trans {lab'' : Nat → Tag} (h : Lab w lab lab') (k : Lab w' lab' lab'') (hs : w.heap.size ≤ w'.heap.size) : Lab w lab lab'' := fun i hi => (k i (Nat.lt_of_lt_of_le hi hs)).trans (h i hi)
theorem Row.keep (h : Row w lab i a n c hs ws) (hb : ∀ k, lab k ≠ .no → w'.heap[k]? = w.heap[k]?) : Row w' lab i a n c hs ws :=
  ⟨h.tag, h.own.block (hb a (by rw [h.tag]; simp)), h.len, fun j x b h1 h2 => ⟨(h.leaf j x b h1 h2).1.block (hb x (by rw [(h.leaf j x b h1 h2).2]; simp)), (h.leaf j x b h1 h2).2⟩⟩
theorem Row.relab (h : Row w lab i a n c hs ws) (hl : ∀ k, lab k ≠ .no → lab' k = lab k) : Row w lab' i a n c hs ws :=
  ⟨(hl a (by rw [h.tag]; simp)).trans h.tag, h.own, h.len, fun j x b h1 h2 => ⟨(h.leaf j x b h1 h2).1, (hl x (by rw [(h.leaf j x b h1 h2).2]; simp)).trans (h.leaf j x b h1 h2).2⟩⟩
theorem DiskM.keep (h : DiskM w d fb mb M E lab st) (hs : w.heap.size ≤ w'.heap.size) (hb : ∀ k, lab k ≠ .no → w'.heap[k]? = w.heap[k]?) : DiskM w' d fb mb M E lab st where
  box := h.box.block hs (hb d (by rw [h.tags.1]; simp))
  len := h.len
  buf := h.buf.block (hb fb (by rw [h.tags.2.1]; simp))
  map := h.map.block (hb mb (by rw [h.tags.2.2]; simp))
  ris := h.ris
  row := fun m hm => by
    obtain ⟨i, s, hs, h1, h2, h3, h4, h5⟩ := h.row m hm
    exact ⟨i, s, hs, h1, h2, h3, h4, h5.keep hb⟩
  all := h.all
  tags := h.tags
  old := fun k hk => Nat.lt_of_lt_of_le (h.old k hk) hs
  fine := h.fine
theorem DiskM.below (h : DiskM w d fb mb M E lab st) (hb : Below w.heap.size w w') : DiskM w' d fb mb M E lab st := h.keep hb.size fun k hk => hb.block k (h.old k hk)
theorem IsDisk.keep (h : IsDisk w d lab st) (hs : w.heap.size ≤ w'.heap.size) (hb : ∀ k, lab k ≠ .no → w'.heap[k]? = w.heap[k]?) : IsDisk w' d lab st := by
  obtain ⟨fb, mb, M, E, h⟩ := h
  exact ⟨fb, mb, M, E, h.keep hs hb⟩
theorem IsDisk.below (h : IsDisk w d lab st) (hb : Below w.heap.size w w') : IsDisk w' d lab st := by
  obtain ⟨fb, mb, M, E, h⟩ := h
  exact ⟨fb, mb, M, E, h.below hb⟩
theorem flatF_length {L : List Dk.Sec} (h : ∀ s ∈ L, s.f.length = 128) : (flatF L).length = 128 * L.length := by
  induction L with
  | nil => rfl
  | cons s r ih =>
    show (s.f ++ flatF r).length = _
    rw [List.length_append, ih (fun x hx => h x (by simp [hx])), h s (by simp), List.length_cons]
    omega
theorem flatF_at {L : List Dk.Sec} (h : ∀ s ∈ L, s.f.length = 128) {i : Nat} {s : Dk.Sec} (hs : L[i]? = some s) : ((flatF L).drop (i * 128)).take 128 = s.f := by
  induction L generalizing i with
  | nil => simp at hs
  | cons x r ih =>
    have hx := h x (by simp)
    show ((x.f ++ flatF r).drop (i * 128)).take 128 = _
    cases i with
    | zero =>
      simp at hs
      subst hs
      rw [Nat.zero_mul, List.drop_zero, List.take_append_of_le_length (by omega), List.take_of_length_le (by omega)]
    | succ i =>
      simp only [List.getElem?_cons_succ] at hs
      rw [List.drop_append, hx, show (i + 1) * 128 - 128 = i * 128 by omega, List.drop_of_length_le (by omega), List.nil_append]
      exact ih (fun y hy => h y (by simp [hy])) hs
theorem DiskM.f128 (h : DiskM w d fb mb M E lab st) : ∀ s ∈ st.s, s.f.length = 128 := fun s hs => (h.fine.1 s hs).1
end
set_option maxRecDepth 100000 in
theorem size_m (w : World) (d fb mb M : Nat) (E : List Dm.Mp) (lab : Nat → Tag) (st : Dk.St) (h : DiskM w d fb mb M E lab st) : Calls Try.prog 29 #[.pointer (some ⟨d, 0, none⟩)] w fun e w' => e = .returned (.int .i64 (st.s.length : Nat)) ∧ w = w' := by
  have c0 := h.box.at_ 0 rfl
  have hdiv : (M : Int) / 128 = (st.s.length : Int) := by rw [h.len]; omega
  have hN := h.fine.2.2
  have hNi : (st.s.length : Int) ≤ 4096 := by omega
  clear h
  go_enter Try.func29, Try.ntmps29
  go_wp2
  go_ret
  exact ⟨rfl, rfl⟩
set_option maxRecDepth 100000 in
theorem down_m (w : World) (d fb mb M : Nat) (E : List Dm.Mp) (lab : Nat → Tag) (st : Dk.St) (h : DiskM w d fb mb M E lab st) : Calls Try.prog 26 #[.pointer (some ⟨d, 0, none⟩)] w fun e w' => e = .returned (.bool st.down) ∧ w = w' := by
  have c3 := h.box.at_ 3 rfl
  have c4 := h.box.at_ 4 rfl
  obtain ⟨s, n, fu, le⟩ := st
  clear h
  cases fu
  · have e : Dk.St.down ⟨s, n, false, le⟩ = false := rfl
    rw [e]
    go_enter Try.func26, Try.ntmps26
    go_wp2
    go_ret
    exact ⟨rfl, rfl⟩
  · have e : Dk.St.down ⟨s, n, true, le⟩ = (le == 0) := by unfold Dk.St.down; rw [Bool.eq_iff_iff]; simp
    rw [e]
    clear e
    go_enter Try.func26, Try.ntmps26
    go_wp2
    go_ret
    exact ⟨rfl, rfl⟩
set_option maxRecDepth 100000 in
theorem ready_m (at_ : Int) (w : World) (d fb mb M : Nat) (E : List Dm.Mp) (lab : Nat → Tag) (st : Dk.St) (h : DiskM w d fb mb M E lab st) : Calls Try.prog 38 #[.pointer (some ⟨d, 0, none⟩), .int .i64 at_] w fun e w' => e = .returned (.int .i64 (st.ready at_)) ∧ w = w' := by
  have HS := Lib.hid (size_m w d fb mb M E lab st h)
  have HD := Lib.hid (down_m w d fb mb M E lab st h)
  have hN1 := h.fine.2.1
  have hNi : ¬ (st.s.length : Int) = 0 := by omega
  have hNb : ((st.s.length : Int) == 0) = false := by simpa using hNi
  clear h hN1
  cases hd : st.down
  · by_cases h1 : at_ < 0
    · have hr : st.ready at_ = 5 := by unfold Dk.St.ready Dk.St.has; rw [hd, decide_eq_false (by omega : ¬ 0 ≤ at_)]; rfl
      rw [hr]
      clear hr
      rw [hd] at HD
      clear hd
      go_enter Try.func38, Try.ntmps38
      go_wp2_with (first | (go_at_call 29; refine HS.out.mono ?_; rintro e w' ⟨rfl, rfl⟩) | (go_at_call 26; refine HD.out.mono ?_; rintro e w' ⟨rfl, rfl⟩))
      go_ret
      exact ⟨rfl, rfl⟩
    · by_cases h2 : (st.s.length : Int) ≤ at_
      · have hr : st.ready at_ = 5 := by unfold Dk.St.ready Dk.St.has; rw [hd, decide_eq_false (by omega : ¬ at_ < (st.s.length : Int)), Bool.and_false]; rfl
        rw [hr]
        clear hr
        rw [hd] at HD
        clear hd
        go_enter Try.func38, Try.ntmps38
        go_wp2_with (first | (go_at_call 29; refine HS.out.mono ?_; rintro e w' ⟨rfl, rfl⟩) | (go_at_call 26; refine HD.out.mono ?_; rintro e w' ⟨rfl, rfl⟩))
        go_ret
        exact ⟨rfl, rfl⟩
      · have hr : st.ready at_ = 0 := by unfold Dk.St.ready Dk.St.has; rw [hd, decide_eq_true (by omega : 0 ≤ at_), decide_eq_true (by omega : at_ < (st.s.length : Int))]; rfl
        rw [hr]
        clear hr
        rw [hd] at HD
        clear hd
        go_enter Try.func38, Try.ntmps38
        go_wp2_with (first | (go_at_call 29; refine HS.out.mono ?_; rintro e w' ⟨rfl, rfl⟩) | (go_at_call 26; refine HD.out.mono ?_; rintro e w' ⟨rfl, rfl⟩))
        go_ret
        exact ⟨rfl, rfl⟩
  · have hr : st.ready at_ = 30 := by unfold Dk.St.ready; rw [hd]; rfl
    rw [hr]
    clear hr
    rw [hd] at HD
    clear hd
    go_enter Try.func38, Try.ntmps38
    go_wp2_with (first | (go_at_call 29; refine HS.out.mono ?_; rintro e w' ⟨rfl, rfl⟩) | (go_at_call 26; refine HD.out.mono ?_; rintro e w' ⟨rfl, rfl⟩))
    go_ret
    exact ⟨rfl, rfl⟩
set_option maxRecDepth 100000 in
theorem part_m (i : Nat) (w : World) (d fb mb M : Nat) (E : List Dm.Mp) (lab : Nat → Tag) (st : Dk.St) (h : DiskM w d fb mb M E lab st) (hi : i < st.s.length) : Calls Try.prog 41 #[.pointer (some ⟨d, 0, none⟩), .int .i64 (i : Int)] w fun e w' => e = .returned (.slice (some ⟨fb, i * 128, none⟩) 128 (M - i * 128)) ∧ w = w' := by
  have c0 := h.box.at_ 0 rfl
  have hM := h.len
  have hN := h.fine.2.2
  clear h
  have hi1 : (i : Int) ≤ 4096 := by omega
  have hM1 : (M : Int) ≤ 524288 := by omega
  have hb1 : (i : Int) * 128 ≤ ((i : Int) + 1) * 128 := by omega
  have hb2 : ((i : Int) + 1) * 128 ≤ (M : Int) := by omega
  clear hM
  go_enter Try.func41, Try.ntmps41
  go_wp2
  go_ret
  exact ⟨by rw [show (i + 1) * 128 - i * 128 = 128 by omega]; rfl, rfl⟩
end Go.Proofs.Ytamdihodconjiaa
