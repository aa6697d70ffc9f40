/- The program's disk: Flush of any, New. -/
import Derived.Test.YtamdihodconjiaaDkFlush
namespace Go.Proofs.Ytamdihodconjiaa
open Go.RowKit
set_option linter.unusedVariables false
set_option maxRecDepth 100000 in
theorem flush_any (k : Nat) (w : World) (d : Nat) (lab : Nat → Tag) (st : Dk.St) (h : IsDisk w d lab st) (hlow : st.low k) (hk : k ≤ 1000) :
    Calls Try.prog 17 #[.pointer (some ⟨d, 0, none⟩)] w fun e w' => e = .returned (.int .i64 st.flushE) ∧ Left lab d st.flush w w' := by
  obtain ⟨fb, mb, M, E, h⟩ := h
  obtain ⟨l1, l2, l3, l4, l5⟩ := hlow
  cases hd : st.down
  · have e1 : st.flushE = 0 := by unfold Dk.St.flushE; rw [hd]; rfl
    have e2 : st.flush = Dk.St.burn ⟨Dk.fixed st.s, st.n, st.fused, st.left⟩ := by unfold Dk.St.flush; rw [e1]; rfl
    rw [e1, e2]
    exact flush_m w d fb mb M E lab st h hd ⟨l1, by omega⟩ ⟨by omega, by omega⟩
  · have e1 : st.flushE = 30 := by unfold Dk.St.flushE; rw [hd]; rfl
    have e2 : st.flush = st := by unfold Dk.St.flush; rw [e1]; rfl
    rw [e1, e2]
    have HR := Lib.hid (ready_m 0 w d fb mb M E lab st h)
    have er : st.ready 0 = 30 := by unfold Dk.St.ready; rw [hd]; rfl
    rw [er] at HR
    have H := Lib.hid h
    clear h e1 e2 er hd
    go_enter Try.func17, Try.ntmps17
    go_wp2_with (go_at_call 38; refine HR.out.mono ?_; rintro e w' ⟨rfl, rfl⟩)
    go_ret
    exact ⟨rfl, lab, ⟨fb, mb, M, E, H.out⟩, Chg.refl _ _, Lab.refl _ _⟩
/-- The labels of a new disk. -/
def lab3 (f m d : Nat) : Nat → Tag := fun k => if k = f then .buf else if k = m then .map else if k = d then .box else .no
theorem flatF_new (k : Nat) : flatF (List.replicate k ⟨Dk.zeros, []⟩) = List.replicate (k * 128) 0 := by
  induction k with
  | zero => rfl
  | succ k ih =>
    rw [List.replicate_succ]
    show Dk.zeros ++ flatF _ = _
    rw [ih]
    unfold Dk.zeros
    rw [List.replicate_append_replicate]
    congr 1
    omega
theorem disk_new {w' : World} {d fb mb k : Nat} {L : List Dk.Sec} (hk1 : 1 ≤ k) (hk2 : k ≤ 4096) (hL : L.length = k) (hl : ∀ s ∈ L, s.l = [] ∧ s.f.length = 128) (hb : Buf w' fb (flatF L)) (hm : Mk w' mb []) (hd : Holds w' d [.slice (some ⟨fb, 0, none⟩) (k * 128) (k * 128), .map (some mb), .int .i64 0, .bool false, .int .i64 0]) (h1 : fb ≠ mb) (h2 : fb ≠ d) (h3 : mb ≠ d) : DiskM w' d fb mb (k * 128) [] (lab3 fb mb d) ⟨L, 0, false, 0⟩ where
  box := hd
  len := by show k * 128 = 128 * L.length; rw [hL]; omega
  buf := hb
  map := hm
  ris := List.Pairwise.nil
  row := fun m h => by simp at h
  all := fun i s hs hne => absurd (hl s (List.mem_of_getElem? hs)).1 hne
  tags := by
    refine ⟨?_, ?_, ?_⟩
    · unfold lab3; rw [if_neg (Ne.symm h2), if_neg (Ne.symm h3), if_pos rfl]
    · unfold lab3; rw [if_pos rfl]
    · unfold lab3; rw [if_neg (Ne.symm h1), if_pos rfl]
  old := fun j hj => by
    unfold lab3 at hj
    split at hj
    · rename_i e; subst e; exact hb.lt
    · split at hj
      · rename_i e; subst e; exact hm.lt
      · split at hj
        · rename_i e; subst e; exact hd.1
        · exact absurd rfl hj
  fine := by
    refine ⟨fun s hs => ⟨(hl s hs).2, fun x hx => hb.2 x ?_, fun b hb2 => by rw [(hl s hs).1] at hb2; simp at hb2⟩, by show 1 ≤ L.length; omega, by show L.length ≤ 4096; omega⟩
    unfold flatF
    exact List.mem_flatMap.2 ⟨s, hs, hx⟩
/-- A new disk, in memory of its own. -/
def GivesDisk (w : World) (st : Dk.St) (g : Nat) (w' : World) : Prop := ∃ lab, IsDisk w' g lab st ∧ Below w.heap.size w w' ∧ ∀ k, lab k ≠ .no → w.heap.size ≤ k
/-- What blank gives. -/
def Blank (k : Nat) (w : World) (e : Ending) (w' : World) : Prop := ∃ fb mb d, e = .returned (.pointer (some ⟨d, 0, none⟩)) ∧ DiskM w' d fb mb (k * 128) [] (lab3 fb mb d) (Dk.St.new k) ∧ Below w.heap.size w w' ∧ w.heap.size ≤ fb ∧ w.heap.size ≤ mb ∧ w.heap.size ≤ d
set_option maxRecDepth 100000 in
theorem blank_any (k : Nat) (w : World) (hk1 : 1 ≤ k) (hk2 : k ≤ 4096) : Calls Try.prog 30 #[.int .i64 (k : Int)] w (Blank k w) := by
  have hmk : ∀ w : World, (Instr.makeSlice 35 (.int .i64 ((k : Int) * 128)) (.int .i64 ((k : Int) * 128))).run Try.prog w = .ok (.slice (some ⟨w.heap.size, 0, none⟩) (k * 128) (k * 128)) (w.alloc (.cells (madeCells #[.int .u8 0] (k * 128)) 5)) := by
    have := make_all (k * 128) (by omega)
    rw [show ((k * 128 : Nat) : Int) = (k : Int) * 128 by simp] at this
    exact this
  have hmm := @run_makeMap Try.prog
  have hki : (k : Int) ≤ 4096 := by omega
  have hk0 : (0 : Int) ≤ (k : Int) := by omega
  go_enter Try.func30, Try.ntmps30
  go_wp2
  go_ret
  have e1 : (w.alloc (.cells (madeCells #[.int .u8 0] (k * 128)) 5)).heap.size = w.heap.size + 1 := by simp
  have e2 : ((w.alloc (.cells (madeCells #[.int .u8 0] (k * 128)) 5)).alloc (.map #[] 0)).heap.size = w.heap.size + 1 + 1 := by simp
  have hB := buf_zeros w (k * 128)
  have hM := Mk.new (w.alloc (.cells (madeCells #[.int .u8 0] (k * 128)) 5))
  have hD := Holds.new ((w.alloc (.cells (madeCells #[.int .u8 0] (k * 128)) 5)).alloc (.map #[] 0)) #[.slice (some ⟨w.heap.size, 0, none⟩) (k * 128) (k * 128), .map (some (w.heap.size + 1)), .int .i64 0, .bool false, .int .i64 0] 73
  rw [e1] at hM
  rw [e2] at hD
  have ha : ∀ (v : World) (o : Obj), Below v.heap.size v (v.alloc o) := fun v o => (Below.refl _ _).alloc (Nat.le_refl _) o
  refine ⟨w.heap.size, w.heap.size + 1, w.heap.size + 1 + 1, rfl, disk_new hk1 hk2 (by simp) (fun s hs => ?_) ?_ (hM.below (ha _ _)) hD (by omega) (by omega) (by omega), (((Below.refl _ _).alloc (Nat.le_refl _) _).alloc (by simp) _).alloc (by simp; omega) _, by omega, by omega, by omega⟩
  · rw [List.eq_of_mem_replicate hs]
    exact ⟨rfl, by simp [Dk.zeros]⟩
  · rw [flatF_new]
    exact (hB.below (ha _ _)).below (ha _ _)
theorem lab3_new {w : World} {f m d k : Nat} (h1 : w.heap.size ≤ f) (h2 : w.heap.size ≤ m) (h3 : w.heap.size ≤ d) (h : lab3 f m d k ≠ .no) : w.heap.size ≤ k := by
  unfold lab3 at h
  split at h
  · omega
  · split at h
    · omega
    · split at h
      · omega
      · exact absurd rfl h
/-- What New gives. -/
def GivesNew (n : Int) (w : World) (e : Ending) (w' : World) : Prop :=
  (1 ≤ n ∧ n ≤ 4096 ∧ ∃ d lab, e = .returned (.tuple #[.pointer (some ⟨d, 0, none⟩), .int .i64 0]) ∧ IsDisk w' d lab (Dk.St.new n.toNat) ∧ Below w.heap.size w w' ∧ (∀ k, lab k ≠ .no → w.heap.size ≤ k)) ∨
  (¬ (1 ≤ n ∧ n ≤ 4096) ∧ e = .returned (.tuple #[.pointer none, .int .i64 1]) ∧ w = w')
set_option maxRecDepth 100000 in
theorem new_any (n : Int) (w : World) : Calls Try.prog 11 #[.int .i64 n] w (GivesNew n w) := by
  by_cases hn : 1 ≤ n ∧ n ≤ 4096
  · obtain ⟨k, rfl⟩ : ∃ k : Nat, n = (k : Int) := ⟨n.toNat, by omega⟩
    have q1 : ¬ (k : Int) < 1 := by omega
    have q2 : ¬ (4096 : Int) < (k : Int) := by omega
    have HB := Lib.hid (blank_any k w (by omega) (by omega))
    have HN := Lib.hid hn
    clear hn
    go_enter Try.func11, Try.ntmps11
    go_wp2_with fail
    refine HB.out.mono ?_
    intro e w1 hg
    obtain ⟨fb, mb, d, rfl, hd, hb, l1, l2, l3⟩ := hg
    have HX := Lib.hid (And.intro hd (And.intro hb (And.intro l1 (And.intro l2 l3))))
    clear hd hb l1 l2 l3
    go_wp2
    go_ret2
    obtain ⟨hd, hb, l1, l2, l3⟩ := HX.out
    exact .inl ⟨HN.out.1, HN.out.2, d, _, rfl, ⟨fb, mb, k * 128, [], by rw [Int.toNat_natCast]; exact hd⟩, hb, fun j hj => lab3_new l1 l2 l3 hj⟩
  · have HN := Lib.hid hn
    have key : n < 1 ∨ (¬ n < 1 ∧ 4096 < n) := by omega
    clear hn
    rcases key with k1 | ⟨k1, k2⟩
    all_goals
      go_enter Try.func11, Try.ntmps11
      go_wp2
      go_ret2
      exact .inr ⟨HN.out, rfl, rfl⟩
end Go.Proofs.Ytamdihodconjiaa
