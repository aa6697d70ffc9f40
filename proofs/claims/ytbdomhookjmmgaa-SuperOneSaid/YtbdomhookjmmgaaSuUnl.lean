/- bytes.Equal; super.unlike: which copies do not stand as wanted. -/
import Derived.Test.YtbdomhookjmmgaaSuLoad
import Derived.Test.YtbdomhookjmmgaaSuSave
import Derived.Test.YtbdomhookjmmgaaSuR
namespace Go.Proofs.Ytbdomhookjmmgaa
open Go.RowKit Fr Su
set_option linter.unusedVariables false
set_option maxRecDepth 100000 in
theorem equal_yes (A B : Option Addr) (n c m d : Nat) (x : List Nat) (w : World) (hx : Rd w A n x) (hy : Rd w B m x) :
    Calls Try.prog 81 #[.slice A n c, .slice B m d] w fun e w' => e = .returned (.bool true) ∧ Below w.heap.size w w' := by
  have h1 := run_str (cap := c) hx
  have h2 := run_str (cap := d) hy
  have h3 := str_same (a := x) rfl
  go_enter Try.func81, Try.ntmps81
  go_wp2
  go_ret
  exact ⟨rfl, Below.refl _ _⟩
set_option maxRecDepth 100000 in
theorem equal_no (A B : Option Addr) (n c m d : Nat) (x y : List Nat) (w : World) (hx : Rd w A n x) (hy : Rd w B m y) (hne : x ≠ y) :
    Calls Try.prog 81 #[.slice A n c, .slice B m d] w fun e w' => e = .returned (.bool false) ∧ Below w.heap.size w w' := by
  have h1 := run_str (cap := c) hx
  have h2 := run_str (cap := d) hy
  have h3 := str_other hx.2.1 hy.2.1 hne
  go_enter Try.func81, Try.ntmps81
  go_wp2
  go_ret
  exact ⟨rfl, Below.refl _ _⟩
namespace Su
/-- Which of two sectors do not stand as wanted, and what is told. -/
def unlikeS (st : Dk.St) (a : Nat) (want : List Nat) : List Int × Int :=
  if ¬ st.ready (a : Int) = 0 then ([], st.ready (a : Int)) else
  if ¬ st.ready ((a : Int) + 1) = 0 then ([], st.ready ((a : Int) + 1)) else
  ((if st.readB (a : Int) = want then [] else [(a : Int)]) ++ (if st.readB ((a : Int) + 1) = want then [] else [(a : Int) + 1]), 0)
end Su
def iv (l : List Int) : List Value := l.map fun n => .int .i64 n
def GivesUn (w : World) (p : List Int × Int) (e : Ending) (w' : World) : Prop := ∃ A c, e = .returned (.tuple #[.slice A p.1.length c, .int .i64 p.2]) ∧ OwnV w' w.heap.size 3 A p.1.length c (iv p.1) ∧ Below w.heap.size w w'
set_option maxRecDepth 100000 in
set_option maxHeartbeats 4000000 in
theorem unlike_any (w : World) (d : Nat) (lab : Nat → Tag) (st : Dk.St) (a : Nat) (want : List Nat) (W : Option Addr) (c : Nat) (h : IsDisk w d lab st) (ha : a ≤ 2) (hr : Rd w W 128 want) : Calls Try.prog 59 #[.pointer (some ⟨d, 0, none⟩), .int .i64 (a : Int), .slice W 128 c] w (GivesUn w (unlikeS st a want)) := by
  have HD := Lib.hid h
  have HW := Lib.hid hr
  obtain ⟨P, hP⟩ : ∃ P, P = unlikeS st a want := ⟨_, rfl⟩
  rw [← hP]
  unfold unlikeS at hP
  have HP := Lib.hid hP
  clear h hr hP
  go_enter Try.func59, Try.ntmps59
  go_wp2_with fail
  refine wp_loop_rounds 3 ?_
  have HB := Lib.hid (Below.refl w.heap.size w)
  have HO := Lib.hid (OwnV.none_ w w.heap.size 3)
  rw [rounds_succ]
  go_wp2_with fail
  refine (read_any (a : Int) w d lab st (HD.out.below HB.out)).mono ?_
  rintro e' r0 ⟨A1, n1, c1, rfl, hR1, hb1, hn1, hready⟩
  by_cases hrd : st.ready (a : Int) = 0
  rotate_left
  · have HQ := Lib.hid (show P = ([], st.ready (a : Int)) by rw [HP.out, if_pos hrd])
    have HB1 := Lib.hid (HB.out.trans (hb1.mono HB.out.size))
    obtain ⟨rv, hrv⟩ : ∃ rv, rv = st.ready (a : Int) := ⟨_, rfl⟩
    rw [← hrv] at hrd HQ ⊢
    have hrb : (rv != 0) = true := by simpa using hrd
    clear hrd hrv hready hR1 hb1
    go_wp2_with fail
    go_ret2
    exact ⟨none, 0, by rw [HQ.out]; rfl, by rw [HQ.out]; exact OwnV.none_ _ _ _, HB1.out⟩
  · obtain ⟨rfl, rfl, rfl, _⟩ := hready hrd
    have HQ0 := Lib.hid (HP.out.trans (if_neg (by rw [hrd]; simp)))
    rw [hrd]
    have HB1 := Lib.hid (HB.out.trans (hb1.mono HB.out.size))
    have HO1 := Lib.hid (HO.out.below hb1)
    have HR1 := Lib.hid hR1
    clear hready hR1 hrd
    by_cases heq : st.readB (a : Int) = want
    · have HC := Lib.hid (equal_yes _ W 128 128 128 c want r0 (heq ▸ HR1.out) (HW.out.below HB1.out))
      have HE0 := Lib.hid heq
      clear heq hb1
      go_wp2_with fail
      refine HC.out.mono ?_
      rintro e' q0 ⟨rfl, hb2⟩
      have HBq0 := Lib.hid (HB1.out.trans (hb2.mono HB1.out.size))
      have HOq0 := Lib.hid (HO1.out.below hb2)
      clear hb2 HC
      go_wp2_with fail
      rw [rounds_succ]
      go_wp2_with fail
      refine (read_any ((a : Int) + 1) q0 d lab st (HD.out.below HBq0.out)).mono ?_
      rintro e' r1 ⟨A1, n1, c1, rfl, hR1, hb1, hn1, hready⟩
      by_cases hrd : st.ready ((a : Int) + 1) = 0
      rotate_left
      · have HQ := Lib.hid (show P = ([], st.ready ((a : Int) + 1)) by rw [HQ0.out, if_pos hrd])
        have HB1 := Lib.hid (HBq0.out.trans (hb1.mono HBq0.out.size))
        obtain ⟨rv, hrv⟩ : ∃ rv, rv = st.ready ((a : Int) + 1) := ⟨_, rfl⟩
        rw [← hrv] at hrd HQ ⊢
        have hrb : (rv != 0) = true := by simpa using hrd
        clear hrd hrv hready hR1 hb1
        go_wp2_with fail
        go_ret2
        exact ⟨none, 0, by rw [HQ.out]; rfl, by rw [HQ.out]; exact OwnV.none_ _ _ _, HB1.out⟩
      · obtain ⟨rfl, rfl, rfl, _⟩ := hready hrd
        have HQ1 := Lib.hid (HQ0.out.trans (if_neg (by rw [hrd]; simp)))
        rw [hrd]
        have HB2 := Lib.hid (HBq0.out.trans (hb1.mono HBq0.out.size))
        have HO2 := Lib.hid (HOq0.out.below hb1)
        have HR2 := Lib.hid hR1
        clear hready hR1 hrd
        by_cases heq : st.readB ((a : Int) + 1) = want
        · have HC := Lib.hid (equal_yes _ W 128 128 128 c want r1 (heq ▸ HR2.out) (HW.out.below HB2.out))
          have HE1 := Lib.hid heq
          clear heq hb1
          go_wp2_with fail
          refine HC.out.mono ?_
          rintro e' q1 ⟨rfl, hb2⟩
          have HBq1 := Lib.hid (HB2.out.trans (hb2.mono HB2.out.size))
          have HOq1 := Lib.hid (HO2.out.below hb2)
          clear hb2 HC
          have HZ := Lib.hid (show P = ([], 0) by rw [HQ1.out]; simp [HE0.out, HE1.out])
          go_wp2_with fail
          rw [rounds_succ]
          go_wp2_with fail
          go_ret2
          exact ⟨none, 0, by rw [HZ.out]; rfl, by rw [HZ.out]; exact HOq1.out, HBq1.out⟩
        · have HC := Lib.hid (equal_no _ W 128 128 128 c _ want r1 HR2.out (HW.out.below HB2.out) heq)
          have HE1 := Lib.hid heq
          clear heq hb1
          go_wp2_with fail
          refine HC.out.mono ?_
          rintro e' q1 ⟨rfl, hb2⟩
          have HBq1 := Lib.hid (HB2.out.trans (hb2.mono HB2.out.size))
          have HOq1 := Lib.hid (HO2.out.below hb2)
          clear hb2 HC
          have hown := HOq1.out.alloc (.cells #[.int .i64 ((a : Int) + 1)] 3)
          have hrn := rdv_one q1 3 (.int .i64 ((a : Int) + 1))
          have hbase : w.heap.size ≤ (q1.alloc (.cells #[.int .i64 ((a : Int) + 1)] 3)).heap.size := Nat.le_trans HBq1.out.size (size_alloc_le _ _)
          go_wp2_with (first | (at_builtin; refine wpList_appV oneInt rfl (.tmp 32) (.tmp 34) rfl rfl hown (some ⟨q1.heap.size, 0, none⟩) 1 1 [.int .i64 ((a : Int) + 1)] (by intro u hu; rw [List.mem_singleton.1 hu]; rfl) rfl hrn (by omega) hbase ?_; intro A31 c31 s1 hg3))
          have HBs1 := Lib.hid (hg3.below (HBq1.out.alloc HBq1.out.size _) hbase (fun g hg => (HOq1.out.blk g hg).1))
          have HOs1 := Lib.hid (show OwnV s1 w.heap.size 3 A31 1 c31 (iv [((a : Int) + 1)]) from hg3.own)
          clear hg3 hown hrn hbase
          have HZ := Lib.hid (show P = ([((a : Int) + 1)], 0) by rw [HQ1.out]; simp [HE0.out, HE1.out])
          go_wp2_with fail
          rw [rounds_succ]
          go_wp2_with fail
          go_ret2
          exact ⟨A31, c31, by rw [HZ.out]; rfl, by rw [HZ.out]; exact HOs1.out, HBs1.out⟩
    · have HC := Lib.hid (equal_no _ W 128 128 128 c _ want r0 HR1.out (HW.out.below HB1.out) heq)
      have HE0 := Lib.hid heq
      clear heq hb1
      go_wp2_with fail
      refine HC.out.mono ?_
      rintro e' q0 ⟨rfl, hb2⟩
      have HBq0 := Lib.hid (HB1.out.trans (hb2.mono HB1.out.size))
      have HOq0 := Lib.hid (HO1.out.below hb2)
      clear hb2 HC
      have hown := HOq0.out.alloc (.cells #[.int .i64 (a : Int)] 3)
      have hrn := rdv_one q0 3 (.int .i64 (a : Int))
      have hbase : w.heap.size ≤ (q0.alloc (.cells #[.int .i64 (a : Int)] 3)).heap.size := Nat.le_trans HBq0.out.size (size_alloc_le _ _)
      go_wp2_with (first | (at_builtin; refine wpList_appV oneInt rfl (.tmp 32) (.tmp 34) rfl rfl hown (some ⟨q0.heap.size, 0, none⟩) 1 1 [.int .i64 (a : Int)] (by intro u hu; rw [List.mem_singleton.1 hu]; rfl) rfl hrn (by omega) hbase ?_; intro A30 c30 s0 hg3))
      have HBs0 := Lib.hid (hg3.below (HBq0.out.alloc HBq0.out.size _) hbase (fun g hg => (HOq0.out.blk g hg).1))
      have HOs0 := Lib.hid (show OwnV s0 w.heap.size 3 A30 1 c30 (iv [(a : Int)]) from hg3.own)
      clear hg3 hown hrn hbase
      go_wp2_with fail
      rw [rounds_succ]
      go_wp2_with fail
      refine (read_any ((a : Int) + 1) s0 d lab st (HD.out.below HBs0.out)).mono ?_
      rintro e' r1 ⟨A1, n1, c1, rfl, hR1, hb1, hn1, hready⟩
      by_cases hrd : st.ready ((a : Int) + 1) = 0
      rotate_left
      · have HQ := Lib.hid (show P = ([], st.ready ((a : Int) + 1)) by rw [HQ0.out, if_pos hrd])
        have HB1 := Lib.hid (HBs0.out.trans (hb1.mono HBs0.out.size))
        obtain ⟨rv, hrv⟩ : ∃ rv, rv = st.ready ((a : Int) + 1) := ⟨_, rfl⟩
        rw [← hrv] at hrd HQ ⊢
        have hrb : (rv != 0) = true := by simpa using hrd
        clear hrd hrv hready hR1 hb1
        go_wp2_with fail
        go_ret2
        exact ⟨none, 0, by rw [HQ.out]; rfl, by rw [HQ.out]; exact OwnV.none_ _ _ _, HB1.out⟩
      · obtain ⟨rfl, rfl, rfl, _⟩ := hready hrd
        have HQ1 := Lib.hid (HQ0.out.trans (if_neg (by rw [hrd]; simp)))
        rw [hrd]
        have HB2 := Lib.hid (HBs0.out.trans (hb1.mono HBs0.out.size))
        have HO2 := Lib.hid (HOs0.out.below hb1)
        have HR2 := Lib.hid hR1
        clear hready hR1 hrd
        by_cases heq : st.readB ((a : Int) + 1) = want
        · have HC := Lib.hid (equal_yes _ W 128 128 128 c want r1 (heq ▸ HR2.out) (HW.out.below HB2.out))
          have HE1 := Lib.hid heq
          clear heq hb1
          go_wp2_with fail
          refine HC.out.mono ?_
          rintro e' q1 ⟨rfl, hb2⟩
          have HBq1 := Lib.hid (HB2.out.trans (hb2.mono HB2.out.size))
          have HOq1 := Lib.hid (HO2.out.below hb2)
          clear hb2 HC
          have HZ := Lib.hid (show P = ([(a : Int)], 0) by rw [HQ1.out]; simp [HE0.out, HE1.out])
          go_wp2_with fail
          rw [rounds_succ]
          go_wp2_with fail
          go_ret2
          exact ⟨A30, c30, by rw [HZ.out]; rfl, by rw [HZ.out]; exact HOq1.out, HBq1.out⟩
        · have HC := Lib.hid (equal_no _ W 128 128 128 c _ want r1 HR2.out (HW.out.below HB2.out) heq)
          have HE1 := Lib.hid heq
          clear heq hb1
          go_wp2_with fail
          refine HC.out.mono ?_
          rintro e' q1 ⟨rfl, hb2⟩
          have HBq1 := Lib.hid (HB2.out.trans (hb2.mono HB2.out.size))
          have HOq1 := Lib.hid (HO2.out.below hb2)
          clear hb2 HC
          have hown := HOq1.out.alloc (.cells #[.int .i64 ((a : Int) + 1)] 3)
          have hrn := rdv_one q1 3 (.int .i64 ((a : Int) + 1))
          have hbase : w.heap.size ≤ (q1.alloc (.cells #[.int .i64 ((a : Int) + 1)] 3)).heap.size := Nat.le_trans HBq1.out.size (size_alloc_le _ _)
          go_wp2_with (first | (at_builtin; refine wpList_appV oneInt rfl (.tmp 32) (.tmp 34) rfl rfl hown (some ⟨q1.heap.size, 0, none⟩) 1 1 [.int .i64 ((a : Int) + 1)] (by intro u hu; rw [List.mem_singleton.1 hu]; rfl) rfl hrn (by omega) hbase ?_; intro A31 c31 s1 hg3))
          have HBs1 := Lib.hid (hg3.below (HBq1.out.alloc HBq1.out.size _) hbase (fun g hg => (HOq1.out.blk g hg).1))
          have HOs1 := Lib.hid (show OwnV s1 w.heap.size 3 A31 2 c31 (iv [(a : Int), ((a : Int) + 1)]) from hg3.own)
          clear hg3 hown hrn hbase
          have HZ := Lib.hid (show P = ([(a : Int), ((a : Int) + 1)], 0) by rw [HQ1.out]; simp [HE0.out, HE1.out])
          go_wp2_with fail
          rw [rounds_succ]
          go_wp2_with fail
          go_ret2
          exact ⟨A31, c31, by rw [HZ.out]; rfl, by rw [HZ.out]; exact HOs1.out, HBs1.out⟩
end Go.Proofs.Ytbdomhookjmmgaa
