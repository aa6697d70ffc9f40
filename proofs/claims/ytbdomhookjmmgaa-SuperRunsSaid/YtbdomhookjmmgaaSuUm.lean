/- bytes.Equal; super.unlike: which copies do not stand as wanted. super.Mend: the two copies made alike. -/
import Derived.Test.YtbdomhookjmmgaaSuLoad
import Derived.Test.YtbdomhookjmmgaaSuSave
import Derived.Test.YtbdomhookjmmgaaSuR
namespace Go.Proofs.Ytbdomhookjmmgaa
open Go.RowKit Fr Su
set_option linter.unusedVariables false
set_option maxRecDepth 100000 in
theorem equal_yes (A B : Option Addr) (n c m d : Nat) (x : List Nat) (w : World) (hx : Rd w A n x) (hy : Rd w B m x) :
    Calls Try.prog 81 #[.slice A n c, .slice B m d] w fun e w' => e = .returned (.bool true) ∧ Below w.heap.size w w' := by
  have h1 := run_str (cap := c) hx
  have h2 := run_str (cap := d) hy
  have h3 := str_same (a := x) rfl
  go_enter Try.func81, Try.ntmps81
  go_wp2
  go_ret
  exact ⟨rfl, Below.refl _ _⟩
set_option maxRecDepth 100000 in
theorem equal_no (A B : Option Addr) (n c m d : Nat) (x y : List Nat) (w : World) (hx : Rd w A n x) (hy : Rd w B m y) (hne : x ≠ y) :
    Calls Try.prog 81 #[.slice A n c, .slice B m d] w fun e w' => e = .returned (.bool false) ∧ Below w.heap.size w w' := by
  have h1 := run_str (cap := c) hx
  have h2 := run_str (cap := d) hy
  have h3 := str_other hx.2.1 hy.2.1 hne
  go_enter Try.func81, Try.ntmps81
  go_wp2
  go_ret
  exact ⟨rfl, Below.refl _ _⟩
namespace Su
/-- Which of two sectors do not stand as wanted, and what is told. -/
def unlikeS (st : Dk.St) (a : Nat) (want : List Nat) : List Int × Int :=
  if ¬ st.ready (a : Int) = 0 then ([], st.ready (a : Int)) else
  if ¬ st.ready ((a : Int) + 1) = 0 then ([], st.ready ((a : Int) + 1)) else
  ((if st.readB (a : Int) = want then [] else [(a : Int)]) ++ (if st.readB ((a : Int) + 1) = want then [] else [(a : Int) + 1]), 0)
end Su
def iv (l : List Int) : List Value := l.map fun n => .int .i64 n
def GivesUn (w : World) (p : List Int × Int) (e : Ending) (w' : World) : Prop := ∃ A c, e = .returned (.tuple #[.slice A p.1.length c, .int .i64 p.2]) ∧ OwnV w' w.heap.size 3 A p.1.length c (iv p.1) ∧ Below w.heap.size w w'
set_option maxRecDepth 100000 in
set_option maxHeartbeats 4000000 in
theorem unlike_any (w : World) (d : Nat) (lab : Nat → Tag) (st : Dk.St) (a : Nat) (want : List Nat) (W : Option Addr) (c : Nat) (h : IsDisk w d lab st) (ha : a ≤ 2) (hr : Rd w W 128 want) : Calls Try.prog 59 #[.pointer (some ⟨d, 0, none⟩), .int .i64 (a : Int), .slice W 128 c] w (GivesUn w (unlikeS st a want)) := by
  have HD := Lib.hid h
  have HW := Lib.hid hr
  obtain ⟨P, hP⟩ : ∃ P, P = unlikeS st a want := ⟨_, rfl⟩
  rw [← hP]
  unfold unlikeS at hP
  have HP := Lib.hid hP
  clear h hr hP
  go_enter Try.func59, Try.ntmps59
  go_wp2_with fail
  refine wp_loop_rounds 3 ?_
  have HB := Lib.hid (Below.refl w.heap.size w)
  have HO := Lib.hid (OwnV.none_ w w.heap.size 3)
  rw [rounds_succ]
  go_wp2_with fail
  refine (read_any (a : Int) w d lab st (HD.out.below HB.out)).mono ?_
  rintro e' r0 ⟨A1, n1, c1, rfl, hR1, hb1, hn1, hready⟩
  by_cases hrd : st.ready (a : Int) = 0
  rotate_left
  · have HQ := Lib.hid (show P = ([], st.ready (a : Int)) by rw [HP.out, if_pos hrd])
    have HB1 := Lib.hid (HB.out.trans (hb1.mono HB.out.size))
    obtain ⟨rv, hrv⟩ : ∃ rv, rv = st.ready (a : Int) := ⟨_, rfl⟩
    rw [← hrv] at hrd HQ ⊢
    have hrb : (rv != 0) = true := by simpa using hrd
    clear hrd hrv hready hR1 hb1
    go_wp2_with fail
    go_ret2
    exact ⟨none, 0, by rw [HQ.out]; rfl, by rw [HQ.out]; exact OwnV.none_ _ _ _, HB1.out⟩
  · obtain ⟨rfl, rfl, rfl, _⟩ := hready hrd
    have HQ0 := Lib.hid (HP.out.trans (if_neg (by rw [hrd]; simp)))
    rw [hrd]
    have HB1 := Lib.hid (HB.out.trans (hb1.mono HB.out.size))
    have HO1 := Lib.hid (HO.out.below hb1)
    have HR1 := Lib.hid hR1
    clear hready hR1 hrd
    by_cases heq : st.readB (a : Int) = want
    · have HC := Lib.hid (equal_yes _ W 128 128 128 c want r0 (heq ▸ HR1.out) (HW.out.below HB1.out))
      have HE0 := Lib.hid heq
      clear heq hb1
      go_wp2_with fail
      refine HC.out.mono ?_
      rintro e' q0 ⟨rfl, hb2⟩
      have HBq0 := Lib.hid (HB1.out.trans (hb2.mono HB1.out.size))
      have HOq0 := Lib.hid (HO1.out.below hb2)
      clear hb2 HC
      go_wp2_with fail
      rw [rounds_succ]
      go_wp2_with fail
      refine (read_any ((a : Int) + 1) q0 d lab st (HD.out.below HBq0.out)).mono ?_
      rintro e' r1 ⟨A1, n1, c1, rfl, hR1, hb1, hn1, hready⟩
      by_cases hrd : st.ready ((a : Int) + 1) = 0
      rotate_left
      · have HQ := Lib.hid (show P = ([], st.ready ((a : Int) + 1)) by rw [HQ0.out, if_pos hrd])
        have HB1 := Lib.hid (HBq0.out.trans (hb1.mono HBq0.out.size))
        obtain ⟨rv, hrv⟩ : ∃ rv, rv = st.ready ((a : Int) + 1) := ⟨_, rfl⟩
        rw [← hrv] at hrd HQ ⊢
        have hrb : (rv != 0) = true := by simpa using hrd
        clear hrd hrv hready hR1 hb1
        go_wp2_with fail
        go_ret2
        exact ⟨none, 0, by rw [HQ.out]; rfl, by rw [HQ.out]; exact OwnV.none_ _ _ _, HB1.out⟩
      · obtain ⟨rfl, rfl, rfl, _⟩ := hready hrd
        have HQ1 := Lib.hid (HQ0.out.trans (if_neg (by rw [hrd]; simp)))
        rw [hrd]
        have HB2 := Lib.hid (HBq0.out.trans (hb1.mono HBq0.out.size))
        have HO2 := Lib.hid (HOq0.out.below hb1)
        have HR2 := Lib.hid hR1
        clear hready hR1 hrd
        by_cases heq : st.readB ((a : Int) + 1) = want
        · have HC := Lib.hid (equal_yes _ W 128 128 128 c want r1 (heq ▸ HR2.out) (HW.out.below HB2.out))
          have HE1 := Lib.hid heq
          clear heq hb1
          go_wp2_with fail
          refine HC.out.mono ?_
          rintro e' q1 ⟨rfl, hb2⟩
          have HBq1 := Lib.hid (HB2.out.trans (hb2.mono HB2.out.size))
          have HOq1 := Lib.hid (HO2.out.below hb2)
          clear hb2 HC
          have HZ := Lib.hid (show P = ([], 0) by rw [HQ1.out]; simp [HE0.out, HE1.out])
          go_wp2_with fail
          rw [rounds_succ]
          go_wp2_with fail
          go_ret2
          exact ⟨none, 0, by rw [HZ.out]; rfl, by rw [HZ.out]; exact HOq1.out, HBq1.out⟩
        · have HC := Lib.hid (equal_no _ W 128 128 128 c _ want r1 HR2.out (HW.out.below HB2.out) heq)
          have HE1 := Lib.hid heq
          clear heq hb1
          go_wp2_with fail
          refine HC.out.mono ?_
          rintro e' q1 ⟨rfl, hb2⟩
          have HBq1 := Lib.hid (HB2.out.trans (hb2.mono HB2.out.size))
          have HOq1 := Lib.hid (HO2.out.below hb2)
          clear hb2 HC
          have hown := HOq1.out.alloc (.cells #[.int .i64 ((a : Int) + 1)] 3)
          have hrn := rdv_one q1 3 (.int .i64 ((a : Int) + 1))
          have hbase : w.heap.size ≤ (q1.alloc (.cells #[.int .i64 ((a : Int) + 1)] 3)).heap.size := Nat.le_trans HBq1.out.size (size_alloc_le _ _)
          go_wp2_with (first | (at_builtin; refine wpList_appV oneInt rfl (.tmp 32) (.tmp 34) rfl rfl hown (some ⟨q1.heap.size, 0, none⟩) 1 1 [.int .i64 ((a : Int) + 1)] (by intro u hu; rw [List.mem_singleton.1 hu]; rfl) rfl hrn (by omega) hbase ?_; intro A31 c31 s1 hg3))
          have HBs1 := Lib.hid (hg3.below (HBq1.out.alloc HBq1.out.size _) hbase (fun g hg => (HOq1.out.blk g hg).1))
          have HOs1 := Lib.hid (show OwnV s1 w.heap.size 3 A31 1 c31 (iv [((a : Int) + 1)]) from hg3.own)
          clear hg3 hown hrn hbase
          have HZ := Lib.hid (show P = ([((a : Int) + 1)], 0) by rw [HQ1.out]; simp [HE0.out, HE1.out])
          go_wp2_with fail
          rw [rounds_succ]
          go_wp2_with fail
          go_ret2
          exact ⟨A31, c31, by rw [HZ.out]; rfl, by rw [HZ.out]; exact HOs1.out, HBs1.out⟩
    · have HC := Lib.hid (equal_no _ W 128 128 128 c _ want r0 HR1.out (HW.out.below HB1.out) heq)
      have HE0 := Lib.hid heq
      clear heq hb1
      go_wp2_with fail
      refine HC.out.mono ?_
      rintro e' q0 ⟨rfl, hb2⟩
      have HBq0 := Lib.hid (HB1.out.trans (hb2.mono HB1.out.size))
      have HOq0 := Lib.hid (HO1.out.below hb2)
      clear hb2 HC
      have hown := HOq0.out.alloc (.cells #[.int .i64 (a : Int)] 3)
      have hrn := rdv_one q0 3 (.int .i64 (a : Int))
      have hbase : w.heap.size ≤ (q0.alloc (.cells #[.int .i64 (a : Int)] 3)).heap.size := Nat.le_trans HBq0.out.size (size_alloc_le _ _)
      go_wp2_with (first | (at_builtin; refine wpList_appV oneInt rfl (.tmp 32) (.tmp 34) rfl rfl hown (some ⟨q0.heap.size, 0, none⟩) 1 1 [.int .i64 (a : Int)] (by intro u hu; rw [List.mem_singleton.1 hu]; rfl) rfl hrn (by omega) hbase ?_; intro A30 c30 s0 hg3))
      have HBs0 := Lib.hid (hg3.below (HBq0.out.alloc HBq0.out.size _) hbase (fun g hg => (HOq0.out.blk g hg).1))
      have HOs0 := Lib.hid (show OwnV s0 w.heap.size 3 A30 1 c30 (iv [(a : Int)]) from hg3.own)
      clear hg3 hown hrn hbase
      go_wp2_with fail
      rw [rounds_succ]
      go_wp2_with fail
      refine (read_any ((a : Int) + 1) s0 d lab st (HD.out.below HBs0.out)).mono ?_
      rintro e' r1 ⟨A1, n1, c1, rfl, hR1, hb1, hn1, hready⟩
      by_cases hrd : st.ready ((a : Int) + 1) = 0
      rotate_left
      · have HQ := Lib.hid (show P = ([], st.ready ((a : Int) + 1)) by rw [HQ0.out, if_pos hrd])
        have HB1 := Lib.hid (HBs0.out.trans (hb1.mono HBs0.out.size))
        obtain ⟨rv, hrv⟩ : ∃ rv, rv = st.ready ((a : Int) + 1) := ⟨_, rfl⟩
        rw [← hrv] at hrd HQ ⊢
        have hrb : (rv != 0) = true := by simpa using hrd
        clear hrd hrv hready hR1 hb1
        go_wp2_with fail
        go_ret2
        exact ⟨none, 0, by rw [HQ.out]; rfl, by rw [HQ.out]; exact OwnV.none_ _ _ _, HB1.out⟩
      · obtain ⟨rfl, rfl, rfl, _⟩ := hready hrd
        have HQ1 := Lib.hid (HQ0.out.trans (if_neg (by rw [hrd]; simp)))
        rw [hrd]
        have HB2 := Lib.hid (HBs0.out.trans (hb1.mono HBs0.out.size))
        have HO2 := Lib.hid (HOs0.out.below hb1)
        have HR2 := Lib.hid hR1
        clear hready hR1 hrd
        by_cases heq : st.readB ((a : Int) + 1) = want
        · have HC := Lib.hid (equal_yes _ W 128 128 128 c want r1 (heq ▸ HR2.out) (HW.out.below HB2.out))
          have HE1 := Lib.hid heq
          clear heq hb1
          go_wp2_with fail
          refine HC.out.mono ?_
          rintro e' q1 ⟨rfl, hb2⟩
          have HBq1 := Lib.hid (HB2.out.trans (hb2.mono HB2.out.size))
          have HOq1 := Lib.hid (HO2.out.below hb2)
          clear hb2 HC
          have HZ := Lib.hid (show P = ([(a : Int)], 0) by rw [HQ1.out]; simp [HE0.out, HE1.out])
          go_wp2_with fail
          rw [rounds_succ]
          go_wp2_with fail
          go_ret2
          exact ⟨A30, c30, by rw [HZ.out]; rfl, by rw [HZ.out]; exact HOq1.out, HBq1.out⟩
        · have HC := Lib.hid (equal_no _ W 128 128 128 c _ want r1 HR2.out (HW.out.below HB2.out) heq)
          have HE1 := Lib.hid heq
          clear heq hb1
          go_wp2_with fail
          refine HC.out.mono ?_
          rintro e' q1 ⟨rfl, hb2⟩
          have HBq1 := Lib.hid (HB2.out.trans (hb2.mono HB2.out.size))
          have HOq1 := Lib.hid (HO2.out.below hb2)
          clear hb2 HC
          have hown := HOq1.out.alloc (.cells #[.int .i64 ((a : Int) + 1)] 3)
          have hrn := rdv_one q1 3 (.int .i64 ((a : Int) + 1))
          have hbase : w.heap.size ≤ (q1.alloc (.cells #[.int .i64 ((a : Int) + 1)] 3)).heap.size := Nat.le_trans HBq1.out.size (size_alloc_le _ _)
          go_wp2_with (first | (at_builtin; refine wpList_appV oneInt rfl (.tmp 32) (.tmp 34) rfl rfl hown (some ⟨q1.heap.size, 0, none⟩) 1 1 [.int .i64 ((a : Int) + 1)] (by intro u hu; rw [List.mem_singleton.1 hu]; rfl) rfl hrn (by omega) hbase ?_; intro A31 c31 s1 hg3))
          have HBs1 := Lib.hid (hg3.below (HBq1.out.alloc HBq1.out.size _) hbase (fun g hg => (HOq1.out.blk g hg).1))
          have HOs1 := Lib.hid (show OwnV s1 w.heap.size 3 A31 2 c31 (iv [(a : Int), ((a : Int) + 1)]) from hg3.own)
          clear hg3 hown hrn hbase
          have HZ := Lib.hid (show P = ([(a : Int), ((a : Int) + 1)], 0) by rw [HQ1.out]; simp [HE0.out, HE1.out])
          go_wp2_with fail
          rw [rounds_succ]
          go_wp2_with fail
          go_ret2
          exact ⟨A31, c31, by rw [HZ.out]; rfl, by rw [HZ.out]; exact HOs1.out, HBs1.out⟩
end Go.Proofs.Ytbdomhookjmmgaa
namespace Go.Proofs.Ytbdomhookjmmgaa
open Go.RowKit Fr Su
set_option linter.unusedVariables false
namespace Su
/-- The sectors written, one by one, till one fails. -/
def mendL (want : List Nat) : Dk.St → List Int → Dk.St × Int
  | st, [] => (st, 0)
  | st, x :: t => if st.writeE x 128 = 0 then mendL want (st.write x want) t else (st, st.writeE x 128)
def mendT (l : List Int) (r : Dk.St × Int) : Dk.St × Int × Int := if r.2 = 0 then (r.1, (l.length : Int), 0) else (r.1, 0, r.2)
/-- What Mend makes of a disk, how many it wrote, and what it tells. -/
def mendS (st : Dk.St) : Dk.St × Int × Int :=
  if ¬ (loadS st).2 = 0 then (st, 0, (loadS st).2) else
  if ¬ (unlikeS st (slotA (loadS st).1) (sec (loadS st).1)).2 = 0 then (st, 0, (unlikeS st (slotA (loadS st).1) (sec (loadS st).1)).2) else
  mendT (unlikeS st (slotA (loadS st).1) (sec (loadS st).1)).1 (mendL (sec (loadS st).1) st (unlikeS st (slotA (loadS st).1) (sec (loadS st).1)).1)
theorem loadF_ok (st : Dk.St) : ∀ (f : Nat) (nw : S), (nw.g = 0 ∨ Su.ok nw = true) → (loadF st f nw).2 = 0 → Su.ok (loadF st f nw).1 = true := by
  intro f
  induction f with
  | zero =>
    intro nw hn h
    unfold loadF at h ⊢
    split at h
    · cases h
    · rename_i h0
      rw [if_neg h0]
      exact hn.resolve_left h0
  | succ f ih =>
    intro nw hn h
    unfold loadF at h ⊢
    split at h
    · rename_i h0
      rw [if_pos h0]
      refine ih _ ?_ h
      unfold pick
      split
      · rename_i hh
        refine .inr ?_
        have h1 := hh.1
        unfold isSu at h1
        simp only [Bool.and_eq_true] at h1
        exact h1.2
      · exact hn
    · rename_i h0
      exact absurd h h0
theorem load_ok {st : Dk.St} (h : (loadS st).2 = 0) : Su.ok (loadS st).1 = true := loadF_ok st 4 none_ (.inl rfl) h
theorem unlike_short (st : Dk.St) (a : Nat) (want : List Nat) : (unlikeS st a want).1.length ≤ 2 := by
  unfold unlikeS
  split
  · simp
  · split
    · simp
    · split <;> split <;> simp
end Su
theorem OwnV.at0 {w : World} {base n cap : Nat} {E : TypeId} {A : Option Addr} {vs : List Value} (h : OwnV w base E A n cap vs) (hn : 0 < n) : ∃ g, A = some ⟨g, 0, none⟩ ∧ base ≤ g ∧ g < w.heap.size := by
  rcases h.2.2 with ⟨hv, h0⟩ | ⟨g, c, cur, hv, hb, hg, hnc, hc, hs, ht⟩
  · omega
  · injection hv with hA _ _
    exact ⟨g, hA, hb, (Array.getElem?_eq_some_iff.1 hg).1⟩
def GivesMend (lab : Nat → Tag) (d : Nat) (w : World) (p : Dk.St × Int × Int) (e : Ending) (w' : World) : Prop := e = .returned (.tuple #[.int .i64 p.2.1, .int .i64 p.2.2]) ∧ Left lab d p.1 w w'
set_option maxRecDepth 100000 in
set_option maxHeartbeats 4000000 in
theorem mend_any (w : World) (d : Nat) (lab : Nat → Tag) (st : Dk.St) (k : Nat) (h : IsDisk w d lab st) (hlow : st.low k) (hk : k ≤ 900) :
    Calls Try.prog 24 #[.pointer (some ⟨d, 0, none⟩)] w (GivesMend lab d w (mendS st)) := by
  have HD := Lib.hid h
  have HLow := Lib.hid hlow
  have HL := Lib.hid (load_any w d lab st h)
  obtain ⟨RS, hRS⟩ : ∃ RS, RS = mendS st := ⟨_, rfl⟩
  rw [← hRS]
  unfold mendS at hRS
  have hload := load_ok (st := st)
  obtain ⟨⟨s, r⟩, hsr⟩ : ∃ q : S × Int, q = loadS st := ⟨_, rfl⟩
  rw [← hsr] at hRS hload HL
  simp only at hRS hload HL
  have HRS := Lib.hid hRS
  have HLo := Lib.hid hload
  clear h hlow hRS hload hsr
  unfold GivesMend
  go_enter Try.func24, Try.ntmps24
  go_wp2_with fail
  refine HL.out.mono ?_
  rintro e' v1 ⟨A, c, rfl, hR, hn, hb⟩
  have HR := Lib.hid hR
  have HB1 := Lib.hid hb
  clear hR hn hb HL
  by_cases hr : r = 0
  rotate_left
  · have HQ := Lib.hid (show RS = (st, 0, r) by rw [HRS.out, if_pos hr])
    have HB2 := Lib.hid (HB1.out.alloc HB1.out.size (.cells #[.int .i64 s.g, .int .i64 s.e, .int .i64 s.i, .int .i64 s.m, .slice A s.ps.length c] 26))
    have HLf := Lib.hid (Left.pre HB2.out (Left.refl (HD.out.below HB2.out)))
    have hrb : (r != 0) = true := by simpa using hr
    clear hr HB2 HRS
    go_wp2_with fail
    go_ret2
    exact ⟨by rw [HQ.out]; rfl, by rw [HQ.out]; exact HLf.out⟩
  · subst hr
    have hok := HLo.out rfl
    have HS := Lib.hid (HRS.out.trans (if_neg (by simp)))
    have hb0 := Holds.new v1 #[.int .i64 s.g, .int .i64 s.e, .int .i64 s.i, .int .i64 s.m, .slice A s.ps.length c] 26
    have hB0 := HB1.out.alloc HB1.out.size (.cells #[.int .i64 s.g, .int .i64 s.e, .int .i64 s.i, .int .i64 s.m, .slice A s.ps.length c] 26)
    have hBn : Below v1.heap.size v1 (v1.alloc (.cells #[.int .i64 s.g, .int .i64 s.e, .int .i64 s.i, .int .i64 s.m, .slice A s.ps.length c] 26)) := (Below.refl _ _).alloc (Nat.le_refl _) _
    have HE := Lib.hid (sencode_new s A c _ (HR.out.below hBn) hok)
    have HSl := Lib.hid (sec_len hok)
    obtain ⟨g, e, i, m, hg, he, hi, hm, g1, g2, e1, e2, i1, i2, m1, m2, n1, n2⟩ := ok_nat hok
    obtain ⟨sa, hsa⟩ : ∃ sa, sa = slotA s := ⟨_, rfl⟩
    have hsg : sa = g % 2 * 2 := by rw [hsa]; unfold slotA; rw [hg, Int.toNat_natCast]
    have hs3 : sa ≤ 2 := by omega
    have hsi : (g : Int) % 2 * 2 = (sa : Int) := by omega
    have hU := unlike_short st sa (sec s)
    obtain ⟨⟨l, r2⟩, hp⟩ : ∃ q : List Int × Int, q = unlikeS st sa (sec s) := ⟨_, rfl⟩
    have HS2 := Lib.hid (show RS = if ¬ r2 = 0 then (st, 0, r2) else mendT l (mendL (sec s) st l) by rw [HS.out, ← hsa, ← hp])
    rw [← hp] at hU
    have HP := Lib.hid hp
    have HU := Lib.hid (show l.length ≤ 2 from hU)
    unfold Su.val at HE
    rw [hg] at HE hb0 hB0 ⊢
    clear hok hsa hsg hg he hi hm e1 e2 i1 i2 m1 m2 n1 n2 HRS HLo HS hp hU hBn
    go_wp2_with fail
    refine HE.out.mono ?_
    rintro e' v2 ⟨A1, c1, rfl, hR1, hc1, hn1, hb1⟩
    rw [HSl.out] at hR1 hc1 ⊢
    have hB2 := hB0.trans (hb1.mono hB0.size)
    have hk1 := hb0.below hb1
    have HB2 := Lib.hid hB2
    have HR1 := Lib.hid hR1
    have HN1 := Lib.hid (show ∀ b o, A1 = some ⟨b, o, none⟩ → w.heap.size ≤ b from fun b o e => Nat.le_trans hB0.size (hn1 b o e))
    have c0 := hk1.at_ 0 rfl
    have HDv := Lib.hid (HD.out.below hB2)
    have HNo := Lib.hid (show ∀ b, w.heap.size ≤ b → lab b = .no from fun b hb => HD.out.new_ hb)
    clear hb1 hk1 hR1 hn1 hB2 hB0 hb0 HE
    go_wp2_with fail
    refine (unlike_any v2 d lab st sa (sec s) A1 c1 HDv.out hs3 HR1.out).mono ?_
    rw [← HP.out]
    rintro e' v3 ⟨A3, c3, rfl, hO, hb3⟩
    have HB3 := Lib.hid (HB2.out.trans (hb3.mono HB2.out.size))
    have HR3 := Lib.hid (HR1.out.below hb3)
    have HD3 := Lib.hid (HD.out.below HB3.out)
    have HO := Lib.hid hO
    have HB23 := Lib.hid HB2.out.size
    clear hO hb3 c0 hsi HB2 HR1 HDv
    simp only [] at HO ⊢
    by_cases hr : r2 = 0
    rotate_left
    · have HQ := Lib.hid (show RS = (st, 0, r2) by rw [HS2.out, if_pos hr])
      have HLf := Lib.hid (Left.pre HB3.out (Left.refl HD3.out))
      have hrb : (r2 != 0) = true := by simpa using hr
      clear hr HS2
      go_wp2_with fail
      go_ret2
      exact ⟨by rw [HQ.out]; rfl, by rw [HQ.out]; exact HLf.out⟩
    · subst hr
      have HS3 := Lib.hid (HS2.out.trans (if_neg (by simp)))
      clear HS2 HP
      match l, HU, HO, HS3 with
      | [], HU, HO, HS3 =>
        simp only [List.length_nil]
        go_wp2_with fail
        refine wp_loop_rounds 3 ?_
        rw [rounds_succ]
        go_wp2_with fail
        have HLf := Lib.hid (Left.pre HB3.out (Left.refl HD3.out))
        go_ret2
        exact ⟨by rw [HS3.out]; rfl, by rw [HS3.out]; exact HLf.out⟩
      | [x0], HU, HO, HS3 =>
        obtain ⟨gb, rfl, hg1, hg2⟩ := HO.out.at0 (by simp)
        have hno := HNo.out gb (Nat.le_trans HB23.out hg1)
        have cc0 : v3.cell? ⟨gb, 0, none⟩ = some (.int .i64 x0) := HO.out.cell (j := 0) rfl
        have HG := Lib.hid hg2
        have HNo1 := Lib.hid hno
        clear hg1 hg2 hno HO
        simp only [List.length_cons, List.length_nil, Nat.zero_add]
        go_wp2_with fail
        refine wp_loop_rounds 3 ?_
        rw [rounds_succ]
        go_wp2_with fail
        refine (write_any x0 A1 128 c1 (k + 0) (sec s) v3 d lab st HD3.out HR3.out (HLow.out) (by omega) (by omega)).mono ?_
        rintro e' u0 ⟨rfl, lab0, hDu0, hCu0, hLau0⟩
        rw [HSl.out]
        by_cases hw : st.writeE x0 128 = 0
        rotate_left
        · have hst : st.write x0 (sec s) = st := by unfold Dk.St.write; rw [HSl.out, if_neg hw]
          have HRs := Lib.hid (show RS = (st, 0, st.writeE x0 128) by rw [HS3.out]; simp only [mendL]; rw [if_neg hw]; unfold mendT; rw [if_neg hw])
          rw [hst] at hDu0
          have HLf := Lib.hid (show Left lab d st w u0 from Left.pre HB3.out (⟨lab0, hDu0, hCu0, hLau0⟩))
          obtain ⟨we, hwe⟩ : ∃ we, we = st.writeE x0 128 := ⟨_, rfl⟩
          rw [← hwe] at hw HRs ⊢
          have hwb : (we != 0) = true := by simpa using hw
          clear hw hst hDu0 hCu0 hLau0 hwe cc0
          go_wp2_with fail
          go_ret2
          exact ⟨by rw [HRs.out]; rfl, by rw [HRs.out]; exact HLf.out⟩
        · rw [hw]
          have HW0 := Lib.hid hw
          have HLf := Lib.hid (show Left lab d _ w u0 from Left.pre HB3.out (⟨lab0, hDu0, hCu0, hLau0⟩))
          have HRs := Lib.hid (show RS = (st.write x0 (sec s), 1, 0) by rw [HS3.out]; simp only [mendL]; rw [if_pos HW0.out]; rfl)
          clear hw hDu0 hCu0 hLau0 cc0
          go_wp2_with fail
          rw [rounds_succ]
          go_wp2_with fail
          go_ret2
          exact ⟨by rw [HRs.out]; rfl, by rw [HRs.out]; exact HLf.out⟩
      | [x0, x1], HU, HO, HS3 =>
        obtain ⟨gb, rfl, hg1, hg2⟩ := HO.out.at0 (by simp)
        have hno := HNo.out gb (Nat.le_trans HB23.out hg1)
        have cc0 : v3.cell? ⟨gb, 0, none⟩ = some (.int .i64 x0) := HO.out.cell (j := 0) rfl
        have cc1 : v3.cell? ⟨gb, 1, none⟩ = some (.int .i64 x1) := HO.out.cell (j := 1) rfl
        have HG := Lib.hid hg2
        have HNo1 := Lib.hid hno
        clear hg1 hg2 hno HO
        simp only [List.length_cons, List.length_nil, Nat.zero_add]
        go_wp2_with fail
        refine wp_loop_rounds 4 ?_
        rw [rounds_succ]
        go_wp2_with fail
        refine (write_any x0 A1 128 c1 (k + 0) (sec s) v3 d lab st HD3.out HR3.out (HLow.out) (by omega) (by omega)).mono ?_
        rintro e' u0 ⟨rfl, lab0, hDu0, hCu0, hLau0⟩
        rw [HSl.out]
        by_cases hw : st.writeE x0 128 = 0
        rotate_left
        · have hst : st.write x0 (sec s) = st := by unfold Dk.St.write; rw [HSl.out, if_neg hw]
          have HRs := Lib.hid (show RS = (st, 0, st.writeE x0 128) by rw [HS3.out]; simp only [mendL]; rw [if_neg hw]; unfold mendT; rw [if_neg hw])
          rw [hst] at hDu0
          have HLf := Lib.hid (show Left lab d st w u0 from Left.pre HB3.out (⟨lab0, hDu0, hCu0, hLau0⟩))
          obtain ⟨we, hwe⟩ : ∃ we, we = st.writeE x0 128 := ⟨_, rfl⟩
          rw [← hwe] at hw HRs ⊢
          have hwb : (we != 0) = true := by simpa using hw
          clear hw hst hDu0 hCu0 hLau0 hwe cc0 cc1
          go_wp2_with fail
          go_ret2
          exact ⟨by rw [HRs.out]; rfl, by rw [HRs.out]; exact HLf.out⟩
        · rw [hw]
          have HW0 := Lib.hid hw
          have dd1 : u0.cell? ⟨gb, 1, none⟩ = some (.int .i64 x1) := (World.cell?_of_block (a := ⟨gb, 1, none⟩) (hCu0.block gb HG.out HNo1.out)).trans cc1
          have HR4 := Lib.hid (hCu0.rd HR3.out (fun b o e => HNo.out b (HN1.out b o e)))
          have HC0 := Lib.hid hCu0
          have HLa0 := Lib.hid hLau0
          have HLw := Lib.hid (low_write HLow.out x0 (sec s))
          obtain ⟨st1, hst1⟩ : ∃ st1, st1 = st.write x0 (sec s) := ⟨_, rfl⟩
          rw [← hst1] at hDu0 HLw
          have HSt := Lib.hid hst1
          have HD4 := Lib.hid hDu0
          clear hst1 hw hDu0 hCu0 hLau0 cc0 cc1
          have cc1 := dd1
          clear dd1
          go_wp2_with fail
          rw [rounds_succ]
          go_wp2_with fail
          refine (write_any x1 A1 128 c1 (k + 1) (sec s) u0 d lab0 st1 HD4.out HR4.out (HLw.out) (by omega) (by omega)).mono ?_
          rintro e' u1 ⟨rfl, lab1, hDu1, hCu1, hLau1⟩
          rw [HSl.out]
          by_cases hw : st1.writeE x1 128 = 0
          rotate_left
          · have hst : st1.write x1 (sec s) = st1 := by unfold Dk.St.write; rw [HSl.out, if_neg hw]
            have HRs := Lib.hid (show RS = (st1, 0, st1.writeE x1 128) by rw [HS3.out]; simp only [mendL]; rw [if_pos HW0.out, ← HSt.out]; rw [if_neg hw]; unfold mendT; rw [if_neg hw])
            rw [hst] at hDu1
            have HLf := Lib.hid (show Left lab d st1 w u1 from Left.pre HB3.out (Left.then_ HC0.out HLa0.out (⟨lab1, hDu1, hCu1, hLau1⟩)))
            obtain ⟨we, hwe⟩ : ∃ we, we = st1.writeE x1 128 := ⟨_, rfl⟩
            rw [← hwe] at hw HRs ⊢
            have hwb : (we != 0) = true := by simpa using hw
            clear hw hst hDu1 hCu1 hLau1 hwe cc1
            go_wp2_with fail
            go_ret2
            exact ⟨by rw [HRs.out]; rfl, by rw [HRs.out]; exact HLf.out⟩
          · rw [hw]
            have HW1 := Lib.hid hw
            have HLf := Lib.hid (show Left lab d _ w u1 from Left.pre HB3.out (Left.then_ HC0.out HLa0.out (⟨lab1, hDu1, hCu1, hLau1⟩)))
            have HRs := Lib.hid (show RS = (st1.write x1 (sec s), 2, 0) by rw [HS3.out]; simp only [mendL]; rw [if_pos HW0.out, ← HSt.out, if_pos HW1.out]; rfl)
            clear hw hDu1 hCu1 hLau1 cc1
            go_wp2_with fail
            rw [rounds_succ]
            go_wp2_with fail
            go_ret2
            exact ⟨by rw [HRs.out]; rfl, by rw [HRs.out]; exact HLf.out⟩
      | x0 :: x1 :: x2 :: t, HU, HO, HS3 => exact absurd HU.out (by simp only [List.length_cons]; omega)
end Go.Proofs.Ytbdomhookjmmgaa
