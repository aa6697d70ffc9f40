/- The document's disk: Down, has, done, Fuse, Read. -/
import Derived.Test.YtamdihodconjiaaRkMem
namespace Go.Proofs.Ytamdihodconjiaa
open Go.RowKit
set_option linter.unusedVariables false
section
variable {w : World} {g : Nat} {lab : Nat → Tag} {st : Dk.St}
set_option maxRecDepth 100000 in
theorem rdown_any (w : World) (g : Nat) (lab : Nat → Tag) (st : Dk.St) (h : IsRef w g lab st) : Calls Try.prog 35 #[.pointer (some ⟨g, 0, none⟩)] w fun e w' => e = .returned (.bool st.down) ∧ w = w' := by
  obtain ⟨sb, C, h⟩ := h
  have c1 := h.box.at_ 1 rfl
  have c2 := h.box.at_ 2 rfl
  obtain ⟨s, n, fu, le⟩ := st
  clear h
  cases fu
  · have e : Dk.St.down ⟨s, n, false, le⟩ = false := rfl
    rw [e]
    go_enter Try.func35, Try.ntmps35
    go_wp2
    go_ret
    exact ⟨rfl, rfl⟩
  · have e : Dk.St.down ⟨s, n, true, le⟩ = (le == 0) := by unfold Dk.St.down; rw [Bool.eq_iff_iff]; simp
    rw [e]
    clear e
    go_enter Try.func35, Try.ntmps35
    go_wp2
    go_ret
    exact ⟨rfl, rfl⟩
set_option maxRecDepth 100000 in
theorem rhas_any (at_ : Int) (w : World) (g : Nat) (lab : Nat → Tag) (st : Dk.St) (h : IsRef w g lab st) : Calls Try.prog 45 #[.pointer (some ⟨g, 0, none⟩), .int .i64 at_] w fun e w' => e = .returned (.bool (st.has at_)) ∧ w = w' := by
  obtain ⟨sb, C, h⟩ := h
  have c0 := h.box.at_ 0 rfl
  unfold Dk.St.has
  clear h
  by_cases h0 : 0 ≤ at_
  · rw [decide_eq_true h0, Bool.true_and]
    go_enter Try.func45, Try.ntmps45
    go_wp2
    go_ret
    exact ⟨rfl, rfl⟩
  · rw [decide_eq_false h0, Bool.false_and]
    go_enter Try.func45, Try.ntmps45
    go_wp2
    go_ret
    exact ⟨rfl, rfl⟩
/-- Words for a disk's numbers, within bounds. -/
theorem Dk.St.low.small {st : Dk.St} {c : Nat} (h : st.low c) (hc : c ≤ 1000) : 0 ≤ st.n ∧ st.n ≤ 1000 ∧ 0 ≤ st.left ∧ st.left ≤ 1048576 := ⟨h.1, by have := h.2.1; omega, h.2.2.1, h.2.2.2.1⟩
set_option maxRecDepth 100000 in
theorem rdone_any (w : World) (g : Nat) (lab : Nat → Tag) (st : Dk.St) (h : IsRef w g lab st) (h1 : 0 ≤ st.n ∧ st.n ≤ 1000 ∧ 0 ≤ st.left ∧ st.left ≤ 1048576) (hd : st.down = false) :
    Calls Try.prog 46 #[.pointer (some ⟨g, 0, none⟩)] w fun e w' => e = .returned (.int .i64 0) ∧ LeftR lab g st.burn w w' := by
  obtain ⟨sb, C, h⟩ := h
  obtain ⟨l1, l2, l3, l4⟩ := h1
  obtain ⟨s, n, fu, le⟩ := st
  have H := Lib.hid h
  have f3 := h.box.2.2 3
  have f2 := h.box.2.2 2
  have c1 := h.box.at_ 1 rfl
  have c2 := h.box.at_ 2 rfl
  have c3 := h.box.at_ 3 rfl
  simp only at l1 l2 l3 l4
  clear h
  cases fu
  · have HB : Hid (Dk.St.burn ⟨s, n, false, le⟩ = ⟨s, n + 1, false, le⟩) := Lib.hid rfl
    rw [HB.out]
    clear hd
    go_enter Try.func46, Try.ntmps46
    go_wp2
    go_ret
    exact ⟨rfl, H.out.boxed (Ch1.set _ _ _ _) (by simp [World.setCell]) (H.out.box.set 3 _ (by simp))⟩
  · have HB : Hid (Dk.St.burn ⟨s, n, true, le⟩ = ⟨s, n + 1, true, le - 1⟩) := Lib.hid rfl
    rw [HB.out]
    have hl0 : le ≠ 0 := fun e => by subst e; cases hd
    clear hd
    have HS := Lib.hid ((H.out.box.set 3 (.int .i64 (n + 1)) (by simp)).set 2 (.int .i64 (le - 1)) (by simp))
    go_enter Try.func46, Try.ntmps46
    go_wp2
    go_ret
    exact ⟨rfl, H.out.boxed ((Ch1.set _ _ _ _).trans (Ch1.set _ _ _ _)) (by simp [World.setCell]) HS.out⟩
set_option maxRecDepth 100000 in
theorem rfuse_any (n : Int) (w : World) (g : Nat) (lab : Nat → Tag) (st : Dk.St) (h : IsRef w g lab st) :
    Calls Try.prog 32 #[.pointer (some ⟨g, 0, none⟩), .int .i64 n] w fun e w' => e = .returned (.int .i64 (st.fuseE n)) ∧ LeftR lab g (st.fuse n) w w' := by
  have HD := Lib.hid (rdown_any w g lab st h)
  have HI := Lib.hid h
  have hself : LeftR lab g st w w := ⟨lab, h, Chg.refl _ _, Lab.refl _ _⟩
  have HSf := Lib.hid hself
  obtain ⟨sb, C, h⟩ := h
  have f1 := h.box.2.2 1
  have f2 := h.box.2.2 2
  have c1 := h.box.at_ 1 rfl
  have c2 := h.box.at_ 2 rfl
  have H := Lib.hid h
  clear h hself
  cases hd : st.down
  · rw [hd] at HD
    by_cases h0 : n < 0
    · have e1 : st.fuseE n = 5 := by unfold Dk.St.fuseE; rw [hd, if_neg (by simp), if_neg (by omega)]
      have e2 : st.fuse n = st := by unfold Dk.St.fuse; rw [e1, if_neg (by omega)]
      rw [e1, e2]
      clear e1 e2 hd
      go_enter Try.func32, Try.ntmps32
      go_wp2_with (refine HD.out.mono ?_; rintro e w' ⟨rfl, rfl⟩)
      go_ret
      exact ⟨rfl, HSf.out⟩
    · by_cases h1 : n ≤ 1048576
      · have e1 : st.fuseE n = 0 := by unfold Dk.St.fuseE; rw [hd, if_neg (by simp), if_pos (by omega)]
        have e2 : st.fuse n = ⟨st.s, st.n, true, n⟩ := by unfold Dk.St.fuse; rw [if_pos e1]
        rw [e1, e2]
        clear e1 e2 hd
        have HS := Lib.hid ((H.out.box.set 1 (.bool true) (by simp)).set 2 (.int .i64 n) (by simp))
        have h1i : ¬ (1048576 : Int) < n := by omega
        go_enter Try.func32, Try.ntmps32
        go_wp2_with (refine HD.out.mono ?_; rintro e w' ⟨rfl, rfl⟩)
        go_ret
        exact ⟨rfl, H.out.boxed ((Ch1.set _ _ _ _).trans (Ch1.set _ _ _ _)) (by simp [World.setCell]) HS.out⟩
      · have e1 : st.fuseE n = 5 := by unfold Dk.St.fuseE; rw [hd, if_neg (by simp), if_neg (by omega)]
        have e2 : st.fuse n = st := by unfold Dk.St.fuse; rw [e1, if_neg (by omega)]
        rw [e1, e2]
        have h1i : (1048576 : Int) < n := by omega
        clear e1 e2 hd h1
        go_enter Try.func32, Try.ntmps32
        go_wp2_with (refine HD.out.mono ?_; rintro e w' ⟨rfl, rfl⟩)
        go_ret
        exact ⟨rfl, HSf.out⟩
  · rw [hd] at HD
    have e1 : st.fuseE n = 30 := by unfold Dk.St.fuseE; rw [hd, if_pos rfl]
    have e2 : st.fuse n = st := by unfold Dk.St.fuse; rw [e1, if_neg (by omega)]
    rw [e1, e2]
    clear e1 e2 hd
    go_enter Try.func32, Try.ntmps32
    go_wp2_with (refine HD.out.mono ?_; rintro e w' ⟨rfl, rfl⟩)
    go_ret
    exact ⟨rfl, HSf.out⟩
/-- What Read of the document's gives. -/
def GivesRRead (st : Dk.St) (at_ : Int) (w : World) (e : Ending) (w' : World) : Prop :=
  ∃ (A : Option Addr) (n c : Nat), e = .returned (.tuple #[.slice A n c, .int .i64 (st.ready at_)]) ∧ Rd w' A n (st.readB at_) ∧ Below w.heap.size w w'
theorem LeafR.append {w w1 : World} {A1 : Option Addr} {cap1 : Nat} {b : List Nat} (hg : Grew (w.alloc (.cells #[] 5)) w1 w.heap.size (some ⟨w.heap.size, 0, none⟩) A1 0 0 (0 + 128) cap1 ([] ++ b)) : Below w.heap.size w w1 ∧ Own w1 w.heap.size A1 128 cap1 b := Grew.fresh hg
set_option maxRecDepth 100000 in
set_option maxHeartbeats 4000000 in
theorem rread_any (at_ : Int) (w : World) (g : Nat) (lab : Nat → Tag) (st : Dk.St) (h : IsRef w g lab st) : Calls Try.prog 37 #[.pointer (some ⟨g, 0, none⟩), .int .i64 at_] w (GivesRRead st at_ w) := by
  have HD := Lib.hid (rdown_any w g lab st h)
  have HH := Lib.hid (rhas_any at_ w g lab st h)
  cases hd : st.down
  · rw [hd] at HD
    cases hh : st.has at_
    · have hr : st.ready at_ = 5 := by unfold Dk.St.ready; rw [hd, hh]; rfl
      have hb : st.readB at_ = [] := by unfold Dk.St.readB; rw [hr]; rfl
      rw [hh] at HH
      unfold GivesRRead
      rw [hr, hb]
      clear hr hb hh hd h
      go_enter Try.func37, Try.ntmps37
      go_wp2_with (first | (go_at_call 35; refine HD.out.mono ?_; rintro e w' ⟨rfl, rfl⟩) | (go_at_call 45; refine HH.out.mono ?_; rintro e w' ⟨rfl, rfl⟩))
      go_ret2
      exact ⟨none, 0, 0, rfl, Rd.nil _ _, Below.refl _ _⟩
    · have hr : st.ready at_ = 0 := by unfold Dk.St.ready; rw [hd, hh]; rfl
      rw [hh] at HH
      obtain ⟨i, s, rfl, hs, _, hB⟩ := ready_in hr
      unfold GivesRRead
      rw [hr, hB]
      have hsl := fine_now (Exists.elim h fun _ h => Exists.elim h fun _ h => h.fine) hs
      obtain ⟨sb, C, h⟩ := h
      have hN := h.fine.2.2
      have hil := (List.getElem?_eq_some_iff.1 hs).1
      have hii : (i : Int) < (st.s.length : Int) := by omega
      have c0 := h.box.at_ 0 rfl
      obtain ⟨c, hc, k0, k1, hsec⟩ := h.at_ hs
      clear hr hB hh hd h hc
      obtain ⟨h2000, A, cp, vs, el, hrd, hlf, hlv⟩ := hsec.l
      obtain ⟨q, cq, ef, hfr, _⟩ := hsec.f
      rw [el] at k1
      rw [ef] at k0
      by_cases hl : s.l = []
      · have hnow : s.now = s.f := by unfold Dk.Sec.now; rw [hl]; rfl
        rw [hl] at k1
        rw [hnow]
        have HF := Lib.hid hfr
        clear hrd hlf hlv hsec el ef hnow hfr hsl hl hs h2000
        go_enter Try.func37, Try.ntmps37
        have HBx := Lib.hid (Holds.new w #[.slice (some ⟨q, 0, none⟩) 128 cq, .slice A 0 cp] 61)
        have HB1 := Lib.hid ((Below.refl w.heap.size w).alloc (Nat.le_refl _) (.cells #[.slice (some ⟨q, 0, none⟩) 128 cq, .slice A 0 cp] 61))
        have HF1 := Lib.hid (HF.out.below HB1.out)
        have x1 := HBx.out.at_ 1 rfl
        have x0 := HBx.out.at_ 0 rfl
        go_upto_region 10 with (first | (go_at_call 35; refine HD.out.mono ?_; rintro e w' ⟨rfl, rfl⟩) | (go_at_call 45; refine HH.out.mono ?_; rintro e w' ⟨rfl, rfl⟩))
        generalize (w.alloc (.cells #[.slice (some ⟨q, 0, none⟩) 128 cq, .slice A 0 cp] 61)) = w1 at *
        have hlt := HBx.out.1
        go_wp2_with (refine wpList_appB rfl (.tmp 39) (.tmp 41) rfl rfl (Own.empty w1) (some ⟨q, 0, none⟩) 128 cq s.f rfl (HF1.out.alloc _) (by omega) (by simp) ?_; intro A1 c1 w2 hg; obtain ⟨hb2, ho2⟩ := hg.fresh; have HO := Lib.hid ho2; have HB2 := Lib.hid (HB1.out.trans (hb2.mono HB1.out.size)); clear hg hb2 ho2)
        go_ret2
        exact ⟨A1, 128, c1, rfl, HO.out.rd, HB2.out⟩
      · obtain ⟨k, hk⟩ : ∃ k, s.l.length = k + 1 := ⟨s.l.length - 1, by have := List.length_pos_iff.2 hl; omega⟩
        obtain ⟨b, hb⟩ : ∃ b, s.l[k]? = some b := ⟨_, List.getElem?_eq_getElem (by omega)⟩
        have hnow : s.now = b := last_of hk hb
        obtain ⟨g2, o2, v, rfl, hg2, hv, hcell⟩ := hrd.at_ (k := k) (by omega)
        obtain ⟨q2, cq2, rfl, hb2, _⟩ := hlv k v b hv hb
        rw [hnow]
        have HF := Lib.hid hb2
        rw [hk] at k1
        have hk2 : k ≤ 2000 := by omega
        clear hrd hlf hlv hsec el ef hnow hfr hsl hl hs hk hb hv h2000
        go_enter Try.func37, Try.ntmps37
        have hki : (k : Int) ≤ 2000 := by omega
        have HBx := Lib.hid (Holds.new w #[.slice (some ⟨q, 0, none⟩) 128 cq, .slice (some ⟨g2, o2, none⟩) (k + 1) cp] 61)
        have HB1 := Lib.hid ((Below.refl w.heap.size w).alloc (Nat.le_refl _) (.cells #[.slice (some ⟨q, 0, none⟩) 128 cq, .slice (some ⟨g2, o2, none⟩) (k + 1) cp] 61))
        have HF1 := Lib.hid (HF.out.below HB1.out)
        have x1 := HBx.out.at_ 1 rfl
        have hcell1 := (HB1.out.cell (p := ⟨g2, o2 + k, none⟩) hg2).trans hcell
        go_upto_region 9 with (first | (go_at_call 35; refine HD.out.mono ?_; rintro e w' ⟨rfl, rfl⟩) | (go_at_call 45; refine HH.out.mono ?_; rintro e w' ⟨rfl, rfl⟩))
        generalize (w.alloc (.cells #[.slice (some ⟨q, 0, none⟩) 128 cq, .slice (some ⟨g2, o2, none⟩) (k + 1) cp] 61)) = w1 at *
        have hlt := HBx.out.1
        have hg3 : g2 < w1.heap.size := Nat.lt_of_lt_of_le hg2 HB1.out.size
        go_wp2_with (refine wpList_appB rfl (.tmp 29) (.tmp 37) rfl rfl (Own.empty w1) (some ⟨q2, 0, none⟩) 128 cq2 b rfl (HF1.out.alloc _) (by omega) (by simp) ?_; intro A1 c1 w2 hg; obtain ⟨hb2, ho2⟩ := hg.fresh; have HO := Lib.hid ho2; have HB2 := Lib.hid (HB1.out.trans (hb2.mono HB1.out.size)); clear hg hb2 ho2)
        go_ret2
        exact ⟨A1, 128, c1, rfl, HO.out.rd, HB2.out⟩
  · rw [hd] at HD
    have hr : st.ready at_ = 30 := by unfold Dk.St.ready; rw [hd]; rfl
    have hb : st.readB at_ = [] := by unfold Dk.St.readB; rw [hr]; rfl
    unfold GivesRRead
    rw [hr, hb]
    clear hr hb hd h
    go_enter Try.func37, Try.ntmps37
    go_wp2_with (first | (go_at_call 35; refine HD.out.mono ?_; rintro e w' ⟨rfl, rfl⟩) | (go_at_call 45; refine HH.out.mono ?_; rintro e w' ⟨rfl, rfl⟩))
    go_ret2
    exact ⟨none, 0, 0, rfl, Rd.nil _ _, Below.refl _ _⟩
end
end Go.Proofs.Ytamdihodconjiaa
