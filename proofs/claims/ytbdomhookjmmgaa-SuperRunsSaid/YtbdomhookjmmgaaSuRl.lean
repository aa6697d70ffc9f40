/- The document's disk: Read, with the room of what it gives. The document's Load: the newest superblock of its disk. The document's Mend: the two copies made alike. -/
import Derived.Test.YtbdomhookjmmgaaRkA
import Derived.Test.YtbdomhookjmmgaaSuLoad
import Derived.Test.YtbdomhookjmmgaaSuRD
import Derived.Test.YtbdomhookjmmgaaSuUm
import Derived.Test.YtbdomhookjmmgaaSuRSave
namespace Go.Proofs.Ytbdomhookjmmgaa
open Go.RowKit
set_option linter.unusedVariables false
/-- What Read of the document's gives, with what it may hold. -/
def GivesRReadC (st : Dk.St) (at_ : Int) (w : World) (e : Ending) (w' : World) : Prop :=
  ∃ (A : Option Addr) (n c : Nat), e = .returned (.tuple #[.slice A n c, .int .i64 (st.ready at_)]) ∧ Rd w' A n (st.readB at_) ∧ Below w.heap.size w w' ∧ n ≤ c ∧ n ≤ 128 ∧ ∀ b o, A = some ⟨b, o, none⟩ → w.heap.size ≤ b
set_option maxRecDepth 100000 in
set_option maxHeartbeats 4000000 in
theorem rread_cap (at_ : Int) (w : World) (g : Nat) (lab : Nat → Tag) (st : Dk.St) (h : IsRef w g lab st) : Calls Try.prog 42 #[.pointer (some ⟨g, 0, none⟩), .int .i64 at_] w (GivesRReadC st at_ w) := by
  have HD := Lib.hid (rdown_any w g lab st h)
  have HH := Lib.hid (rhas_any at_ w g lab st h)
  cases hd : st.down
  · rw [hd] at HD
    cases hh : st.has at_
    · have hr : st.ready at_ = 5 := by unfold Dk.St.ready; rw [hd, hh]; rfl
      have hb : st.readB at_ = [] := by unfold Dk.St.readB; rw [hr]; rfl
      rw [hh] at HH
      unfold GivesRReadC
      rw [hr, hb]
      clear hr hb hh hd h
      go_enter Try.func42, Try.ntmps42
      go_wp2_with (first | (go_at_call 63; refine HD.out.mono ?_; rintro e w' ⟨rfl, rfl⟩) | (go_at_call 64; refine HH.out.mono ?_; rintro e w' ⟨rfl, rfl⟩))
      go_ret2
      exact ⟨none, 0, 0, rfl, Rd.nil _ _, Below.refl _ _, Nat.le_refl _, by omega, fun _ _ e => by cases e⟩
    · have hr : st.ready at_ = 0 := by unfold Dk.St.ready; rw [hd, hh]; rfl
      rw [hh] at HH
      obtain ⟨i, s, rfl, hs, _, hB⟩ := ready_in hr
      unfold GivesRReadC
      rw [hr, hB]
      have hsl := fine_now (Exists.elim h fun _ h => Exists.elim h fun _ h => h.fine) hs
      obtain ⟨sb, C, h⟩ := h
      have hN := h.fine.2.2
      have hil := (List.getElem?_eq_some_iff.1 hs).1
      have hii : (i : Int) < (st.s.length : Int) := by omega
      have c0 := h.box.at_ 0 rfl
      obtain ⟨c, hc, k0, k1, hsec⟩ := h.at_ hs
      clear hr hB hh hd h hc
      obtain ⟨h2000, A, cp, vs, el, hrd, hlf, hlv⟩ := hsec.l
      obtain ⟨q, cq, ef, hfr, _⟩ := hsec.f
      rw [el] at k1
      rw [ef] at k0
      by_cases hl : s.l = []
      · have hnow : s.now = s.f := by unfold Dk.Sec.now; rw [hl]; rfl
        rw [hl] at k1
        rw [hnow]
        have HF := Lib.hid hfr
        clear hrd hlf hlv hsec el ef hnow hfr hsl hl hs h2000
        go_enter Try.func42, Try.ntmps42
        have HBx := Lib.hid (Holds.new w #[.slice (some ⟨q, 0, none⟩) 128 cq, .slice A 0 cp] 113)
        have HB1 := Lib.hid ((Below.refl w.heap.size w).alloc (Nat.le_refl _) (.cells #[.slice (some ⟨q, 0, none⟩) 128 cq, .slice A 0 cp] 113))
        have HF1 := Lib.hid (HF.out.below HB1.out)
        have x1 := HBx.out.at_ 1 rfl
        have x0 := HBx.out.at_ 0 rfl
        go_upto_region 10 with (first | (go_at_call 63; refine HD.out.mono ?_; rintro e w' ⟨rfl, rfl⟩) | (go_at_call 64; refine HH.out.mono ?_; rintro e w' ⟨rfl, rfl⟩))
        generalize (w.alloc (.cells #[.slice (some ⟨q, 0, none⟩) 128 cq, .slice A 0 cp] 113)) = w1 at *
        have hlt := HBx.out.1
        go_wp2_with (refine wpList_appB rfl (.tmp 39) (.tmp 41) rfl rfl (Own.empty w1) (some ⟨q, 0, none⟩) 128 cq s.f rfl (HF1.out.alloc _) (by omega) (by simp) ?_; intro A1 c1 w2 hg; obtain ⟨hb2, ho2⟩ := hg.fresh; have HO := Lib.hid ho2; have HB2 := Lib.hid (HB1.out.trans (hb2.mono HB1.out.size)); clear hg hb2 ho2)
        go_ret2
        exact ⟨A1, 128, c1, rfl, HO.out.rd, HB2.out, Own.cap HO.out, by omega, fun b' o' e => by subst e; exact Nat.le_trans HB1.out.size (HO.out.blk b' rfl).1⟩
      · obtain ⟨k, hk⟩ : ∃ k, s.l.length = k + 1 := ⟨s.l.length - 1, by have := List.length_pos_iff.2 hl; omega⟩
        obtain ⟨b, hb⟩ : ∃ b, s.l[k]? = some b := ⟨_, List.getElem?_eq_getElem (by omega)⟩
        have hnow : s.now = b := last_of hk hb
        obtain ⟨g2, o2, v, rfl, hg2, hv, hcell⟩ := hrd.at_ (k := k) (by omega)
        obtain ⟨q2, cq2, rfl, hb2, _⟩ := hlv k v b hv hb
        rw [hnow]
        have HF := Lib.hid hb2
        rw [hk] at k1
        have hk2 : k ≤ 2000 := by omega
        clear hrd hlf hlv hsec el ef hnow hfr hsl hl hs hk hb hv h2000
        go_enter Try.func42, Try.ntmps42
        have hki : (k : Int) ≤ 2000 := by omega
        have HBx := Lib.hid (Holds.new w #[.slice (some ⟨q, 0, none⟩) 128 cq, .slice (some ⟨g2, o2, none⟩) (k + 1) cp] 113)
        have HB1 := Lib.hid ((Below.refl w.heap.size w).alloc (Nat.le_refl _) (.cells #[.slice (some ⟨q, 0, none⟩) 128 cq, .slice (some ⟨g2, o2, none⟩) (k + 1) cp] 113))
        have HF1 := Lib.hid (HF.out.below HB1.out)
        have x1 := HBx.out.at_ 1 rfl
        have hcell1 := (HB1.out.cell (p := ⟨g2, o2 + k, none⟩) hg2).trans hcell
        go_upto_region 9 with (first | (go_at_call 63; refine HD.out.mono ?_; rintro e w' ⟨rfl, rfl⟩) | (go_at_call 64; refine HH.out.mono ?_; rintro e w' ⟨rfl, rfl⟩))
        generalize (w.alloc (.cells #[.slice (some ⟨q, 0, none⟩) 128 cq, .slice (some ⟨g2, o2, none⟩) (k + 1) cp] 113)) = w1 at *
        have hlt := HBx.out.1
        have hg3 : g2 < w1.heap.size := Nat.lt_of_lt_of_le hg2 HB1.out.size
        go_wp2_with (refine wpList_appB rfl (.tmp 29) (.tmp 37) rfl rfl (Own.empty w1) (some ⟨q2, 0, none⟩) 128 cq2 b rfl (HF1.out.alloc _) (by omega) (by simp) ?_; intro A1 c1 w2 hg; obtain ⟨hb2, ho2⟩ := hg.fresh; have HO := Lib.hid ho2; have HB2 := Lib.hid (HB1.out.trans (hb2.mono HB1.out.size)); clear hg hb2 ho2)
        go_ret2
        exact ⟨A1, 128, c1, rfl, HO.out.rd, HB2.out, Own.cap HO.out, by omega, fun b' o' e => by subst e; exact Nat.le_trans HB1.out.size (HO.out.blk b' rfl).1⟩
  · rw [hd] at HD
    have hr : st.ready at_ = 30 := by unfold Dk.St.ready; rw [hd]; rfl
    have hb : st.readB at_ = [] := by unfold Dk.St.readB; rw [hr]; rfl
    unfold GivesRReadC
    rw [hr, hb]
    clear hr hb hd h
    go_enter Try.func42, Try.ntmps42
    go_wp2_with (first | (go_at_call 63; refine HD.out.mono ?_; rintro e w' ⟨rfl, rfl⟩) | (go_at_call 64; refine HH.out.mono ?_; rintro e w' ⟨rfl, rfl⟩))
    go_ret2
    exact ⟨none, 0, 0, rfl, Rd.nil _ _, Below.refl _ _, Nat.le_refl _, by omega, fun _ _ e => by cases e⟩
end Go.Proofs.Ytbdomhookjmmgaa
namespace Go.Proofs.Ytbdomhookjmmgaa
open Go.RowKit Fr Su
set_option linter.unusedVariables false
set_option maxRecDepth 100000 in
set_option maxHeartbeats 8000000 in
theorem rload_any (w : World) (d : Nat) (lab : Nat → Tag) (st : Dk.St) (h : IsRef w d lab st) : Calls Try.prog 23 #[.pointer (some ⟨d, 0, none⟩)] w (GivesSu w (loadS st).1 (loadS st).2) := by
  have HD := Lib.hid h
  obtain ⟨TT, hTT⟩ : ∃ TT : S, TT = (loadS st).1 := ⟨_, rfl⟩
  obtain ⟨rr, hrr⟩ : ∃ rr : Int, rr = (loadS st).2 := ⟨_, rfl⟩
  rw [← hTT, ← hrr]
  have HTT := Lib.hid (show loadS st = (TT, rr) by rw [hTT, hrr])
  clear h hTT hrr
  have hB0 : Below w.heap.size w ((w.alloc (.cells #[.int .i64 0, .int .i64 0, .int .i64 0, .int .i64 0, .slice none 0 0] 26)).alloc (.cells #[.int .i64 0, .int .i64 0, .int .i64 0, .int .i64 0, .slice none 0 0] 26)) := by repeat (first | exact Below.refl _ _ | refine Below.alloc ?_ (by simp <;> omega) _)
  have hc0 : Holds ((w.alloc (.cells #[.int .i64 0, .int .i64 0, .int .i64 0, .int .i64 0, .slice none 0 0] 26)).alloc (.cells #[.int .i64 0, .int .i64 0, .int .i64 0, .int .i64 0, .slice none 0 0] 26)) (w.heap.size + 1) zero5 := by
    have := Holds.new (w.alloc (.cells #[.int .i64 0, .int .i64 0, .int .i64 0, .int .i64 0, .slice none 0 0] 26)) #[.int .i64 0, .int .i64 0, .int .i64 0, .int .i64 0, .slice none 0 0] 26
    simpa [zero5] using this
  have HW0 := Lib.hid (⟨by omega, hB0, (Holds.new w #[.int .i64 0, .int .i64 0, .int .i64 0, .int .i64 0, .slice none 0 0] 26).alloc _, hc0, RdC.nil _ _ _, fun b o e => (by cases e), rfl⟩ : LoadW w st 0 none_ none 0 _)
  clear hB0 hc0
  go_enter Try.func23, Try.ntmps23
  go_wp2_with fail
  go_loopw [5] (fun ii v => ∃ (k : Nat) (nw : S) (A : Option Addr) (c : Nat), ii = .int .i64 (k : Int) ∧ Hid (LoadW w st k nw A c v)) (fun ii _ => 4 - (intOf ii).toNat)
  case atStart => exact ⟨0, none_, none, 0, rfl, HW0⟩
  case round =>
    clear HW0
    obtain ⟨k, nw, A, c, rfl, HW⟩ := hrel
    rename World => v
    have g0 := HW.out.cur.at_ 0 rfl
    have hrest := HW.out.rest
    have hk := HW.out.k4
    rw [HTT.out] at hrest
    by_cases hk4 : k = 4
    · have hki : ¬ (k : Int) < 4 := by omega
      subst hk4
      have e4 : loadF st (4 - 4) nw = if nw.g = 0 then (none_, 51) else (nw, 0) := rfl
      rw [e4] at hrest
      clear e4
      by_cases hg : nw.g = 0
      · rw [if_pos hg] at hrest
        injection hrest with e1 e2
        have HE1 := Lib.hid e1
        have HE2 := Lib.hid e2
        have hgb : (nw.g == 0) = true := by simpa using hg
        clear hg e1 e2
        have hres := HW.out.res
        have zf0 := hres.2.2 0
        have zz0 := hres.at_ 0 rfl
        have zf1 := hres.2.2 1
        have zz1 := hres.at_ 1 rfl
        have zf2 := hres.2.2 2
        have zz2 := hres.at_ 2 rfl
        have zf3 := hres.2.2 3
        have zz3 := hres.at_ 3 rfl
        have zf4 := hres.2.2 4
        have zz4 := hres.at_ 4 rfl
        have z9 := hres.set5 (.int .i64 0) (.int .i64 0) (.int .i64 0) (.int .i64 0) (.slice none 0 0)
        have R0 := Lib.hid (z9.at_ 0 rfl)
        have R1 := Lib.hid (z9.at_ 1 rfl)
        have R2 := Lib.hid (z9.at_ 2 rfl)
        have R3 := Lib.hid (z9.at_ 3 rfl)
        have R4 := Lib.hid (z9.at_ 4 rfl)
        have HBf := Lib.hid (below_set5' (HW.out.base) (b := w.heap.size) (Nat.le_refl _) (.int .i64 0) (.int .i64 0) (.int .i64 0) (.int .i64 0) (.slice none 0 0))
        clear z9 hres
        go_wp2_with fail
        (try simp only [Exit.jump1])
        generalize (((((v.setCell ⟨w.heap.size, 0, none⟩ (.int .i64 0)).setCell ⟨w.heap.size, 1, none⟩ (.int .i64 0)).setCell ⟨w.heap.size, 2, none⟩ (.int .i64 0)).setCell ⟨w.heap.size, 3, none⟩ (.int .i64 0)).setCell ⟨w.heap.size, 4, none⟩ (.slice none 0 0)) = Wf at *
        refine bodyPost_ret (v := .tuple #[.agg #[.int .i64 0, .int .i64 0, .int .i64 0, .int .i64 0, .slice none 0 0], .int .i64 51]) (by simp [results, Try.results23, go_sem, R0.out, R1.out, R2.out, R3.out, R4.out]) rfl ?_
        rw [← HE1.out, ← HE2.out]
        exact ⟨none, 0, rfl, RdC.nil _ _ _, fun b o e => (by cases e), HBf.out⟩
      · rw [if_neg hg] at hrest
        injection hrest with e1 e2
        have HE1 := Lib.hid e1
        have HE2 := Lib.hid e2
        have hgb : (nw.g == 0) = false := by simpa using hg
        have g1 := HW.out.cur.at_ 1 rfl
        have g2 := HW.out.cur.at_ 2 rfl
        have g3 := HW.out.cur.at_ 3 rfl
        have g4 := HW.out.cur.at_ 4 rfl
        have HRd := Lib.hid (HW.out.rd.other5 (b := w.heap.size) (fun g o e => by have := HW.out.far g o e; omega) (.int .i64 nw.g) (.int .i64 nw.e) (.int .i64 nw.i) (.int .i64 nw.m) (.slice A nw.ps.length c))
        clear hg e1 e2
        have hres := HW.out.res
        have zf0 := hres.2.2 0
        have zz0 := hres.at_ 0 rfl
        have zf1 := hres.2.2 1
        have zz1 := hres.at_ 1 rfl
        have zf2 := hres.2.2 2
        have zz2 := hres.at_ 2 rfl
        have zf3 := hres.2.2 3
        have zz3 := hres.at_ 3 rfl
        have zf4 := hres.2.2 4
        have zz4 := hres.at_ 4 rfl
        have z9 := hres.set5 (.int .i64 nw.g) (.int .i64 nw.e) (.int .i64 nw.i) (.int .i64 nw.m) (.slice A nw.ps.length c)
        have R0 := Lib.hid (z9.at_ 0 rfl)
        have R1 := Lib.hid (z9.at_ 1 rfl)
        have R2 := Lib.hid (z9.at_ 2 rfl)
        have R3 := Lib.hid (z9.at_ 3 rfl)
        have R4 := Lib.hid (z9.at_ 4 rfl)
        have HBf := Lib.hid (below_set5' (HW.out.base) (b := w.heap.size) (Nat.le_refl _) (.int .i64 nw.g) (.int .i64 nw.e) (.int .i64 nw.i) (.int .i64 nw.m) (.slice A nw.ps.length c))
        clear z9 hres
        go_wp2_with fail
        (try simp only [Exit.jump1])
        generalize (((((v.setCell ⟨w.heap.size, 0, none⟩ (.int .i64 nw.g)).setCell ⟨w.heap.size, 1, none⟩ (.int .i64 nw.e)).setCell ⟨w.heap.size, 2, none⟩ (.int .i64 nw.i)).setCell ⟨w.heap.size, 3, none⟩ (.int .i64 nw.m)).setCell ⟨w.heap.size, 4, none⟩ (.slice A nw.ps.length c)) = Wf at *
        refine bodyPost_ret (v := .tuple #[.agg #[.int .i64 nw.g, .int .i64 nw.e, .int .i64 nw.i, .int .i64 nw.m, .slice A nw.ps.length c], .int .i64 0]) (by simp [results, Try.results23, go_sem, R0.out, R1.out, R2.out, R3.out, R4.out]) rfl ?_
        rw [← HE1.out, ← HE2.out]
        exact ⟨A, c, rfl, HRd.out, fun b o e => (by have := HW.out.far b o e; omega), HBf.out⟩
    · have hki : (k : Int) < 4 := by omega
      have hk3 : k < 4 := by omega
      rw [loadF_step st k nw hk3] at hrest
      obtain ⟨K2, hK2⟩ : ∃ K2, K2 = k / 2 := ⟨_, rfl⟩
      have hq : (k : Int) / 2 = (K2 : Int) := by omega
      have HK2 := Lib.hid hK2
      clear hK2 hk4
      go_wp2_with fail
      refine (rread_cap (k : Int) v d lab st (HD.out.below HW.out.base)).mono ?_
      rintro e' v1 ⟨A1, n1, c1, rfl, hR1, hb1, hnc, hn1⟩
      have hr1 := HW.out.res.below hb1
      have hcu1 := HW.out.cur.below hb1
      have hB1 := HW.out.base.trans (hb1.mono HW.out.base.size)
      have hs1 : w.heap.size + 2 ≤ v1.heap.size := by have := hcu1.1; omega
      by_cases hrd : st.ready (k : Int) = 0
      · rw [if_pos hrd] at hrest
        rw [hrd]
        generalize st.readB (k : Int) = l at hR1 hrest
        have HR1 := Lib.hid hR1
        have HRest := Lib.hid hrest
        have HRn := Lib.hid (HW.out.rd.below hb1)
        clear hrd hR1 hrest g0
        go_wp2_with fail
        refine (srdecode_any A1 n1 c1 l v1 HR1.out hnc (by omega)).mono ?_
        rintro e' v2 ⟨A2, c2, rfl, hR2, hf2, hb2⟩
        have hr2 := hr1.below hb2
        have hcu2 := hcu1.below hb2
        have hB2 := hB1.trans (hb2.mono hB1.size)
        have HRn2 := Lib.hid (HRn.out.below hb2)
        clear hr1 hcu1 hB1
        cases hsu : isSu l with
        | false =>
          have hrl : Su.read l = none_ := by unfold Su.read; rw [hsu]; rfl
          have hpk : pick nw k l = nw := by unfold pick; rw [hsu]; simp
          rw [hpk] at HRest
          rw [hrl]
          simp only [Bool.false_eq_true, if_false]
          have hr3 := hr2.alloc (.cells #[.int .i64 0, .int .i64 0, .int .i64 0, .int .i64 0, .slice A2 0 c2] 26)
          have hcu3 := hcu2.alloc (.cells #[.int .i64 0, .int .i64 0, .int .i64 0, .int .i64 0, .slice A2 0 c2] 26)
          have hB3 := hB2.alloc hB2.size (.cells #[.int .i64 0, .int .i64 0, .int .i64 0, .int .i64 0, .slice A2 0 c2] 26)
          have HRn3 := Lib.hid (HRn2.out.alloc (.cells #[.int .i64 0, .int .i64 0, .int .i64 0, .int .i64 0, .slice A2 0 c2] 26))
          have HL := Lib.hid (⟨by omega, hB3, hr3, hcu3, HRn3.out, HW.out.far, by rw [HTT.out]; exact HRest.out⟩ : LoadW w st (k + 1) nw A c _)
          clear hr2 hcu2 hB2 hr3 hcu3 hB3 hR2 hf2 hrl hpk hsu
          go_wp2_with fail
          go_roundw
          case rel => exact ⟨k + 1, nw, A, c, by go_num, HL⟩
          case measure => simp [intOf]; omega
        | true =>
          have hrl : Su.read l = sOf l := by unfold Su.read; rw [hsu]; rfl
          rw [hrl] at hR2 ⊢
          simp only [if_true]
          obtain ⟨G, hG⟩ : ∃ G : Nat, (sOf l).g = (G : Int) := ⟨_, rfl⟩
          have hpk : pick nw k l = if ((G : Int) % 2 = (K2 : Int) ∧ nw.g < (G : Int)) then sOf l else nw := by
            unfold pick
            rw [hsu, hG, ← HK2.out]
            simp
          rw [hpk] at HRest
          generalize sOf l = s at *
          rw [hG]
          have HR2 := Lib.hid hR2
          have hr3 := hr2.alloc (.cells #[.int .i64 (G : Int), .int .i64 s.e, .int .i64 s.i, .int .i64 s.m, .slice A2 s.ps.length c2] 26)
          have hcu3 := hcu2.alloc (.cells #[.int .i64 (G : Int), .int .i64 s.e, .int .i64 s.i, .int .i64 s.m, .slice A2 s.ps.length c2] 26)
          have hB3 := hB2.alloc hB2.size (.cells #[.int .i64 (G : Int), .int .i64 s.e, .int .i64 s.i, .int .i64 s.m, .slice A2 s.ps.length c2] 26)
          have HRn3 := Lib.hid (HRn2.out.alloc (.cells #[.int .i64 (G : Int), .int .i64 s.e, .int .i64 s.i, .int .i64 s.m, .slice A2 s.ps.length c2] 26))
          have hg3 := hcu3.at_ 0 rfl
          by_cases hp : (G : Int) % 2 = (K2 : Int)
          · have hpb : ((G : Int) % 2 == (K2 : Int)) = true := by simpa using hp
            by_cases hlt : nw.g < (G : Int)
            · rw [if_pos ⟨hp, hlt⟩] at HRest
              have w0 := hcu3.2.2 0
              have w1 := hcu3.2.2 1
              have w2 := hcu3.2.2 2
              have w3 := hcu3.2.2 3
              have w4 := hcu3.2.2 4
              have w6 := hcu3.at_ 1 rfl
              have w7 := hcu3.at_ 2 rfl
              have w8 := hcu3.at_ 3 rfl
              have w9 := hcu3.at_ 4 rfl
              have HFar := Lib.hid (fun b o (e : A2 = some ⟨b, o, none⟩) => (show w.heap.size + 2 ≤ b from Nat.le_trans hs1 (hf2 b o e)))
              have hcur := hcu3.set5 (.int .i64 (G : Int)) (.int .i64 s.e) (.int .i64 s.i) (.int .i64 s.m) (.slice A2 s.ps.length c2)
              rw [← hG] at hcur
              have hres := ((((hr3.other (b := w.heap.size + 1) (i := 0) (v := .int .i64 (G : Int)) (by omega)).other (b := w.heap.size + 1) (i := 1) (v := .int .i64 s.e) (by omega)).other (b := w.heap.size + 1) (i := 2) (v := .int .i64 s.i) (by omega)).other (b := w.heap.size + 1) (i := 3) (v := .int .i64 s.m) (by omega)).other (b := w.heap.size + 1) (i := 4) (v := .slice A2 s.ps.length c2) (by omega)
              have hrds := (HR2.out.alloc (.cells #[.int .i64 (G : Int), .int .i64 s.e, .int .i64 s.i, .int .i64 s.m, .slice A2 s.ps.length c2] 26)).other5 (b := w.heap.size + 1) (fun g o e => by have := HFar.out g o e; omega) (.int .i64 (G : Int)) (.int .i64 s.e) (.int .i64 s.i) (.int .i64 s.m) (.slice A2 s.ps.length c2)
              have hBs := below_set5' hB3 (b := w.heap.size + 1) (by omega) (.int .i64 (G : Int)) (.int .i64 s.e) (.int .i64 s.i) (.int .i64 s.m) (.slice A2 s.ps.length c2)
              rw [← hG] at hres hrds hBs
              have HL := Lib.hid (⟨by omega, hBs, hres, hcur, hrds, HFar.out, by rw [HTT.out]; exact HRest.out⟩ : LoadW w st (k + 1) s A2 c2 _)
              clear hr2 hcu2 hB2 hr3 hcu3 hB3 hf2 hrl hpk hsu hcur hres hrds hBs hR2
              rw [hG] at HL
              clear hG
              go_wp2_with fail
              go_roundw
              case rel => exact ⟨k + 1, s, A2, c2, by go_num, HL⟩
              case measure => simp [intOf]; omega
            · rw [if_neg (fun h => hlt h.2)] at HRest
              have HL := Lib.hid (⟨by omega, hB3, hr3, hcu3, HRn3.out, HW.out.far, by rw [HTT.out]; exact HRest.out⟩ : LoadW w st (k + 1) nw A c _)
              clear hr2 hcu2 hB2 hr3 hB3 hf2 hrl hpk hsu hR2 hG
              go_wp2_with fail
              go_roundw
              case rel => exact ⟨k + 1, nw, A, c, by go_num, HL⟩
              case measure => simp [intOf]; omega
          · have hpb : ((G : Int) % 2 == (K2 : Int)) = false := by simpa using hp
            rw [if_neg (fun h => hp h.1)] at HRest
            have HL := Lib.hid (⟨by omega, hB3, hr3, hcu3, HRn3.out, HW.out.far, by rw [HTT.out]; exact HRest.out⟩ : LoadW w st (k + 1) nw A c _)
            clear hr2 hcu2 hB2 hr3 hB3 hf2 hrl hpk hsu hR2 hG
            go_wp2_with fail
            go_roundw
            case rel => exact ⟨k + 1, nw, A, c, by go_num, HL⟩
            case measure => simp [intOf]; omega
      · rw [if_neg hrd] at hrest
        injection hrest with e1 e2
        have HE1 := Lib.hid e1
        have HE2 := Lib.hid e2
        obtain ⟨rd, hrdv⟩ : ∃ rd, rd = st.ready (k : Int) := ⟨_, rfl⟩
        rw [← hrdv] at hrd HE2 ⊢
        have hrb : (rd != 0) = true := by simpa using hrd
        have HRdv := Lib.hid hrdv
        clear hrd e1 e2 hrdv hR1
        have hres := hr1
        have zf0 := hres.2.2 0
        have zz0 := hres.at_ 0 rfl
        have zf1 := hres.2.2 1
        have zz1 := hres.at_ 1 rfl
        have zf2 := hres.2.2 2
        have zz2 := hres.at_ 2 rfl
        have zf3 := hres.2.2 3
        have zz3 := hres.at_ 3 rfl
        have zf4 := hres.2.2 4
        have zz4 := hres.at_ 4 rfl
        have z9 := hres.set5 (.int .i64 0) (.int .i64 0) (.int .i64 0) (.int .i64 0) (.slice none 0 0)
        have R0 := Lib.hid (z9.at_ 0 rfl)
        have R1 := Lib.hid (z9.at_ 1 rfl)
        have R2 := Lib.hid (z9.at_ 2 rfl)
        have R3 := Lib.hid (z9.at_ 3 rfl)
        have R4 := Lib.hid (z9.at_ 4 rfl)
        have HBf := Lib.hid (below_set5' (hB1) (b := w.heap.size) (Nat.le_refl _) (.int .i64 0) (.int .i64 0) (.int .i64 0) (.int .i64 0) (.slice none 0 0))
        clear z9 hres
        go_wp2_with fail
        (try simp only [Exit.jump1])
        generalize (((((v1.setCell ⟨w.heap.size, 0, none⟩ (.int .i64 0)).setCell ⟨w.heap.size, 1, none⟩ (.int .i64 0)).setCell ⟨w.heap.size, 2, none⟩ (.int .i64 0)).setCell ⟨w.heap.size, 3, none⟩ (.int .i64 0)).setCell ⟨w.heap.size, 4, none⟩ (.slice none 0 0)) = Wf at *
        refine bodyPost_ret (v := .tuple #[.agg #[.int .i64 0, .int .i64 0, .int .i64 0, .int .i64 0, .slice none 0 0], .int .i64 rd]) (by simp [results, Try.results23, go_sem, R0.out, R1.out, R2.out, R3.out, R4.out]) rfl ?_
        rw [← HE1.out, ← HE2.out]
        exact ⟨none, 0, rfl, RdC.nil _ _ _, fun b o e => (by cases e), HBf.out⟩
end Go.Proofs.Ytbdomhookjmmgaa
namespace Go.Proofs.Ytbdomhookjmmgaa
open Go.RowKit Fr Su
set_option linter.unusedVariables false
namespace Su
theorem loadF_rdy (st : Dk.St) : ∀ (f : Nat) (nw : S), f ≤ 4 → (loadF st f nw).2 = 0 → ∀ i : Nat, 4 - f ≤ i → i < 4 → st.ready (i : Int) = 0 := by
  intro f
  induction f with
  | zero => intro nw _ _ i h1 h2; omega
  | succ f ih =>
    intro nw hf h i h1 h2
    unfold loadF at h
    split at h
    · rename_i h0
      by_cases e : i = 3 - f
      · subst e; exact h0
      · exact ih _ (by omega) h i (by omega) h2
    · rename_i h0; exact absurd h h0
theorem load_rdy {st : Dk.St} (h : (loadS st).2 = 0) (i : Nat) (hi : i < 4) : st.ready (i : Int) = 0 := loadF_rdy st 4 none_ (Nat.le_refl _) h i (by omega) hi
end Su
set_option maxRecDepth 100000 in
set_option maxHeartbeats 8000000 in
theorem rmend_any (w : World) (d : Nat) (lab : Nat → Tag) (st : Dk.St) (k : Nat) (h : IsRef w d lab st) (hlow : st.low k) (hk : k ≤ 900) :
    Calls Try.prog 25 #[.pointer (some ⟨d, 0, none⟩)] w fun e w' => e = .returned (.tuple #[.int .i64 (mendS st).2.1, .int .i64 (mendS st).2.2]) ∧ LeftR lab d (mendS st).1 w w' := by
  have HD := Lib.hid h
  have HLow := Lib.hid hlow
  have HL := Lib.hid (rload_any w d lab st h)
  obtain ⟨RS, hRS⟩ : ∃ RS, RS = mendS st := ⟨_, rfl⟩
  rw [← hRS]
  unfold mendS at hRS
  have hload := load_ok (st := st)
  have hrdy := load_rdy (st := st)
  obtain ⟨⟨s, r⟩, hsr⟩ : ∃ q : S × Int, q = loadS st := ⟨_, rfl⟩
  rw [← hsr] at hRS hload HL hrdy
  simp only at hRS hload HL hrdy
  have HRS := Lib.hid hRS
  have HLo := Lib.hid hload
  have HRy := Lib.hid hrdy
  clear h hlow hRS hload hsr hrdy
  go_enter Try.func25, Try.ntmps25
  go_wp2_with fail
  refine HL.out.mono ?_
  rintro e' v1 ⟨A, c, rfl, hR, hn, hb⟩
  have HR := Lib.hid hR
  have HB1 := Lib.hid hb
  clear hR hn hb HL
  by_cases hr : r = 0
  rotate_left
  · have HQ := Lib.hid (show RS = (st, 0, r) by rw [HRS.out, if_pos hr])
    have HB2 := Lib.hid (HB1.out.alloc HB1.out.size (.cells #[.int .i64 s.g, .int .i64 s.e, .int .i64 s.i, .int .i64 s.m, .slice A s.ps.length c] 26))
    have HLf := Lib.hid (LeftR.pre HB2.out (LeftR.refl (HD.out.below HB2.out)))
    have hrb : (r != 0) = true := by simpa using hr
    clear hr HB2 HRS
    go_wp2_with fail
    go_ret2
    exact ⟨by rw [HQ.out]; rfl, by rw [HQ.out]; exact HLf.out⟩
  · subst hr
    have hok := HLo.out rfl
    have HS := Lib.hid (HRS.out.trans (if_neg (by simp)))
    have hb0 := Holds.new v1 #[.int .i64 s.g, .int .i64 s.e, .int .i64 s.i, .int .i64 s.m, .slice A s.ps.length c] 26
    have hB0 := HB1.out.alloc HB1.out.size (.cells #[.int .i64 s.g, .int .i64 s.e, .int .i64 s.i, .int .i64 s.m, .slice A s.ps.length c] 26)
    have hBn : Below v1.heap.size v1 (v1.alloc (.cells #[.int .i64 s.g, .int .i64 s.e, .int .i64 s.i, .int .i64 s.m, .slice A s.ps.length c] 26)) := (Below.refl _ _).alloc (Nat.le_refl _) _
    have HE := Lib.hid (srencode_new s A c _ (HR.out.below hBn) hok)
    have HSl := Lib.hid (sec_len hok)
    obtain ⟨g, e, i, m, hg, he, hi, hm, g1, g2, e1, e2, i1, i2, m1, m2, n1, n2⟩ := ok_nat hok
    obtain ⟨sa, hsa⟩ : ∃ sa, sa = slotA s := ⟨_, rfl⟩
    have hsg : sa = g % 2 * 2 := by rw [hsa]; unfold slotA; rw [hg, Int.toNat_natCast]
    have hs3 : sa ≤ 2 := by omega
    have hsi : (g : Int) % 2 * 2 = (sa : Int) := by omega
    have ry0 := HRy.out rfl sa (by omega)
    have ry1 : st.ready ((sa : Int) + 1) = 0 := by have := HRy.out rfl (sa + 1) (by omega); rwa [Int.natCast_add] at this
    have HRy0 := Lib.hid ry0
    have HRy1 := Lib.hid ry1
    have HS2 := Lib.hid (show RS = mendT ((if st.readB (sa : Int) = sec s then [] else [(sa : Int)]) ++ (if st.readB ((sa : Int) + 1) = sec s then [] else [(sa : Int) + 1])) (mendL (sec s) st ((if st.readB (sa : Int) = sec s then [] else [(sa : Int)]) ++ (if st.readB ((sa : Int) + 1) = sec s then [] else [(sa : Int) + 1]))) by
      rw [HS.out, ← hsa]
      have e : unlikeS st sa (sec s) = ((if st.readB (sa : Int) = sec s then [] else [(sa : Int)]) ++ (if st.readB ((sa : Int) + 1) = sec s then [] else [(sa : Int) + 1]), 0) := by
        unfold unlikeS
        rw [if_neg (by simp [ry0]), if_neg (by simp [ry1])]
      rw [e]
      simp)
    unfold Su.val at HE
    rw [hg] at HE hb0 hB0 ⊢
    clear hok hsa hsg hg he hi hm e1 e2 i1 i2 m1 m2 n1 n2 HRS HLo HS hBn HRy ry0 ry1
    go_wp2_with fail
    refine HE.out.mono ?_
    rintro e' v2 ⟨A1, c1, rfl, hR1, hc1, hn1, hb1⟩
    rw [HSl.out] at hR1 hc1 ⊢
    have hB2 := hB0.trans (hb1.mono hB0.size)
    have hk1 := hb0.below hb1
    have HN1 := Lib.hid (show ∀ b o, A1 = some ⟨b, o, none⟩ → w.heap.size ≤ b from fun b o e => Nat.le_trans hB0.size (hn1 b o e))
    have c0 := hk1.at_ 0 rfl
    have HNo := Lib.hid (show ∀ b, w.heap.size ≤ b → lab b = .no from fun b hb => HD.out.new_ hb)
    have HB2 := Lib.hid hB2
    have HR1 := Lib.hid hR1
    clear hb1 hk1 hR1 hn1 hB2 hB0 hb0 HE
    go_wp2_with fail
    refine (rread_cap (sa : Int) v2 d lab st (HD.out.below HB2.out)).mono ?_
    rintro e' v3 ⟨A2, n2, c2, rfl, hR2, hb2, _, _, hn2⟩
    have HB3 := Lib.hid (HB2.out.trans (hb2.mono HB2.out.size))
    have HX := Lib.hid hR2
    have HR3 := Lib.hid (HR1.out.below hb2)
    rw [HRy0.out]
    clear hR2 hb2 hn2 HR1 c0
    go_wp2_with fail
    refine (rread_cap ((sa : Int) + 1) v3 d lab st (HD.out.below HB3.out)).mono ?_
    rintro e' v4 ⟨A3, n3, c3, rfl, hR3, hb3, _, _, hn3⟩
    have HB4 := Lib.hid (HB3.out.trans (hb3.mono HB3.out.size))
    have HY := Lib.hid hR3
    have HNy := Lib.hid (show ∀ b o, A3 = some ⟨b, o, none⟩ → w.heap.size ≤ b from fun b o e => Nat.le_trans HB3.out.size (hn3 b o e))
    have HX4 := Lib.hid (HX.out.below hb3)
    have HR4 := Lib.hid (HR3.out.below hb3)
    have HD4 := Lib.hid (HD.out.below HB4.out)
    rw [HRy1.out]
    clear hR3 hb3 hn3 HX HR3 hsi
    have s1 : (convert 28 9 (.slice A2 n2 c2)).run Try.prog v4 = .ok (.string (str (st.readB (sa : Int)))) v4 := run_str (cap := c2) HX4.out
    have s2 : (convert 28 9 (.slice A1 128 c1)).run Try.prog v4 = .ok (.string (str (sec s))) v4 := run_str (cap := c1) HR4.out
    have s3 : (convert 28 9 (.slice A3 n3 c3)).run Try.prog v4 = .ok (.string (str (st.readB ((sa : Int) + 1)))) v4 := run_str (cap := c3) HY.out
    have h8 := HR4.out.2.1
    have h9 := HX4.out.2.1
    have h7 := HY.out.2.1
    by_cases hx : st.readB (sa : Int) = sec s
    · have t1 := str_same hx
      by_cases hy : st.readB ((sa : Int) + 1) = sec s
      · have t3 := str_same hy
        have HRs := Lib.hid (show RS = (st, 0, 0) by rw [HS2.out, if_pos hx, if_pos hy]; rfl)
        have HLf := Lib.hid (LeftR.pre HB4.out (LeftR.refl HD4.out))
        clear hx hy h7 h8 h9 HS2
        go_wp2_with fail
        go_ret2
        exact ⟨by rw [HRs.out]; rfl, by rw [HRs.out]; exact HLf.out⟩
      · have t3 := str_other h7 h8 hy
        have HS3 := Lib.hid (show RS = mendT [(sa : Int) + 1] (mendL (sec s) st [(sa : Int) + 1]) by rw [HS2.out, if_pos hx, if_neg hy]; rfl)
        clear hx hy h7 h8 h9 HS2
        go_wp2_with fail
        refine (rwrite_any ((sa : Int) + 1) A1 128 c1 (k) (sec s) v4 d _ st HD4.out HR4.out HLow.out (by omega) (by omega)).mono ?_
        rintro e' u ⟨rfl, lu, hDu, hCu, hLau⟩
        rw [HSl.out]
        by_cases hw : st.writeE ((sa : Int) + 1) 128 = 0
        rotate_left
        · have hst : st.write ((sa : Int) + 1) (sec s) = st := by unfold Dk.St.write; rw [HSl.out, if_neg hw]
          have HRs := Lib.hid (show RS = (st, 0, st.writeE ((sa : Int) + 1) 128) by rw [HS3.out]; simp only [mendL]; rw [if_neg hw]; unfold mendT; rw [if_neg hw])
          rw [hst] at hDu
          have HLf := Lib.hid (show LeftR lab d st w u from LeftR.pre HB4.out ⟨lu, hDu, hCu, hLau⟩)
          obtain ⟨we, hwe⟩ : ∃ we, we = st.writeE ((sa : Int) + 1) 128 := ⟨_, rfl⟩
          rw [← hwe] at hw HRs ⊢
          have hwb : (we != 0) = true := by simpa using hw
          have hwc : (we == 0) = false := by simpa using hw
          clear hw hst hDu hCu hLau hwe
          go_wp2_with fail
          go_ret2
          exact ⟨by rw [HRs.out]; rfl, by rw [HRs.out]; exact HLf.out⟩
        · rw [hw]
          have HRs := Lib.hid (show RS = (st.write ((sa : Int) + 1) (sec s), 1, 0) by rw [HS3.out]; simp only [mendL]; rw [if_pos hw]; rfl)
          have HLf := Lib.hid (show LeftR lab d _ w u from LeftR.pre HB4.out ⟨lu, hDu, hCu, hLau⟩)
          clear hw hDu hCu hLau
          go_wp2_with fail
          go_ret2
          exact ⟨by rw [HRs.out]; rfl, by rw [HRs.out]; exact HLf.out⟩
    · have t1 := str_other h9 h8 hx
      have HS3 := Lib.hid (show RS = mendT ((sa : Int) :: (if st.readB ((sa : Int) + 1) = sec s then [] else [(sa : Int) + 1])) (mendL (sec s) st ((sa : Int) :: (if st.readB ((sa : Int) + 1) = sec s then [] else [(sa : Int) + 1]))) by rw [HS2.out, if_neg hx]; rfl)
      clear hx h9 HS2
      go_wp2_with fail
      refine (rwrite_any (sa : Int) A1 128 c1 k (sec s) v4 d lab st HD4.out HR4.out HLow.out (by omega) (by omega)).mono ?_
      rintro e' v5 ⟨rfl, lab5, hD5, hC5, hLa5⟩
      rw [HSl.out]
      by_cases hw : st.writeE (sa : Int) 128 = 0
      rotate_left
      · have hst : st.write (sa : Int) (sec s) = st := by unfold Dk.St.write; rw [HSl.out, if_neg hw]
        have HRs := Lib.hid (show RS = (st, 0, st.writeE (sa : Int) 128) by rw [HS3.out]; simp only [mendL]; rw [if_neg hw]; unfold mendT; rw [if_neg hw])
        rw [hst] at hD5
        have HLf := Lib.hid (show LeftR lab d st w v5 from LeftR.pre HB4.out ⟨lab5, hD5, hC5, hLa5⟩)
        obtain ⟨we, hwe⟩ : ∃ we, we = st.writeE (sa : Int) 128 := ⟨_, rfl⟩
        rw [← hwe] at hw HRs ⊢
        have hwb : (we != 0) = true := by simpa using hw
        have hwc : (we == 0) = false := by simpa using hw
        clear hw hst hD5 hC5 hLa5 hwe s1 s2 s3 h7 h8
        go_wp2_with fail
        go_ret2
        exact ⟨by rw [HRs.out]; rfl, by rw [HRs.out]; exact HLf.out⟩
      · rw [hw]
        have HW0 := Lib.hid hw
        have HR5 := Lib.hid (hC5.rd HR4.out (fun b o e => HNo.out b (HN1.out b o e)))
        have HY5 := Lib.hid (hC5.rd HY.out (fun b o e => HNo.out b (HNy.out b o e)))
        have HC5 := Lib.hid hC5
        have HLa5 := Lib.hid hLa5
        have HLw := Lib.hid (low_write HLow.out (sa : Int) (sec s))
        obtain ⟨st1, hst1⟩ : ∃ st1, st1 = st.write (sa : Int) (sec s) := ⟨_, rfl⟩
        rw [← hst1] at hD5 HLw
        have HSt := Lib.hid hst1
        have HD5 := Lib.hid hD5
        clear hw hD5 hC5 hLa5 hst1 s1 s2 s3
        have s2 : (convert 28 9 (.slice A1 128 c1)).run Try.prog v5 = .ok (.string (str (sec s))) v5 := run_str (cap := c1) HR5.out
        have s3 : (convert 28 9 (.slice A3 n3 c3)).run Try.prog v5 = .ok (.string (str (st.readB ((sa : Int) + 1)))) v5 := run_str (cap := c3) HY5.out
        by_cases hy : st.readB ((sa : Int) + 1) = sec s
        · have t3 := str_same hy
          have HRs := Lib.hid (show RS = (st1, 1, 0) by rw [HS3.out, if_pos hy]; simp only [mendL]; rw [if_pos HW0.out, ← HSt.out]; rfl)
          have HLf := Lib.hid (show LeftR lab d st1 w v5 from LeftR.pre HB4.out ⟨lab5, HD5.out, HC5.out, HLa5.out⟩)
          clear hy h7 h8
          go_wp2_with fail
          go_ret2
          exact ⟨by rw [HRs.out]; rfl, by rw [HRs.out]; exact HLf.out⟩
        · have t3 := str_other h7 h8 hy
          have HS4 := Lib.hid (show RS = mendT [(sa : Int), (sa : Int) + 1] (mendL (sec s) st1 [(sa : Int) + 1]) by rw [HS3.out, if_neg hy]; simp only [mendL]; rw [if_pos HW0.out, ← HSt.out])
          clear hy h7 h8
          go_wp2_with fail
          refine (rwrite_any ((sa : Int) + 1) A1 128 c1 (k + 1) (sec s) v5 d _ st1 HD5.out HR5.out HLw.out (by omega) (by omega)).mono ?_
          rintro e' u ⟨rfl, lu, hDu, hCu, hLau⟩
          rw [HSl.out]
          by_cases hw : st1.writeE ((sa : Int) + 1) 128 = 0
          rotate_left
          · have hst : st1.write ((sa : Int) + 1) (sec s) = st1 := by unfold Dk.St.write; rw [HSl.out, if_neg hw]
            have HRs := Lib.hid (show RS = (st1, 0, st1.writeE ((sa : Int) + 1) 128) by rw [HS4.out]; simp only [mendL]; rw [if_neg hw]; unfold mendT; rw [if_neg hw])
            rw [hst] at hDu
            have HLf := Lib.hid (show LeftR lab d st1 w u from LeftR.pre HB4.out (LeftR.thn HC5.out HLa5.out ⟨lu, hDu, hCu, hLau⟩))
            obtain ⟨we, hwe⟩ : ∃ we, we = st1.writeE ((sa : Int) + 1) 128 := ⟨_, rfl⟩
            rw [← hwe] at hw HRs ⊢
            have hwb : (we != 0) = true := by simpa using hw
            have hwc : (we == 0) = false := by simpa using hw
            clear hw hst hDu hCu hLau hwe
            go_wp2_with fail
            go_ret2
            exact ⟨by rw [HRs.out]; rfl, by rw [HRs.out]; exact HLf.out⟩
          · rw [hw]
            have HRs := Lib.hid (show RS = (st1.write ((sa : Int) + 1) (sec s), 2, 0) by rw [HS4.out]; simp only [mendL]; rw [if_pos hw]; rfl)
            have HLf := Lib.hid (show LeftR lab d _ w u from LeftR.pre HB4.out (LeftR.thn HC5.out HLa5.out ⟨lu, hDu, hCu, hLau⟩))
            clear hw hDu hCu hLau
            go_wp2_with fail
            go_ret2
            exact ⟨by rw [HRs.out]; rfl, by rw [HRs.out]; exact HLf.out⟩
end Go.Proofs.Ytbdomhookjmmgaa
