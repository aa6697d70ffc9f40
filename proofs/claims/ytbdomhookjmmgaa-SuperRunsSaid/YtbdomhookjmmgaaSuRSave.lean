/- The document's Save: a superblock laid on its disk. -/
import Derived.Test.YtbdomhookjmmgaaSuSave
import Derived.Test.YtbdomhookjmmgaaSuRNew
import Derived.Test.YtbdomhookjmmgaaRkC
namespace Go.Proofs.Ytbdomhookjmmgaa
open Go.RowKit Fr Su
set_option linter.unusedVariables false
theorem LeftR.pre {lab : Nat → Tag} {d : Nat} {st : Dk.St} {w w1 w' : World} (hb : Below w.heap.size w w1) (h : LeftR lab d st w1 w') : LeftR lab d st w w' := by
  obtain ⟨lab', h1, h2, h3⟩ := h
  exact ⟨lab', h1, (Chg.of_below hb).trans (Lab.refl _ _) h2, fun k hk => h3 k (Nat.lt_of_lt_of_le hk hb.size)⟩
theorem LeftR.thn {lab lab1 : Nat → Tag} {d : Nat} {st : Dk.St} {w w1 w' : World} (hc : Chg lab w w1) (hl : Lab w lab lab1) (h : LeftR lab1 d st w1 w') : LeftR lab d st w w' := by
  obtain ⟨lab', h1, h2, h3⟩ := h
  exact ⟨lab', h1, hc.trans hl h2, hl.trans h3 hc.size⟩
theorem IsRef.new_ {w : World} {d : Nat} {lab : Nat → Tag} {st : Dk.St} (h : IsRef w d lab st) {k : Nat} (hk : w.heap.size ≤ k) : lab k = .no := by
  cases e : lab k with
  | no => rfl
  | _ => exact absurd (h.old k (by rw [e]; simp)) (by omega)
set_option maxRecDepth 100000 in
set_option maxHeartbeats 4000000 in
theorem rsave_any (s : S) (A : Option Addr) (c : Nat) (w : World) (d : Nat) (lab : Nat → Tag) (st : Dk.St) (k : Nat) (hr : RdC 2 w A s.ps.length (pv s.ps)) (h : IsRef w d lab st) (hlow : st.low k) (hk : k ≤ 900) :
    Calls Try.prog 21 #[.pointer (some ⟨d, 0, none⟩), Su.val s A c] w fun e w' => e = .returned (.int .i64 (saveS st s).2) ∧ LeftR lab d (saveS st s).1 w w' := by
  have HD := Lib.hid h
  have HLow := Lib.hid hlow
  have hb0 := Holds.new w #[.int .i64 s.g, .int .i64 s.e, .int .i64 s.i, .int .i64 s.m, .slice A s.ps.length c] 26
  have hB0 : Below w.heap.size w (w.alloc (.cells #[.int .i64 s.g, .int .i64 s.e, .int .i64 s.i, .int .i64 s.m, .slice A s.ps.length c] 26)) := (Below.refl _ _).alloc (Nat.le_refl _) _
  by_cases hok : Su.ok s = true
  rotate_left
  · have hno : Su.ok s = false := by simpa using hok
    have HE := Lib.hid (srencode_no s A c _ (hr.below hB0) hno)
    have HS := Lib.hid (show saveS st s = (st, 50) by unfold saveS; rw [if_pos hno])
    clear hok hno hr h hlow hb0
    rw [HS.out]
    unfold Su.val at HE ⊢
    go_enter Try.func21, Try.ntmps21
    go_wp2_with fail
    refine HE.out.mono ?_
    rintro e v1 ⟨A1, c1, rfl, hR1, hc1, hb1⟩
    have HLf := Lib.hid (LeftR.pre (hB0.trans (hb1.mono hB0.size)) (LeftR.refl (HD.out.below (hB0.trans (hb1.mono hB0.size)))))
    clear hB0 hb1
    go_wp2_with fail
    refine wp_loop_rounds 1 ?_
    rw [rounds_succ]
    go_wp2_with fail
    go_ret
    exact ⟨rfl, HLf.out⟩
  · have HE := Lib.hid (srencode_new s A c _ (hr.below hB0) hok)
    have hsl := sec_len hok
    have HSl := Lib.hid hsl
    obtain ⟨g, e, i, m, hg, he, hi, hm, g1, g2, e1, e2, i1, i2, m1, m2, n1, n2⟩ := ok_nat hok
    obtain ⟨sa, hsa⟩ : ∃ sa, sa = slotA s := ⟨_, rfl⟩
    have hsg : sa = g % 2 * 2 := by rw [hsa]; unfold slotA; rw [hg, Int.toNat_natCast]
    have hs3 : sa ≤ 2 := by omega
    have hsi : (g : Int) % 2 * 2 = (sa : Int) := by omega
    obtain ⟨RS, hRS⟩ : ∃ RS, RS = saveS st s := ⟨_, rfl⟩
    have hsv := hRS
    unfold saveS at hsv
    rw [if_neg (by rw [hok]; simp), ← hsa] at hsv
    rw [← hRS]
    have HSv := Lib.hid hsv
    unfold Su.val at HE ⊢
    rw [hg] at HE hb0 hB0 ⊢
    clear hok hr h hlow hRS hsv hsl hsa hsg hg he hi hm e1 e2 i1 i2 m1 m2 n1 n2
    go_enter Try.func21, Try.ntmps21
    go_wp2_with fail
    refine HE.out.mono ?_
    rintro e' v1 ⟨A1, c1, rfl, hR1, hc1, hn1, hb1⟩
    rw [HSl.out] at hR1 hc1 ⊢
    have hB1 := hB0.trans (hb1.mono hB0.size)
    have hk1 := hb0.below hb1
    have HB1 := Lib.hid hB1
    have HK1 := Lib.hid hk1
    have HR1 := Lib.hid hR1
    have HN1 := Lib.hid hn1
    have c0 := hk1.at_ 0 rfl
    have HDv := Lib.hid (HD.out.below hB1)
    have HNo := Lib.hid (show ∀ b, w.heap.size ≤ b → lab b = .no from fun b hb => HD.out.new_ hb)
    clear hb1 hk1 hR1 hn1 hB1 hB0 hb0
    go_wp2_with fail
    refine wp_loop_rounds 3 ?_
    rw [rounds_succ]
    go_wp2_with fail
    refine (rwrite_any (sa : Int) A1 128 c1 k (sec s) v1 d lab st HDv.out HR1.out HLow.out (by omega) (by omega)).mono ?_
    rintro e' v2 ⟨rfl, lab2, hD2, hC2, hLa2⟩
    rw [HSl.out]
    by_cases hw : st.writeE (sa : Int) 128 = 0
    rotate_left
    · have hst : st.write (sa : Int) (sec s) = st := by unfold Dk.St.write; rw [HSl.out, if_neg hw]
      have HRs := Lib.hid (show RS = (st, st.writeE (sa : Int) 128) by rw [HSv.out, if_pos hw])
      rw [hst] at hD2
      have HLf := Lib.hid (show LeftR lab d st w v2 from LeftR.pre HB1.out ⟨lab2, hD2, hC2, hLa2⟩)
      obtain ⟨we, hwe⟩ : ∃ we, we = st.writeE (sa : Int) 128 := ⟨_, rfl⟩
      rw [← hwe] at hw HRs ⊢
      have hwb : (we != 0) = true := by simpa using hw
      have hwc : (we == 0) = false := by simpa using hw
      clear hst hD2 hC2 hLa2 hwe c0
      have hwz : ¬ we = 0 := hw
      go_wp2_with fail
      rw [rounds_succ]
      go_wp2_with fail
      go_ret
      exact ⟨by rw [HRs.out]; rfl, by rw [HRs.out]; exact HLf.out⟩
    · rw [hw]
      have HSw := Lib.hid (HSv.out.trans (if_neg (by rw [hw]; simp)))
      have hk2 := hC2.holds HK1.out (HNo.out _ (Nat.le_refl _))
      have hr2 := hC2.rd HR1.out (fun b o e => HNo.out b (by have := HN1.out b o e; simp at this; omega))
      have c0b := hk2.at_ 0 rfl
      have HD2 := Lib.hid hD2
      have HC2 := Lib.hid hC2
      have HLa2 := Lib.hid hLa2
      have HR2 := Lib.hid hr2
      clear hw hD2 hC2 hLa2 c0 hr2 hk2
      go_wp2_with fail
      rw [rounds_succ]
      go_wp2_with fail
      refine (rwrite_any ((sa : Int) + 1) A1 128 c1 (k + 1) (sec s) v2 d lab2 _ HD2.out HR2.out (low_write HLow.out _ _) (by omega) (by omega)).mono ?_
      rintro e' v3 ⟨rfl, lab3, hD3, hC3, hLa3⟩
      rw [HSl.out]
      obtain ⟨st1, hst1⟩ : ∃ st1, st1 = st.write (sa : Int) (sec s) := ⟨_, rfl⟩
      rw [← hst1] at HSw hD3 ⊢
      have HSt1 := Lib.hid hst1
      clear hst1
      by_cases hw : st1.writeE ((sa : Int) + 1) 128 = 0
      rotate_left
      · have hst : st1.write ((sa : Int) + 1) (sec s) = st1 := by unfold Dk.St.write; rw [HSl.out, if_neg hw]
        have HRs := Lib.hid (show RS = (st1, st1.writeE ((sa : Int) + 1) 128) by rw [HSw.out, if_pos hw])
        rw [hst] at hD3
        have HLf := Lib.hid (show LeftR lab d st1 w v3 from LeftR.pre HB1.out (LeftR.thn HC2.out HLa2.out ⟨lab3, hD3, hC3, hLa3⟩))
        obtain ⟨we, hwe⟩ : ∃ we, we = st1.writeE ((sa : Int) + 1) 128 := ⟨_, rfl⟩
        rw [← hwe] at hw HRs ⊢
        have hwb : (we != 0) = true := by simpa using hw
        have hwc : (we == 0) = false := by simpa using hw
        clear hst hD3 hC3 hLa3 hwe c0b
        go_wp2_with fail
        rw [rounds_succ]
        go_wp2_with fail
        go_ret
        exact ⟨by rw [HRs.out]; rfl, by rw [HRs.out]; exact HLf.out⟩
      · rw [hw]
        have HSx := Lib.hid (HSw.out.trans (if_neg (by rw [hw]; simp)))
        have HD3 := Lib.hid hD3
        have HC3 := Lib.hid hC3
        have HLa3 := Lib.hid hLa3
        clear hw hD3 hC3 hLa3 c0b
        go_wp2_with fail
        rw [rounds_succ]
        go_wp2_with fail
        refine (rflush_any v3 d lab3 _ HD3.out (by have hq := low_write (st := st1) (c := k + 1) (by rw [HSt1.out]; exact low_write HLow.out _ _) ((sa : Int) + 1) (sec s); exact ⟨hq.1, by have := hq.2.1; omega, hq.2.2.1, hq.2.2.2.1⟩)).mono ?_
        rintro e' v4 ⟨rfl, hL4⟩
        have HLf := Lib.hid (LeftR.pre HB1.out (LeftR.thn HC2.out HLa2.out (LeftR.thn HC3.out HLa3.out hL4)))
        clear hL4
        go_wp2_with fail
        go_ret
        exact ⟨by rw [HSx.out]; rfl, by rw [HSx.out]; exact HLf.out⟩
end Go.Proofs.Ytbdomhookjmmgaa
