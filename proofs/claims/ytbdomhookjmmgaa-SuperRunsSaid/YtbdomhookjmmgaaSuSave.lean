/- super.Save: a superblock laid on a disk. -/
import Derived.Test.YtbdomhookjmmgaaSuQ
import Derived.Test.YtbdomhookjmmgaaDkG
namespace Go.Proofs.Ytbdomhookjmmgaa
open Go.RowKit Fr Su
set_option linter.unusedVariables false
namespace Su
/-- Where the first copy lies. -/
def slotA (s : S) : Nat := s.g.toNat % 2 * 2
/-- What Save makes of a disk, and what it tells. -/
def saveS (st : Dk.St) (s : S) : Dk.St × Int :=
  if Su.ok s = false then (st, 50) else
  if ¬ st.writeE (slotA s : Int) 128 = 0 then (st, st.writeE (slotA s : Int) 128) else
  if ¬ (st.write (slotA s : Int) (sec s)).writeE ((slotA s : Int) + 1) 128 = 0 then (st.write (slotA s : Int) (sec s), (st.write (slotA s : Int) (sec s)).writeE ((slotA s : Int) + 1) 128) else
  (((st.write (slotA s : Int) (sec s)).write ((slotA s : Int) + 1) (sec s)).flush, ((st.write (slotA s : Int) (sec s)).write ((slotA s : Int) + 1) (sec s)).flushE)
theorem sec_len {s : S} (h : Su.ok s = true) : (sec s).length = 128 := by
  have h2 := okH_iff.1 (ok_iff.1 h).1
  exact frame_len (by rw [pay_len]; omega)
end Su
theorem Left.refl {lab : Nat → Tag} {d : Nat} {st : Dk.St} {w : World} (h : IsDisk w d lab st) : Left lab d st w w := ⟨lab, h, Chg.refl _ _, Lab.refl _ _⟩
theorem Left.pre {lab : Nat → Tag} {d : Nat} {st : Dk.St} {w w1 w' : World} (hb : Below w.heap.size w w1) (h : Left lab d st w1 w') : Left lab d st w w' := by
  obtain ⟨lab', h1, h2, h3⟩ := h
  exact ⟨lab', h1, (Chg.of_below hb).trans (Lab.refl _ _) h2, fun k hk => h3 k (Nat.lt_of_lt_of_le hk hb.size)⟩
theorem Left.post {lab : Nat → Tag} {d : Nat} {st : Dk.St} {w w1 w' : World} (h : Left lab d st w w1) (hb : Below w1.heap.size w1 w') : Left lab d st w w' := by
  obtain ⟨lab', h1, h2, h3⟩ := h
  exact ⟨lab', h1.below hb, h2.trans h3 (Chg.of_below hb), h3⟩
theorem Left.then_ {lab lab1 : Nat → Tag} {d : Nat} {st : Dk.St} {w w1 w' : World} (hc : Chg lab w w1) (hl : Lab w lab lab1) (h : Left lab1 d st w1 w') : Left lab d st w w' := by
  obtain ⟨lab', h1, h2, h3⟩ := h
  exact ⟨lab', h1, hc.trans hl h2, hl.trans h3 hc.size⟩
theorem Chg.holds {lab : Nat → Tag} {w v : World} (h : Chg lab w v) {b : Nat} {cs : List Value} (k : Holds w b cs) (hl : lab b = .no) : Holds v b cs :=
  ⟨Nat.lt_of_lt_of_le k.1 h.size, fun i y hy => (World.cell?_of_block (a := ⟨b, i, none⟩) (h.block b k.1 hl)).trans (k.2.1 i y hy), fun i => (World.frozen?_of_block (a := ⟨b, i, none⟩) (h.block b k.1 hl)).trans (k.2.2 i)⟩
theorem Chg.rd {lab : Nat → Tag} {w v : World} {A : Option Addr} {n : Nat} {l : List Nat} (h : Chg lab w v) (k : Rd w A n l) (hl : ∀ b o, A = some ⟨b, o, none⟩ → lab b = .no) : Rd v A n l := by
  refine ⟨k.1, k.2.1, fun hn => ?_⟩
  obtain ⟨b, o, rfl, hb, hc⟩ := k.2.2 hn
  exact ⟨b, o, rfl, Nat.lt_of_lt_of_le hb h.size, fun j x hx => (World.cell?_of_block (a := ⟨b, o + j, none⟩) (h.block b hb (hl b o rfl))).trans (hc j x hx)⟩
set_option maxRecDepth 100000 in
set_option maxHeartbeats 4000000 in
theorem save_any (s : S) (A : Option Addr) (c : Nat) (w : World) (d : Nat) (lab : Nat → Tag) (st : Dk.St) (k : Nat) (hr : RdC 2 w A s.ps.length (pv s.ps)) (h : IsDisk w d lab st) (hlow : st.low k) (hk : k ≤ 900) :
    Calls Try.prog 20 #[.pointer (some ⟨d, 0, none⟩), Su.val s A c] w fun e w' => e = .returned (.int .i64 (saveS st s).2) ∧ Left lab d (saveS st s).1 w w' := by
  have HD := Lib.hid h
  have HLow := Lib.hid hlow
  have hb0 := Holds.new w #[.int .i64 s.g, .int .i64 s.e, .int .i64 s.i, .int .i64 s.m, .slice A s.ps.length c] 26
  have hB0 : Below w.heap.size w (w.alloc (.cells #[.int .i64 s.g, .int .i64 s.e, .int .i64 s.i, .int .i64 s.m, .slice A s.ps.length c] 26)) := (Below.refl _ _).alloc (Nat.le_refl _) _
  by_cases hok : Su.ok s = true
  rotate_left
  · have hno : Su.ok s = false := by simpa using hok
    have HE := Lib.hid (sencode_no s A c _ (hr.below hB0) hno)
    have HS := Lib.hid (show saveS st s = (st, 50) by unfold saveS; rw [if_pos hno])
    clear hok hno hr h hlow hb0
    rw [HS.out]
    unfold Su.val at HE ⊢
    go_enter Try.func20, Try.ntmps20
    go_wp2_with fail
    refine HE.out.mono ?_
    rintro e v1 ⟨A1, c1, rfl, hR1, hc1, hb1⟩
    have HLf := Lib.hid (Left.pre (hB0.trans (hb1.mono hB0.size)) (Left.refl (HD.out.below (hB0.trans (hb1.mono hB0.size)))))
    clear hB0 hb1
    go_wp2_with fail
    go_ret
    exact ⟨rfl, HLf.out⟩
  · have HE := Lib.hid (sencode_new s A c _ (hr.below hB0) hok)
    have hsl := sec_len hok
    have HSl := Lib.hid hsl
    obtain ⟨g, e, i, m, hg, he, hi, hm, g1, g2, e1, e2, i1, i2, m1, m2, n1, n2⟩ := ok_nat hok
    obtain ⟨sa, hsa⟩ : ∃ sa, sa = slotA s := ⟨_, rfl⟩
    have hsg : sa = g % 2 * 2 := by rw [hsa]; unfold slotA; rw [hg, Int.toNat_natCast]
    have hs3 : sa ≤ 2 := by omega
    have hsi : (g : Int) % 2 * 2 = (sa : Int) := by omega
    obtain ⟨RS, hRS⟩ : ∃ RS, RS = saveS st s := ⟨_, rfl⟩
    have hsv := hRS
    unfold saveS at hsv
    rw [if_neg (by rw [hok]; simp), ← hsa] at hsv
    rw [← hRS]
    have HSv := Lib.hid hsv
    unfold Su.val at HE ⊢
    rw [hg] at HE hb0 hB0 ⊢
    clear hok hr h hlow hRS hsv hsl hsa hsg hg he hi hm e1 e2 i1 i2 m1 m2 n1 n2
    go_enter Try.func20, Try.ntmps20
    go_wp2_with fail
    refine HE.out.mono ?_
    rintro e' v1 ⟨A1, c1, rfl, hR1, hc1, hn1, hb1⟩
    rw [HSl.out] at hR1 hc1 ⊢
    have hB1 := hB0.trans (hb1.mono hB0.size)
    have hk1 := hb0.below hb1
    have HB1 := Lib.hid hB1
    have HK1 := Lib.hid hk1
    have HR1 := Lib.hid hR1
    have HN1 := Lib.hid hn1
    have c0 := hk1.at_ 0 rfl
    have HDv := Lib.hid (HD.out.below hB1)
    have HNo := Lib.hid (show ∀ b, w.heap.size ≤ b → lab b = .no from fun b hb => HD.out.new_ hb)
    clear hb1 hk1 hR1 hn1 hB1 hB0 hb0
    go_wp2_with fail
    refine wp_loop_rounds 3 ?_
    rw [rounds_succ]
    go_wp2_with fail
    refine (write_any (sa : Int) A1 128 c1 k (sec s) v1 d lab st HDv.out HR1.out HLow.out (by omega) (by omega)).mono ?_
    rintro e' v2 ⟨rfl, lab2, hD2, hC2, hLa2⟩
    rw [HSl.out]
    by_cases hw : st.writeE (sa : Int) 128 = 0
    rotate_left
    · have hst : st.write (sa : Int) (sec s) = st := by unfold Dk.St.write; rw [HSl.out, if_neg hw]
      have HRs := Lib.hid (show RS = (st, st.writeE (sa : Int) 128) by rw [HSv.out, if_pos hw])
      rw [hst] at hD2
      have HLf := Lib.hid (show Left lab d st w v2 from Left.pre HB1.out ⟨lab2, hD2, hC2, hLa2⟩)
      obtain ⟨we, hwe⟩ : ∃ we, we = st.writeE (sa : Int) 128 := ⟨_, rfl⟩
      rw [← hwe] at hw HRs ⊢
      have hwb : (we != 0) = true := by simpa using hw
      clear hw hst hD2 hC2 hLa2 hwe c0
      go_wp2_with fail
      go_ret
      exact ⟨by rw [HRs.out]; rfl, by rw [HRs.out]; exact HLf.out⟩
    · rw [hw]
      have HSw := Lib.hid (HSv.out.trans (if_neg (by rw [hw]; simp)))
      have hk2 := hC2.holds HK1.out (HNo.out _ (Nat.le_refl _))
      have hr2 := hC2.rd HR1.out (fun b o e => HNo.out b (by have := HN1.out b o e; simp at this; omega))
      have c0b := hk2.at_ 0 rfl
      have HD2 := Lib.hid hD2
      have HC2 := Lib.hid hC2
      have HLa2 := Lib.hid hLa2
      have HR2 := Lib.hid hr2
      clear hw hD2 hC2 hLa2 c0 hr2 hk2
      go_wp2_with fail
      rw [rounds_succ]
      go_wp2_with fail
      refine (write_any ((sa : Int) + 1) A1 128 c1 (k + 1) (sec s) v2 d lab2 _ HD2.out HR2.out (low_write HLow.out _ _) (by omega) (by omega)).mono ?_
      rintro e' v3 ⟨rfl, lab3, hD3, hC3, hLa3⟩
      rw [HSl.out]
      obtain ⟨st1, hst1⟩ : ∃ st1, st1 = st.write (sa : Int) (sec s) := ⟨_, rfl⟩
      rw [← hst1] at HSw hD3 ⊢
      have HSt1 := Lib.hid hst1
      clear hst1
      by_cases hw : st1.writeE ((sa : Int) + 1) 128 = 0
      rotate_left
      · have hst : st1.write ((sa : Int) + 1) (sec s) = st1 := by unfold Dk.St.write; rw [HSl.out, if_neg hw]
        have HRs := Lib.hid (show RS = (st1, st1.writeE ((sa : Int) + 1) 128) by rw [HSw.out, if_pos hw])
        rw [hst] at hD3
        have HLf := Lib.hid (show Left lab d st1 w v3 from Left.pre HB1.out (Left.then_ HC2.out HLa2.out ⟨lab3, hD3, hC3, hLa3⟩))
        obtain ⟨we, hwe⟩ : ∃ we, we = st1.writeE ((sa : Int) + 1) 128 := ⟨_, rfl⟩
        rw [← hwe] at hw HRs ⊢
        have hwb : (we != 0) = true := by simpa using hw
        clear hw hst hD3 hC3 hLa3 hwe c0b
        go_wp2_with fail
        go_ret
        exact ⟨by rw [HRs.out]; rfl, by rw [HRs.out]; exact HLf.out⟩
      · rw [hw]
        have HSx := Lib.hid (HSw.out.trans (if_neg (by rw [hw]; simp)))
        have HD3 := Lib.hid hD3
        have HC3 := Lib.hid hC3
        have HLa3 := Lib.hid hLa3
        clear hw hD3 hC3 hLa3 c0b
        go_wp2_with fail
        rw [rounds_succ]
        go_wp2_with fail
        refine (flush_any (k + 2) v3 d lab3 _ HD3.out (low_write (by rw [HSt1.out]; exact low_write HLow.out _ _) _ _) (by omega)).mono ?_
        rintro e' v4 ⟨rfl, hL4⟩
        have HLf := Lib.hid (Left.pre HB1.out (Left.then_ HC2.out HLa2.out (Left.then_ HC3.out HLa3.out hL4)))
        clear hL4
        go_wp2_with fail
        go_ret
        exact ⟨by rw [HSx.out]; rfl, by rw [HSx.out]; exact HLf.out⟩
end Go.Proofs.Ytbdomhookjmmgaa
