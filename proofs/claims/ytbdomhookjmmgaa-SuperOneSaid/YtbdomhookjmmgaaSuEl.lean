/- elder: a superblock of the Gen one lower. The elder may be. -/
import Derived.Test.YtbdomhookjmmgaaSuW
import Derived.Test.YtbdomhookjmmgaaSuR
namespace Go.Proofs.Ytbdomhookjmmgaa
open Go.RowKit Fr Su
set_option linter.unusedVariables false
namespace Su
def elder (s : S) (gen : Int) : S := if Su.ok { Su.light s with g := gen } = true then { Su.light s with g := gen } else { Su.ex with g := gen }
end Su
set_option maxRecDepth 100000 in
theorem field_man (a b c d e : Value) (w : World) : (Instr.field 26 (.agg #[a, b, c, d, e]) 2).run Try.prog w = .ok (.agg #[c, d, e]) w := by
  rfl
theorem one_new (w : World) : Calls Try.prog 52 #[] w fun e w' => ∃ b c, e = .returned (.agg #[.int .i64 1, .int .i64 1, .int .i64 1, .int .i64 1, .slice (some ⟨b, 0, none⟩) 1 c]) ∧ w.heap.size ≤ b ∧ RdC 2 w' (some ⟨b, 0, none⟩) 1 (pv Su.ex.ps) ∧ Below w.heap.size w w' := by
  unfold Su.ex
  go_enter Try.func52, Try.ntmps52
  go_wp2_with fail
  refine bodyPost_ret (v := .agg #[.int .i64 1, .int .i64 1, .int .i64 1, .int .i64 1, .slice (some ⟨w.heap.size + 1, 0, none⟩) 1 1]) (by simp [results, Try.results52, go_sem]) rfl ?_
  refine ⟨w.heap.size + 1, 1, rfl, by omega, ?_, (by repeat (first | exact Below.refl _ _ | refine Below.setCell ?_ (by simp) _ | refine Below.alloc ?_ (by simp <;> omega) _))⟩
  have := rdc_two (w.alloc (.cells #[.int .i64 1, .int .i64 1, .int .i64 1, .int .i64 1, .slice (some ⟨w.heap.size + 1, 0, none⟩) 1 1] 26)) (.int .i64 0) (.int .i64 1) 93
  rw [show pv [(0, 1)] = [.int .i64 0, .int .i64 1] from rfl]
  simpa using this
set_option maxRecDepth 100000 in
set_option maxHeartbeats 4000000 in
theorem elder_any (s : S) (gen : Int) (A : Option Addr) (c : Nat) (w : World) (hc : s.ps.length ≤ c) (hbig : s.ps.length ≤ 9223372036854775807) (hr : RdC 2 w A s.ps.length (pv s.ps)) :
    Calls Try.prog 44 #[Su.val s A c, .int .i64 gen] w fun e w' => ∃ A1 c1, e = .returned (Su.val (Su.elder s gen) A1 c1) ∧ RdC 2 w' A1 (Su.elder s gen).ps.length (pv (Su.elder s gen).ps) ∧ Below w.heap.size w w' := by
  have HC := Lib.hid (light_any s A c)
  have HR := Lib.hid (fun v (hb : Below w.heap.size w v) => rd_light (hr.below hb) rfl)
  have HE := Lib.hid hc
  have HE2 := Lib.hid hbig
  obtain ⟨RS, hRS⟩ : ∃ RS, RS = Su.elder s gen := ⟨_, rfl⟩
  rw [← hRS]
  unfold Su.elder at hRS
  obtain ⟨⟨lg, le, li, lm, lp⟩, hl⟩ : ∃ t, t = Su.light s := ⟨_, rfl⟩
  rw [← hl] at hRS HC
  rw [show List.take 10 s.ps = lp from (congrArg S.ps hl).symm] at HR
  simp only at hRS HC HR
  have HRS := Lib.hid hRS
  unfold Su.val at HC ⊢
  clear hl hRS hc hbig hr
  go_enter Try.func44, Try.ntmps44
  have hB : ∀ x tx y ty, Below w.heap.size w ((w.alloc (.cells x tx)).alloc (.cells y ty)) := fun x tx y ty => by repeat (first | exact Below.refl _ _ | refine Below.alloc ?_ (by simp <;> omega) _)
  go_wp2_with fail
  refine (HC.out _ HE.out HE2.out).mono ?_
  rintro e' v1 ⟨rfl, hb1⟩
  have hk1 := ((Holds.new w #[.int .i64 s.g, .int .i64 s.e, .int .i64 s.i, .int .i64 s.m, .slice A s.ps.length c] 26).alloc (.cells #[.int .i64 0, .int .i64 0, .int .i64 0, .int .i64 0, .slice none 0 0] 26)).below hb1
  have hk2 := Holds.below (Holds.new (w.alloc (.cells #[.int .i64 s.g, .int .i64 s.e, .int .i64 s.i, .int .i64 s.m, .slice A s.ps.length c] 26)) #[.int .i64 0, .int .i64 0, .int .i64 0, .int .i64 0, .slice none 0 0] 26) hb1
  have hB1 := (hB #[.int .i64 s.g, .int .i64 s.e, .int .i64 s.i, .int .i64 s.m, .slice A s.ps.length c] 26 #[.int .i64 0, .int .i64 0, .int .i64 0, .int .i64 0, .slice none 0 0] 26).trans (hb1.mono (hB _ _ _ _).size)
  rw [show (w.alloc (.cells #[.int .i64 s.g, .int .i64 s.e, .int .i64 s.i, .int .i64 s.m, .slice A s.ps.length c] 26)).heap.size = w.heap.size + 1 by simp] at hk2
  have z5 := hk1.set5 (.int .i64 lg) (.int .i64 le) (.int .i64 li) (.int .i64 lm) (.slice A lp.length c)
  have z6 := z5.set 0 (.int .i64 gen) (by simp)
  have HB6 := Lib.hid ((below_set5' hB1 (b := w.heap.size) (Nat.le_refl _) (.int .i64 lg) (.int .i64 le) (.int .i64 li) (.int .i64 lm) (.slice A lp.length c)).setCell (p := ⟨w.heap.size, 0, none⟩) (Nat.le_refl _) (.int .i64 gen))
  have zk2 := (((((hk2.other (b := w.heap.size) (i := 0) (v := .int .i64 lg) (by omega)).other (b := w.heap.size) (i := 1) (v := .int .i64 le) (by omega)).other (b := w.heap.size) (i := 2) (v := .int .i64 li) (by omega)).other (b := w.heap.size) (i := 3) (v := .int .i64 lm) (by omega)).other (b := w.heap.size) (i := 4) (v := .slice A lp.length c) (by omega)).other (b := w.heap.size) (i := 0) (v := .int .i64 gen) (by omega)
  have f0 := hk1.2.2 0
  have y0 := hk1.at_ 0 rfl
  have f1 := hk1.2.2 1
  have y1 := hk1.at_ 1 rfl
  have f2 := hk1.2.2 2
  have y2 := hk1.at_ 2 rfl
  have f3 := hk1.2.2 3
  have y3 := hk1.at_ 3 rfl
  have f4 := hk1.2.2 4
  have y4 := hk1.at_ 4 rfl
  have g0 := z5.2.2 0
  have x0 := z5.at_ 0 rfl
  have u0 := z6.at_ 0 rfl
  have u1 := z6.at_ 1 rfl
  have u2 := z6.at_ 2 rfl
  have u3 := z6.at_ 3 rfl
  have u4 := z6.at_ 4 rfl
  have HK1 := Lib.hid z6
  have HK2 := Lib.hid zk2
  clear hb1 hB hk1 hk2 z5 z6 zk2 hB1
  go_wp2_with fail
  clear f0 y0 f1 y1 f2 y2 f3 y3 f4 y4 g0 x0 u0 u1 u2 u3 u4
  generalize ((((((v1.setCell ⟨w.heap.size, 0, none⟩ (.int .i64 lg)).setCell ⟨w.heap.size, 1, none⟩ (.int .i64 le)).setCell ⟨w.heap.size, 2, none⟩ (.int .i64 li)).setCell ⟨w.heap.size, 3, none⟩ (.int .i64 lm)).setCell ⟨w.heap.size, 4, none⟩ (.slice A lp.length c)).setCell ⟨w.heap.size, 0, none⟩ (.int .i64 gen)) = W6 at *
  refine (is_any ⟨gen, le, li, lm, lp⟩ A c _ (HR.out _ HB6.out)).mono ?_
  rintro e' w2 ⟨rfl, hb2⟩
  have hk1 := HK1.out.below hb2
  have hk2 := HK2.out.below hb2
  have hB2 := HB6.out.trans (hb2.mono HB6.out.size)
  clear hb2
  by_cases hok : Su.ok ⟨gen, le, li, lm, lp⟩ = true
  · have HQ := Lib.hid (show RS = ⟨gen, le, li, lm, lp⟩ by rw [HRS.out, if_pos hok])
    have u0 := hk1.at_ 0 rfl
    have u1 := hk1.at_ 1 rfl
    have u2 := hk1.at_ 2 rfl
    have u3 := hk1.at_ 3 rfl
    have u4 := hk1.at_ 4 rfl
    have HRd := Lib.hid (fun v (hb : Below w.heap.size w v) => HR.out v hb)
    rw [hok]
    clear hok hk1 HRS
    have f0 := hk2.2.2 0
    have y0 := hk2.at_ 0 rfl
    have f1 := hk2.2.2 1
    have y1 := hk2.at_ 1 rfl
    have f2 := hk2.2.2 2
    have y2 := hk2.at_ 2 rfl
    have f3 := hk2.2.2 3
    have y3 := hk2.at_ 3 rfl
    have f4 := hk2.2.2 4
    have y4 := hk2.at_ 4 rfl
    have z9 := hk2.set5 (.int .i64 gen) (.int .i64 le) (.int .i64 li) (.int .i64 lm) (.slice A lp.length c)
    have R0 := Lib.hid (z9.at_ 0 rfl)
    have R1 := Lib.hid (z9.at_ 1 rfl)
    have R2 := Lib.hid (z9.at_ 2 rfl)
    have R3 := Lib.hid (z9.at_ 3 rfl)
    have R4 := Lib.hid (z9.at_ 4 rfl)
    have HBf := Lib.hid (below_set5' hB2 (b := w.heap.size + 1) (by omega) (.int .i64 gen) (.int .i64 le) (.int .i64 li) (.int .i64 lm) (.slice A lp.length c))
    clear z9 hk2
    go_wp2_with fail
    generalize (((((w2.setCell ⟨w.heap.size + 1, 0, none⟩ (.int .i64 gen)).setCell ⟨w.heap.size + 1, 1, none⟩ (.int .i64 le)).setCell ⟨w.heap.size + 1, 2, none⟩ (.int .i64 li)).setCell ⟨w.heap.size + 1, 3, none⟩ (.int .i64 lm)).setCell ⟨w.heap.size + 1, 4, none⟩ (.slice A lp.length c)) = Wf at *
    refine bodyPost_ret (v := .agg #[.int .i64 gen, .int .i64 le, .int .i64 li, .int .i64 lm, .slice A lp.length c]) (by simp [results, Try.results44, go_sem, R0.out, R1.out, R2.out, R3.out, R4.out]) rfl ?_
    exact ⟨A, c, by rw [HQ.out], by rw [HQ.out]; exact HRd.out _ HBf.out, HBf.out⟩
  · have HQ := Lib.hid (show RS = { Su.ex with g := gen } by rw [HRS.out, if_neg hok])
    rw [Bool.not_eq_true] at hok
    rw [hok]
    have HB2 := Lib.hid hB2
    have HK := Lib.hid hk2
    clear hok hk1 hk2 hB2 HRS
    go_wp2_with fail
    refine (one_new w2).mono ?_
    rintro e' w3 ⟨b1, c1, rfl, hn3, hr3, hb3⟩
    have hk2 := HK.out.below hb3
    have HB3 := Lib.hid (HB2.out.trans (hb3.mono HB2.out.size))
    have HR3 := Lib.hid hr3
    clear hb3 hr3
    have f0 := hk2.2.2 0
    have y0 := hk2.at_ 0 rfl
    have f1 := hk2.2.2 1
    have y1 := hk2.at_ 1 rfl
    have f2 := hk2.2.2 2
    have y2 := hk2.at_ 2 rfl
    have f3 := hk2.2.2 3
    have y3 := hk2.at_ 3 rfl
    have f4 := hk2.2.2 4
    have y4 := hk2.at_ 4 rfl
    have z9 := hk2.set5 (.int .i64 gen) (.int .i64 1) (.int .i64 1) (.int .i64 1) (.slice (some ⟨b1, 0, none⟩) 1 c1)
    have R0 := Lib.hid (z9.at_ 0 rfl)
    have R1 := Lib.hid (z9.at_ 1 rfl)
    have R2 := Lib.hid (z9.at_ 2 rfl)
    have R3 := Lib.hid (z9.at_ 3 rfl)
    have R4 := Lib.hid (z9.at_ 4 rfl)
    have HBf := Lib.hid (below_set5' HB3.out (b := w.heap.size + 1) (by omega) (.int .i64 gen) (.int .i64 1) (.int .i64 1) (.int .i64 1) (.slice (some ⟨b1, 0, none⟩) 1 c1))
    have HRz := Lib.hid (HR3.out.other5 (b := w.heap.size + 1) (fun g o e => by injection e with e; injection e with e1 _; have := HK.out.1; omega) (.int .i64 gen) (.int .i64 1) (.int .i64 1) (.int .i64 1) (.slice (some ⟨b1, 0, none⟩) 1 c1))
    clear z9 hk2
    have hfm := field_man (.int .i64 1) (.int .i64 1) (.int .i64 1) (.int .i64 1) (.slice (some ⟨b1, 0, none⟩) 1 c1) w3
    go_wp2_with fail
    generalize (((((w3.setCell ⟨w.heap.size + 1, 0, none⟩ (.int .i64 gen)).setCell ⟨w.heap.size + 1, 1, none⟩ (.int .i64 1)).setCell ⟨w.heap.size + 1, 2, none⟩ (.int .i64 1)).setCell ⟨w.heap.size + 1, 3, none⟩ (.int .i64 1)).setCell ⟨w.heap.size + 1, 4, none⟩ (.slice (some ⟨b1, 0, none⟩) 1 c1)) = Wf at *
    refine bodyPost_ret (v := .agg #[.int .i64 gen, .int .i64 1, .int .i64 1, .int .i64 1, .slice (some ⟨b1, 0, none⟩) 1 c1]) (by simp [results, Try.results44, go_sem, R0.out, R1.out, R2.out, R3.out, R4.out]) rfl ?_
    exact ⟨some ⟨b1, 0, none⟩, c1, by rw [HQ.out]; rfl, by rw [HQ.out]; exact HRz.out, HBf.out⟩
end Go.Proofs.Ytbdomhookjmmgaa
namespace Go.Proofs.Ytbdomhookjmmgaa
open Go.RowKit Fr Su
set_option linter.unusedVariables false
namespace Su
theorem ex_any {gen : Int} (h1 : 1 ≤ gen) (h2 : gen ≤ 2147483647) : Su.ok { Su.ex with g := gen } = true := by
  have h := ok_iff.1 ex_ok
  refine ok_iff.2 ⟨?_, h.2⟩
  have k := okH_iff.1 h.1
  exact okH_iff.2 ⟨h1, h2, k.2.2⟩
theorem elder_ok (s : S) {gen : Int} (h1 : 1 ≤ gen) (h2 : gen ≤ 2147483647) : Su.ok (Su.elder s gen) = true ∧ (Su.elder s gen).g = gen ∧ (Su.elder s gen).ps.length ≤ 1000 := by
  unfold Su.elder
  split
  · rename_i h
    refine ⟨h, rfl, ?_⟩
    have := light_len s
    simp only
    omega
  · exact ⟨ex_any h1 h2, rfl, by simp [Su.ex]⟩
end Su
end Go.Proofs.Ytbdomhookjmmgaa
