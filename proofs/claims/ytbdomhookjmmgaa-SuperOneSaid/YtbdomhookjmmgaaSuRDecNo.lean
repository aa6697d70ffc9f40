/- The document's Decode: bytes that are no superblock's frame. -/
import Derived.Test.YtbdomhookjmmgaaSuCutP
namespace Go.Proofs.Ytbdomhookjmmgaa
open Go.RowKit Fr Su
set_option linter.unusedVariables false
set_option maxRecDepth 100000 in
set_option maxHeartbeats 4000000 in
theorem srdecode_none (A : Option Addr) (n c : Nat) (f e i k : Int) (p : List Nat) (r : Int) (w : World) (P8 : Nat) (h8 : 9 ≤ p.length → p[8]? = some P8 ∧ P8 < 256) (hpl : p.length ≤ 108)
    (hd : ∀ v, Below w.heap.size w v → Calls Try.prog 55 #[.slice A n c] v (GivesDec v f e i k p r))
    (hno : ¬ (r = 0 ∧ k = 1 ∧ f = 0 ∧ 9 ≤ p.length ∧ p.length = 9 + 4 * P8)) : Calls Try.prog 16 #[.slice A n c] w (GivesSu w none_ 50) := by
  have HO := Lib.hid hd
  have hB0 : Below w.heap.size w (w.alloc (.cells #[.int .i64 0, .int .i64 0, .int .i64 0, .int .i64 0, .slice none 0 0] 26)) := (Below.refl _ _).alloc (Nat.le_refl _) _
  have hk0 := Holds.new w #[.int .i64 0, .int .i64 0, .int .i64 0, .int .i64 0, .slice none 0 0] 26
  obtain ⟨PL, hPL⟩ : ∃ PL, PL = p.length := ⟨_, rfl⟩
  rw [← hPL] at h8 hno hpl
  have HPL := Lib.hid hPL
  clear hd hPL
  have key : ¬ r = 0 ∨ (r = 0 ∧ ¬ k = 1) ∨ (r = 0 ∧ k = 1 ∧ ¬ f = 0) ∨ (r = 0 ∧ k = 1 ∧ f = 0 ∧ PL < 9) ∨ (r = 0 ∧ k = 1 ∧ f = 0 ∧ 9 ≤ PL ∧ ¬ PL = 9 + 4 * P8) := by
    by_cases c1 : r = 0
    · by_cases c2 : k = 1
      · by_cases c3 : f = 0
        · by_cases c4 : PL < 9
          · exact .inr (.inr (.inr (.inl ⟨c1, c2, c3, c4⟩)))
          · exact .inr (.inr (.inr (.inr ⟨c1, c2, c3, by omega, fun h => hno ⟨c1, c2, c3, by omega, h⟩⟩)))
        · exact .inr (.inr (.inl ⟨c1, c2, c3⟩))
      · exact .inr (.inl ⟨c1, c2⟩)
    · exact .inl c1
  clear hno
  rcases key with q1 | ⟨rfl, q2⟩ | ⟨rfl, rfl, q3⟩ | ⟨rfl, rfl, rfl, q4⟩ | ⟨rfl, rfl, rfl, q5, q6⟩
  · have q1b : (r != 0) = true := by simpa using q1
    go_enter Try.func16, Try.ntmps16
    go_wp2_with fail
    refine (HO.out _ hB0).mono ?_
    rintro x v1 ⟨A1, c1, rfl, hR1, hb1⟩
    rw [← HPL.out] at hR1 ⊢
    have hkW := (hk0.below hb1).alloc (.cells #[.int .i64 f, .int .i64 e, .int .i64 i] 96)
    have hBW := (hB0.trans (hb1.mono hB0.size)).alloc (by have := hB0.size; have := hb1.size; omega) (.cells #[.int .i64 f, .int .i64 e, .int .i64 i] 96)
    have y0 := (Holds.new v1 #[.int .i64 f, .int .i64 e, .int .i64 i] 96).at_ 0 rfl
    clear hk0 hB0 hb1 hR1
    go_upto_region 2 with fail
    generalize v1.alloc (.cells #[.int .i64 f, .int .i64 e, .int .i64 i] 96) = W at *
    generalize v1.heap.size = g1 at *
    have zf0 := hkW.2.2 0
    have zz0 := hkW.at_ 0 rfl
    have zf1 := hkW.2.2 1
    have zz1 := hkW.at_ 1 rfl
    have zf2 := hkW.2.2 2
    have zz2 := hkW.at_ 2 rfl
    have zf3 := hkW.2.2 3
    have zz3 := hkW.at_ 3 rfl
    have zf4 := hkW.2.2 4
    have zz4 := hkW.at_ 4 rfl
    have z9 := hkW.set5 (.int .i64 0) (.int .i64 0) (.int .i64 0) (.int .i64 0) (.slice none 0 0)
    have R0 := Lib.hid (z9.at_ 0 rfl)
    have R1 := Lib.hid (z9.at_ 1 rfl)
    have R2 := Lib.hid (z9.at_ 2 rfl)
    have R3 := Lib.hid (z9.at_ 3 rfl)
    have R4 := Lib.hid (z9.at_ 4 rfl)
    have HBf := Lib.hid (below_set5' hBW (b := w.heap.size) (Nat.le_refl _) (.int .i64 0) (.int .i64 0) (.int .i64 0) (.int .i64 0) (.slice none 0 0))
    clear z9 hkW hBW
    go_wp2_with fail
    generalize (((((W.setCell ⟨w.heap.size, 0, none⟩ (.int .i64 0)).setCell ⟨w.heap.size, 1, none⟩ (.int .i64 0)).setCell ⟨w.heap.size, 2, none⟩ (.int .i64 0)).setCell ⟨w.heap.size, 3, none⟩ (.int .i64 0)).setCell ⟨w.heap.size, 4, none⟩ (.slice none 0 0)) = Wf at *
    refine bodyPost_ret (v := .tuple #[.agg #[.int .i64 0, .int .i64 0, .int .i64 0, .int .i64 0, .slice none 0 0], .int .i64 50]) (by simp [results, Try.results16, go_sem, R0.out, R1.out, R2.out, R3.out, R4.out]) rfl ?_
    exact ⟨none, 0, rfl, RdC.nil _ _ _, fun b o h => (by cases h), HBf.out⟩
  · have q2b : (k != 1) = true := by simpa using q2
    go_enter Try.func16, Try.ntmps16
    go_wp2_with fail
    refine (HO.out _ hB0).mono ?_
    rintro x v1 ⟨A1, c1, rfl, hR1, hb1⟩
    rw [← HPL.out] at hR1 ⊢
    have hkW := (hk0.below hb1).alloc (.cells #[.int .i64 f, .int .i64 e, .int .i64 i] 96)
    have hBW := (hB0.trans (hb1.mono hB0.size)).alloc (by have := hB0.size; have := hb1.size; omega) (.cells #[.int .i64 f, .int .i64 e, .int .i64 i] 96)
    have y0 := (Holds.new v1 #[.int .i64 f, .int .i64 e, .int .i64 i] 96).at_ 0 rfl
    clear hk0 hB0 hb1 hR1
    go_upto_region 2 with fail
    generalize v1.alloc (.cells #[.int .i64 f, .int .i64 e, .int .i64 i] 96) = W at *
    generalize v1.heap.size = g1 at *
    have zf0 := hkW.2.2 0
    have zz0 := hkW.at_ 0 rfl
    have zf1 := hkW.2.2 1
    have zz1 := hkW.at_ 1 rfl
    have zf2 := hkW.2.2 2
    have zz2 := hkW.at_ 2 rfl
    have zf3 := hkW.2.2 3
    have zz3 := hkW.at_ 3 rfl
    have zf4 := hkW.2.2 4
    have zz4 := hkW.at_ 4 rfl
    have z9 := hkW.set5 (.int .i64 0) (.int .i64 0) (.int .i64 0) (.int .i64 0) (.slice none 0 0)
    have R0 := Lib.hid (z9.at_ 0 rfl)
    have R1 := Lib.hid (z9.at_ 1 rfl)
    have R2 := Lib.hid (z9.at_ 2 rfl)
    have R3 := Lib.hid (z9.at_ 3 rfl)
    have R4 := Lib.hid (z9.at_ 4 rfl)
    have HBf := Lib.hid (below_set5' hBW (b := w.heap.size) (Nat.le_refl _) (.int .i64 0) (.int .i64 0) (.int .i64 0) (.int .i64 0) (.slice none 0 0))
    clear z9 hkW hBW
    go_wp2_with fail
    generalize (((((W.setCell ⟨w.heap.size, 0, none⟩ (.int .i64 0)).setCell ⟨w.heap.size, 1, none⟩ (.int .i64 0)).setCell ⟨w.heap.size, 2, none⟩ (.int .i64 0)).setCell ⟨w.heap.size, 3, none⟩ (.int .i64 0)).setCell ⟨w.heap.size, 4, none⟩ (.slice none 0 0)) = Wf at *
    refine bodyPost_ret (v := .tuple #[.agg #[.int .i64 0, .int .i64 0, .int .i64 0, .int .i64 0, .slice none 0 0], .int .i64 50]) (by simp [results, Try.results16, go_sem, R0.out, R1.out, R2.out, R3.out, R4.out]) rfl ?_
    exact ⟨none, 0, rfl, RdC.nil _ _ _, fun b o h => (by cases h), HBf.out⟩
  · have q3b : (f != 0) = true := by simpa using q3
    go_enter Try.func16, Try.ntmps16
    go_wp2_with fail
    refine (HO.out _ hB0).mono ?_
    rintro x v1 ⟨A1, c1, rfl, hR1, hb1⟩
    rw [← HPL.out] at hR1 ⊢
    have hkW := (hk0.below hb1).alloc (.cells #[.int .i64 f, .int .i64 e, .int .i64 i] 96)
    have hBW := (hB0.trans (hb1.mono hB0.size)).alloc (by have := hB0.size; have := hb1.size; omega) (.cells #[.int .i64 f, .int .i64 e, .int .i64 i] 96)
    have y0 := (Holds.new v1 #[.int .i64 f, .int .i64 e, .int .i64 i] 96).at_ 0 rfl
    clear hk0 hB0 hb1 hR1
    go_upto_region 2 with fail
    generalize v1.alloc (.cells #[.int .i64 f, .int .i64 e, .int .i64 i] 96) = W at *
    generalize v1.heap.size = g1 at *
    have zf0 := hkW.2.2 0
    have zz0 := hkW.at_ 0 rfl
    have zf1 := hkW.2.2 1
    have zz1 := hkW.at_ 1 rfl
    have zf2 := hkW.2.2 2
    have zz2 := hkW.at_ 2 rfl
    have zf3 := hkW.2.2 3
    have zz3 := hkW.at_ 3 rfl
    have zf4 := hkW.2.2 4
    have zz4 := hkW.at_ 4 rfl
    have z9 := hkW.set5 (.int .i64 0) (.int .i64 0) (.int .i64 0) (.int .i64 0) (.slice none 0 0)
    have R0 := Lib.hid (z9.at_ 0 rfl)
    have R1 := Lib.hid (z9.at_ 1 rfl)
    have R2 := Lib.hid (z9.at_ 2 rfl)
    have R3 := Lib.hid (z9.at_ 3 rfl)
    have R4 := Lib.hid (z9.at_ 4 rfl)
    have HBf := Lib.hid (below_set5' hBW (b := w.heap.size) (Nat.le_refl _) (.int .i64 0) (.int .i64 0) (.int .i64 0) (.int .i64 0) (.slice none 0 0))
    clear z9 hkW hBW
    go_wp2_with fail
    generalize (((((W.setCell ⟨w.heap.size, 0, none⟩ (.int .i64 0)).setCell ⟨w.heap.size, 1, none⟩ (.int .i64 0)).setCell ⟨w.heap.size, 2, none⟩ (.int .i64 0)).setCell ⟨w.heap.size, 3, none⟩ (.int .i64 0)).setCell ⟨w.heap.size, 4, none⟩ (.slice none 0 0)) = Wf at *
    refine bodyPost_ret (v := .tuple #[.agg #[.int .i64 0, .int .i64 0, .int .i64 0, .int .i64 0, .slice none 0 0], .int .i64 50]) (by simp [results, Try.results16, go_sem, R0.out, R1.out, R2.out, R3.out, R4.out]) rfl ?_
    exact ⟨none, 0, rfl, RdC.nil _ _ _, fun b o h => (by cases h), HBf.out⟩
  · have q4i : (PL : Int) < 9 := by omega
    go_enter Try.func16, Try.ntmps16
    go_wp2_with fail
    refine (HO.out _ hB0).mono ?_
    rintro x v1 ⟨A1, c1, rfl, hR1, hb1⟩
    rw [← HPL.out] at hR1 ⊢
    have hkW := (hk0.below hb1).alloc (.cells #[.int .i64 0, .int .i64 e, .int .i64 i] 96)
    have hBW := (hB0.trans (hb1.mono hB0.size)).alloc (by have := hB0.size; have := hb1.size; omega) (.cells #[.int .i64 0, .int .i64 e, .int .i64 i] 96)
    have y0 := (Holds.new v1 #[.int .i64 0, .int .i64 e, .int .i64 i] 96).at_ 0 rfl
    clear hk0 hB0 hb1 hR1
    go_upto_region 2 with fail
    generalize v1.alloc (.cells #[.int .i64 0, .int .i64 e, .int .i64 i] 96) = W at *
    generalize v1.heap.size = g1 at *
    have zf0 := hkW.2.2 0
    have zz0 := hkW.at_ 0 rfl
    have zf1 := hkW.2.2 1
    have zz1 := hkW.at_ 1 rfl
    have zf2 := hkW.2.2 2
    have zz2 := hkW.at_ 2 rfl
    have zf3 := hkW.2.2 3
    have zz3 := hkW.at_ 3 rfl
    have zf4 := hkW.2.2 4
    have zz4 := hkW.at_ 4 rfl
    have z9 := hkW.set5 (.int .i64 0) (.int .i64 0) (.int .i64 0) (.int .i64 0) (.slice none 0 0)
    have R0 := Lib.hid (z9.at_ 0 rfl)
    have R1 := Lib.hid (z9.at_ 1 rfl)
    have R2 := Lib.hid (z9.at_ 2 rfl)
    have R3 := Lib.hid (z9.at_ 3 rfl)
    have R4 := Lib.hid (z9.at_ 4 rfl)
    have HBf := Lib.hid (below_set5' hBW (b := w.heap.size) (Nat.le_refl _) (.int .i64 0) (.int .i64 0) (.int .i64 0) (.int .i64 0) (.slice none 0 0))
    clear z9 hkW hBW
    go_wp2_with fail
    generalize (((((W.setCell ⟨w.heap.size, 0, none⟩ (.int .i64 0)).setCell ⟨w.heap.size, 1, none⟩ (.int .i64 0)).setCell ⟨w.heap.size, 2, none⟩ (.int .i64 0)).setCell ⟨w.heap.size, 3, none⟩ (.int .i64 0)).setCell ⟨w.heap.size, 4, none⟩ (.slice none 0 0)) = Wf at *
    refine bodyPost_ret (v := .tuple #[.agg #[.int .i64 0, .int .i64 0, .int .i64 0, .int .i64 0, .slice none 0 0], .int .i64 50]) (by simp [results, Try.results16, go_sem, R0.out, R1.out, R2.out, R3.out, R4.out]) rfl ?_
    exact ⟨none, 0, rfl, RdC.nil _ _ _, fun b o h => (by cases h), HBf.out⟩
  · obtain ⟨h81, h82⟩ := h8 q5
    have q5i : ¬ (PL : Int) < 9 := by omega
    have q5j : (8 : Int) < (PL : Int) := by omega
    have q6b : ((PL : Int) != 9 + 4 * (P8 : Int)) = true := by simpa using (by omega : ¬ (PL : Int) = 9 + 4 * (P8 : Int))
    go_enter Try.func16, Try.ntmps16
    go_wp2_with fail
    refine (HO.out _ hB0).mono ?_
    rintro x v1 ⟨A1, c1, rfl, hR1, hb1⟩
    rw [← HPL.out] at hR1 ⊢
    obtain ⟨b, q, rfl, hbl, hcb⟩ := hR1.2.2 (by omega)
    have y8 := ((Below.refl v1.heap.size v1).alloc (Nat.le_refl _) (.cells #[.int .i64 0, .int .i64 e, .int .i64 i] 96)).cell (p := ⟨b, q + 8, none⟩) hbl |>.trans (hcb 8 P8 h81)
    clear hcb
    have hkW := (hk0.below hb1).alloc (.cells #[.int .i64 0, .int .i64 e, .int .i64 i] 96)
    have hBW := (hB0.trans (hb1.mono hB0.size)).alloc (by have := hB0.size; have := hb1.size; omega) (.cells #[.int .i64 0, .int .i64 e, .int .i64 i] 96)
    have y0 := (Holds.new v1 #[.int .i64 0, .int .i64 e, .int .i64 i] 96).at_ 0 rfl
    clear hk0 hB0 hb1 hR1
    go_upto_region 2 with fail
    generalize v1.alloc (.cells #[.int .i64 0, .int .i64 e, .int .i64 i] 96) = W at *
    generalize v1.heap.size = g1 at *
    have zf0 := hkW.2.2 0
    have zz0 := hkW.at_ 0 rfl
    have zf1 := hkW.2.2 1
    have zz1 := hkW.at_ 1 rfl
    have zf2 := hkW.2.2 2
    have zz2 := hkW.at_ 2 rfl
    have zf3 := hkW.2.2 3
    have zz3 := hkW.at_ 3 rfl
    have zf4 := hkW.2.2 4
    have zz4 := hkW.at_ 4 rfl
    have z9 := hkW.set5 (.int .i64 0) (.int .i64 0) (.int .i64 0) (.int .i64 0) (.slice none 0 0)
    have R0 := Lib.hid (z9.at_ 0 rfl)
    have R1 := Lib.hid (z9.at_ 1 rfl)
    have R2 := Lib.hid (z9.at_ 2 rfl)
    have R3 := Lib.hid (z9.at_ 3 rfl)
    have R4 := Lib.hid (z9.at_ 4 rfl)
    have HBf := Lib.hid (below_set5' hBW (b := w.heap.size) (Nat.le_refl _) (.int .i64 0) (.int .i64 0) (.int .i64 0) (.int .i64 0) (.slice none 0 0))
    clear z9 hkW hBW
    go_wp2_with fail
    generalize (((((W.setCell ⟨w.heap.size, 0, none⟩ (.int .i64 0)).setCell ⟨w.heap.size, 1, none⟩ (.int .i64 0)).setCell ⟨w.heap.size, 2, none⟩ (.int .i64 0)).setCell ⟨w.heap.size, 3, none⟩ (.int .i64 0)).setCell ⟨w.heap.size, 4, none⟩ (.slice none 0 0)) = Wf at *
    refine bodyPost_ret (v := .tuple #[.agg #[.int .i64 0, .int .i64 0, .int .i64 0, .int .i64 0, .slice none 0 0], .int .i64 50]) (by simp [results, Try.results16, go_sem, R0.out, R1.out, R2.out, R3.out, R4.out]) rfl ?_
    exact ⟨none, 0, rfl, RdC.nil _ _ _, fun b o h => (by cases h), HBf.out⟩
end Go.Proofs.Ytbdomhookjmmgaa
