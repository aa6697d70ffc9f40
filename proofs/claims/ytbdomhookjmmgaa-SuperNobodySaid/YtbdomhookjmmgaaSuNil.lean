/- Load, Mend and Save of a disk that nobody made. -/
import Derived.Test.YtbdomhookjmmgaaSuLoad
import Derived.Test.YtbdomhookjmmgaaSuSave
import Derived.Test.YtbdomhookjmmgaaSuR
import Derived.Test.YtbdomhookjmmgaaDkNil
namespace Go.Proofs.Ytbdomhookjmmgaa
open Go.RowKit Fr Su
set_option linter.unusedVariables false
set_option maxRecDepth 100000 in
set_option maxHeartbeats 2000000 in
theorem load_nod (n : Value) (w : World) (h : Nod w n) : Calls Try.prog 22 #[n] w fun e w' => e = .returned (.tuple #[.agg #[.int .i64 0, .int .i64 0, .int .i64 0, .int .i64 0, .slice none 0 0], .int .i64 4]) ∧ Below w.heap.size w w' := by
  have HN := Lib.hid (fun v (hv : Below w.heap.size w v) => nod_read n 0 v (h.below hv))
  have hB0 : Below w.heap.size w ((w.alloc (.cells #[.int .i64 0, .int .i64 0, .int .i64 0, .int .i64 0, .slice none 0 0] 26)).alloc (.cells #[.int .i64 0, .int .i64 0, .int .i64 0, .int .i64 0, .slice none 0 0] 26)) := by repeat (first | exact Below.refl _ _ | refine Below.alloc ?_ (by simp <;> omega) _)
  have hk0 := (Holds.new w #[.int .i64 0, .int .i64 0, .int .i64 0, .int .i64 0, .slice none 0 0] 26).alloc (.cells #[.int .i64 0, .int .i64 0, .int .i64 0, .int .i64 0, .slice none 0 0] 26)
  clear h
  go_enter Try.func22, Try.ntmps22
  go_wp2_with fail
  refine wp_scope_straight ?_
  go_wp2_with fail
  go_step3
  rename_i hk
  refine hk _ _ ?_
  clear hk
  go_wp2_with fail
  refine (HN.out _ hB0).mono ?_
  rintro e v ⟨rfl, rfl⟩
  generalize ((w.alloc (.cells #[.int .i64 0, .int .i64 0, .int .i64 0, .int .i64 0, .slice none 0 0] 26)).alloc (.cells #[.int .i64 0, .int .i64 0, .int .i64 0, .int .i64 0, .slice none 0 0] 26)) = V0 at *
  have zf0 := hk0.2.2 0
  have zf1 := hk0.2.2 1
  have zf2 := hk0.2.2 2
  have zf3 := hk0.2.2 3
  have zf4 := hk0.2.2 4
  have z0 := hk0.at_ 0 rfl
  have z1 := hk0.at_ 1 rfl
  have z2 := hk0.at_ 2 rfl
  have z3 := hk0.at_ 3 rfl
  have z4 := hk0.at_ 4 rfl
  have z9 := hk0.set5 (.int .i64 0) (.int .i64 0) (.int .i64 0) (.int .i64 0) (.slice none 0 0)
  have R0 := Lib.hid (z9.at_ 0 rfl)
  have R1 := Lib.hid (z9.at_ 1 rfl)
  have R2 := Lib.hid (z9.at_ 2 rfl)
  have R3 := Lib.hid (z9.at_ 3 rfl)
  have R4 := Lib.hid (z9.at_ 4 rfl)
  have HBf := Lib.hid (below_set5' hB0 (b := w.heap.size) (Nat.le_refl _) (.int .i64 0) (.int .i64 0) (.int .i64 0) (.int .i64 0) (.slice none 0 0))
  clear z9 hk0 hB0
  go_wp2_with fail
  try rw [Exit.noGoto_ret]
  generalize (((((V0.setCell ⟨w.heap.size, 0, none⟩ (.int .i64 0)).setCell ⟨w.heap.size, 1, none⟩ (.int .i64 0)).setCell ⟨w.heap.size, 2, none⟩ (.int .i64 0)).setCell ⟨w.heap.size, 3, none⟩ (.int .i64 0)).setCell ⟨w.heap.size, 4, none⟩ (.slice none 0 0)) = Wf at *
  refine bodyPost_ret (v := .tuple #[.agg #[.int .i64 0, .int .i64 0, .int .i64 0, .int .i64 0, .slice none 0 0], .int .i64 4]) (by simp [results, Try.results22, go_sem, R0.out, R1.out, R2.out, R3.out, R4.out]) rfl ?_
  exact ⟨rfl, HBf.out⟩
set_option maxRecDepth 100000 in
set_option maxHeartbeats 2000000 in
theorem mend_nod (n : Value) (w : World) (h : Nod w n) : Calls Try.prog 24 #[n] w fun e w' => e = .returned (.tuple #[.int .i64 0, .int .i64 4]) ∧ Below w.heap.size w w' := by
  have HN := Lib.hid (load_nod n w h)
  clear h
  go_enter Try.func24, Try.ntmps24
  go_wp2_with fail
  refine HN.out.mono ?_
  rintro e v ⟨rfl, hb⟩
  go_wp2_with fail
  go_ret2
  exact ⟨rfl, hb.alloc hb.size _⟩
set_option maxRecDepth 100000 in
set_option maxHeartbeats 2000000 in
theorem save_nod (n : Value) (s : S) (A : Option Addr) (c : Nat) (w : World) (h : Nod w n) (hr : RdC 2 w A s.ps.length (pv s.ps)) : Calls Try.prog 20 #[n, Su.val s A c] w fun e w' => e = .returned (.int .i64 (if Su.ok s = true then 4 else 50)) ∧ Below w.heap.size w w' := by
  have hB0 : Below w.heap.size w (w.alloc (.cells #[.int .i64 s.g, .int .i64 s.e, .int .i64 s.i, .int .i64 s.m, .slice A s.ps.length c] 26)) := (Below.refl _ _).alloc (Nat.le_refl _) _
  have hk0 := Holds.new w #[.int .i64 s.g, .int .i64 s.e, .int .i64 s.i, .int .i64 s.m, .slice A s.ps.length c] 26
  have HN := Lib.hid (fun v (hv : Below w.heap.size w v) i b => nod_write n i b v (h.below hv))
  have HE := Lib.hid (senc_any s A c _ (hr.below hB0))
  by_cases hok : Su.ok s = true
  · have e1 : encR s = 0 := by unfold encR; rw [if_pos hok]
    rw [if_pos hok]
    rw [e1] at HE
    obtain ⟨g, hg⟩ : ∃ g : Nat, s.g = (g : Int) := by obtain ⟨g, _, _, _, hg, _⟩ := ok_nat hok; exact ⟨g, hg⟩
    unfold Su.val at HE ⊢
    rw [hg] at HE hk0 hB0 ⊢
    clear h hr hok e1 hg
    go_enter Try.func20, Try.ntmps20
    go_wp2_with fail
    refine HE.out.mono ?_
    rintro e v1 ⟨A1, c1, rfl, hR1, hc1, hb1⟩
    have hB1 := hB0.trans (hb1.mono hB0.size)
    have c0 := (hk0.below hb1).at_ 0 rfl
    have HB1 := Lib.hid hB1
    clear hR1 hc1 hb1 hB1 hB0 hk0
    go_wp2_with fail
    refine wp_loop_rounds 3 ?_
    rw [rounds_succ]
    go_wp2_with fail
    refine (HN.out _ HB1.out _ _).mono ?_
    rintro e v ⟨rfl, rfl⟩
    go_wp2_with fail
    go_ret
    exact ⟨rfl, HB1.out⟩
  · have e1 : encR s = 50 := by unfold encR; rw [if_neg hok]
    rw [if_neg hok]
    rw [e1] at HE
    unfold Su.val at HE ⊢
    clear h hr hok e1
    go_enter Try.func20, Try.ntmps20
    go_wp2_with fail
    refine HE.out.mono ?_
    rintro e v1 ⟨A1, c1, rfl, hR1, hc1, hb1⟩
    have HB1 := Lib.hid (hB0.trans (hb1.mono hB0.size))
    clear hR1 hc1 hb1 hB0 hk0
    go_wp2_with fail
    go_ret
    exact ⟨rfl, HB1.out⟩
end Go.Proofs.Ytbdomhookjmmgaa
