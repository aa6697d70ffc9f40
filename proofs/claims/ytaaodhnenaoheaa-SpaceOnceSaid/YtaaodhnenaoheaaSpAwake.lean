/- Maps that nobody made; Take where there is too little; Fork; the chapter's example. -/
import Derived.Test.YtaaodhnenaoheaaSpTake
import Derived.Test.YtaaodhnenaoheaaSpaceNew
namespace Go.Proofs.Ytaaodhnenaoheaa
open Go.RowKit Sp
set_option linter.unusedVariables false
theorem eight {xs : List Nat} (h : xs.length = 8) : ∃ x0 x1 x2 x3 x4 x5 x6 x7, xs = [x0, x1, x2, x3, x4, x5, x6, x7] := by
  match xs, h with
  | [a, b, c, d, e, f, g, i], _ => exact ⟨a, b, c, d, e, f, g, i, rfl⟩
/-- Nothing, and this error. -/
abbrev NonePlots (w : World) (c : Int) (e : Ending) (w' : World) : Prop := e = .returned (.tuple #[.slice none 0 0, .int .i64 c]) ∧ Below w.heap.size w w'
set_option maxRecDepth 100000 in
theorem take_arg (b : Nat) (T : List Bool) (m : Int) (w : World) (h : MapAt w b T) (hm : m < 0 ∨ 64 < m) : Calls Try.prog 21 #[.pointer (some ⟨b, 0, none⟩), .int .i64 m] w (NonePlots w 1) := by
  have HMade := Lib.hid (isMade_any b true w h.made)
  clear h
  by_cases h1 : m < 0
  · go_enter Try.func21, Try.ntmps21
    go_wp2_with (first | (go_at_call 30; refine HMade.out.mono ?_; rintro e w' ⟨rfl, rfl⟩))
    go_ret2
    exact ⟨rfl, Below.refl _ _⟩
  · have h2 : 64 < m := by omega
    go_enter Try.func21, Try.ntmps21
    go_wp2_with (first | (go_at_call 30; refine HMade.out.mono ?_; rintro e w' ⟨rfl, rfl⟩))
    go_ret2
    exact ⟨rfl, Below.refl _ _⟩
set_option maxRecDepth 100000 in
theorem take_space (b : Nat) (T : List Bool) (m : Nat) (w : World) (h : MapAt w b T) (hm : m ≤ 64) (hfree : free T < 2 * m) : Calls Try.prog 21 #[.pointer (some ⟨b, 0, none⟩), .int .i64 (m : Int)] w (NonePlots w 60) := by
  have HMade := Lib.hid (isMade_any b true w h.made)
  have HF := Lib.hid (free_any b T w h)
  have hm3 : (free T : Int) < 2 * (m : Int) := by omega
  have hm4 : (m : Int) ≤ 64 := by omega
  have hw2 : IntKind.i64.wrap (2 * (m : Int)) = 2 * (m : Int) := by rw [IntKind.wrap_i64]; omega
  clear h hfree
  go_enter Try.func21, Try.ntmps21
  go_wp2_with (first | (go_at_call 30; refine HMade.out.mono ?_; rintro e w' ⟨rfl, rfl⟩) | (go_at_call 27; refine HF.out.mono ?_; rintro e v1 ⟨rfl, hb1⟩))
  go_ret2
  exact ⟨rfl, hb1⟩
/-- A pointer to no map, or to one that nobody made. -/
def Nobody (P : Option Addr) (w : World) : Prop := Calls Try.prog 30 #[.pointer P] w fun e w' => e = .returned (.bool false) ∧ w = w'
set_option maxRecDepth 100000 in
theorem nobody_take (P : Option Addr) (m : Int) (w : World) (h : Nobody P w) : Calls Try.prog 21 #[.pointer P, .int .i64 m] w fun e w' => e = .returned (.tuple #[.slice none 0 0, .int .i64 4]) ∧ w = w' := by
  have HMade := Lib.hid h
  clear h
  unfold Nobody at HMade
  go_enter Try.func21, Try.ntmps21
  go_wp2_with (first | (go_at_call 30; refine HMade.out.mono ?_; rintro e w' ⟨rfl, rfl⟩))
  go_ret2
  exact ⟨rfl, rfl⟩
set_option maxRecDepth 100000 in
theorem nobody_claim (P A : Option Addr) (n c : Nat) (w : World) (h : Nobody P w) : Calls Try.prog 17 #[.pointer P, .slice A n c] w fun e w' => e = .returned (.int .i64 4) ∧ w = w' := by
  have HMade := Lib.hid h
  clear h
  unfold Nobody at HMade
  go_enter Try.func17, Try.ntmps17
  go_wp2_with (first | (go_at_call 30; refine HMade.out.mono ?_; rintro e w' ⟨rfl, rfl⟩))
  go_ret
  exact ⟨rfl, rfl⟩
set_option maxRecDepth 100000 in
theorem nobody_give (P A : Option Addr) (n c : Nat) (w : World) (h : Nobody P w) : Calls Try.prog 19 #[.pointer P, .slice A n c] w fun e w' => e = .returned (.int .i64 4) ∧ w = w' := by
  have HMade := Lib.hid h
  clear h
  unfold Nobody at HMade
  go_enter Try.func19, Try.ntmps19
  go_wp2_with (first | (go_at_call 30; refine HMade.out.mono ?_; rintro e w' ⟨rfl, rfl⟩))
  go_ret
  exact ⟨rfl, rfl⟩
set_option maxRecDepth 100000 in
theorem nobody_len (P : Option Addr) (w : World) (h : Nobody P w) : Calls Try.prog 25 #[.pointer P] w fun e w' => e = .returned (.int .i64 0) ∧ w = w' := by
  have HMade := Lib.hid h
  clear h
  unfold Nobody at HMade
  go_enter Try.func25, Try.ntmps25
  go_wp2_with (first | (go_at_call 30; refine HMade.out.mono ?_; rintro e w' ⟨rfl, rfl⟩))
  go_ret
  exact ⟨rfl, rfl⟩
set_option maxRecDepth 100000 in
theorem nobody_fork (P : Option Addr) (w : World) (h : Nobody P w) : Calls Try.prog 24 #[.pointer P] w fun e w' => e = .returned (.pointer none) ∧ w = w' := by
  have HMade := Lib.hid h
  clear h
  unfold Nobody at HMade
  go_enter Try.func24, Try.ntmps24
  go_wp2_with (first | (go_at_call 30; refine HMade.out.mono ?_; rintro e w' ⟨rfl, rfl⟩))
  go_ret
  exact ⟨rfl, rfl⟩
set_option maxRecDepth 100000 in
theorem nobody_taken (P : Option Addr) (w : World) (h : Nobody P w) : Calls Try.prog 26 #[.pointer P] w fun e w' => e = .returned (.slice none 0 0) ∧ w = w' := by
  have HL := Lib.hid (nobody_len P w h)
  clear h
  go_enter Try.func26, Try.ntmps26
  go_wp2_with (first | (go_at_call 25; refine HL.out.mono ?_; rintro e w' ⟨rfl, rfl⟩))
  refine wp_loop_rounds 1 ?_
  rw [rounds_succ]
  go_wp2
  go_ret
  exact ⟨rfl, rfl⟩
set_option maxRecDepth 100000 in
theorem nobody_free (P : Option Addr) (w : World) (h : Nobody P w) : Calls Try.prog 27 #[.pointer P] w fun e w' => e = .returned (.int .i64 0) ∧ w = w' := by
  have HL := Lib.hid (nobody_len P w h)
  have HT := Lib.hid (nobody_taken P w h)
  clear h
  go_enter Try.func27, Try.ntmps27
  go_wp2_with (first | (go_at_call 25; refine HL.out.mono ?_; rintro e w' ⟨rfl, rfl⟩) | (go_at_call 26; refine HT.out.mono ?_; rintro e w' ⟨rfl, rfl⟩))
  go_ret
  exact ⟨rfl, rfl⟩
/-- What New leaves. -/
theorem new_map (s : Int) (w : World) (h1 : 0 ≤ s) (h2 : s ≤ 4096) : Calls Try.prog 12 #[.int .i64 s] w fun e w' => e = .returned (.tuple #[.pointer (some ⟨w.heap.size, 0, none⟩), .int .i64 0]) ∧ Below w.heap.size w w' ∧ MapAt w' w.heap.size (List.replicate (Sp.plots s) false) := by
  refine (new_yes s w h1 h2).mono ?_
  rintro e w' ⟨rfl, rfl⟩
  have hn : Sp.plots s ≤ 511 := by unfold Sp.plots; split <;> (try split) <;> omega
  refine ⟨rfl, (Below.refl _ _).alloc (Nat.le_refl _) _, List.replicate 8 0, Bits.zero _ hn, ?_⟩
  have := Holds.new w #[.bool true, .int .i64 (Sp.plots s : Int), .int .u64 0, .int .u64 0, .int .u64 0, .int .u64 0, .int .u64 0, .int .u64 0, .int .u64 0, .int .u64 0] 64
  have e : Sp.cells (List.replicate (Sp.plots s) false) (List.replicate 8 0) = #[.bool true, .int .i64 (Sp.plots s : Int), .int .u64 0, .int .u64 0, .int .u64 0, .int .u64 0, .int .u64 0, .int .u64 0, .int .u64 0, .int .u64 0].toList := by
    simp [Sp.cells, List.replicate]
  rw [e]
  exact this
set_option maxRecDepth 100000 in
theorem fork_any (b : Nat) (T : List Bool) (w : World) (h : MapAt w b T) : Calls Try.prog 24 #[.pointer (some ⟨b, 0, none⟩)] w fun e w' => e = .returned (.pointer (some ⟨w.heap.size, 0, none⟩)) ∧ Below w.heap.size w w' ∧ MapAt w' w.heap.size T := by
  have HMade := Lib.hid (isMade_any b true w h.made)
  obtain ⟨xs, hB, hH⟩ := h
  obtain ⟨x0, x1, x2, x3, x4, x5, x6, x7, rfl⟩ := eight hB.len
  have c0 := hH.at_ 0 rfl
  have c1 := hH.at_ 1 rfl
  have c2 := hH.at_ 2 rfl
  have c3 := hH.at_ 3 rfl
  have c4 := hH.at_ 4 rfl
  have c5 := hH.at_ 5 rfl
  have c6 := hH.at_ 6 rfl
  have c7 := hH.at_ 7 rfl
  have c8 := hH.at_ 8 rfl
  have c9 := hH.at_ 9 rfl
  have HB := Lib.hid hB
  clear hH hB
  go_enter Try.func24, Try.ntmps24
  go_wp2_with (first | (go_at_call 30; refine HMade.out.mono ?_; rintro e w' ⟨rfl, rfl⟩))
  go_ret
  exact ⟨rfl, (Below.refl _ _).alloc (Nat.le_refl _) _, _, HB.out, Holds.new w _ _⟩
set_option maxRecDepth 100000 in
set_option maxHeartbeats 1000000 in
theorem awake_any (w : World) : Calls Try.prog 15 #[] w fun e w' => e = .returned (.bool true) ∧ Below w.heap.size w w' := by
  have hn := new_map 30 w (by omega) (by omega)
  rw [show Sp.plots 30 = 3 by decide] at hn
  have HN := Lib.hid hn
  clear hn
  go_enter Try.func15, Try.ntmps15
  go_wp2_with fail
  refine HN.out.mono ?_
  rintro e v1 ⟨rfl, hb1, hM1⟩
  have hl1 := len_any _ _ v1 hM1
  have ht1 := take_yes _ _ 1 v1 hM1 (by omega) (by decide)
  rw [show (List.replicate 3 false).length = 3 by decide] at hl1
  have HL1 := Lib.hid hl1
  have HT1 := Lib.hid ht1
  clear hl1 ht1
  go_wp2_with (go_at_call 25; refine HL1.out.mono ?_; rintro e w' ⟨rfl, rfl⟩)
  refine HT1.out.mono ?_
  rintro e v2 ⟨A, c, rfl, hO, hC, hM2⟩
  rw [show (low (List.replicate 3 false) (2 * 1) (List.replicate 3 false).length).1 = [0, 1] by decide] at hO
  rw [show (low (List.replicate 3 false) (2 * 1) (List.replicate 3 false).length).2 = [true, true, false] by decide] at hM2
  have ht2 := take_space _ _ 1 v2 hM2 (by omega) (by decide)
  have HT2 := Lib.hid ht2
  clear ht2
  go_wp2_with fail
  refine HT2.out.mono ?_
  rintro e v3 ⟨rfl, hb3⟩
  have hb4 : Below w.heap.size w v3 := (hC.below hb1 (Nat.le_refl _) hb1.size).trans (hb3.mono (Nat.le_trans hb1.size hC.size))
  have hf3 := free_any _ _ v3 (hM2.below hb3)
  rw [show free [true, true, false] = 1 by decide] at hf3
  have HF3 := Lib.hid hf3
  obtain ⟨b2, o2, rfl, hbb, hcells⟩ := ((hO.rd).below hb3).2 (by omega)
  have hc0 : v3.cell? ⟨b2, o2, none⟩ = some (.int .i64 0) := hcells 0 (.int .i64 0) rfl
  have hc1 := hcells 1 (.int .i64 1) rfl
  clear hf3 hcells hbb
  go_wp2_with (go_at_call 27; refine HF3.out.mono ?_; rintro e v4 ⟨rfl, hb5⟩)
  go_ret
  exact ⟨rfl, hb4.trans (hb5.mono hb4.size)⟩
end Go.Proofs.Ytaaodhnenaoheaa
