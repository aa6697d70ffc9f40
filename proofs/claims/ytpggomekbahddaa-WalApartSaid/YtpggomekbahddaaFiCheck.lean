/- file.Check: which places may be. -/
import Derived.Test.YtpggomekbahddaaM01
namespace Go.Proofs.Ytpggomekbahddaa
open Go.RowKit Fi
set_option linter.unusedVariables false
set_option maxRecDepth 100000 in
theorem run_mk (x : Int) (v : World) : (Instr.makeMap 75 (some (.int .i64 x))).run Try.prog v = .ok (.map (some v.heap.size)) (v.alloc (.map #[] 0)) := by
  simp [Instr.makeMap, run_underlying Try.underlying75, asInt, go_sem]
set_option maxRecDepth 100000 in
set_option maxHeartbeats 4000000 in
theorem fcheck_no (P : Pl) (sec : Int) (A : Option Addr) (c : Nat) (w : World) (hbig : P.ps.length ≤ 9223372036854775807) (hh : okH P = false) : Calls Try.prog 23 #[Fi.val P A c, .int .i64 sec] w fun e w' => e = .returned (.int .i64 70) ∧ Below w.heap.size w w' := by
  have hB : Below w.heap.size w (w.alloc (.cells #[.int .i64 P.i, .int .i64 P.e, .slice A P.ps.length c] 31)) := (Below.refl _ _).alloc (Nat.le_refl _) _
  have HB := Lib.hid hB
  clear hB
  have hn : ¬ (1 ≤ P.i ∧ P.i ≤ 2147483647 ∧ 1 ≤ P.e ∧ P.e ≤ 2147483647 ∧ 1 ≤ P.ps.length ∧ P.ps.length ≤ 64) := fun h => by rw [okH_iff.2 h] at hh; cases hh
  clear hh
  unfold Fi.val
  generalize P.ps.length = n at *
  by_cases h1 : P.i < 1
  · go_enter Try.func23, Try.ntmps23
    go_wp2_with fail
    go_ret
    exact ⟨rfl, HB.out⟩
  by_cases h2 : 2147483647 < P.i
  · go_enter Try.func23, Try.ntmps23
    go_wp2_with fail
    go_ret
    exact ⟨rfl, HB.out⟩
  by_cases h3 : P.e < 1
  · go_enter Try.func23, Try.ntmps23
    go_wp2_with fail
    go_ret
    exact ⟨rfl, HB.out⟩
  by_cases h4 : 2147483647 < P.e
  · go_enter Try.func23, Try.ntmps23
    go_wp2_with fail
    go_ret
    exact ⟨rfl, HB.out⟩
  by_cases h5 : n = 0
  · subst h5
    go_enter Try.func23, Try.ntmps23
    go_wp2_with fail
    go_ret
    exact ⟨rfl, HB.out⟩
  have h6 : (64 : Int) < (n : Int) := by omega
  have h7 : ¬ (n : Int) < 1 := by omega
  go_enter Try.func23, Try.ntmps23
  go_wp2_with fail
  go_ret
  exact ⟨rfl, HB.out⟩
set_option maxRecDepth 100000 in
set_option maxHeartbeats 4000000 in
theorem fcheck_go (P : Pl) (sec : Int) (hsec : sec ≤ 9223372036854775807) (A : Option Addr) (c : Nat) (w : World) (hr : RdC 2 w A P.ps.length (pv P.ps)) (hh : okH P = true) : Calls Try.prog 23 #[Fi.val P A c, .int .i64 sec] w fun e w' => e = .returned (.int .i64 (if ok P (Sp.plots sec) then 0 else 70)) ∧ Below w.heap.size w w' := by
  have HR := Lib.hid hr
  have HH := Lib.hid hh
  obtain ⟨x1, x2, x3, x4, x5, x6⟩ := okH_iff.1 hh
  have h1 : ¬ P.i < 1 := by omega
  have h2 : ¬ 2147483647 < P.i := by omega
  have h3 : ¬ P.e < 1 := by omega
  have h4 : ¬ 2147483647 < P.e := by omega
  have h6 : ¬ (64 : Int) < (P.ps.length : Int) := by omega
  have h7 : ¬ (P.ps.length : Int) < 1 := by omega
  have h8 : IntKind.i64.wrap (2 * (P.ps.length : Int)) = 2 * (P.ps.length : Int) := by rw [IntKind.wrap_i64]; omega
  have HL := Lib.hid (And.intro x5 x6)
  clear hr hh x1 x2 x3 x4 x5 x6
  obtain ⟨M, hM⟩ : ∃ M, M = Sp.plots sec := ⟨_, rfl⟩
  have hM5 : M ≤ 511 := by rw [hM]; unfold Sp.plots; split <;> (try split) <;> omega
  have HPl := fun v => plots_any sec v hsec
  rw [← hM] at HPl ⊢
  clear hM
  obtain ⟨r, hr⟩ : ∃ r : Int, r = if ok P M then 0 else 70 := ⟨_, rfl⟩
  rw [← hr]
  have Hr := Lib.hid hr
  have HPl := Lib.hid HPl
  have hmk := run_mk (2 * (P.ps.length : Int))
  have HM5 := Lib.hid hM5
  clear hr hM5
  unfold Fi.val
  go_enter Try.func23, Try.ntmps23
  go_wp2_with fail
  refine (HPl.out _).mono ?_
  rintro e v ⟨rfl, rfl⟩
  go_wp2_with fail
  have HN0 := Lib.hid (show Cm ((w.alloc (.cells #[.int .i64 P.i, .int .i64 P.e, .slice A P.ps.length c] 31)).alloc (.map #[] 0)) (w.heap.size + 1) 0 [] by have := Cm.new (w.alloc (.cells #[.int .i64 P.i, .int .i64 P.e, .slice A P.ps.length c] 31)); simpa using this)
  have HB0 := Lib.hid (show Below w.heap.size w ((w.alloc (.cells #[.int .i64 P.i, .int .i64 P.e, .slice A P.ps.length c] 31)).alloc (.map #[] 0)) by repeat (first | exact Below.refl _ _ | refine Below.alloc ?_ (by simp <;> omega) _))
  clear hmk
  go_loopw [51] (fun i wr => ∃ k : Nat, k ≤ P.ps.length ∧ i = .int .i64 (k : Int) ∧ Hid (okP M ((flat P.ps).take (k * 2)) = true) ∧ Hid (Cm wr (w.heap.size + 1) (k * 2) ((flat P.ps).take (k * 2))) ∧ Hid (Below w.heap.size w wr)) (fun i _ => P.ps.length - (intOf i).toNat)
  case atStart => exact ⟨0, by omega, rfl, Lib.hid okP_nil, HN0, HB0⟩
  case round =>
    obtain ⟨k, hk, rfl, HP, HN, HB⟩ := hrel
    have hk8 : P.ps.length ≤ 64 := by have := HL.out; omega
    by_cases hkn : k < P.ps.length
    · have hki : (k : Int) < (P.ps.length : Int) := by omega
      obtain ⟨p, hp⟩ : ∃ p, P.ps[k]? = some p := ⟨_, List.getElem?_eq_getElem hkn⟩
      obtain ⟨b, o, rfl, hb, e0, e1⟩ := (HR.out.below HB.out).two2 hkn (pv_at hp).1 (pv_at hp).2
      obtain ⟨f0, f1⟩ := flat_at hp
      have HF0 := Lib.hid f0
      have HF1 := Lib.hid f1
      obtain ⟨x, y⟩ := p
      simp only at e0 e1
      have i0 : ∀ v, (Instr.index 76 (.agg #[.int .i64 x, .int .i64 y]) (.int .i64 0)).run Try.prog v = .ok (.int .i64 x) v := fun _ => by kernel_rfl
      have i1 : ∀ v, (Instr.index 76 (.agg #[.int .i64 x, .int .i64 y]) (.int .i64 1)).run Try.prog v = .ok (.int .i64 y) v := fun _ => by kernel_rfl
      clear f0 f1 hp
      have HB1 := Lib.hid (HB.out.alloc HB.out.size (.cells #[.int .i64 x, .int .i64 y] 52))
      have HN1 := Lib.hid (HN.out.below ((Below.refl _ _).alloc (Nat.le_refl _) (.cells #[.int .i64 x, .int .i64 y] 52)))
      have hno : ∀ j z, (flat P.ps)[j]? = some z → ¬ ((0 ≤ z ∧ z < (M : Int)) ∧ z ∉ (flat P.ps).take j) → ok P M = false := fun j z hz h => by
        rw [Bool.eq_false_iff]
        intro hh
        have := okP_not hz h
        rw [(ok_iff.1 hh).2] at this
        cases this
      have HNO := Lib.hid hno
      clear hno
      have hM5 := HM5.out
      by_cases a0 : x < 0
      · have HNo := Lib.hid (HNO.out _ _ HF0.out (fun h => by omega))
        skip
        go_wp2_with fail
        refine wp_loop_rounds 3 ?_
        rw [rounds_succ]
        go_wp2_with fail
        go_ret
        exact ⟨by rw [Hr.out, HNo.out]; rfl, HB1.out⟩
      by_cases a1 : (M : Int) ≤ x
      · have HNo := Lib.hid (HNO.out _ _ HF0.out (fun h => by omega))
        go_wp2_with fail
        refine wp_loop_rounds 3 ?_
        rw [rounds_succ]
        go_wp2_with fail
        go_ret
        exact ⟨by rw [Hr.out, HNo.out]; rfl, HB1.out⟩
      have lx := HN1.out.look (q := x) (by unfold Q64; omega)
      by_cases a2 : x ∈ (flat P.ps).take (k * 2)
      · have HNo := Lib.hid (HNO.out _ _ HF0.out (fun h => h.2 a2))
        rw [if_pos a2] at lx
        clear a2
        go_wp2_with fail
        refine wp_loop_rounds 3 ?_
        rw [rounds_succ]
        go_wp2_with fail
        go_ret
        exact ⟨by rw [Hr.out, HNo.out]; rfl, HB1.out⟩
      rw [if_neg a2] at lx
      obtain ⟨w2, s2, hN2, hC2⟩ := HN1.out.store (q := x) (by omega) (by unfold Q64; omega)
      rw [← take_snocI HF0.out] at hN2
      have HP1 := Lib.hid (okP_more HF0.out HP.out ⟨by omega, a2⟩)
      have HB2 := Lib.hid (hC2.below HB1.out (by omega) HB1.out.size)
      have HN2 := Lib.hid hN2
      clear hN2 hC2 a2
      by_cases b0 : y < 0
      · have HNo := Lib.hid (HNO.out _ _ HF1.out (fun h => by omega))
        go_wp2_with fail
        refine wp_loop_rounds 3 ?_
        rw [rounds_succ]
        go_wp2_with fail
        rw [rounds_succ]
        go_wp2_with fail
        go_ret
        exact ⟨by rw [Hr.out, HNo.out]; rfl, HB2.out⟩
      by_cases b1 : (M : Int) ≤ y
      · have HNo := Lib.hid (HNO.out _ _ HF1.out (fun h => by omega))
        go_wp2_with fail
        refine wp_loop_rounds 3 ?_
        rw [rounds_succ]
        go_wp2_with fail
        rw [rounds_succ]
        go_wp2_with fail
        go_ret
        exact ⟨by rw [Hr.out, HNo.out]; rfl, HB2.out⟩
      have ly := HN2.out.look (q := y) (by unfold Q64; omega)
      by_cases b2 : y ∈ (flat P.ps).take (k * 2 + 1)
      · have HNo := Lib.hid (HNO.out _ _ HF1.out (fun h => h.2 b2))
        rw [if_pos b2] at ly
        clear b2
        go_wp2_with fail
        refine wp_loop_rounds 3 ?_
        rw [rounds_succ]
        go_wp2_with fail
        rw [rounds_succ]
        go_wp2_with fail
        go_ret
        exact ⟨by rw [Hr.out, HNo.out]; rfl, HB2.out⟩
      rw [if_neg b2] at ly
      obtain ⟨w3, s3, hN3, hC3⟩ := HN2.out.store (q := y) (by omega) (by unfold Q64; omega)
      rw [← take_snocI HF1.out] at hN3
      have HP2 := Lib.hid (okP_more HF1.out HP1.out ⟨by omega, b2⟩)
      have HB3 := Lib.hid (hC3.below HB2.out (by omega) HB2.out.size)
      have HN3 := Lib.hid hN3
      clear hN3 hC3 b2
      go_wp2_with fail
      refine wp_loop_rounds 3 ?_
      rw [rounds_succ]
      go_wp2_with fail
      rw [rounds_succ]
      go_wp2_with fail
      rw [rounds_succ]
      go_wp2_with fail
      go_roundw
      case rel => exact ⟨k + 1, by omega, by go_num, Lib.hid (by rw [show (k + 1) * 2 = k * 2 + 1 + 1 by omega]; exact HP2.out), Lib.hid (by rw [show (k + 1) * 2 = k * 2 + 1 + 1 by omega]; exact HN3.out), HB3⟩
      case measure => simp [intOf]; omega
    · have hkl : k = P.ps.length := by omega
      have hyes : ok P M = true := by
        refine ok_iff.2 ⟨HH.out, ?_⟩
        have := HP.out
        rw [List.take_of_length_le (by rw [flat_length]; omega)] at this
        exact this
      have HYes := Lib.hid hyes
      clear hyes
      subst hkl
      go_wp2_with fail
      go_ret
      exact ⟨by rw [Hr.out, HYes.out]; rfl, HB.out⟩
theorem fcheck_any (P : Pl) (sec : Int) (hsec : sec ≤ 9223372036854775807) (A : Option Addr) (c : Nat) (w : World) (hbig : P.ps.length ≤ 9223372036854775807) (hr : RdC 2 w A P.ps.length (pv P.ps)) : Calls Try.prog 23 #[Fi.val P A c, .int .i64 sec] w fun e w' => e = .returned (.int .i64 (if ok P (Sp.plots sec) then 0 else 70)) ∧ Below w.heap.size w w' := by
  cases hh : okH P with
  | true => exact fcheck_go P sec hsec A c w hr hh
  | false =>
    have : ok P (Sp.plots sec) = false := by unfold ok; rw [hh]; rfl
    rw [this]
    exact fcheck_no P sec A c w hbig hh
end Go.Proofs.Ytpggomekbahddaa
