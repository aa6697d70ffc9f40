/- super.Check: which superblocks may be. -/
import Derived.Test.YtbdomhookjmmgaaSuM
import Derived.Test.YtbdomhookjmmgaaSuA
namespace Go.Proofs.Ytbdomhookjmmgaa
open Go.RowKit Fr Su
set_option linter.unusedVariables false
namespace Su
/-- How often each plot is named among these. -/
def nz (l : List Int) : List Value := (List.range 511).map fun (j : Nat) => Value.int .i64 (if l.contains (j : Int) then 1 else 0)
theorem nz_at (l : List Int) {j : Nat} (hj : j < 511) : (nz l)[j]? = some (.int .i64 (if l.contains (j : Int) then 1 else 0)) := by
  unfold nz
  rw [List.getElem?_map, List.getElem?_range hj]
  rfl
theorem nz_length (l : List Int) : (nz l).length = 511 := by simp [nz]
theorem nz_set (l : List Int) {j : Nat} (hj : j < 511) : (nz l).set j (.int .i64 1) = nz (l ++ [(j : Int)]) := by
  apply List.ext_getElem?
  intro i
  rw [List.getElem?_set]
  by_cases hi : i < 511
  · rw [nz_at _ hi, nz_at _ hi, nz_length]
    by_cases e : j = i
    · subst e
      rw [if_pos rfl, if_pos hj]
      simp
    · rw [if_neg e]
      have : ((i : Int) == (j : Int)) = false := by simpa using (by omega : ¬ (i : Int) = (j : Int))
      rw [List.contains_append, List.contains_cons, this]
      simp
  · rw [if_neg (by omega), List.getElem?_eq_none (by rw [nz_length]; omega), List.getElem?_eq_none (by rw [nz_length]; omega)]
end Su
set_option maxRecDepth 100000 in
theorem zero511 (w : World) : (zeroValue 100).run Try.prog w = .ok (.agg (nz []).toArray) w := by kernel_rfl
set_option maxRecDepth 100000 in
set_option maxHeartbeats 4000000 in
theorem scheck_any (s : S) (A : Option Addr) (c : Nat) (w : World) (hr : RdC 2 w A s.ps.length (pv s.ps)) : Calls Try.prog 13 #[Su.val s A c] w fun e w' => e = .returned (.int .i64 (if Su.ok s then 0 else 50)) ∧ Below w.heap.size w w' := by
  have HR := Lib.hid hr
  clear hr
  unfold Su.val
  by_cases h0 : 1 ≤ s.g ∧ s.g ≤ 2147483647
  rotate_left
  · have hno : Su.ok s = false := by rw [Bool.eq_false_iff]; intro hh; have := okH_iff.1 (ok_iff.1 hh).1; omega
    rw [hno]
    have H0 := Lib.hid h0
    clear hno h0
    go_enter Try.func13, Try.ntmps13
    go_wp2_with fail
    refine (within_no (s.g) (1) (2147483647) _ H0.out).mono ?_
    rintro e v ⟨rfl, rfl⟩
    go_wp2_with fail
    go_ret
    exact ⟨rfl, by repeat (first | exact Below.refl _ _ | refine Below.alloc ?_ (by simp <;> omega) _)⟩
  by_cases h1 : 1 ≤ s.e ∧ s.e ≤ 2147483647
  rotate_left
  · have hno : Su.ok s = false := by rw [Bool.eq_false_iff]; intro hh; have := okH_iff.1 (ok_iff.1 hh).1; omega
    rw [hno]
    have H0 := Lib.hid h0
    have H1 := Lib.hid h1
    clear hno h0 h1
    go_enter Try.func13, Try.ntmps13
    go_wp2_with fail
    refine (within_yes (s.g) (1) (2147483647) _ H0.out).mono ?_
    rintro e v ⟨rfl, rfl⟩
    go_wp2_with fail
    refine (within_no (s.e) (1) (2147483647) _ H1.out).mono ?_
    rintro e v ⟨rfl, rfl⟩
    go_wp2_with fail
    go_ret
    exact ⟨rfl, by repeat (first | exact Below.refl _ _ | refine Below.alloc ?_ (by simp <;> omega) _)⟩
  by_cases h2 : 1 ≤ s.i ∧ s.i ≤ 2147483647
  rotate_left
  · have hno : Su.ok s = false := by rw [Bool.eq_false_iff]; intro hh; have := okH_iff.1 (ok_iff.1 hh).1; omega
    rw [hno]
    have H0 := Lib.hid h0
    have H1 := Lib.hid h1
    have H2 := Lib.hid h2
    clear hno h0 h1 h2
    go_enter Try.func13, Try.ntmps13
    go_wp2_with fail
    refine (within_yes (s.g) (1) (2147483647) _ H0.out).mono ?_
    rintro e v ⟨rfl, rfl⟩
    go_wp2_with fail
    refine (within_yes (s.e) (1) (2147483647) _ H1.out).mono ?_
    rintro e v ⟨rfl, rfl⟩
    go_wp2_with fail
    refine (within_no (s.i) (1) (2147483647) _ H2.out).mono ?_
    rintro e v ⟨rfl, rfl⟩
    go_wp2_with fail
    go_ret
    exact ⟨rfl, by repeat (first | exact Below.refl _ _ | refine Below.alloc ?_ (by simp <;> omega) _)⟩
  by_cases h3 : 1 ≤ s.m ∧ s.m ≤ s.e
  rotate_left
  · have hno : Su.ok s = false := by rw [Bool.eq_false_iff]; intro hh; have := okH_iff.1 (ok_iff.1 hh).1; omega
    rw [hno]
    have H0 := Lib.hid h0
    have H1 := Lib.hid h1
    have H2 := Lib.hid h2
    have H3 := Lib.hid h3
    clear hno h0 h1 h2 h3
    go_enter Try.func13, Try.ntmps13
    go_wp2_with fail
    refine (within_yes (s.g) (1) (2147483647) _ H0.out).mono ?_
    rintro e v ⟨rfl, rfl⟩
    go_wp2_with fail
    refine (within_yes (s.e) (1) (2147483647) _ H1.out).mono ?_
    rintro e v ⟨rfl, rfl⟩
    go_wp2_with fail
    refine (within_yes (s.i) (1) (2147483647) _ H2.out).mono ?_
    rintro e v ⟨rfl, rfl⟩
    go_wp2_with fail
    refine (within_no (s.m) (1) (s.e) _ H3.out).mono ?_
    rintro e v ⟨rfl, rfl⟩
    go_wp2_with fail
    go_ret
    exact ⟨rfl, by repeat (first | exact Below.refl _ _ | refine Below.alloc ?_ (by simp <;> omega) _)⟩
  by_cases h4 : 1 ≤ (s.ps.length : Int) ∧ (s.ps.length : Int) ≤ 8
  rotate_left
  · have hno : Su.ok s = false := by rw [Bool.eq_false_iff]; intro hh; have := okH_iff.1 (ok_iff.1 hh).1; omega
    rw [hno]
    have H0 := Lib.hid h0
    have H1 := Lib.hid h1
    have H2 := Lib.hid h2
    have H3 := Lib.hid h3
    have H4 := Lib.hid h4
    clear hno h0 h1 h2 h3 h4
    go_enter Try.func13, Try.ntmps13
    go_wp2_with fail
    refine (within_yes (s.g) (1) (2147483647) _ H0.out).mono ?_
    rintro e v ⟨rfl, rfl⟩
    go_wp2_with fail
    refine (within_yes (s.e) (1) (2147483647) _ H1.out).mono ?_
    rintro e v ⟨rfl, rfl⟩
    go_wp2_with fail
    refine (within_yes (s.i) (1) (2147483647) _ H2.out).mono ?_
    rintro e v ⟨rfl, rfl⟩
    go_wp2_with fail
    refine (within_yes (s.m) (1) (s.e) _ H3.out).mono ?_
    rintro e v ⟨rfl, rfl⟩
    go_wp2_with fail
    refine (within_no ((s.ps.length : Int)) (1) (8) _ H4.out).mono ?_
    rintro e v ⟨rfl, rfl⟩
    go_wp2_with fail
    go_ret
    exact ⟨rfl, by repeat (first | exact Below.refl _ _ | refine Below.alloc ?_ (by simp <;> omega) _)⟩
  have HH := Lib.hid (show okH s = true from okH_iff.2 (by omega))
  have H0 := Lib.hid h0
  have H1 := Lib.hid h1
  have H2 := Lib.hid h2
  have H3 := Lib.hid h3
  have H4 := Lib.hid h4
  clear h0 h1 h2 h3 h4
  have HZ := zero511
  obtain ⟨r, hr⟩ : ∃ r : Int, r = if Su.ok s = true then 0 else 50 := ⟨_, rfl⟩
  rw [← hr]
  have Hr := Lib.hid hr
  clear hr
  go_enter Try.func13, Try.ntmps13
  go_wp2_with fail
  refine (within_yes (s.g) (1) (2147483647) _ H0.out).mono ?_
  rintro e v ⟨rfl, rfl⟩
  go_wp2_with fail
  refine (within_yes (s.e) (1) (2147483647) _ H1.out).mono ?_
  rintro e v ⟨rfl, rfl⟩
  go_wp2_with fail
  refine (within_yes (s.i) (1) (2147483647) _ H2.out).mono ?_
  rintro e v ⟨rfl, rfl⟩
  go_wp2_with fail
  refine (within_yes (s.m) (1) (s.e) _ H3.out).mono ?_
  rintro e v ⟨rfl, rfl⟩
  go_wp2_with fail
  refine (within_yes ((s.ps.length : Int)) (1) (8) _ H4.out).mono ?_
  rintro e v ⟨rfl, rfl⟩
  go_wp2_with fail
  have hN0 : Holds (((w.alloc (.cells #[.int .i64 s.g, .int .i64 s.e, .int .i64 s.i, .int .i64 s.m, .slice A s.ps.length c] 26)).alloc (.cells #[.int .i64 s.i, .int .i64 s.m, .slice A s.ps.length c] 24)).alloc (.cells (nz []).toArray 100)) (w.heap.size + 1 + 1) (nz []) := by
    have := Holds.new ((w.alloc (.cells #[.int .i64 s.g, .int .i64 s.e, .int .i64 s.i, .int .i64 s.m, .slice A s.ps.length c] 26)).alloc (.cells #[.int .i64 s.i, .int .i64 s.m, .slice A s.ps.length c] 24)) (nz []).toArray 100
    simpa using this
  have HN0 := Lib.hid hN0
  clear hN0
  go_loopw [45] (fun i wr => ∃ k : Nat, k ≤ s.ps.length ∧ i = .int .i64 (k : Int) ∧ Hid (okP ((flat s.ps).take (k * 2)) = true) ∧ Hid (Holds wr (w.heap.size + 1 + 1) (nz ((flat s.ps).take (k * 2)))) ∧ Hid (Below w.heap.size w wr)) (fun i _ => s.ps.length - (intOf i).toNat)
  case atStart => exact ⟨0, by omega, rfl, Lib.hid okP_nil, HN0, Lib.hid (by repeat (first | exact Below.refl _ _ | refine Below.alloc ?_ (by simp <;> omega) _))⟩
  case round =>
    obtain ⟨k, hk, rfl, HP, HN, HB⟩ := hrel
    have hk8 : s.ps.length ≤ 8 := by have := H4.out; omega
    by_cases hkn : k < s.ps.length
    · have hki : (k : Int) < (s.ps.length : Int) := by omega
      obtain ⟨p, hp⟩ : ∃ p, s.ps[k]? = some p := ⟨_, List.getElem?_eq_getElem hkn⟩
      obtain ⟨b, o, rfl, hb, e0, e1⟩ := (HR.out.below HB.out).two2 hkn (pv_at hp).1 (pv_at hp).2
      obtain ⟨f0, f1⟩ := flat_at hp
      have HF0 := Lib.hid f0
      have HF1 := Lib.hid f1
      obtain ⟨x, y⟩ := p
      simp only at e0 e1
      have i0 : ∀ v, (Instr.index 101 (.agg #[.int .i64 x, .int .i64 y]) (.int .i64 0)).run Try.prog v = .ok (.int .i64 x) v := fun _ => by kernel_rfl
      have i1 : ∀ v, (Instr.index 101 (.agg #[.int .i64 x, .int .i64 y]) (.int .i64 1)).run Try.prog v = .ok (.int .i64 y) v := fun _ => by kernel_rfl
      clear f0 f1 hp
      have HB1 := Lib.hid (HB.out.alloc HB.out.size (.cells #[.int .i64 x, .int .i64 y] 93))
      have hN1 := HN.out.alloc (.cells #[.int .i64 x, .int .i64 y] 93)
      have HN1 := Lib.hid hN1
      have hno : ∀ j z, (flat s.ps)[j]? = some z → ¬ ((0 ≤ z ∧ z ≤ 510) ∧ z ∉ (flat s.ps).take j) → Su.ok s = false := fun j z hz h => by
        rw [Bool.eq_false_iff]
        intro hh
        have := okP_not hz h
        rw [(ok_iff.1 hh).2] at this
        cases this
      have HNO := Lib.hid hno
      clear hN1 hno
      by_cases a1 : 0 ≤ x ∧ x ≤ 510
      rotate_left
      · have HNo := Lib.hid (HNO.out _ _ HF0.out (fun h => a1 h.1))
        go_wp2_with fail
        refine wp_loop_rounds 3 ?_
        rw [rounds_succ]
        go_wp2_with fail
        refine (within_no x 0 510 _ a1).mono ?_
        rintro e v ⟨rfl, rfl⟩
        go_wp2_with fail
        go_ret
        exact ⟨by rw [Hr.out, HNo.out]; rfl, HB1.out⟩
      obtain ⟨X, rfl⟩ : ∃ X : Nat, x = (X : Int) := ⟨x.toNat, by omega⟩
      have hX : X < 511 := by omega
      have hXi : (X : Int) < 511 := by omega
      have A1 := Lib.hid a1
      have cX := HN1.out.at_ X (nz_at _ hX)
      by_cases a2 : (X : Int) ∈ (flat s.ps).take (k * 2)
      · have HNo := Lib.hid (HNO.out _ _ HF0.out (fun h => h.2 a2))
        rw [if_pos (by simpa using a2)] at cX
        clear a2 a1
        go_wp2_with fail
        refine wp_loop_rounds 3 ?_
        rw [rounds_succ]
        go_wp2_with fail
        refine (within_yes (X : Int) 0 510 _ A1.out).mono ?_
        rintro e v ⟨rfl, rfl⟩
        go_wp2_with fail
        go_ret
        exact ⟨by rw [Hr.out, HNo.out]; rfl, HB1.out⟩
      rw [if_neg (by simpa using a2)] at cX
      have fX := HN1.out.2.2 X
      have hN2 := HN1.out.set X (.int .i64 1) (by rw [nz_length]; exact hX)
      rw [nz_set _ hX, ← take_snocI HF0.out] at hN2
      have HP1 := Lib.hid (okP_more HF0.out HP.out ⟨a1, a2⟩)
      have hb2 := HB1.out.setCell (p := ⟨w.heap.size + 1 + 1, X, none⟩) (by show w.heap.size ≤ w.heap.size + 1 + 1; omega) (.int .i64 1)
      have HB2 := Lib.hid hb2
      have HN2 := Lib.hid hN2
      clear hN2 a1 a2 hb2
      by_cases b1 : 0 ≤ y ∧ y ≤ 510
      rotate_left
      · have HNo := Lib.hid (HNO.out _ _ HF1.out (fun h => b1 h.1))
        go_wp2_with fail
        refine wp_loop_rounds 3 ?_
        rw [rounds_succ]
        go_wp2_with fail
        refine (within_yes (X : Int) 0 510 _ A1.out).mono ?_
        rintro e v ⟨rfl, rfl⟩
        go_wp2_with fail
        rw [rounds_succ]
        go_wp2_with fail
        refine (within_no y 0 510 _ b1).mono ?_
        rintro e v ⟨rfl, rfl⟩
        go_wp2_with fail
        go_ret
        exact ⟨by rw [Hr.out, HNo.out]; rfl, HB2.out⟩
      obtain ⟨Y, rfl⟩ : ∃ Y : Nat, y = (Y : Int) := ⟨y.toNat, by omega⟩
      have hY : Y < 511 := by omega
      have hYi : (Y : Int) < 511 := by omega
      have B1 := Lib.hid b1
      have cY := HN2.out.at_ Y (nz_at _ hY)
      by_cases b2 : (Y : Int) ∈ (flat s.ps).take (k * 2 + 1)
      · have HNo := Lib.hid (HNO.out _ _ HF1.out (fun h => h.2 b2))
        rw [if_pos (by simpa using b2)] at cY
        clear b2 b1
        go_wp2_with fail
        refine wp_loop_rounds 3 ?_
        rw [rounds_succ]
        go_wp2_with fail
        refine (within_yes (X : Int) 0 510 _ A1.out).mono ?_
        rintro e v ⟨rfl, rfl⟩
        go_wp2_with fail
        rw [rounds_succ]
        go_wp2_with fail
        refine (within_yes (Y : Int) 0 510 _ B1.out).mono ?_
        rintro e v ⟨rfl, rfl⟩
        go_wp2_with fail
        go_ret
        exact ⟨by rw [Hr.out, HNo.out]; rfl, HB2.out⟩
      rw [if_neg (by simpa using b2)] at cY
      have fY := HN2.out.2.2 Y
      have hN3 := HN2.out.set Y (.int .i64 1) (by rw [nz_length]; exact hY)
      rw [nz_set _ hY, ← take_snocI HF1.out] at hN3
      have HP2 := Lib.hid (okP_more HF1.out HP1.out ⟨b1, b2⟩)
      have HB3 := Lib.hid (HB2.out.setCell (p := ⟨w.heap.size + 1 + 1, Y, none⟩) (by show w.heap.size ≤ w.heap.size + 1 + 1; omega) (.int .i64 1))
      have HN3 := Lib.hid hN3
      clear hN3 b1 b2
      go_wp2_with fail
      refine wp_loop_rounds 3 ?_
      rw [rounds_succ]
      go_wp2_with fail
      refine (within_yes (X : Int) 0 510 _ A1.out).mono ?_
      rintro e v ⟨rfl, rfl⟩
      go_wp2_with fail
      rw [rounds_succ]
      go_wp2_with fail
      refine (within_yes (Y : Int) 0 510 _ B1.out).mono ?_
      rintro e v ⟨rfl, rfl⟩
      go_wp2_with fail
      rw [rounds_succ]
      go_wp2_with fail
      go_roundw
      case rel => exact ⟨k + 1, by omega, by go_num, Lib.hid (by rw [show (k + 1) * 2 = k * 2 + 1 + 1 by omega]; exact HP2.out), Lib.hid (by rw [show (k + 1) * 2 = k * 2 + 1 + 1 by omega]; exact HN3.out), HB3⟩
      case measure => simp [intOf]; omega
    · have hkl : k = s.ps.length := by omega
      have hyes : Su.ok s = true := by
        refine ok_iff.2 ⟨HH.out, ?_⟩
        have := HP.out
        rw [List.take_of_length_le (by rw [flat_length]; omega)] at this
        exact this
      have HYes := Lib.hid hyes
      clear hyes
      subst hkl
      go_wp2_with fail
      go_ret
      exact ⟨by rw [Hr.out, HYes.out]; rfl, HB.out⟩
end Go.Proofs.Ytbdomhookjmmgaa
