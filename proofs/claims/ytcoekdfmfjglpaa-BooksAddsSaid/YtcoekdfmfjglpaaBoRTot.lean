/- Which totals may be: the document's. -/
import Derived.Test.YtcoekdfmfjglpaaBoTot
namespace Go.Proofs.Ytcoekdfmfjglpaa
open Go.RowKit
set_option maxRecDepth 100000 in
set_option maxHeartbeats 16000000 in
theorem aretot_any (A : Option Addr) (n c : Nat) (l : List Bo.Tt) (w : World) (hr : RdT w A n l) (hn : n ≤ 1000000) :
    Calls Try.prog 15 #[.slice A n c] w fun e w' => e = .returned (.bool (Bo.okT none l)) ∧ Below w.heap.size w w' := by
  have HR := Lib.hid hr
  have HL := Lib.hid hr.1
  clear hr
  go_enter Try.func15, Try.ntmps15
  go_wp2
  go_loopw [3] (fun ii wr => ∃ (k : Nat), k ≤ n ∧ ii = .int .i64 (k : Int) ∧ Hid (Bo.okT none l = Bo.okT (Bo.prev l k) (l.drop k)) ∧ Hid (Below w.heap.size w wr)) (fun ii _ => n - (intOf ii).toNat)
  case atStart => exact ⟨0, by omega, rfl, Lib.hid rfl, Lib.hid (Below.refl _ _)⟩
  case round =>
    rename_i wr hrel
    obtain ⟨k, hk, rfl, HI, HB⟩ := hrel
    by_cases hlt : k < n
    · have hki : (k : Int) < (n : Int) := by omega
      obtain ⟨x, hx⟩ : ∃ x, l[k]? = some x := ⟨_, List.getElem?_eq_getElem (by rw [HL.out]; exact hlt)⟩
      obtain ⟨b, o, rfl, hbl, hcell⟩ := HR.out.at_ hx
      have hks := HR.out.2.2 x (List.mem_of_getElem? hx)
      have HS := Lib.hid (HI.out.trans (Bo.okT_at hx))
      have HP := Lib.hid (Bo.prev_succ hx)
      have hpk : ∀ j y, k = j + 1 → l[j]? = some y → wr.cell? ⟨b, o + j * 4, none⟩ = some (.string y.key) := by
        intro j y hj hy
        obtain ⟨b2, o2, e2, hb2, hc2⟩ := HR.out.at_ hy
        injection e2 with e2
        injection e2 with e3 e4
        subst e3 e4
        exact (HB.out.cell hb2).trans (hc2 0 _ rfl)
      clear HI
      obtain ⟨key, fr, he, ou⟩ := x
      have HN := Lib.hid (fun (u : World) => rname_any key u hks)
      have hBx := HB.out.alloc HB.out.size (.cells #[Value.string key, .int .i64 fr, .int .i64 he, .int .i64 ou] 46)
      have HBx := Lib.hid hBx
      clear hBx hks
      cases k with
      | zero =>
        have e0 : wr.cell? ⟨b, o, none⟩ = some (.string key) := by have h := (HB.out.cell hbl).trans (hcell 0 _ rfl); simpa using h
        have e1 : wr.cell? ⟨b, o + 1, none⟩ = some (.int .i64 fr) := by have h := (HB.out.cell hbl).trans (hcell 1 _ rfl); simpa using h
        have e2 : wr.cell? ⟨b, o + 2, none⟩ = some (.int .i64 he) := by have h := (HB.out.cell hbl).trans (hcell 2 _ rfl); simpa using h
        have e3 : wr.cell? ⟨b, o + 3, none⟩ = some (.int .i64 ou) := by have h := (HB.out.cell hbl).trans (hcell 3 _ rfl); simpa using h
        clear hcell hbl hpk
        cases hn : Bo.nm key with
        | false =>
          rw [hn] at HN
          have HF := Lib.hid (show Bo.okT none l = false by rw [HS.out, Bo.okX_name hn, Bool.false_and])
          go_wp2
          go_big_quiet ((go_at_call 24; with_reducible exact Calls.quiet_of_same (HN.out _)))
          go_wp2
          go_ret
          exact ⟨by rw [HF.out]; rfl, below_drewN HBx.out _⟩
        | true =>
          have HN1 := Lib.hid hn
          rw [hn] at HN
          clear hn
          by_cases f3 : fr < 0
          · have HC := Lib.hid (show ¬ (0 ≤ fr ∧ fr ≤ 1125899906842624 ∧ 0 ≤ he ∧ fr + he ≤ 1125899906842624 ∧ 0 ≤ ou ∧ ou ≤ 1152921504606846976) by omega)
            have df3 : decide (fr < 0) = true := decide_eq_true f3
            have HF := Lib.hid (show Bo.okT none l = false by rw [HS.out, Bo.okX_no HC.out, Bool.false_and])
            go_wp2
            go_big_quiet ((go_at_call 24; with_reducible exact Calls.quiet_of_same (HN.out _)))
            go_wp2
            go_ret
            exact ⟨by rw [HF.out]; rfl, below_drewN HBx.out _⟩
          have df3 : decide (fr < 0) = false := decide_eq_false f3
          by_cases f4 : he < 0
          · have HC := Lib.hid (show ¬ (0 ≤ fr ∧ fr ≤ 1125899906842624 ∧ 0 ≤ he ∧ fr + he ≤ 1125899906842624 ∧ 0 ≤ ou ∧ ou ≤ 1152921504606846976) by omega)
            have df4 : decide (he < 0) = true := decide_eq_true f4
            have HF := Lib.hid (show Bo.okT none l = false by rw [HS.out, Bo.okX_no HC.out, Bool.false_and])
            go_wp2
            go_big_quiet ((go_at_call 24; with_reducible exact Calls.quiet_of_same (HN.out _)))
            go_wp2
            go_ret
            exact ⟨by rw [HF.out]; rfl, below_drewN HBx.out _⟩
          have df4 : decide (he < 0) = false := decide_eq_false f4
          by_cases f5 : ou < 0
          · have HC := Lib.hid (show ¬ (0 ≤ fr ∧ fr ≤ 1125899906842624 ∧ 0 ≤ he ∧ fr + he ≤ 1125899906842624 ∧ 0 ≤ ou ∧ ou ≤ 1152921504606846976) by omega)
            have df5 : decide (ou < 0) = true := decide_eq_true f5
            have HF := Lib.hid (show Bo.okT none l = false by rw [HS.out, Bo.okX_no HC.out, Bool.false_and])
            go_wp2
            go_big_quiet ((go_at_call 24; with_reducible exact Calls.quiet_of_same (HN.out _)))
            go_wp2
            go_ret
            exact ⟨by rw [HF.out]; rfl, below_drewN HBx.out _⟩
          have df5 : decide (ou < 0) = false := decide_eq_false f5
          by_cases f6 : 1125899906842624 < fr
          · have HC := Lib.hid (show ¬ (0 ≤ fr ∧ fr ≤ 1125899906842624 ∧ 0 ≤ he ∧ fr + he ≤ 1125899906842624 ∧ 0 ≤ ou ∧ ou ≤ 1152921504606846976) by omega)
            have df6 : decide (1125899906842624 < fr) = true := decide_eq_true f6
            have HF := Lib.hid (show Bo.okT none l = false by rw [HS.out, Bo.okX_no HC.out, Bool.false_and])
            go_wp2
            go_big_quiet ((go_at_call 24; with_reducible exact Calls.quiet_of_same (HN.out _)))
            go_wp2
            go_ret
            exact ⟨by rw [HF.out]; rfl, below_drewN HBx.out _⟩
          have df6 : decide (1125899906842624 < fr) = false := decide_eq_false f6
          by_cases f7 : 1125899906842624 < he
          · have HC := Lib.hid (show ¬ (0 ≤ fr ∧ fr ≤ 1125899906842624 ∧ 0 ≤ he ∧ fr + he ≤ 1125899906842624 ∧ 0 ≤ ou ∧ ou ≤ 1152921504606846976) by omega)
            have df7 : decide (1125899906842624 < he) = true := decide_eq_true f7
            have HF := Lib.hid (show Bo.okT none l = false by rw [HS.out, Bo.okX_no HC.out, Bool.false_and])
            go_wp2
            go_big_quiet ((go_at_call 24; with_reducible exact Calls.quiet_of_same (HN.out _)))
            go_wp2
            go_ret
            exact ⟨by rw [HF.out]; rfl, below_drewN HBx.out _⟩
          have df7 : decide (1125899906842624 < he) = false := decide_eq_false f7
          by_cases f8 : 1125899906842624 < fr + he
          · have HC := Lib.hid (show ¬ (0 ≤ fr ∧ fr ≤ 1125899906842624 ∧ 0 ≤ he ∧ fr + he ≤ 1125899906842624 ∧ 0 ≤ ou ∧ ou ≤ 1152921504606846976) by omega)
            have df8 : decide (1125899906842624 < fr + he) = true := decide_eq_true f8
            have HF := Lib.hid (show Bo.okT none l = false by rw [HS.out, Bo.okX_no HC.out, Bool.false_and])
            go_wp2
            go_big_quiet ((go_at_call 24; with_reducible exact Calls.quiet_of_same (HN.out _)))
            go_wp2
            go_ret
            exact ⟨by rw [HF.out]; rfl, below_drewN HBx.out _⟩
          have df8 : decide (1125899906842624 < fr + he) = false := decide_eq_false f8
          by_cases f9 : 1152921504606846976 < ou
          · have HC := Lib.hid (show ¬ (0 ≤ fr ∧ fr ≤ 1125899906842624 ∧ 0 ≤ he ∧ fr + he ≤ 1125899906842624 ∧ 0 ≤ ou ∧ ou ≤ 1152921504606846976) by omega)
            have df9 : decide (1152921504606846976 < ou) = true := decide_eq_true f9
            have HF := Lib.hid (show Bo.okT none l = false by rw [HS.out, Bo.okX_no HC.out, Bool.false_and])
            go_wp2
            go_big_quiet ((go_at_call 24; with_reducible exact Calls.quiet_of_same (HN.out _)))
            go_wp2
            go_ret
            exact ⟨by rw [HF.out]; rfl, below_drewN HBx.out _⟩
          have df9 : decide (1152921504606846976 < ou) = false := decide_eq_false f9
          have HC := Lib.hid (show 0 ≤ fr ∧ fr ≤ 1125899906842624 ∧ 0 ≤ he ∧ fr + he ≤ 1125899906842624 ∧ 0 ≤ ou ∧ ou ≤ 1152921504606846976 by omega)
          have HF := Lib.hid (show Bo.okT none l = Bo.okT (some key) (l.drop (0 + 1)) by rw [HS.out, Bo.okX_yes HN1.out (fun q h => by cases h) HC.out, Bool.true_and])
          go_wp2
          go_big_quiet ((go_at_call 24; with_reducible exact Calls.quiet_of_same (HN.out _)))
          go_wp2
          go_roundw
          case rel => exact ⟨0 + 1, by omega, by go_num, Lib.hid (by rw [HF.out, HP.out]), Lib.hid (below_drewN HBx.out _)⟩
          case measure => simp [intOf]; omega
      | succ j =>
        obtain ⟨y, hy⟩ : ∃ y, l[j]? = some y := ⟨_, List.getElem?_eq_getElem (by rw [HL.out]; omega)⟩
        have p0 := hpk j y rfl hy
        have HS2 := Lib.hid (show Bo.prev l (j + 1) = some y.key from Bo.prev_succ hy)
        obtain ⟨pk, y1, y2, y3⟩ := y
        replace p0 : wr.cell? ⟨b, o + j * 4, none⟩ = some (.string pk) := p0
        have e0 : wr.cell? ⟨b, o + (j + 1) * 4, none⟩ = some (.string key) := (HB.out.cell hbl).trans (hcell 0 _ rfl)
        have e1 : wr.cell? ⟨b, o + (j + 1) * 4 + 1, none⟩ = some (.int .i64 fr) := (HB.out.cell hbl).trans (hcell 1 _ rfl)
        have e2 : wr.cell? ⟨b, o + (j + 1) * 4 + 2, none⟩ = some (.int .i64 he) := (HB.out.cell hbl).trans (hcell 2 _ rfl)
        have e3 : wr.cell? ⟨b, o + (j + 1) * 4 + 3, none⟩ = some (.int .i64 ou) := (HB.out.cell hbl).trans (hcell 3 _ rfl)
        have hj1 : (((j + 1 : Nat) : Int) - 1) = (j : Int) := by omega
        have hj0 : (0 : Int) < ((j + 1 : Nat) : Int) := by omega
        have hj2 : (j : Int) < (n : Int) := by omega
        have hbw : b < wr.heap.size := Nat.lt_of_lt_of_le hbl HB.out.size
        have hbe : b ≠ wr.heap.size := Nat.ne_of_lt hbw
        have p1 : (wr.alloc (.cells #[Value.string key, .int .i64 fr, .int .i64 he, .int .i64 ou] 46)).cell? ⟨b, o + j * 4, none⟩ = some (.string pk) := ((Below.refl wr.heap.size wr).alloc (Nat.le_refl _) _).cell hbw |>.trans p0
        clear hcell hbl hpk hy
        cases hn : Bo.nm key with
        | false =>
          rw [hn] at HN
          have HF := Lib.hid (show Bo.okT none l = false by rw [HS.out, Bo.okX_name hn, Bool.false_and])
          go_wp2
          go_big_quiet ((go_at_call 24; with_reducible exact Calls.quiet_of_same (HN.out _)))
          go_wp2
          go_ret
          exact ⟨by rw [HF.out]; rfl, below_drewN HBx.out _⟩
        | true =>
          have HN1 := Lib.hid hn
          rw [hn] at HN
          clear hn
          cases hro : Op.bytesLess pk.toList key.toList with
          | false =>
            have HF := Lib.hid (show Bo.okT none l = false by rw [HS.out, HS2.out, Bo.okX_row (x := ⟨key, fr, he, ou⟩) (q := pk) hro, Bool.false_and])
            go_wp2
            go_big_quiet ((go_at_call 24; with_reducible exact Calls.quiet_of_same (HN.out _)))
            go_wp2
            go_ret
            exact ⟨by rw [HF.out]; rfl, below_drewN HBx.out _⟩
          | true =>
            have HRo := Lib.hid hro
            by_cases f3 : fr < 0
            · have HC := Lib.hid (show ¬ (0 ≤ fr ∧ fr ≤ 1125899906842624 ∧ 0 ≤ he ∧ fr + he ≤ 1125899906842624 ∧ 0 ≤ ou ∧ ou ≤ 1152921504606846976) by omega)
              have df3 : decide (fr < 0) = true := decide_eq_true f3
              have HF := Lib.hid (show Bo.okT none l = false by rw [HS.out, Bo.okX_no HC.out, Bool.false_and])
              go_wp2
              go_big_quiet ((go_at_call 24; with_reducible exact Calls.quiet_of_same (HN.out _)))
              go_wp2
              go_ret
              exact ⟨by rw [HF.out]; rfl, below_drewN HBx.out _⟩
            have df3 : decide (fr < 0) = false := decide_eq_false f3
            by_cases f4 : he < 0
            · have HC := Lib.hid (show ¬ (0 ≤ fr ∧ fr ≤ 1125899906842624 ∧ 0 ≤ he ∧ fr + he ≤ 1125899906842624 ∧ 0 ≤ ou ∧ ou ≤ 1152921504606846976) by omega)
              have df4 : decide (he < 0) = true := decide_eq_true f4
              have HF := Lib.hid (show Bo.okT none l = false by rw [HS.out, Bo.okX_no HC.out, Bool.false_and])
              go_wp2
              go_big_quiet ((go_at_call 24; with_reducible exact Calls.quiet_of_same (HN.out _)))
              go_wp2
              go_ret
              exact ⟨by rw [HF.out]; rfl, below_drewN HBx.out _⟩
            have df4 : decide (he < 0) = false := decide_eq_false f4
            by_cases f5 : ou < 0
            · have HC := Lib.hid (show ¬ (0 ≤ fr ∧ fr ≤ 1125899906842624 ∧ 0 ≤ he ∧ fr + he ≤ 1125899906842624 ∧ 0 ≤ ou ∧ ou ≤ 1152921504606846976) by omega)
              have df5 : decide (ou < 0) = true := decide_eq_true f5
              have HF := Lib.hid (show Bo.okT none l = false by rw [HS.out, Bo.okX_no HC.out, Bool.false_and])
              go_wp2
              go_big_quiet ((go_at_call 24; with_reducible exact Calls.quiet_of_same (HN.out _)))
              go_wp2
              go_ret
              exact ⟨by rw [HF.out]; rfl, below_drewN HBx.out _⟩
            have df5 : decide (ou < 0) = false := decide_eq_false f5
            by_cases f6 : 1125899906842624 < fr
            · have HC := Lib.hid (show ¬ (0 ≤ fr ∧ fr ≤ 1125899906842624 ∧ 0 ≤ he ∧ fr + he ≤ 1125899906842624 ∧ 0 ≤ ou ∧ ou ≤ 1152921504606846976) by omega)
              have df6 : decide (1125899906842624 < fr) = true := decide_eq_true f6
              have HF := Lib.hid (show Bo.okT none l = false by rw [HS.out, Bo.okX_no HC.out, Bool.false_and])
              go_wp2
              go_big_quiet ((go_at_call 24; with_reducible exact Calls.quiet_of_same (HN.out _)))
              go_wp2
              go_ret
              exact ⟨by rw [HF.out]; rfl, below_drewN HBx.out _⟩
            have df6 : decide (1125899906842624 < fr) = false := decide_eq_false f6
            by_cases f7 : 1125899906842624 < he
            · have HC := Lib.hid (show ¬ (0 ≤ fr ∧ fr ≤ 1125899906842624 ∧ 0 ≤ he ∧ fr + he ≤ 1125899906842624 ∧ 0 ≤ ou ∧ ou ≤ 1152921504606846976) by omega)
              have df7 : decide (1125899906842624 < he) = true := decide_eq_true f7
              have HF := Lib.hid (show Bo.okT none l = false by rw [HS.out, Bo.okX_no HC.out, Bool.false_and])
              go_wp2
              go_big_quiet ((go_at_call 24; with_reducible exact Calls.quiet_of_same (HN.out _)))
              go_wp2
              go_ret
              exact ⟨by rw [HF.out]; rfl, below_drewN HBx.out _⟩
            have df7 : decide (1125899906842624 < he) = false := decide_eq_false f7
            by_cases f8 : 1125899906842624 < fr + he
            · have HC := Lib.hid (show ¬ (0 ≤ fr ∧ fr ≤ 1125899906842624 ∧ 0 ≤ he ∧ fr + he ≤ 1125899906842624 ∧ 0 ≤ ou ∧ ou ≤ 1152921504606846976) by omega)
              have df8 : decide (1125899906842624 < fr + he) = true := decide_eq_true f8
              have HF := Lib.hid (show Bo.okT none l = false by rw [HS.out, Bo.okX_no HC.out, Bool.false_and])
              go_wp2
              go_big_quiet ((go_at_call 24; with_reducible exact Calls.quiet_of_same (HN.out _)))
              go_wp2
              go_ret
              exact ⟨by rw [HF.out]; rfl, below_drewN HBx.out _⟩
            have df8 : decide (1125899906842624 < fr + he) = false := decide_eq_false f8
            by_cases f9 : 1152921504606846976 < ou
            · have HC := Lib.hid (show ¬ (0 ≤ fr ∧ fr ≤ 1125899906842624 ∧ 0 ≤ he ∧ fr + he ≤ 1125899906842624 ∧ 0 ≤ ou ∧ ou ≤ 1152921504606846976) by omega)
              have df9 : decide (1152921504606846976 < ou) = true := decide_eq_true f9
              have HF := Lib.hid (show Bo.okT none l = false by rw [HS.out, Bo.okX_no HC.out, Bool.false_and])
              go_wp2
              go_big_quiet ((go_at_call 24; with_reducible exact Calls.quiet_of_same (HN.out _)))
              go_wp2
              go_ret
              exact ⟨by rw [HF.out]; rfl, below_drewN HBx.out _⟩
            have df9 : decide (1152921504606846976 < ou) = false := decide_eq_false f9
            have HC := Lib.hid (show 0 ≤ fr ∧ fr ≤ 1125899906842624 ∧ 0 ≤ he ∧ fr + he ≤ 1125899906842624 ∧ 0 ≤ ou ∧ ou ≤ 1152921504606846976 by omega)
            have HF := Lib.hid (show Bo.okT none l = Bo.okT (some key) (l.drop (j + 1 + 1)) by rw [HS.out, HS2.out, Bo.okX_yes HN1.out (fun q h => by injection h with h; subst h; exact HRo.out) HC.out, Bool.true_and])
            go_wp2
            go_big_quiet ((go_at_call 24; with_reducible exact Calls.quiet_of_same (HN.out _)))
            go_wp2
            go_roundw
            case rel => exact ⟨j + 1 + 1, by omega, by go_num, Lib.hid (by rw [HF.out, HP.out]), Lib.hid (below_drewN HBx.out _)⟩
            case measure => simp [intOf]; omega
    · have hke : k = n := by omega
      obtain rfl : n = k := hke.symm
      have hnk : ¬ (n : Int) < (n : Int) := by omega
      clear hlt
      have HF := Lib.hid (show Bo.okT none l = true by rw [HI.out, List.drop_of_length_le (Nat.le_of_eq HL.out)]; cases Bo.prev l n <;> rfl)
      clear HI HR
      go_wp2
      go_ret
      exact ⟨by rw [HF.out]; rfl, HB.out⟩
end Go.Proofs.Ytcoekdfmfjglpaa
