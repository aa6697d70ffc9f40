/- Which totals may be: the program's. -/
import Derived.Test.YtcoekdfmfjglpaaBoSame
import Derived.BigQuiet
import Derived.Deep.QuietTactic
namespace Go.Proofs.Ytcoekdfmfjglpaa
open Go.RowKit
namespace Bo
/-- Is a key ahead of another? -/
def ahead (a b : ByteArray) : Bool := Op.bytesLess a.toList b.toList
/-- May a total be, behind a key? -/
def okX (p : Option ByteArray) (x : Tt) : Bool :=
  nm x.key && (match p with | none => true | some q => ahead q x.key) && decide (0 ≤ x.free ∧ x.free ≤ 1125899906842624 ∧ 0 ≤ x.held ∧ x.free + x.held ≤ 1125899906842624 ∧ 0 ≤ x.out ∧ x.out ≤ 1152921504606846976)
/-- May totals be? -/
def okT : Option ByteArray → List Tt → Bool
  | _, [] => true
  | p, x :: xs => okX p x && okT (some x.key) xs
theorem okT_at {p : Option ByteArray} {l : List Tt} {k : Nat} {x : Tt} (h : l[k]? = some x) : okT p (l.drop k) = (okX p x && okT (some x.key) (l.drop (k + 1))) := by
  obtain ⟨hk, hx⟩ := List.getElem?_eq_some_iff.1 h
  rw [List.drop_eq_getElem_cons hk, hx]
  rfl
/-- What stands ahead of the k-th. -/
def prev (l : List Tt) (k : Nat) : Option ByteArray := match k with | 0 => none | j + 1 => (l[j]?).map Tt.key
theorem prev_succ {l : List Tt} {k : Nat} {x : Tt} (h : l[k]? = some x) : prev l (k + 1) = some x.key := by
  show (l[k]?).map Tt.key = _
  rw [h]; rfl
theorem okX_no {p : Option ByteArray} {x : Tt} (h : ¬ (0 ≤ x.free ∧ x.free ≤ 1125899906842624 ∧ 0 ≤ x.held ∧ x.free + x.held ≤ 1125899906842624 ∧ 0 ≤ x.out ∧ x.out ≤ 1152921504606846976)) : okX p x = false := by
  unfold okX
  rw [decide_eq_false h, Bool.and_false]
theorem okX_yes {p : Option ByteArray} {x : Tt} (h1 : nm x.key = true) (h2 : ∀ q, p = some q → ahead q x.key = true) (h : 0 ≤ x.free ∧ x.free ≤ 1125899906842624 ∧ 0 ≤ x.held ∧ x.free + x.held ≤ 1125899906842624 ∧ 0 ≤ x.out ∧ x.out ≤ 1152921504606846976) : okX p x = true := by
  unfold okX
  rw [h1, decide_eq_true h]
  cases p with
  | none => rfl
  | some q =>
    dsimp only
    rw [h2 q rfl]
    rfl
theorem okX_name {p : Option ByteArray} {x : Tt} (h1 : nm x.key = false) : okX p x = false := by
  unfold okX
  rw [h1, Bool.false_and, Bool.false_and]
theorem okX_row {q : ByteArray} {x : Tt} (h1 : ahead q x.key = false) : okX (some q) x = false := by
  unfold okX
  dsimp only
  rw [h1, Bool.and_false, Bool.false_and]
end Bo
set_option maxRecDepth 100000 in
set_option maxHeartbeats 16000000 in
theorem checkt_any (A : Option Addr) (n c : Nat) (l : List Bo.Tt) (w : World) (hr : RdT w A n l) (hn : n ≤ 1000000) :
    Calls Try.prog 12 #[.slice A n c] w fun e w' => e = .returned (.int .i64 (if Bo.okT none l then 0 else 230)) ∧ Below w.heap.size w w' := by
  have HR := Lib.hid hr
  have HL := Lib.hid hr.1
  clear hr
  generalize hA : (if Bo.okT none l then (0 : Int) else 230) = ans
  have HA := Lib.hid hA
  clear hA
  go_enter Try.func12, Try.ntmps12
  go_wp2
  go_loopw [7] (fun ii wr => ∃ (k : Nat), k ≤ n ∧ ii = .int .i64 (k : Int) ∧ Hid (Bo.okT none l = Bo.okT (Bo.prev l k) (l.drop k)) ∧ Hid (Below w.heap.size w wr)) (fun ii _ => n - (intOf ii).toNat)
  case atStart => exact ⟨0, by omega, rfl, Lib.hid rfl, Lib.hid (Below.refl _ _)⟩
  case round =>
    rename_i wr hrel
    obtain ⟨k, hk, rfl, HI, HB⟩ := hrel
    by_cases hlt : k < n
    · have hki : (k : Int) < (n : Int) := by omega
      obtain ⟨x, hx⟩ : ∃ x, l[k]? = some x := ⟨_, List.getElem?_eq_getElem (by rw [HL.out]; exact hlt)⟩
      obtain ⟨b, o, rfl, hbl, hcell⟩ := HR.out.at_ hx
      have hks := HR.out.2.2 x (List.mem_of_getElem? hx)
      have HS := Lib.hid (HI.out.trans (Bo.okT_at hx))
      have HP := Lib.hid (Bo.prev_succ hx)
      have hpk : ∀ j y, k = j + 1 → l[j]? = some y → wr.cell? ⟨b, o + j * 4, none⟩ = some (.string y.key) := by
        intro j y hj hy
        obtain ⟨b2, o2, e2, hb2, hc2⟩ := HR.out.at_ hy
        injection e2 with e2
        injection e2 with e3 e4
        subst e3 e4
        exact (HB.out.cell hb2).trans (hc2 0 _ rfl)
      clear HI
      obtain ⟨key, fr, he, ou⟩ := x
      have HN := Lib.hid (fun (u : World) => isname_any key u hks)
      have hBx := HB.out.alloc HB.out.size (.cells #[Value.string key, .int .i64 fr, .int .i64 he, .int .i64 ou] 46)
      have HBx := Lib.hid hBx
      clear hBx hks
      cases k with
      | zero =>
        have e0 : wr.cell? ⟨b, o, none⟩ = some (.string key) := by have h := (HB.out.cell hbl).trans (hcell 0 _ rfl); simpa using h
        have e1 : wr.cell? ⟨b, o + 1, none⟩ = some (.int .i64 fr) := by have h := (HB.out.cell hbl).trans (hcell 1 _ rfl); simpa using h
        have e2 : wr.cell? ⟨b, o + 2, none⟩ = some (.int .i64 he) := by have h := (HB.out.cell hbl).trans (hcell 2 _ rfl); simpa using h
        have e3 : wr.cell? ⟨b, o + 3, none⟩ = some (.int .i64 ou) := by have h := (HB.out.cell hbl).trans (hcell 3 _ rfl); simpa using h
        clear hcell hbl hpk
        cases hn : Bo.nm key with
        | false =>
          rw [hn] at HN
          have HF := Lib.hid (show Bo.okT none l = false by rw [HS.out, Bo.okX_name hn, Bool.false_and])
          go_wp2
          go_big_quiet ((go_at_call 23; with_reducible exact Calls.quiet_of_same (HN.out _)))
          go_wp2
          go_ret
          exact ⟨by rw [← HA.out, HF.out]; rfl, below_drewN HBx.out _⟩
        | true =>
          have HN1 := Lib.hid hn
          rw [hn] at HN
          clear hn
          by_cases f3 : fr < 0
          · have HC := Lib.hid (show ¬ (0 ≤ fr ∧ fr ≤ 1125899906842624 ∧ 0 ≤ he ∧ fr + he ≤ 1125899906842624 ∧ 0 ≤ ou ∧ ou ≤ 1152921504606846976) by omega)
            have df3 : decide (fr < 0) = true := decide_eq_true f3
            have HF := Lib.hid (show Bo.okT none l = false by rw [HS.out, Bo.okX_no HC.out, Bool.false_and])
            go_wp2
            go_big_quiet ((go_at_call 23; with_reducible exact Calls.quiet_of_same (HN.out _)))
            go_wp2
            go_ret
            exact ⟨by rw [← HA.out, HF.out]; rfl, below_drewN HBx.out _⟩
          have df3 : decide (fr < 0) = false := decide_eq_false f3
          by_cases f4 : 1125899906842624 < fr
          · have HC := Lib.hid (show ¬ (0 ≤ fr ∧ fr ≤ 1125899906842624 ∧ 0 ≤ he ∧ fr + he ≤ 1125899906842624 ∧ 0 ≤ ou ∧ ou ≤ 1152921504606846976) by omega)
            have df4 : decide (1125899906842624 < fr) = true := decide_eq_true f4
            have HF := Lib.hid (show Bo.okT none l = false by rw [HS.out, Bo.okX_no HC.out, Bool.false_and])
            go_wp2
            go_big_quiet ((go_at_call 23; with_reducible exact Calls.quiet_of_same (HN.out _)))
            go_wp2
            go_ret
            exact ⟨by rw [← HA.out, HF.out]; rfl, below_drewN HBx.out _⟩
          have df4 : decide (1125899906842624 < fr) = false := decide_eq_false f4
          by_cases f5 : he < 0
          · have HC := Lib.hid (show ¬ (0 ≤ fr ∧ fr ≤ 1125899906842624 ∧ 0 ≤ he ∧ fr + he ≤ 1125899906842624 ∧ 0 ≤ ou ∧ ou ≤ 1152921504606846976) by omega)
            have df5 : decide (he < 0) = true := decide_eq_true f5
            have HF := Lib.hid (show Bo.okT none l = false by rw [HS.out, Bo.okX_no HC.out, Bool.false_and])
            go_wp2
            go_big_quiet ((go_at_call 23; with_reducible exact Calls.quiet_of_same (HN.out _)))
            go_wp2
            go_ret
            exact ⟨by rw [← HA.out, HF.out]; rfl, below_drewN HBx.out _⟩
          have df5 : decide (he < 0) = false := decide_eq_false f5
          by_cases f6 : 1125899906842624 - fr < he
          · have HC := Lib.hid (show ¬ (0 ≤ fr ∧ fr ≤ 1125899906842624 ∧ 0 ≤ he ∧ fr + he ≤ 1125899906842624 ∧ 0 ≤ ou ∧ ou ≤ 1152921504606846976) by omega)
            have df6 : decide (1125899906842624 - fr < he) = true := decide_eq_true f6
            have HF := Lib.hid (show Bo.okT none l = false by rw [HS.out, Bo.okX_no HC.out, Bool.false_and])
            go_wp2
            go_big_quiet ((go_at_call 23; with_reducible exact Calls.quiet_of_same (HN.out _)))
            go_wp2
            go_ret
            exact ⟨by rw [← HA.out, HF.out]; rfl, below_drewN HBx.out _⟩
          have df6 : decide (1125899906842624 - fr < he) = false := decide_eq_false f6
          by_cases f7 : ou < 0
          · have HC := Lib.hid (show ¬ (0 ≤ fr ∧ fr ≤ 1125899906842624 ∧ 0 ≤ he ∧ fr + he ≤ 1125899906842624 ∧ 0 ≤ ou ∧ ou ≤ 1152921504606846976) by omega)
            have df7 : decide (ou < 0) = true := decide_eq_true f7
            have HF := Lib.hid (show Bo.okT none l = false by rw [HS.out, Bo.okX_no HC.out, Bool.false_and])
            go_wp2
            go_big_quiet ((go_at_call 23; with_reducible exact Calls.quiet_of_same (HN.out _)))
            go_wp2
            go_ret
            exact ⟨by rw [← HA.out, HF.out]; rfl, below_drewN HBx.out _⟩
          have df7 : decide (ou < 0) = false := decide_eq_false f7
          by_cases f8 : 1152921504606846976 < ou
          · have HC := Lib.hid (show ¬ (0 ≤ fr ∧ fr ≤ 1125899906842624 ∧ 0 ≤ he ∧ fr + he ≤ 1125899906842624 ∧ 0 ≤ ou ∧ ou ≤ 1152921504606846976) by omega)
            have df8 : decide (1152921504606846976 < ou) = true := decide_eq_true f8
            have HF := Lib.hid (show Bo.okT none l = false by rw [HS.out, Bo.okX_no HC.out, Bool.false_and])
            go_wp2
            go_big_quiet ((go_at_call 23; with_reducible exact Calls.quiet_of_same (HN.out _)))
            go_wp2
            go_ret
            exact ⟨by rw [← HA.out, HF.out]; rfl, below_drewN HBx.out _⟩
          have df8 : decide (1152921504606846976 < ou) = false := decide_eq_false f8
          have HC := Lib.hid (show 0 ≤ fr ∧ fr ≤ 1125899906842624 ∧ 0 ≤ he ∧ fr + he ≤ 1125899906842624 ∧ 0 ≤ ou ∧ ou ≤ 1152921504606846976 by omega)
          have HF := Lib.hid (show Bo.okT none l = Bo.okT (some key) (l.drop (0 + 1)) by rw [HS.out, Bo.okX_yes HN1.out (fun q h => by cases h) HC.out, Bool.true_and])
          go_wp2
          go_big_quiet ((go_at_call 23; with_reducible exact Calls.quiet_of_same (HN.out _)))
          go_wp2
          go_roundw
          case rel => exact ⟨0 + 1, by omega, by go_num, Lib.hid (by rw [HF.out, HP.out]), Lib.hid (below_drewN HBx.out _)⟩
          case measure => simp [intOf]; omega
      | succ j =>
        obtain ⟨y, hy⟩ : ∃ y, l[j]? = some y := ⟨_, List.getElem?_eq_getElem (by rw [HL.out]; omega)⟩
        have p0 := hpk j y rfl hy
        have HS2 := Lib.hid (show Bo.prev l (j + 1) = some y.key from Bo.prev_succ hy)
        obtain ⟨pk, y1, y2, y3⟩ := y
        replace p0 : wr.cell? ⟨b, o + j * 4, none⟩ = some (.string pk) := p0
        have e0 : wr.cell? ⟨b, o + (j + 1) * 4, none⟩ = some (.string key) := (HB.out.cell hbl).trans (hcell 0 _ rfl)
        have e1 : wr.cell? ⟨b, o + (j + 1) * 4 + 1, none⟩ = some (.int .i64 fr) := (HB.out.cell hbl).trans (hcell 1 _ rfl)
        have e2 : wr.cell? ⟨b, o + (j + 1) * 4 + 2, none⟩ = some (.int .i64 he) := (HB.out.cell hbl).trans (hcell 2 _ rfl)
        have e3 : wr.cell? ⟨b, o + (j + 1) * 4 + 3, none⟩ = some (.int .i64 ou) := (HB.out.cell hbl).trans (hcell 3 _ rfl)
        have hj1 : (((j + 1 : Nat) : Int) - 1) = (j : Int) := by omega
        have hj0 : (0 : Int) < ((j + 1 : Nat) : Int) := by omega
        have hj2 : (j : Int) < (n : Int) := by omega
        have hbw : b < wr.heap.size := Nat.lt_of_lt_of_le hbl HB.out.size
        have hbe : b ≠ wr.heap.size := Nat.ne_of_lt hbw
        have p1 : (wr.alloc (.cells #[Value.string key, .int .i64 fr, .int .i64 he, .int .i64 ou] 46)).cell? ⟨b, o + j * 4, none⟩ = some (.string pk) := ((Below.refl wr.heap.size wr).alloc (Nat.le_refl _) _).cell hbw |>.trans p0
        clear hcell hbl hpk hy
        cases hn : Bo.nm key with
        | false =>
          rw [hn] at HN
          have HF := Lib.hid (show Bo.okT none l = false by rw [HS.out, Bo.okX_name hn, Bool.false_and])
          go_wp2
          go_big_quiet ((go_at_call 23; with_reducible exact Calls.quiet_of_same (HN.out _)))
          go_wp2
          go_ret
          exact ⟨by rw [← HA.out, HF.out]; rfl, below_drewN HBx.out _⟩
        | true =>
          have HN1 := Lib.hid hn
          rw [hn] at HN
          clear hn
          cases hro : Op.bytesLess pk.toList key.toList with
          | false =>
            have HF := Lib.hid (show Bo.okT none l = false by rw [HS.out, HS2.out, Bo.okX_row (x := ⟨key, fr, he, ou⟩) (q := pk) hro, Bool.false_and])
            go_wp2
            go_big_quiet ((go_at_call 23; with_reducible exact Calls.quiet_of_same (HN.out _)))
            go_wp2
            go_ret
            exact ⟨by rw [← HA.out, HF.out]; rfl, below_drewN HBx.out _⟩
          | true =>
            have HRo := Lib.hid hro
            by_cases f3 : fr < 0
            · have HC := Lib.hid (show ¬ (0 ≤ fr ∧ fr ≤ 1125899906842624 ∧ 0 ≤ he ∧ fr + he ≤ 1125899906842624 ∧ 0 ≤ ou ∧ ou ≤ 1152921504606846976) by omega)
              have df3 : decide (fr < 0) = true := decide_eq_true f3
              have HF := Lib.hid (show Bo.okT none l = false by rw [HS.out, Bo.okX_no HC.out, Bool.false_and])
              go_wp2
              go_big_quiet ((go_at_call 23; with_reducible exact Calls.quiet_of_same (HN.out _)))
              go_wp2
              go_ret
              exact ⟨by rw [← HA.out, HF.out]; rfl, below_drewN HBx.out _⟩
            have df3 : decide (fr < 0) = false := decide_eq_false f3
            by_cases f4 : 1125899906842624 < fr
            · have HC := Lib.hid (show ¬ (0 ≤ fr ∧ fr ≤ 1125899906842624 ∧ 0 ≤ he ∧ fr + he ≤ 1125899906842624 ∧ 0 ≤ ou ∧ ou ≤ 1152921504606846976) by omega)
              have df4 : decide (1125899906842624 < fr) = true := decide_eq_true f4
              have HF := Lib.hid (show Bo.okT none l = false by rw [HS.out, Bo.okX_no HC.out, Bool.false_and])
              go_wp2
              go_big_quiet ((go_at_call 23; with_reducible exact Calls.quiet_of_same (HN.out _)))
              go_wp2
              go_ret
              exact ⟨by rw [← HA.out, HF.out]; rfl, below_drewN HBx.out _⟩
            have df4 : decide (1125899906842624 < fr) = false := decide_eq_false f4
            by_cases f5 : he < 0
            · have HC := Lib.hid (show ¬ (0 ≤ fr ∧ fr ≤ 1125899906842624 ∧ 0 ≤ he ∧ fr + he ≤ 1125899906842624 ∧ 0 ≤ ou ∧ ou ≤ 1152921504606846976) by omega)
              have df5 : decide (he < 0) = true := decide_eq_true f5
              have HF := Lib.hid (show Bo.okT none l = false by rw [HS.out, Bo.okX_no HC.out, Bool.false_and])
              go_wp2
              go_big_quiet ((go_at_call 23; with_reducible exact Calls.quiet_of_same (HN.out _)))
              go_wp2
              go_ret
              exact ⟨by rw [← HA.out, HF.out]; rfl, below_drewN HBx.out _⟩
            have df5 : decide (he < 0) = false := decide_eq_false f5
            by_cases f6 : 1125899906842624 - fr < he
            · have HC := Lib.hid (show ¬ (0 ≤ fr ∧ fr ≤ 1125899906842624 ∧ 0 ≤ he ∧ fr + he ≤ 1125899906842624 ∧ 0 ≤ ou ∧ ou ≤ 1152921504606846976) by omega)
              have df6 : decide (1125899906842624 - fr < he) = true := decide_eq_true f6
              have HF := Lib.hid (show Bo.okT none l = false by rw [HS.out, Bo.okX_no HC.out, Bool.false_and])
              go_wp2
              go_big_quiet ((go_at_call 23; with_reducible exact Calls.quiet_of_same (HN.out _)))
              go_wp2
              go_ret
              exact ⟨by rw [← HA.out, HF.out]; rfl, below_drewN HBx.out _⟩
            have df6 : decide (1125899906842624 - fr < he) = false := decide_eq_false f6
            by_cases f7 : ou < 0
            · have HC := Lib.hid (show ¬ (0 ≤ fr ∧ fr ≤ 1125899906842624 ∧ 0 ≤ he ∧ fr + he ≤ 1125899906842624 ∧ 0 ≤ ou ∧ ou ≤ 1152921504606846976) by omega)
              have df7 : decide (ou < 0) = true := decide_eq_true f7
              have HF := Lib.hid (show Bo.okT none l = false by rw [HS.out, Bo.okX_no HC.out, Bool.false_and])
              go_wp2
              go_big_quiet ((go_at_call 23; with_reducible exact Calls.quiet_of_same (HN.out _)))
              go_wp2
              go_ret
              exact ⟨by rw [← HA.out, HF.out]; rfl, below_drewN HBx.out _⟩
            have df7 : decide (ou < 0) = false := decide_eq_false f7
            by_cases f8 : 1152921504606846976 < ou
            · have HC := Lib.hid (show ¬ (0 ≤ fr ∧ fr ≤ 1125899906842624 ∧ 0 ≤ he ∧ fr + he ≤ 1125899906842624 ∧ 0 ≤ ou ∧ ou ≤ 1152921504606846976) by omega)
              have df8 : decide (1152921504606846976 < ou) = true := decide_eq_true f8
              have HF := Lib.hid (show Bo.okT none l = false by rw [HS.out, Bo.okX_no HC.out, Bool.false_and])
              go_wp2
              go_big_quiet ((go_at_call 23; with_reducible exact Calls.quiet_of_same (HN.out _)))
              go_wp2
              go_ret
              exact ⟨by rw [← HA.out, HF.out]; rfl, below_drewN HBx.out _⟩
            have df8 : decide (1152921504606846976 < ou) = false := decide_eq_false f8
            have HC := Lib.hid (show 0 ≤ fr ∧ fr ≤ 1125899906842624 ∧ 0 ≤ he ∧ fr + he ≤ 1125899906842624 ∧ 0 ≤ ou ∧ ou ≤ 1152921504606846976 by omega)
            have HF := Lib.hid (show Bo.okT none l = Bo.okT (some key) (l.drop (j + 1 + 1)) by rw [HS.out, HS2.out, Bo.okX_yes HN1.out (fun q h => by injection h with h; subst h; exact HRo.out) HC.out, Bool.true_and])
            go_wp2
            go_big_quiet ((go_at_call 23; with_reducible exact Calls.quiet_of_same (HN.out _)))
            go_wp2
            go_roundw
            case rel => exact ⟨j + 1 + 1, by omega, by go_num, Lib.hid (by rw [HF.out, HP.out]), Lib.hid (below_drewN HBx.out _)⟩
            case measure => simp [intOf]; omega
    · have hke : k = n := by omega
      obtain rfl : n = k := hke.symm
      have hnk : ¬ (n : Int) < (n : Int) := by omega
      clear hlt
      have HF := Lib.hid (show Bo.okT none l = true by rw [HI.out, List.drop_of_length_le (Nat.le_of_eq HL.out)]; cases Bo.prev l n <;> rfl)
      clear HI HR
      go_wp2
      go_ret
      exact ⟨by rw [← HA.out, HF.out]; rfl, HB.out⟩
end Go.Proofs.Ytcoekdfmfjglpaa
