/- The document's Equal: two rows of totals. -/
import Derived.Test.YtcoekdfmfjglpaaBoLess
import Derived.Laws.StructEq
namespace Go.Proofs.Ytcoekdfmfjglpaa
open Go.RowKit
namespace Bo
theorem byt_same (a : ByteArray) : (a.toList == a.toList) = true := by simp
theorem byt_other {a b : ByteArray} (h : a ≠ b) : (a.toList == b.toList) = false := by
  rw [beq_eq_false_iff_ne]
  intro e
  apply h
  rw [ByteArray.toList_eq, ByteArray.toList_eq] at e
  cases a; cases b
  simp at e
  rw [e]
/-- What two totals' values, compared, give. -/
def eqT (x y : Tt) : Bool := (x.key.toList == y.key.toList) && (x.free == y.free) && (x.held == y.held) && (x.out == y.out)
theorem eqT_iff (x y : Tt) : eqT x y = true ↔ x = y := by
  constructor
  · intro h
    unfold eqT at h
    simp only [Bool.and_eq_true, beq_iff_eq] at h
    obtain ⟨⟨⟨h1, h2⟩, h3⟩, h4⟩ := h
    have hk : x.key = y.key := by
      by_cases h5 : x.key = y.key
      · exact h5
      · have := byt_other h5
        rw [h1] at this
        simp at this
    cases x; cases y
    simp_all
  · rintro rfl
    simp [eqT]
end Bo
/-- It tells whether. -/
def TellsIf (w : World) (P : Prop) (e : Ending) (w' : World) : Prop := ∃ t : Bool, e = .returned (.bool t) ∧ (t = true ↔ P) ∧ Below w.heap.size w w'
set_option maxRecDepth 100000 in
set_option maxHeartbeats 4000000 in
theorem equal_any (A B : Option Addr) (n c m d : Nat) (l r : List Bo.Tt) (w : World) (h1 : RdT w A n l) (h2 : RdT w B m r) (hn : n ≤ 1000000) (hm : m ≤ 1000000) :
    Calls Try.prog 13 #[.slice A n c, .slice B m d] w (TellsIf w (l = r)) := by
  have H1 := Lib.hid h1
  have H2 := Lib.hid h2
  have L1 := Lib.hid h1.1
  have L2 := Lib.hid h2.1
  clear h1 h2
  by_cases hnm : n = m
  · subst hnm
    have ee : ((n : Int) == (n : Int)) = true := by simp
    go_enter Try.func13, Try.ntmps13
    go_wp2
    go_loopw [5] (fun ii wr => ∃ (k : Nat), k ≤ n ∧ ii = .int .i64 (k : Int) ∧ Hid (l.take k = r.take k) ∧ Hid (Below w.heap.size w wr)) (fun ii _ => n - (intOf ii).toNat)
    case atStart => exact ⟨0, by omega, rfl, Lib.hid rfl, Lib.hid (Below.refl _ _)⟩
    case round =>
      rename_i wr hrel
      obtain ⟨k, hk, rfl, HT, HB⟩ := hrel
      by_cases hlt : k < n
      · have hki : (k : Int) < (n : Int) := by omega
        have hk0 : (0 : Int) ≤ (k : Int) := by omega
        obtain ⟨x, hx⟩ : ∃ x, l[k]? = some x := ⟨_, List.getElem?_eq_getElem (by rw [L1.out]; exact hlt)⟩
        obtain ⟨y, hy⟩ : ∃ y, r[k]? = some y := ⟨_, List.getElem?_eq_getElem (by rw [L2.out]; exact hlt)⟩
        obtain ⟨b, o, rfl, hb, hc⟩ := H1.out.at_ hx
        obtain ⟨b2, o2, rfl, hb2, hc2⟩ := H2.out.at_ hy
        have HX := Lib.hid (And.intro hx hy)
        have HQ := Lib.hid (Bo.eqT_iff x y)
        obtain ⟨key, fr, he, ou⟩ := x
        obtain ⟨key2, fr2, he2, ou2⟩ := y
        have e0 : wr.cell? ⟨b, o + k * 4, none⟩ = some (.string key) := (HB.out.cell hb).trans (hc 0 _ rfl)
        have e1 : wr.cell? ⟨b, o + k * 4 + 1, none⟩ = some (.int .i64 fr) := (HB.out.cell hb).trans (hc 1 _ rfl)
        have e2 : wr.cell? ⟨b, o + k * 4 + 2, none⟩ = some (.int .i64 he) := (HB.out.cell hb).trans (hc 2 _ rfl)
        have e3 : wr.cell? ⟨b, o + k * 4 + 3, none⟩ = some (.int .i64 ou) := (HB.out.cell hb).trans (hc 3 _ rfl)
        have f0 : wr.cell? ⟨b2, o2 + k * 4, none⟩ = some (.string key2) := (HB.out.cell hb2).trans (hc2 0 _ rfl)
        have f1 : wr.cell? ⟨b2, o2 + k * 4 + 1, none⟩ = some (.int .i64 fr2) := (HB.out.cell hb2).trans (hc2 1 _ rfl)
        have f2 : wr.cell? ⟨b2, o2 + k * 4 + 2, none⟩ = some (.int .i64 he2) := (HB.out.cell hb2).trans (hc2 2 _ rfl)
        have f3 : wr.cell? ⟨b2, o2 + k * 4 + 3, none⟩ = some (.int .i64 ou2) := (HB.out.cell hb2).trans (hc2 3 _ rfl)
        clear hx hy hb hb2 hc hc2
        by_cases hk2 : key = key2
        · subst hk2
          have g0 := Bo.byt_same key
          by_cases hf2 : fr = fr2
          · subst hf2
            have g1 : (fr == fr) = true := by simp
            by_cases hh2 : he = he2
            · subst hh2
              have g2 : (he == he) = true := by simp
              by_cases ho2 : ou = ou2
              · subst ho2
                have g3 : (ou == ou) = true := by simp
                go_wp2
                go_region
                all_goals
                  go_wp2
                  go_roundw
                  case rel => exact ⟨k + 1, by omega, by go_num, Lib.hid (by rw [List.take_add_one, List.take_add_one, HX.out.1, HX.out.2, HT.out]), Lib.hid HB.out.drew⟩
                  case measure => simp [intOf]; omega
              · have g3 : (ou == ou2) = false := beq_eq_false_iff_ne.2 ho2
                have HNo := Lib.hid (show ¬ l = r from fun e => by
                    have h1 := HX.out.1
                    rw [e, HX.out.2] at h1
                    injection h1 with h1
                    injection h1 with a1 a2 a3 a4
                    exact ho2 a4.symm)
                clear ho2
                go_wp2
                go_region
                all_goals
                  go_wp2
                  go_ret
                  exact ⟨false, rfl, ⟨fun h => (by cases h), fun h => absurd h HNo.out⟩, HB.out.drew⟩
            · have g2 : (he == he2) = false := beq_eq_false_iff_ne.2 hh2
              have HNo := Lib.hid (show ¬ l = r from fun e => by
                  have h1 := HX.out.1
                  rw [e, HX.out.2] at h1
                  injection h1 with h1
                  injection h1 with a1 a2 a3 a4
                  exact hh2 a3.symm)
              clear hh2
              go_wp2
              go_region
              all_goals
                go_wp2
                go_ret
                exact ⟨false, rfl, ⟨fun h => (by cases h), fun h => absurd h HNo.out⟩, HB.out.drew⟩
          · have g1 : (fr == fr2) = false := beq_eq_false_iff_ne.2 hf2
            have HNo := Lib.hid (show ¬ l = r from fun e => by
                have h1 := HX.out.1
                rw [e, HX.out.2] at h1
                injection h1 with h1
                injection h1 with a1 a2 a3 a4
                exact hf2 a2.symm)
            clear hf2
            go_wp2
            go_region
            all_goals
              go_wp2
              go_ret
              exact ⟨false, rfl, ⟨fun h => (by cases h), fun h => absurd h HNo.out⟩, HB.out.drew⟩
        · have g0 := Bo.byt_other hk2
          have HNo := Lib.hid (show ¬ l = r from fun e => by
              have h1 := HX.out.1
              rw [e, HX.out.2] at h1
              injection h1 with h1
              injection h1 with a1 a2 a3 a4
              exact hk2 a1.symm)
          clear hk2
          go_wp2
          go_region
          all_goals
            go_wp2
            go_ret
            exact ⟨false, rfl, ⟨fun h => (by cases h), fun h => absurd h HNo.out⟩, HB.out.drew⟩
      · have hkn : k = n := by omega
        obtain rfl : n = k := hkn.symm
        have hnk : ¬ (n : Int) < (n : Int) := by omega
        clear hlt
        have HY := Lib.hid (show l = r by
          have h := HT.out
          rw [List.take_of_length_le (Nat.le_of_eq L1.out), List.take_of_length_le (Nat.le_of_eq L2.out)] at h
          exact h)
        go_wp2
        go_ret
        exact ⟨true, rfl, ⟨fun _ => HY.out, fun _ => rfl⟩, HB.out⟩
  · have ee : ((n : Int) == (m : Int)) = false := beq_eq_false_iff_ne.2 (by omega)
    have HNo := Lib.hid (show ¬ l = r from fun e => hnm (by rw [← L1.out, ← L2.out, e]))
    clear hnm
    go_enter Try.func13, Try.ntmps13
    go_wp2
    go_ret
    exact ⟨false, rfl, ⟨fun h => (by cases h), fun h => absurd h HNo.out⟩, Below.refl _ _⟩
end Go.Proofs.Ytcoekdfmfjglpaa
