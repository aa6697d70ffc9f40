/- slices.Equal of totals; which totals are alike but for those of nothing: books.Same. -/
import Derived.Test.YtcoekdfmfjglpaaBoSome
namespace Go.Proofs.Ytcoekdfmfjglpaa
open Go.RowKit
theorem RdT.below {w w' : World} {A : Option Addr} {n : Nat} {l : List Bo.Tt} (h : RdT w A n l) (hb : Below w.heap.size w w') : RdT w' A n l := ⟨h.1, h.2.1.below hb, h.2.2⟩
set_option maxRecDepth 100000 in
set_option maxHeartbeats 4000000 in
theorem sequal_any (A B : Option Addr) (n c m d : Nat) (l r : List Bo.Tt) (w : World) (h1 : RdT w A n l) (h2 : RdT w B m r) (hn : n ≤ 1000000) (hm : m ≤ 1000000) :
    Calls Try.prog 25 #[.slice A n c, .slice B m d] w (TellsIf w (l = r)) := by
  have H1 := Lib.hid h1
  have H2 := Lib.hid h2
  have L1 := Lib.hid h1.1
  have L2 := Lib.hid h2.1
  clear h1 h2
  by_cases hnm : n = m
  · subst hnm
    have ee : ((n : Int) == (n : Int)) = true := by simp
    go_enter Try.func25, Try.ntmps25
    go_wp2
    go_loopw [13] (fun ii wr => ∃ (k : Nat), k ≤ n ∧ ii = .int .i64 (k : Int) ∧ Hid (l.take k = r.take k) ∧ Hid (Below w.heap.size w wr)) (fun ii _ => n - (intOf ii).toNat)
    case atStart => exact ⟨0, by omega, rfl, Lib.hid rfl, Lib.hid (Below.refl _ _)⟩
    case round =>
      rename_i wr hrel
      obtain ⟨k, hk, rfl, HT, HB⟩ := hrel
      by_cases hlt : k < n
      · have hki : (k : Int) < (n : Int) := by omega
        have hk0 : (0 : Int) ≤ (k : Int) := by omega
        obtain ⟨x, hx⟩ : ∃ x, l[k]? = some x := ⟨_, List.getElem?_eq_getElem (by rw [L1.out]; exact hlt)⟩
        obtain ⟨y, hy⟩ : ∃ y, r[k]? = some y := ⟨_, List.getElem?_eq_getElem (by rw [L2.out]; exact hlt)⟩
        obtain ⟨b, o, rfl, hb, hc⟩ := H1.out.at_ hx
        obtain ⟨b2, o2, rfl, hb2, hc2⟩ := H2.out.at_ hy
        have HX := Lib.hid (And.intro hx hy)
        have HQ := Lib.hid (Bo.eqT_iff x y)
        obtain ⟨key, fr, he, ou⟩ := x
        obtain ⟨key2, fr2, he2, ou2⟩ := y
        have e0 : wr.cell? ⟨b, o + k * 4, none⟩ = some (.string key) := (HB.out.cell hb).trans (hc 0 _ rfl)
        have e1 : wr.cell? ⟨b, o + k * 4 + 1, none⟩ = some (.int .i64 fr) := (HB.out.cell hb).trans (hc 1 _ rfl)
        have e2 : wr.cell? ⟨b, o + k * 4 + 2, none⟩ = some (.int .i64 he) := (HB.out.cell hb).trans (hc 2 _ rfl)
        have e3 : wr.cell? ⟨b, o + k * 4 + 3, none⟩ = some (.int .i64 ou) := (HB.out.cell hb).trans (hc 3 _ rfl)
        have f0 : wr.cell? ⟨b2, o2 + k * 4, none⟩ = some (.string key2) := (HB.out.cell hb2).trans (hc2 0 _ rfl)
        have f1 : wr.cell? ⟨b2, o2 + k * 4 + 1, none⟩ = some (.int .i64 fr2) := (HB.out.cell hb2).trans (hc2 1 _ rfl)
        have f2 : wr.cell? ⟨b2, o2 + k * 4 + 2, none⟩ = some (.int .i64 he2) := (HB.out.cell hb2).trans (hc2 2 _ rfl)
        have f3 : wr.cell? ⟨b2, o2 + k * 4 + 3, none⟩ = some (.int .i64 ou2) := (HB.out.cell hb2).trans (hc2 3 _ rfl)
        clear hx hy hb hb2 hc hc2
        by_cases hk2 : key = key2
        · subst hk2
          have g0 := Bo.byt_same key
          by_cases hf2 : fr = fr2
          · subst hf2
            have g1 : (fr == fr) = true := by simp
            by_cases hh2 : he = he2
            · subst hh2
              have g2 : (he == he) = true := by simp
              by_cases ho2 : ou = ou2
              · subst ho2
                have g3 : (ou == ou) = true := by simp
                go_wp2
                go_region
                all_goals
                  go_wp2
                  go_roundw
                  case rel => exact ⟨k + 1, by omega, by go_num, Lib.hid (by rw [List.take_add_one, List.take_add_one, HX.out.1, HX.out.2, HT.out]), Lib.hid HB.out.drew⟩
                  case measure => simp [intOf]; omega
              · have g3 : (ou == ou2) = false := beq_eq_false_iff_ne.2 ho2
                have HNo := Lib.hid (show ¬ l = r from fun e => by
                    have h1 := HX.out.1
                    rw [e, HX.out.2] at h1
                    injection h1 with h1
                    injection h1 with a1 a2 a3 a4
                    exact ho2 a4.symm)
                clear ho2
                go_wp2
                go_region
                all_goals
                  go_wp2
                  go_ret
                  exact ⟨false, rfl, ⟨fun h => (by cases h), fun h => absurd h HNo.out⟩, HB.out.drew⟩
            · have g2 : (he == he2) = false := beq_eq_false_iff_ne.2 hh2
              have HNo := Lib.hid (show ¬ l = r from fun e => by
                  have h1 := HX.out.1
                  rw [e, HX.out.2] at h1
                  injection h1 with h1
                  injection h1 with a1 a2 a3 a4
                  exact hh2 a3.symm)
              clear hh2
              go_wp2
              go_region
              all_goals
                go_wp2
                go_ret
                exact ⟨false, rfl, ⟨fun h => (by cases h), fun h => absurd h HNo.out⟩, HB.out.drew⟩
          · have g1 : (fr == fr2) = false := beq_eq_false_iff_ne.2 hf2
            have HNo := Lib.hid (show ¬ l = r from fun e => by
                have h1 := HX.out.1
                rw [e, HX.out.2] at h1
                injection h1 with h1
                injection h1 with a1 a2 a3 a4
                exact hf2 a2.symm)
            clear hf2
            go_wp2
            go_region
            all_goals
              go_wp2
              go_ret
              exact ⟨false, rfl, ⟨fun h => (by cases h), fun h => absurd h HNo.out⟩, HB.out.drew⟩
        · have g0 := Bo.byt_other hk2
          have HNo := Lib.hid (show ¬ l = r from fun e => by
              have h1 := HX.out.1
              rw [e, HX.out.2] at h1
              injection h1 with h1
              injection h1 with a1 a2 a3 a4
              exact hk2 a1.symm)
          clear hk2
          go_wp2
          go_region
          all_goals
            go_wp2
            go_ret
            exact ⟨false, rfl, ⟨fun h => (by cases h), fun h => absurd h HNo.out⟩, HB.out.drew⟩
      · have hkn : k = n := by omega
        obtain rfl : n = k := hkn.symm
        have hnk : ¬ (n : Int) < (n : Int) := by omega
        clear hlt
        have HY := Lib.hid (show l = r by
          have h := HT.out
          rw [List.take_of_length_le (Nat.le_of_eq L1.out), List.take_of_length_le (Nat.le_of_eq L2.out)] at h
          exact h)
        go_wp2
        go_ret
        exact ⟨true, rfl, ⟨fun _ => HY.out, fun _ => rfl⟩, HB.out⟩
  · have ee : ((n : Int) == (m : Int)) = false := beq_eq_false_iff_ne.2 (by omega)
    have HNo := Lib.hid (show ¬ l = r from fun e => hnm (by rw [← L1.out, ← L2.out, e]))
    clear hnm
    go_enter Try.func25, Try.ntmps25
    go_wp2
    go_ret
    exact ⟨false, rfl, ⟨fun h => (by cases h), fun h => absurd h HNo.out⟩, Below.refl _ _⟩
set_option maxRecDepth 100000 in
theorem same_any (A B : Option Addr) (n c m d : Nat) (l r : List Bo.Tt) (w : World) (h1 : RdT w A n l) (h2 : RdT w B m r) (hn : n ≤ 100000) (hm : m ≤ 100000) :
    Calls Try.prog 19 #[.slice A n c, .slice B m d] w (TellsIf w (Bo.some_ l = Bo.some_ r)) := by
  have H1 := Lib.hid h1
  have H2 := Lib.hid h2
  clear h1 h2
  go_enter Try.func19, Try.ntmps19
  go_wp2_with fail
  refine (some_any A n c l w H1.out hn).mono ?_
  rintro e v1 ⟨B1, c1, rfl, hc1, hr1, hb1⟩
  have HB1 := Lib.hid hb1
  have HR1 := Lib.hid hr1
  clear hb1 hr1 hc1
  go_wp2_with fail
  refine (some_any B m d r v1 (RdT.below H2.out HB1.out) hm).mono ?_
  rintro e v2 ⟨B2, c2, rfl, hc2, hr2, hb2⟩
  have HB2 := Lib.hid hb2
  have HR2 := Lib.hid hr2
  clear hb2 hr2 hc2
  have h3 := List.length_filter_le (fun x => !Bo.nil x) l
  have h4 := List.length_filter_le (fun x => !Bo.nil x) r
  have HL := Lib.hid (show (Bo.some_ l).length ≤ 1000000 ∧ (Bo.some_ r).length ≤ 1000000 from ⟨by have := H1.out.1; unfold Bo.some_; omega, by have := H2.out.1; unfold Bo.some_; omega⟩)
  clear h3 h4
  go_wp2_with fail
  refine (sequal_any B1 B2 _ c1 _ c2 _ _ v2 (RdT.below HR1.out HB2.out) HR2.out HL.out.1 HL.out.2).mono ?_
  rintro e v3 ⟨t, rfl, ht, hb3⟩
  have HF := Lib.hid (And.intro ht (below_next (below_next HB1.out HB2.out) hb3))
  clear ht hb3
  go_wp2
  go_ret
  exact ⟨t, rfl, HF.out.1, HF.out.2⟩
end Go.Proofs.Ytcoekdfmfjglpaa
