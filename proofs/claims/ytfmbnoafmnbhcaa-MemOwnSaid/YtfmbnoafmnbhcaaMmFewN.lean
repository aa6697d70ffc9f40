/- The law's few: its row lies in new memory. -/
import Derived.Test.YtfmbnoafmnbhcaaMmFew
namespace Go.Proofs.Ytfmbnoafmnbhcaa
open Go.RowKit
/-- Entries that the laws look at, in a row of the call's own. -/
def GivesFewN (w : World) (es : List (Bk.En × Bk.Sl)) (e : Ending) (w' : World) : Prop :=
  ∃ B c, e = .returned (.slice B (Bk.few es).length c) ∧ (0 < (Bk.few es).length → ∀ g o, B = some ⟨g, o, none⟩ → w.heap.size ≤ g) ∧ RdE w' B (Bk.few es).length (Bk.few es) ∧ Below w.heap.size w w'
set_option maxRecDepth 100000 in
set_option maxHeartbeats 4000000 in
theorem few_new (A : Option Addr) (n c : Nat) (es : List (Bk.En × Bk.Sl)) (w : World) (hr : RdI w A n es) (hn : n ≤ 9223372036854775807) :
    Calls Try.prog 17 #[.slice A n c] w (GivesFewN w es) := by
  have HR := Lib.hid hr
  have HL := Lib.hid hr.1
  clear hr
  go_enter Try.func17, Try.ntmps17
  go_wp2
  go_loopw [3, 4] (fun s ii wr => ∃ (k m : Nat) (B : Option Addr) (d : Nat), k ≤ n ∧ k ≤ 80 ∧ m ≤ k ∧ ii = .int .i64 (k : Int) ∧ s = .slice B m d ∧ Hid (m = (Bk.few (es.take k)).length) ∧ Hid (OwnC 4 wr w.heap.size 24 B m d (Bk.flat (Bk.few (es.take k)))) ∧ Hid (Below w.heap.size w wr)) (fun _ ii _ => n - (intOf ii).toNat)
  case atStart => exact ⟨0, 0, none, 0, by omega, by omega, Nat.le_refl _, rfl, rfl, Lib.hid rfl, Lib.hid (OwnC.none_ _ _ _ _), Lib.hid (Below.refl _ _)⟩
  case round =>
    rename_i wr hrel
    obtain ⟨k, m, B, d, hk, hk7, hmk, rfl, rfl, HM, HO, HB⟩ := hrel
    by_cases hin : k < n ∧ k < 80
    · obtain ⟨hkn, hk80⟩ := hin
      have hki : (k : Int) < (n : Int) := by omega
      have hk8i : (k : Int) < 80 := by omega
      obtain ⟨p, hp⟩ : ∃ p, es[k]? = some p := ⟨_, List.getElem?_eq_getElem (by rw [HL.out]; omega)⟩
      obtain ⟨b, o, rfl, hbl, hcell⟩ := HR.out.at_ hp
      have HS := Lib.hid (Bk.few_snoc hp hk80)
      have hat := HR.out.2.2 p (List.mem_of_getElem? hp)
      have hks := hat.2.2.1
      have hns := hat.2.2.2.2.2
      obtain ⟨⟨key, seq, del, val⟩, V, vn, vc⟩ := p
      have hks : key.size ≤ 9223372036854775807 := hks
      have hns : vn ≤ 9223372036854775807 := hns
      have e0 : wr.cell? ⟨b, o + k * 4, none⟩ = some (.string key) := (HB.out.cell hbl).trans (hcell 0 _ rfl)
      have e1 : wr.cell? ⟨b, o + k * 4 + 1, none⟩ = some (.int .i64 seq) := (HB.out.cell hbl).trans (hcell 1 _ rfl)
      have e2 : wr.cell? ⟨b, o + k * 4 + 2, none⟩ = some (.bool del) := (HB.out.cell hbl).trans (hcell 2 _ rfl)
      have e3 : wr.cell? ⟨b, o + k * 4 + 3, none⟩ = some (.slice V vn vc) := (HB.out.cell hbl).trans (hcell 3 _ rfl)
      clear hp hcell hat hbl
      by_cases h1 : key.size ≤ 200
      · have h1i : (key.size : Int) ≤ 200 := by omega
        by_cases h2 : vn ≤ 400
        · have h2i : (vn : Int) ≤ 400 := by omega
          have hsm : Bk.small (⟨key, seq, del, val⟩, V, vn, vc) = true := by
            unfold Bk.small
            rw [Bool.and_eq_true, decide_eq_true_eq, decide_eq_true_eq]
            exact ⟨h1, h2⟩
          have HS2 := HS.out
          rw [hsm, if_pos rfl] at HS2
          have HS3 := Lib.hid HS2
          have hal : w.heap.size ≤ (wr.alloc (.cells (Bk.cells (⟨key, seq, del, val⟩, V, vn, vc)).toArray 24)).heap.size := by have := HB.out.size; simp; omega
          clear hsm HS2 HS
          go_wp2_with (first | (at_builtin; refine wpList_appC manyE rfl (.tmp 31) (.tmp 36) rfl rfl (HO.out.alloc _) ⟨wr.heap.size, 0, none⟩ 1 1 (Bk.cells (⟨key, seq, del, val⟩, V, vn, vc)) (Bk.cells_one _) rfl (rdc_new 4 wr _ _ 1 rfl (0, 0)) (by omega) hal ?_; intro B6 cap6 w6 hg6))
          have HF := Lib.hid (show OwnC 4 w6 w.heap.size 24 B6 (m + 1) cap6 (Bk.flat (Bk.few (es.take (k + 1)))) ∧ m + 1 = (Bk.few (es.take (k + 1))).length ∧ Below w.heap.size w w6 by
            have hfl : Bk.flat (Bk.few (es.take (k + 1))) = Bk.flat (Bk.few (es.take k)) ++ Bk.cells (⟨key, seq, del, val⟩, V, vn, vc) := by rw [HS3.out, Bk.flat_append]; simp [Bk.flat]
            refine ⟨by rw [hfl]; exact hg6.own, by rw [HS3.out, List.length_append, ← HM.out]; rfl, hg6.below (HB.out.alloc HB.out.size _) hal fun g hg => (HO.out.blk g hg).1⟩)
          clear hg6
          go_roundw
          case rel => exact ⟨k + 1, m + 1, B6, cap6, by omega, by omega, by omega, by go_num, rfl, Lib.hid HF.out.2.1, Lib.hid HF.out.1, Lib.hid HF.out.2.2⟩
          case measure => simp [intOf]; omega
        · have h2i : ¬ (vn : Int) ≤ 400 := by omega
          have HS2 := HS.out
          rw [show Bk.small (⟨key, seq, del, val⟩, V, vn, vc) = false by unfold Bk.small; rw [decide_eq_false h2, Bool.and_false], if_neg (by decide), List.append_nil] at HS2
          have HS3 := Lib.hid HS2
          clear HS2 HS
          go_wp2
          go_roundw
          case rel => exact ⟨k + 1, m, B, d, by omega, by omega, by omega, by go_num, rfl, Lib.hid (by rw [HS3.out]; exact HM.out), Lib.hid (by rw [HS3.out]; exact HO.out), HB⟩
          case measure => simp [intOf]; omega
      · have h1i : ¬ (key.size : Int) ≤ 200 := by omega
        have HS2 := HS.out
        rw [show Bk.small (⟨key, seq, del, val⟩, V, vn, vc) = false by unfold Bk.small; rw [decide_eq_false h1, Bool.false_and], if_neg (by decide), List.append_nil] at HS2
        have HS3 := Lib.hid HS2
        clear HS2 HS
        go_wp2
        go_roundw
        case rel => exact ⟨k + 1, m, B, d, by omega, by omega, by omega, by go_num, rfl, Lib.hid (by rw [HS3.out]; exact HM.out), Lib.hid (by rw [HS3.out]; exact HO.out), HB⟩
        case measure => simp [intOf]; omega
    · have HF := Lib.hid (show GivesFewN w es (.returned (.slice B m d)) wr by
        have hall := Bk.few_all (es := es) (k := k) (by rw [HL.out]; omega)
        have hO := HO.out
        have hM := HM.out
        rw [hall] at hO hM
        subst hM
        exact ⟨B, d, rfl, fun h0 g o e => by { obtain ⟨g', e', h1, _⟩ := hO.form h0; rw [e] at e'; injection e' with e'; injection e' with e'; omega }, ⟨rfl, hO.rd, Bk.few_at fun p hp => (HR.out.2.2 p hp).below HB.out⟩, HB.out⟩)
      clear HO HM
      have hways : ((k : Int) < (n : Int) ∧ ¬ (k : Int) < 80) ∨ ¬ (k : Int) < (n : Int) := by omega
      rcases hways with ⟨h1, h2⟩ | h1
      · clear hin
        go_wp2
        go_ret
        exact HF.out
      · clear hin
        go_wp2
        go_ret
        exact HF.out
end Go.Proofs.Ytfmbnoafmnbhcaa
