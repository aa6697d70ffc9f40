/- A net's Lose, Twin and New; nets nobody made. -/
import Derived.Test.YthganbbiclmgpaaMlTake
namespace Go.Proofs.Ythganbbiclmgpaa
open Go.RowKit
set_option maxRecDepth 100000 in
set_option maxHeartbeats 2000000 in
theorem lose_any (g cap : Nat) (A : Option Addr) (l : List Ml.M) (i : Int) (w : World) (h : NetIs w g A cap l) (hl : l.length ≤ 1000) :
    Calls Try.prog 14 #[.pointer (some ⟨g, 0, none⟩), .int .i64 i] w (GivesNet g A cap l w (.int .i64 (Ml.hasE l i)) (Ml.takeL l i)) := by
  have HN := Lib.hid h
  have HT := Lib.hid (take_any g cap A l i w h hl)
  clear h
  go_enter Try.func14, Try.ntmps14
  go_wp2_with fail
  refine HT.out.mono ?_
  rintro e w1 ⟨he, A1, c1, hm⟩
  obtain ⟨x, hx⟩ : ∃ x, Ml.atM l i = x := ⟨_, rfl⟩
  rw [hx] at he
  clear hx
  obtain ⟨f, t, s⟩ := x
  have he : e = .returned (.tuple #[.agg #[.int .i64 f, .int .i64 t, .string s], .int .i64 (Ml.hasE l i)]) := he
  subst he
  have HM := Lib.hid hm
  clear hm
  go_wp2
  go_ret
  exact ⟨rfl, _, _, HM.out.below ((Below.refl _ _).alloc (Nat.le_refl _) _)⟩
set_option maxRecDepth 100000 in
set_option maxHeartbeats 4000000 in
theorem twin_any (g cap : Nat) (A : Option Addr) (l : List Ml.M) (i : Int) (w : World) (h : NetIs w g A cap l) (hl : l.length ≤ 1000) :
    Calls Try.prog 15 #[.pointer (some ⟨g, 0, none⟩), .int .i64 i] w (GivesNet g A cap l w (.int .i64 (Ml.twinE l i)) (Ml.twinL l i)) := by
  have HN := Lib.hid h
  have HH := Lib.hid (has_any g cap A l i w h)
  have HP := Lib.hid (fun (m : Ml.M) (wx : World) (hx : NetIs wx g A cap l) => put_any g cap A l m wx hx hl)
  clear h
  go_enter Try.func15, Try.ntmps15
  go_wp2_with fail
  refine HH.out.mono ?_
  rintro e w2 ⟨rfl, rfl⟩
  by_cases hi : 0 ≤ i ∧ i < l.length
  · obtain ⟨k, rfl⟩ := Int.eq_ofNat_of_zero_le hi.1
    have hkl : k < l.length := by omega
    have hkli : (k : Int) < (l.length : Int) := by omega
    obtain ⟨x, hx⟩ : ∃ x, l[k]? = some x := ⟨_, List.getElem?_eq_getElem hkl⟩
    have E0 := Lib.hid (show Ml.hasE l (k : Int) = 0 by unfold Ml.hasE; rw [if_pos hi])
    have E1 := Lib.hid (Ml.at_in hx)
    have c1 := HN.out.box.at_ 1 rfl
    rw [E0.out]
    by_cases h256 : 256 ≤ l.length
    · have h256i : (256 : Int) ≤ (l.length : Int) := by omega
      have E2 := Lib.hid (show Ml.twinE l (k : Int) = 3 by unfold Ml.twinE; rw [if_pos hi, if_pos h256])
      have E3 := Lib.hid (show Ml.twinL l (k : Int) = l by unfold Ml.twinL; rw [if_pos hi, if_pos h256])
      clear hi hx
      go_wp2
      go_ret
      rw [E2.out, E3.out]
      exact ⟨rfl, A, cap, Moved.here HN.out⟩
    · have h256i : ¬ (256 : Int) ≤ (l.length : Int) := by omega
      have E2 := Lib.hid (show Ml.twinE l (k : Int) = 0 by unfold Ml.twinE; rw [if_pos hi, if_neg h256])
      have E3 := Lib.hid (show Ml.twinL l (k : Int) = l ++ [x] by unfold Ml.twinL; rw [if_pos hi, if_neg h256, E1.out])
      have hND := HN.out.below (Below.refl _ _).drew
      obtain ⟨b, o, rfl, hbl, hcell⟩ := hND.rd.at_ hx
      obtain ⟨f, t, s⟩ := x
      have d1 := hND.box.at_ 1 rfl
      have e0 : w.drew.cell? ⟨b, o + k * 3, none⟩ = some (.int .i64 f) := hcell 0 _ rfl
      have e1 : w.drew.cell? ⟨b, o + k * 3 + 1, none⟩ = some (.int .i64 t) := hcell 1 _ rfl
      have e2 : w.drew.cell? ⟨b, o + k * 3 + 2, none⟩ = some (.string s) := hcell 2 _ rfl
      have hb3 := Lib.hid (Below.refl w.heap.size w).drew
      clear hx hcell hi
      go_upto_region 6 with fail
      go_region_with (go_at_call 35; refine (HP.out ⟨f, t, s⟩ _ hND).mono ?_; rintro e w4 ⟨rfl, A4, c4, hm4⟩)
      all_goals
        have HM4 := Lib.hid (Moved.after HN.out hb3.out hm4)
        clear hm4
        go_wp2
        go_ret
        rw [E2.out, E3.out]
        exact ⟨rfl, A4, c4, HM4.out⟩
  · have E0 := Lib.hid (show Ml.hasE l i = 5 by unfold Ml.hasE; rw [if_neg hi])
    have E2 := Lib.hid (show Ml.twinE l i = 5 by unfold Ml.twinE; rw [if_neg hi])
    have E3 := Lib.hid (show Ml.twinL l i = l by unfold Ml.twinL; rw [if_neg hi])
    rw [E0.out]
    clear hi
    go_wp2
    go_ret
    rw [E2.out, E3.out]
    exact ⟨rfl, A, cap, Moved.here HN.out⟩
end Go.Proofs.Ythganbbiclmgpaa
