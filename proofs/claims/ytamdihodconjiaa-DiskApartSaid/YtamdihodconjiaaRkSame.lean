/- Two disks that stand alike. -/
import Derived.Test.YtamdihodconjiaaRkCrash
import Derived.Test.YtamdihodconjiaaRkWrite
import Derived.Test.YtamdihodconjiaaDkAny
namespace Go.Proofs.Ytamdihodconjiaa
open Go.RowKit
set_option linter.unusedVariables false
set_option maxRecDepth 100000 in
set_option maxHeartbeats 4000000 in
theorem sameloose_any (A B : Option Addr) (n ca cb : Nat) (l : List (Nat × Nat)) (w : World) (ha : RdC 2 w A n (flat2 l)) (hb : RdC 2 w B n (flat2 l)) (hl : l.length = n) (hn : n ≤ 10000) :
    Calls Try.prog 36 #[.slice A n ca, .slice B n cb] w fun e w' => e = .returned (.bool true) ∧ Below w.heap.size w w' := by
  have HA := Lib.hid ha
  have HB := Lib.hid hb
  have HL := Lib.hid hl
  clear ha hb hl
  go_enter Try.func36, Try.ntmps36
  go_wp2_with fail
  go_loopw [5] (fun i wr => ∃ j : Nat, j ≤ n ∧ i = .int .i64 (j : Int) ∧ Hid (Below w.heap.size w wr)) (fun i _ => n - (intOf i).toNat)
  case atStart => exact ⟨0, by omega, rfl, Lib.hid (Below.refl _ _)⟩
  case round =>
    obtain ⟨j, hj, rfl, HW⟩ := hrel
    by_cases hjn : j < n
    · have hji : (j : Int) < (n : Int) := by omega
      obtain ⟨x, hx⟩ : ∃ x, l[j]? = some x := ⟨_, List.getElem?_eq_getElem (by rw [HL.out]; exact hjn)⟩
      obtain ⟨b1, o1, rfl, hb1, p0, p1⟩ := (HA.out.below HW.out).two hjn (flat2_at hx).1 (flat2_at hx).2
      obtain ⟨b2, o2, rfl, hb2, q0, q1⟩ := (HB.out.below HW.out).two hjn (flat2_at hx).1 (flat2_at hx).2
      obtain ⟨x1, x2⟩ := x
      simp only at p0 p1 q0 q1
      clear hx
      go_upto_region 6 with fail
      go_quiet (fail)
      have HW3 := Lib.hid (below_next HW.out (rk_drewN _ wr nq))
      generalize wr.drewN nq = w3 at *
      go_wp2_with fail
      go_roundw
      case rel => exact ⟨j + 1, by omega, by go_num, HW3⟩
      case measure => simp [intOf]; omega
    · have hji : ¬ (j : Int) < (n : Int) := by omega
      go_wp2
      go_ret
      exact ⟨rfl, HW.out⟩
set_option maxRecDepth 100000 in
set_option maxHeartbeats 8000000 in
theorem same_any (w : World) (d g : Nat) (lab labR : Nat → Tag) (st : Dk.St) (hd : IsDisk w d lab st) (hg : IsRef w g labR st) :
    Calls Try.prog 14 #[.pointer (some ⟨d, 0, none⟩), .pointer (some ⟨g, 0, none⟩)] w fun e w' => e = .returned (.bool true) ∧ Below w.heap.size w w' := by
  obtain ⟨sb, C, hM⟩ := hg
  have hgl := hM.box.1
  have c0 := hM.box.at_ 0 rfl
  have c3 := hM.box.at_ 3 rfl
  have hN := hM.fine.2.2
  have hNi : (st.s.length : Int) ≤ 4096 := by omega
  have H := Lib.hid hM
  have HI := Lib.hid (show IsRef w g labR st from ⟨sb, C, hM⟩)
  have HD := Lib.hid hd
  have hm4 : st.loose.length ≤ 4096 := Nat.le_trans (looseF_len _ _) hN
  have HCl := Lib.hid (fun wx (hb : Below w.heap.size w wx) => (⟨(hb.cell (p := ⟨g, 0, none⟩) hgl).trans c0, (hb.cell (p := ⟨g, 3, none⟩) hgl).trans c3⟩ : wx.cell? ⟨g, 0, none⟩ = some (.slice (some ⟨sb, 0, none⟩) st.s.length st.s.length) ∧ wx.cell? ⟨g, 3, none⟩ = some (.int .i64 st.n)))
  have HSz := Lib.hid (fun wx (hb : Below w.heap.size w wx) => size_any wx d lab st (HD.out.below hb))
  have HDn := Lib.hid (fun wx (hb : Below w.heap.size w wx) => down_any wx d lab st (HD.out.below hb))
  have HRn := Lib.hid (fun wx (hb : Below w.heap.size w wx) => rdown_any wx g labR st (HI.out.below hb))
  have HDo := Lib.hid (fun wx (hb : Below w.heap.size w wx) => done_any wx d lab st (HD.out.below hb))
  have HLd := Lib.hid (fun wx (hb : Below w.heap.size w wx) => loose_any wx d lab st (HD.out.below hb))
  have HLr := Lib.hid (fun wx (hb : Below w.heap.size w wx) => rloose_any wx g labR st (HI.out.below hb))
  have hd0 : Below w.heap.size w w.drew := (Below.refl _ _).drew
  clear hd hM
  go_enter Try.func14, Try.ntmps14
  go_upto_region 1 with fail
  go_cut [41] from 10 to 41 (fun s wx => s = .bool false ∧ Hid (Below w.heap.size w wx))
  case first =>
    clear c0 c3
    go_region_held3 (fun wx => wx.cell? ⟨g, 0, none⟩ = some (.slice (some ⟨sb, 0, none⟩) st.s.length st.s.length) ∧ wx.cell? ⟨g, 3, none⟩ = some (.int .i64 st.n)) (first | exact HCl.out _ hd0 | exact HCl.out _ hk1 | exact HCl.out _ hk2 | exact HCl.out _ hk3) (first
      | (go_at_call 29; refine (HSz.out _ hd0).mono ?_; rintro e v ⟨rfl, rfl⟩)
      | (go_at_call 26; refine (HDn.out _ hd0).mono ?_; rintro e v ⟨rfl, rfl⟩)
      | (go_at_call 35; refine (HRn.out _ hd0).mono ?_; rintro e v ⟨rfl, rfl⟩)
      | (go_at_call 27; refine (HDo.out _ hd0).mono ?_; rintro e v ⟨rfl, rfl⟩)
      | (go_at_call 19; refine (HLd.out _ hd0).mono ?_; rintro e v1 ⟨A1, cp1, rfl, ho1, hb1⟩; have hk1 : Below w.heap.size w v1 := below_next hd0 hb1)
      | (go_at_call 22; refine (HLr.out _ hk1).mono ?_; rintro e v2 ⟨A2, cp2, rfl, ho2, hb2⟩; have hk2 : Below w.heap.size w v2 := below_next hk1 hb2)
      | (go_at_call 36; refine (sameloose_any A1 A2 _ _ _ st.loose v2 (ho1.rd.below hb2) ho2.rd rfl (by omega)).mono ?_; rintro e v3 ⟨rfl, hb3⟩; have hk3 : Below w.heap.size w v3 := below_next hk2 hb3))
    all_goals
      have HK := Lib.hid hk3
      clear hk1 hk2 hk3 ho1 ho2 hb1 hb2 hb3 HCl
      go_wp2_with fail
      go_meet
      case rel => exact ⟨rfl, HK⟩
  case rest =>
    obtain ⟨rfl, HB⟩ := hcut
    clear c0 c3 HCl HSz HDn HRn HDo HLd HLr hd0
    go_upto_region 3 with fail
    go_wp2_with fail
    go_loopw [5] (fun i wr => ∃ z : Int, -1 ≤ z ∧ z ≤ (st.s.length : Int) + 1 ∧ i = .int .i64 z ∧ Hid (Below w.heap.size w wr)) (fun i _ => ((st.s.length : Int) + 1 - intOf i).toNat)
    case atStart => exact ⟨-1, by omega, by omega, rfl, HB⟩
    case round =>
      obtain ⟨z, hz1, hz2, rfl, HW⟩ := hrel
      have c0 := (H.out.below HW.out).box.at_ 0 rfl
      by_cases hzN : z ≤ (st.s.length : Int)
      · go_wp2_with fail
        refine (read_any z wr d lab st (HD.out.below HW.out)).mono ?_
        rintro e v1 ⟨A1, n1, c1, rfl, hR1, hb1, hn1, _⟩
        have HV1 := Lib.hid (below_next HW.out hb1)
        have R1 := Lib.hid hR1
        clear hR1 hb1 hn1 c0
        go_wp2_with fail
        refine (rread_any z v1 g labR st (HI.out.below HV1.out)).mono ?_
        rintro e v2 ⟨A2, n2, c2, rfl, hR2, hb2⟩
        have HV2 := Lib.hid (below_next HV1.out hb2)
        have hst1 := run_str (cap := c1) (R1.out.below hb2)
        have hst2 := run_str (cap := c2) hR2
        clear hR2 hb2
        generalize st.readB z = X at *
        generalize st.ready z = Y at *
        go_wp2_with fail
        go_roundw
        case rel => exact ⟨z + 1, by omega, by omega, by first | rfl | go_num, HV2⟩
        case measure => simp [intOf]; omega
      · go_wp2
        go_ret
        exact ⟨rfl, HW.out⟩
end Go.Proofs.Ytamdihodconjiaa
