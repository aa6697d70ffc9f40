/- SuperRuns. -/
import Derived.Test.YtbdomhookjmmgaaSuRunX
import Derived.Deep.RegionHeld3
import Derived.Deep.DeepCutAuto
import Derived.Deep.CutRange
import Derived.Deep.CutBlock
namespace Go.Proofs.Ytbdomhookjmmgaa
open Go.RowKit Fr Su
set_option linter.unusedVariables false
set_option linter.unusedSimpArgs false
set_option maxRecDepth 100000 in
set_option maxHeartbeats 32000000 in
theorem runs_any (z : Int) (A : Option Addr) (n c : Nat) (l : List SOp) (w : World) (hz1 : -9223372036854775808 ≤ z) (hz2 : z ≤ 9223372036854775807) (hr : RdSO w A n l) (hn : n ≤ 9223372036854775807) :
    Calls Try.prog 5 #[.int .i64 z, .slice A n c] w fun e w' => e = .returned (.bool true) ∧ Below w.heap.size w w' := by
  have HR := Lib.hid hr
  clear hr
  go_enter Try.func5, Try.ntmps5
  go_wp2_with fail
  refine (awake_any _).mono ?_
  rintro e v0 ⟨rfl, hb0⟩
  obtain ⟨U, hU⟩ := wrap_u64 z
  go_upto_region 4 with fail
  obtain ⟨N, hN⟩ : ∃ N : Nat, 1 + (U : Int) % 8 = (N : Int) := ⟨1 + U % 8, by omega⟩
  rw [hN]
  have hN1 : 1 ≤ N ∧ N ≤ 8 := by omega
  clear hN hU
  go_wp2_with fail
  refine (new_any (N : Int) _).mono ?_
  rintro e v1 hq
  rcases hq with ⟨_, _, d, lab, rfl, hD, hb1, hnl⟩ | ⟨hx, _⟩
  rotate_left
  · exact absurd ⟨by omega, by omega⟩ hx
  go_wp2_with fail
  refine (rnew_any (N : Int) _).mono ?_
  rintro e v2 hq
  rcases hq with ⟨_, _, g, labR, rfl, hRf, hb2, hnr⟩ | ⟨hx, _⟩
  rotate_left
  · exact absurd ⟨by omega, by omega⟩ hx
  have HB1 : Below w.heap.size w v1 := hb0.trans (hb1.mono hb0.size)
  have HDu := Lib.hid (show Duo w v2 d g (Dk.St.new (N : Int).toNat) (4 * 0) lab labR from ⟨HB1.trans (hb2.mono HB1.size), hD.below hb2, hRf, fun k e => Nat.le_trans hb0.size (hnl k e), fun k e => Nat.le_trans HB1.size (hnr k e), fun k => by
    by_cases e : k < v1.heap.size
    · right
      cases e4 : labR k with
      | no => rfl
      | _ => exact absurd (hnr k (by rw [e4]; simp)) (by omega)
    · left
      exact hD.new_ (by omega), ⟨Int.le_refl _, Int.le_refl _, Int.le_refl _, by show (0 : Int) ≤ 1048576; decide, fun s hs => by unfold Dk.St.new at hs; simp at hs; rw [hs.2]; simp⟩⟩)
  clear hb0 hb1 hnl hb2 hnr hD hRf HB1
  generalize Dk.St.new (N : Int).toNat = st at *
  go_wp2_with fail
  go_loopw [6, 8, 10] (fun s6 s8 ii wr => ∃ (i d g : Nat) (st : Dk.St) (lab labR : Nat → Tag), i ≤ n ∧ i ≤ 30 ∧ ii = .int .i64 (i : Int) ∧ s6 = .pointer (some ⟨d, 0, none⟩) ∧ s8 = .pointer (some ⟨g, 0, none⟩) ∧ Hid (Duo w wr d g st (4 * i) lab labR)) (fun _ _ ii _ => 30 - (intOf ii).toNat)
  case atStart => exact ⟨0, d, g, st, lab, labR, by omega, by omega, rfl, rfl, rfl, HDu⟩
  case round =>
    clear HDu
    obtain ⟨i, d, g, st, lab, labR, hin, hi30, rfl, rfl, rfl, HDu⟩ := hrel
    rename World => wr
    by_cases hgo : i < n ∧ i < 30
    rotate_left
    · have HB := Lib.hid HDu.out.base
      clear HDu
      by_cases h1 : i < n
      · have hii : (i : Int) < (n : Int) := by omega
        have hi2 : ¬ (i : Int) < 30 := by omega
        clear hgo
        go_wp2_with fail
        go_ret
        exact ⟨rfl, HB.out⟩
      · have hii : ¬ (i : Int) < (n : Int) := by omega
        clear hgo
        go_wp2_with fail
        go_ret
        exact ⟨rfl, HB.out⟩
    · obtain ⟨h1, h2⟩ := hgo
      have hii : (i : Int) < (n : Int) := by omega
      have hi2 : (i : Int) < 30 := by omega
      have hi0 : (0 : Int) ≤ (i : Int) := by omega
      obtain ⟨b, o, rfl, hbl, hat⟩ := HR.out.2 (by omega)
      obtain ⟨s, hs⟩ : ∃ s, l[i]? = some s := ⟨_, List.getElem?_eq_getElem (by rw [HR.out.1]; exact h1)⟩
      have HAw := Lib.hid (hat i s hs)
      have HAt := Lib.hid ((hat i s hs).below HDu.out.base hbl)
      have HBl := Lib.hid hbl
      clear hat hs hbl
      have e0 : wr.cell? ⟨b, o + i * 12, none⟩ = some (.int .i64 s.kind) := by have h := HAt.out.c0; rw [Nat.add_zero] at h; exact h
      have e1 := HAt.out.c1
      have e2 := HAt.out.c2
      have e3 := HAt.out.c3
      have e4 := HAt.out.c4
      have e5 := HAt.out.c5
      have e6 := HAt.out.c6
      have e7 := HAt.out.c7
      have e8 := HAt.out.c8
      have e9 := HAt.out.c9
      have e10 := HAt.out.c10
      have e11 := HAt.out.c11
      have ha : Below wr.heap.size wr (wr.alloc (.cells #[.int .i64 s.kind, .int .i64 s.s.g, .int .i64 s.s.e, .int .i64 s.s.i, .int .i64 s.s.m, .slice s.sA s.s.ps.length s.sc, .int .i64 s.at_, .slice s.B s.m s.c, .int .i64 s.place, .int .u8 (s.mask : Int), .int .i64 s.n, .slice s.F s.fm s.fc] 53)) := (Below.refl _ _).alloc (Nat.le_refl _) _
      have HD := Lib.hid (HDu.out.below ha)
      have HNo := Lib.hid (HDu.out.new_ (Nat.le_refl _))
      have HO := Lib.hid (show Holds (wr.alloc (.cells #[.int .i64 s.kind, .int .i64 s.s.g, .int .i64 s.s.e, .int .i64 s.s.i, .int .i64 s.s.m, .slice s.sA s.s.ps.length s.sc, .int .i64 s.at_, .slice s.B s.m s.c, .int .i64 s.place, .int .u8 (s.mask : Int), .int .i64 s.n, .slice s.F s.fm s.fc] 53)) wr.heap.size s.cells from Holds.new wr #[.int .i64 s.kind, .int .i64 s.s.g, .int .i64 s.s.e, .int .i64 s.s.i, .int .i64 s.s.m, .slice s.sA s.s.ps.length s.sc, .int .i64 s.at_, .slice s.B s.m s.c, .int .i64 s.place, .int .u8 (s.mask : Int), .int .i64 s.n, .slice s.F s.fm s.fc] 53)
      clear ha HAt
      go_upto_region 12 with fail
      clear e0 e1 e2 e3 e4 e5 e6 e7 e8 e9 e10 e11
      clear HDu
      generalize wr.alloc (.cells #[.int .i64 s.kind, .int .i64 s.s.g, .int .i64 s.s.e, .int .i64 s.s.i, .int .i64 s.s.m, .slice s.sA s.s.ps.length s.sc, .int .i64 s.at_, .slice s.B s.m s.c, .int .i64 s.place, .int .u8 (s.mask : Int), .int .i64 s.n, .slice s.F s.fm s.fc] 53) = W1 at *
      generalize wr.heap.size = ob at *
      have o0 : W1.cell? ⟨ob, 0, none⟩ = some (.int .i64 s.kind) := HO.out.at_ 0 rfl
      by_cases hk : s.kind = 1 ∨ s.kind = 2 ∨ s.kind = 3 ∨ s.kind = 4 ∨ s.kind = 5 ∨ s.kind = 6 ∨ s.kind = 7 ∨ s.kind = 8
      rotate_left
      · have HDn := Lib.hid (HD.out.up (cnt' := 4 * (i + 1)) (by omega))
        have q1 : (s.kind == 1) = false := by rw [beq_eq_false_iff_ne]; omega
        have q2 : (s.kind == 2) = false := by rw [beq_eq_false_iff_ne]; omega
        have q3 : (s.kind == 3) = false := by rw [beq_eq_false_iff_ne]; omega
        have q4 : (s.kind == 4) = false := by rw [beq_eq_false_iff_ne]; omega
        have q5 : (s.kind == 5) = false := by rw [beq_eq_false_iff_ne]; omega
        have q6 : (s.kind == 6) = false := by rw [beq_eq_false_iff_ne]; omega
        have q7 : (s.kind == 7) = false := by rw [beq_eq_false_iff_ne]; omega
        have q8 : (s.kind == 8) = false := by rw [beq_eq_false_iff_ne]; omega
        clear hk HD HO HNo
        go_wp2_with fail
        go_roundw
        case rel => exact ⟨i + 1, d, g, st, lab, labR, by omega, by omega, by go_num, rfl, rfl, HDn⟩
        case measure => simp [intOf]; omega
      · have hob := HO.out.1
        have HCs := Lib.hid (fun wx (hf : Fr lab labR W1 wx) => HO.out.block hf.size (hf.block ob hob HNo.out.1 HNo.out.2))
        go_upto_block 2 with fail
        go_cut [6, 8, 12, 13, 14, 15, 16, 17, 18, 19, 20, 21, 22, 23, 24, 25] from 58 to 249 (fun s6 s8 s12 y13 y14 y15 y16 y17 y18 y19 y20 y21 y22 y23 y24 y25 W => s12 = .bool true ∧ ∃ (d g : Nat) (st : Dk.St) (lab labR : Nat → Tag), s6 = .pointer (some ⟨d, 0, none⟩) ∧ s8 = .pointer (some ⟨g, 0, none⟩) ∧ Hid (Duo w W d g st (4 * (i + 1)) lab labR))
        case first =>
          rcases hk with hk | hk | hk | hk | hk | hk | hk | hk
          · as_aux_lemma =>
              have q1 : (s.kind == 1) = true := by rw [hk]; rfl
              clear hk
              have HLt := Lib.hid (fun v => light_any s.s s.sA s.sc v HAw.out.sl.1 HAw.out.sl.2)
              have hrl := fun (v : World) (hv : Below w.heap.size w v) => (rd_light HAw.out.rs rfl).below hv
              obtain ⟨T, hT⟩ : ∃ T, T = Su.light s.s := ⟨_, rfl⟩
              have hTp : T.ps = s.s.ps.take 10 := by rw [hT]; rfl
              rw [← hTp] at hrl
              rw [← hT] at HLt
              have HRl := Lib.hid hrl
              clear hrl hT hTp
              unfold Su.val at HLt
              have HW1 := Lib.hid (fun wx (hD : Duo w wx d g st (4 * i) lab labR) => save_any T s.sA s.sc wx d lab st (4 * i) (HRl.out wx hD.base) hD.disk hD.low (by omega))
              have HW2 := Lib.hid (fun wx (hB : Below w.heap.size w wx) (hr : IsRef wx g labR st) => rsave_any T s.sA s.sc wx g labR st (4 * i) (HRl.out wx hB) hr HD.out.low (by omega))
              unfold Su.val at HW1 HW2
              have HS := Lib.hid (fun wx (hf : Fr lab labR W1 wx) => (⟨(HCs.out wx hf).at_ 1 rfl, (HCs.out wx hf).at_ 2 rfl, (HCs.out wx hf).at_ 3 rfl, (HCs.out wx hf).at_ 4 rfl, (HCs.out wx hf).at_ 5 rfl⟩ : wx.cell? ⟨ob, 1, none⟩ = some (.int .i64 s.s.g) ∧ wx.cell? ⟨ob, 2, none⟩ = some (.int .i64 s.s.e) ∧ wx.cell? ⟨ob, 3, none⟩ = some (.int .i64 s.s.i) ∧ wx.cell? ⟨ob, 4, none⟩ = some (.int .i64 s.s.m) ∧ wx.cell? ⟨ob, 5, none⟩ = some (.slice s.sA s.s.ps.length s.sc)))
              go_upto_region 15 with fail
              have hd0 : Below W1.heap.size W1 W1.drew := (Below.refl _ _).drew
              clear o0
              go_region_held3 (fun wx => wx.cell? ⟨ob, 1, none⟩ = some (.int .i64 s.s.g) ∧ wx.cell? ⟨ob, 2, none⟩ = some (.int .i64 s.s.e) ∧ wx.cell? ⟨ob, 3, none⟩ = some (.int .i64 s.s.i) ∧ wx.cell? ⟨ob, 4, none⟩ = some (.int .i64 s.s.m) ∧ wx.cell? ⟨ob, 5, none⟩ = some (.slice s.sA s.s.ps.length s.sc)) (first | exact HS.out _ (Fr.of_below hd0) | exact HS.out _ hf1 | exact HS.out _ hfr | exact HS.out _ hf3 | exact HS.out _ hfr2) (first
                | (go_at_call 10; (fail_if_success (have := hl1)); refine (HLt.out _).mono ?_; rintro e v1 ⟨rfl, hb1⟩; have hl1 := HD.out.below (hd0.trans hb1); have hf1 : Fr lab labR W1 v1 := Fr.of_below (hd0.trans hb1))
                | (go_at_call 20; refine (HW1.out v1 hl1).mono ?_; rintro e v2 ⟨rfl, lab1, hD1, hC1, hL1⟩; have hh := hl1.half hD1 hC1 hL1; have hfr : Fr lab labR W1 v2 := ⟨Nat.le_trans hf1.size hh.fr.size, fun k hk h1 h2 => (hh.fr.block k (Nat.lt_of_lt_of_le hk hf1.size) h1 h2).trans (hf1.block k hk h1 h2)⟩)
                | (go_at_call 10; refine (HLt.out _).mono ?_; rintro e v3 ⟨rfl, hb3⟩; have hh3 := hh.below hb3; have hf3 : Fr lab labR W1 v3 := hfr.trans_below hb3)
                | (go_at_call 21; refine (HW2.out v3 hh3.base hh3.ref).mono ?_; rintro e v4 ⟨rfl, hl2⟩; obtain ⟨lab2, hDu, hfr2', hL2⟩ := hh3.whole hl1 hl2 (low_saveS hl1.low T); have hfr2 : Fr lab labR W1 v4 := ⟨Nat.le_trans hf1.size hfr2'.size, fun k hk h1 h2 => (hfr2'.block k (Nat.lt_of_lt_of_le hk hf1.size) h1 h2).trans (hf1.block k hk h1 h2)⟩))
              all_goals
                have HE := Lib.hid (hDu.up (cnt' := 4 * (i + 1)) (by omega))
                clear hDu hfr2 hfr hh hl2 hL2 hfr2' hC1 hL1 hD1 hl1 hf1 hf3 hh3 hb1 hb3
                clear HS HCs HO HNo HD HLt HW1 HW2 HRl
                go_wp2_with fail
                go_meet
                case rel => exact ⟨rfl, d, g, _, lab1, lab2, rfl, rfl, HE⟩
          · as_aux_lemma =>
              have q1 : (s.kind == 1) = false := by rw [hk]; rfl
              have q2 : (s.kind == 2) = true := by rw [hk]; rfl
              clear hk
              have HFew := Lib.hid (load_few st)
              have CL := Lib.hid (load_any W1 d lab st HD.out.disk)
              have CR := Lib.hid (fun (v : World) (hv : Below W1.heap.size W1 v) => rload_any v g labR st (HD.out.below hv).ref)
              obtain ⟨⟨T, rr⟩, hT⟩ : ∃ q : S × Int, q = loadS st := ⟨_, rfl⟩
              rw [← hT] at CL CR HFew
              simp only at CL CR HFew
              have hrr : (rr == rr) = true := by simp
              clear hT
              go_wp2_with fail
              refine CL.out.mono ?_
              rintro e v1 ⟨A1, c1, rfl, hR1, hn1, hb1⟩
              have ha1 : Below v1.heap.size v1 (v1.alloc (.cells #[.int .i64 T.g, .int .i64 T.e, .int .i64 T.i, .int .i64 T.m, .slice A1 T.ps.length c1] 26)) := (Below.refl _ _).alloc (Nat.le_refl _) _
              have hB1 : Below W1.heap.size W1 (v1.alloc (.cells #[.int .i64 T.g, .int .i64 T.e, .int .i64 T.i, .int .i64 T.m, .slice A1 T.ps.length c1] 26)) := below_next hb1 ha1
              have CR1 := Lib.hid (CR.out _ hB1)
              have HR1 := Lib.hid (hR1.below ha1)
              have HO1 := Lib.hid (Holds.new v1 #[.int .i64 T.g, .int .i64 T.e, .int .i64 T.i, .int .i64 T.m, .slice A1 T.ps.length c1] 26)
              have HB1 := Lib.hid hB1
              clear hR1 hn1 hb1 ha1 hB1 CL CR
              go_wp2_with fail
              refine CR1.out.mono ?_
              rintro e v2 ⟨A2, c2, rfl, hR2, hn2, hb2⟩
              have ha2 : Below v2.heap.size v2 (v2.alloc (.cells #[.int .i64 T.g, .int .i64 T.e, .int .i64 T.i, .int .i64 T.m, .slice A2 T.ps.length c2] 26)) := (Below.refl _ _).alloc (Nat.le_refl _) _
              have hB2 := below_next HB1.out (below_next hb2 ha2)
              have HO2 := Lib.hid ((HO1.out.below hb2).below ha2)
              have HP2 := Lib.hid (Holds.new v2 #[.int .i64 T.g, .int .i64 T.e, .int .i64 T.i, .int .i64 T.m, .slice A2 T.ps.length c2] 26)
              have CS := Lib.hid (same_su T T A1 A2 c1 c2 (v2.alloc (.cells #[.int .i64 T.g, .int .i64 T.e, .int .i64 T.i, .int .i64 T.m, .slice A2 T.ps.length c2] 26)) ((HR1.out.below hb2).below ha2) (hR2.below ha2) HFew.out HFew.out)
              rw [eqS_refl] at CS
              unfold Su.val at CS
              have x0 := HO2.out.at_ 0 rfl
              have x1 := HO2.out.at_ 1 rfl
              have x2 := HO2.out.at_ 2 rfl
              have x3 := HO2.out.at_ 3 rfl
              have x4 := HO2.out.at_ 4 rfl
              have y0 := HP2.out.at_ 0 rfl
              have y1 := HP2.out.at_ 1 rfl
              have y2 := HP2.out.at_ 2 rfl
              have y3 := HP2.out.at_ 3 rfl
              have y4 := HP2.out.at_ 4 rfl
              have HDe := Lib.hid ((HD.out.below hB2).up (cnt' := 4 * (i + 1)) (by omega))
              clear hR2 hn2 hb2 ha2 hB2 HR1 HO1 HB1 CR1 HD HO HNo HCs
              go_wp2_with fail
              refine CS.out.mono ?_
              rintro e v3 ⟨rfl, hb3⟩
              have HE := Lib.hid (HDe.out.below hb3)
              clear hb3 CS HDe HO2 HP2
              go_wp2_with fail
              go_meet
              case rel => exact ⟨rfl, d, g, _, lab, labR, rfl, rfl, HE⟩
          · as_aux_lemma =>
              have q1 : (s.kind == 1) = false := by rw [hk]; rfl
              have q2 : (s.kind == 2) = false := by rw [hk]; rfl
              have q3 : (s.kind == 3) = true := by rw [hk]; rfl
              clear hk
              have CM := Lib.hid (mend_any W1 d lab st (4 * i) HD.out.disk HD.out.low (by omega))
              have CN := Lib.hid (fun (wx : World) (hr : IsRef wx g labR st) => rmend_any wx g labR st (4 * i) hr HD.out.low (by omega))
              have HLow := Lib.hid (low_mendS HD.out.low)
              unfold GivesMend at CM
              obtain ⟨⟨sT, r1, r2⟩, hT⟩ : ∃ q : Dk.St × Int × Int, q = mendS st := ⟨_, rfl⟩
              rw [← hT] at CM CN HLow
              simp only at CM CN HLow
              have hr1 : (r1 == r1) = true := by simp
              have hr2 : (r2 == r2) = true := by simp
              clear hT
              go_wp2_with fail
              refine CM.out.mono ?_
              rintro e v1 ⟨rfl, lab1, hD1, hC1, hL1⟩
              have HH := Lib.hid (HD.out.half hD1 hC1 hL1)
              have CN1 := Lib.hid (CN.out v1 HH.out.ref)
              clear hD1 hC1 hL1 CM CN
              go_wp2_with fail
              refine CN1.out.mono ?_
              rintro e v2 ⟨rfl, hl2⟩
              obtain ⟨lab2, hDu, _, _⟩ := HH.out.whole HD.out hl2 HLow.out
              have HE := Lib.hid (hDu.up (cnt' := 4 * (i + 1)) (by omega))
              clear hDu hl2 CN1 HH HD HO HNo HCs
              go_wp2_with fail
              go_meet
              case rel => exact ⟨rfl, d, g, _, lab1, lab2, rfl, rfl, HE⟩
          · as_aux_lemma =>
              have q1 : (s.kind == 1) = false := by rw [hk]; rfl
              have q2 : (s.kind == 2) = false := by rw [hk]; rfl
              have q3 : (s.kind == 3) = false := by rw [hk]; rfl
              have q4 : (s.kind == 4) = true := by rw [hk]; rfl
              clear hk
              have HFl := Lib.hid (fun (v : World) (hv : Below w.heap.size w v) => full_any s.B s.m s.c s.b v (HAw.out.rb.below hv))
              have hl5 : (Dk.full s.b).length = 128 := Dk.full_length _
              obtain ⟨X, hX⟩ : ∃ X, X = Dk.full s.b := ⟨_, rfl⟩
              rw [← hX] at HFl hl5
              have HX5 := Lib.hid hl5
              clear hX hl5
              have HW1 := Lib.hid (fun wx (q : Nat) (hD : Duo w wx d g st (4 * i) lab labR) (hB : Buf wx q X) => write_any s.at_ (some ⟨q, 0, none⟩) 128 128 (4 * i) X wx d lab st hD.disk (by have h := hB.all; rw [HX5.out] at h; exact h) hD.low (by omega) (by omega))
              have HW2 := Lib.hid (fun wx (q : Nat) (hr : IsRef wx g labR st) (hB : Buf wx q X) => rwrite_any s.at_ (some ⟨q, 0, none⟩) 128 128 (4 * i) X wx g labR st hr (by have h := hB.all; rw [HX5.out] at h; exact h) HD.out.low (by omega) (by omega))
              have HS := Lib.hid (fun wx (hf : Fr lab labR W1 wx) => (⟨(HCs.out wx hf).at_ 6 rfl, (HCs.out wx hf).at_ 7 rfl⟩ : wx.cell? ⟨ob, 6, none⟩ = some (.int .i64 s.at_) ∧ wx.cell? ⟨ob, 7, none⟩ = some (.slice s.B s.m s.c)))
              go_upto_region 25 with fail
              have hd0 : Below W1.heap.size W1 W1.drew := (Below.refl _ _).drew
              clear o0
              go_region_held3 (fun wx => wx.cell? ⟨ob, 6, none⟩ = some (.int .i64 s.at_) ∧ wx.cell? ⟨ob, 7, none⟩ = some (.slice s.B s.m s.c)) (first | exact HS.out _ (Fr.of_below hd0) | exact HS.out _ hf1 | exact HS.out _ hfr | exact HS.out _ hf3 | exact HS.out _ hfr2) (first
                | (go_at_call 27; (fail_if_success (have := hl1)); refine (HFl.out _ (HD.out.below hd0).base).mono ?_; rintro e v1 ⟨rfl, hb1, hx1⟩; have hl1 := (HD.out.below hd0).below hb1; have hf1 : Fr lab labR W1 v1 := (Fr.of_below hb1).drew)
                | (go_at_call 26; refine (HW1.out v1 _ hl1 hx1).mono ?_; rintro e v2 ⟨rfl, lab1, hD1, hC1, hL1⟩; have hh := hl1.half hD1 hC1 hL1; have hfr : Fr lab labR W1 v2 := ⟨Nat.le_trans hf1.size hh.fr.size, fun k hk h1 h2 => (hh.fr.block k (Nat.lt_of_lt_of_le hk hf1.size) h1 h2).trans (hf1.block k hk h1 h2)⟩)
                | (go_at_call 27; refine (HFl.out _ hh.base).mono ?_; rintro e v3 ⟨rfl, hb3, hx3⟩; have hh3 := hh.below hb3; have hf3 : Fr lab labR W1 v3 := hfr.trans_below hb3)
                | (go_at_call 28; refine (HW2.out v3 _ hh3.ref hx3).mono ?_; rintro e v4 ⟨rfl, hl2⟩; obtain ⟨lab2, hDu, hfr2', hL2⟩ := hh3.whole hl1 hl2 (low_write hl1.low _ _); have hfr2 : Fr lab labR W1 v4 := ⟨Nat.le_trans hf1.size hfr2'.size, fun k hk h1 h2 => (hfr2'.block k (Nat.lt_of_lt_of_le hk hf1.size) h1 h2).trans (hf1.block k hk h1 h2)⟩))
              all_goals
                have HE := Lib.hid (hDu.up (cnt' := 4 * (i + 1)) (by omega))
                clear hDu hfr2 hfr hh hl2 hL2 hfr2' hC1 hL1 hD1 hl1 hf1 hf3 hh3 hb1 hb3 hx1 hx3
                clear HS HCs HO HNo HD HFl HW1 HW2
                go_wp2_with fail
                go_meet
                case rel => exact ⟨rfl, d, g, _, lab1, lab2, rfl, rfl, HE⟩
          · as_aux_lemma =>
              have q1 : (s.kind == 1) = false := by rw [hk]; rfl
              have q2 : (s.kind == 2) = false := by rw [hk]; rfl
              have q3 : (s.kind == 3) = false := by rw [hk]; rfl
              have q4 : (s.kind == 4) = false := by rw [hk]; rfl
              have q5 : (s.kind == 5) = true := by rw [hk]; rfl
              clear hk
              have HS := Lib.hid (fun wx (hf : Fr lab labR W1 wx) => (⟨(HCs.out wx hf).at_ 6 rfl, (HCs.out wx hf).at_ 8 rfl, (HCs.out wx hf).at_ 9 rfl⟩ : wx.cell? ⟨ob, 6, none⟩ = some (.int .i64 s.at_) ∧ wx.cell? ⟨ob, 8, none⟩ = some (.int .i64 s.place) ∧ wx.cell? ⟨ob, 9, none⟩ = some (.int .u8 (s.mask : Int))))
              have HW1 := Lib.hid (fun wx (hb : Below W1.heap.size W1 wx) => rot_any s.at_ s.place s.mask HAw.out.mask wx d lab st (HD.out.below hb).disk)
              have HW2 := Lib.hid (fun wx (hf : Fr lab labR W1 wx) (hr : IsRef wx g labR st) => rrot_any s.at_ s.place s.mask HAw.out.mask wx g labR st hr)
              go_upto_region 27 with fail
              have hd0 : Below W1.heap.size W1 W1.drew := (Below.refl _ _).drew
              clear o0
              go_region_held3 (fun wx => wx.cell? ⟨ob, 6, none⟩ = some (.int .i64 s.at_) ∧ wx.cell? ⟨ob, 8, none⟩ = some (.int .i64 s.place) ∧ wx.cell? ⟨ob, 9, none⟩ = some (.int .u8 (s.mask : Int))) (first | exact HS.out _ (Fr.of_below hd0) | exact HS.out _ hfr | exact HS.out _ hfr2) (first
                | (go_at_call 29; refine (HW1.out _ hd0).mono ?_; rintro e v1 ⟨rfl, lab1, hD1, hC1, hL1⟩; have hh := (HD.out.below hd0).half hD1 hC1 hL1; have hfr : Fr lab labR W1 v1 := hh.fr.drew)
                | (go_at_call 30; refine (HW2.out v1 hfr hh.ref).mono ?_; rintro e v2 ⟨rfl, hl2⟩; obtain ⟨lab2, hDu, hfr2', hL2⟩ := hh.whole (HD.out.below hd0) hl2 (low_rot HD.out.low s.at_ s.place s.mask); have hfr2 : Fr lab labR W1 v2 := hfr2'.drew))
              all_goals
                have HE := Lib.hid (hDu.up (cnt' := 4 * (i + 1)) (by omega))
                clear hDu hfr2 hfr hh hl2 hL2 hfr2' hC1 hL1 hD1
                clear HS HCs HO HNo HD
                go_wp2_with fail
                go_meet
                case rel => exact ⟨rfl, d, g, _, lab1, lab2, rfl, rfl, HE⟩
          · as_aux_lemma =>
              have q1 : (s.kind == 1) = false := by rw [hk]; rfl
              have q2 : (s.kind == 2) = false := by rw [hk]; rfl
              have q3 : (s.kind == 3) = false := by rw [hk]; rfl
              have q4 : (s.kind == 4) = false := by rw [hk]; rfl
              have q5 : (s.kind == 5) = false := by rw [hk]; rfl
              have q6 : (s.kind == 6) = true := by rw [hk]; rfl
              clear hk
              have HS := Lib.hid (fun wx (hf : Fr lab labR W1 wx) => ((HCs.out wx hf).at_ 10 rfl : wx.cell? ⟨ob, 10, none⟩ = some (.int .i64 s.n)))
              have HW1 := Lib.hid (fun wx (hb : Below W1.heap.size W1 wx) => fuse_m s.n wx d lab st (HD.out.below hb).disk)
              have HW2 := Lib.hid (fun wx (hf : Fr lab labR W1 wx) (hr : IsRef wx g labR st) => rfuse_any s.n wx g labR st hr)
              go_upto_region 29 with fail
              have hd0 : Below W1.heap.size W1 W1.drew := (Below.refl _ _).drew
              clear o0
              go_region_held3 (fun wx => wx.cell? ⟨ob, 10, none⟩ = some (.int .i64 s.n)) (first | exact HS.out _ (Fr.of_below hd0) | exact HS.out _ hfr | exact HS.out _ hfr2) (first
                | (go_at_call 31; refine (HW1.out _ hd0).mono ?_; rintro e v1 ⟨rfl, lab1, hD1, hC1, hL1⟩; have hh := (HD.out.below hd0).half hD1 hC1 hL1; have hfr : Fr lab labR W1 v1 := hh.fr.drew)
                | (go_at_call 32; refine (HW2.out v1 hfr hh.ref).mono ?_; rintro e v2 ⟨rfl, hl2⟩; obtain ⟨lab2, hDu, hfr2', hL2⟩ := hh.whole (HD.out.below hd0) hl2 (low_fuse HD.out.low s.n); have hfr2 : Fr lab labR W1 v2 := hfr2'.drew))
              all_goals
                have HE := Lib.hid (hDu.up (cnt' := 4 * (i + 1)) (by omega))
                clear hDu hfr2 hfr hh hl2 hL2 hfr2' hC1 hL1 hD1
                clear HS HCs HO HNo HD
                go_wp2_with fail
                go_meet
                case rel => exact ⟨rfl, d, g, _, lab1, lab2, rfl, rfl, HE⟩
          · as_aux_lemma =>
              have q1 : (s.kind == 1) = false := by rw [hk]; rfl
              have q2 : (s.kind == 2) = false := by rw [hk]; rfl
              have q3 : (s.kind == 3) = false := by rw [hk]; rfl
              have q4 : (s.kind == 4) = false := by rw [hk]; rfl
              have q5 : (s.kind == 5) = false := by rw [hk]; rfl
              have q6 : (s.kind == 6) = false := by rw [hk]; rfl
              have q7 : (s.kind == 7) = true := by rw [hk]; rfl
              clear hk
              have HFw := Lib.hid (ref_few HD.out.ref)
              have HW1 := Lib.hid (fun wx (hb : Below W1.heap.size W1 wx) => rloose_any wx g labR st (HD.out.below hb).ref)
              have HW2 := Lib.hid (fun wx (A6 : Option Addr) (c6 : Nat) (hB : Below w.heap.size w wx) (hl : RdC 2 wx A6 st.loose.length (flat2 st.loose)) => fit_any A6 st.loose.length c6 st.loose s.F s.fm s.fc s.fs wx hl rfl HFw.out.2 (HAw.out.rf.below hB) HAw.out.fl (by have := HFw.out.1; omega) HAw.out.fmc.2)
              have HS := Lib.hid (fun wx (hf : Fr lab labR W1 wx) => ((HCs.out wx hf).at_ 11 rfl : wx.cell? ⟨ob, 11, none⟩ = some (.slice s.F s.fm s.fc)))
              go_upto_region 31 with fail
              have hd0 : Below W1.heap.size W1 W1.drew := (Below.refl _ _).drew
              clear o0
              go_region_held3 (fun wx => wx.cell? ⟨ob, 11, none⟩ = some (.slice s.F s.fm s.fc)) (first | exact HS.out _ (Fr.of_below hd0) | exact HS.out _ (Fr.of_below hB1) | exact HS.out _ (Fr.of_below hB2)) (first
                | (go_at_call 34; refine (HW1.out _ hd0).mono ?_; rintro e v1 ⟨A6, c6, rfl, ho6, hb6⟩; have hB1 : Below W1.heap.size W1 v1 := below_next hd0 hb6)
                | (go_at_call 33; refine (HW2.out v1 A6 c6 (HD.out.below hB1).base ho6.rd).mono ?_; rintro e v2 ⟨A7, c7, fs7, rfl, ho7, hft, hb7⟩; have hB2 : Below W1.heap.size W1 v2 := below_next hB1 hb7))
              all_goals
                have HE7 := Lib.hid (hft.crash_le (Nat.min_le_right _ _))
                have HF7 := Lib.hid ho7.rd
                have hfl7 := hft.1
                have hm7 : min s.fm st.loose.length ≤ 9223372036854775807 := by have := HFw.out.1; omega
                generalize min s.fm st.loose.length = n7 at *
                have HD2 := Lib.hid (HD.out.below hB2)
                clear hft ho7 ho6 hb6 hb7 hB1 hB2 HD HO HNo HCs HS HW1 HW2 HFw
                have CC := Lib.hid (crash_any v2 d lab st HD2.out.disk A7 n7 c7 fs7 HF7.out hfl7 hm7)
                go_wp2_with fail
                refine CC.out.mono ?_
                intro e v3 hg3
                rcases hg3 with ⟨_, g1, rfl, lab3, hG, hb3, hl3⟩ | ⟨hE, _⟩
                rotate_left
                · exact absurd HE7.out hE
                have HG := Lib.hid (And.intro hG (And.intro hb3 hl3))
                have CC2 := Lib.hid (rcrash_any v3 g labR st (HD2.out.below hb3).ref A7 n7 c7 fs7 (HF7.out.below hb3) hfl7 hm7)
                clear hG hb3 hl3 CC hfl7 hm7
                go_wp2_with fail
                refine CC2.out.mono ?_
                rintro e v4 (⟨_, g2, lab4, rfl, hR, hb4, hl4⟩ | ⟨hE, _⟩)
                rotate_left
                · exact absurd HE7.out hE
                have HE := Lib.hid (HD2.out.crash (cnt' := 4 * (i + 1)) HG.out.1 HG.out.2.1 HG.out.2.2 hR hb4 hl4)
                clear hR hb4 hl4 CC2 HD2 HF7 HG HE7
                go_wp2_with fail
                go_meet
                case rel => exact ⟨rfl, g1, g2, _, lab3, lab4, rfl, rfl, HE⟩
          · as_aux_lemma =>
              have q1 : (s.kind == 1) = false := by rw [hk]; rfl
              have q2 : (s.kind == 2) = false := by rw [hk]; rfl
              have q3 : (s.kind == 3) = false := by rw [hk]; rfl
              have q4 : (s.kind == 4) = false := by rw [hk]; rfl
              have q5 : (s.kind == 5) = false := by rw [hk]; rfl
              have q6 : (s.kind == 6) = false := by rw [hk]; rfl
              have q7 : (s.kind == 7) = false := by rw [hk]; rfl
              have q8 : (s.kind == 8) = true := by rw [hk]; rfl
              clear hk
              have CM := Lib.hid (flush_any (4 * i) W1 d lab st HD.out.disk HD.out.low (by omega))
              have CN := Lib.hid (fun (wx : World) (hr : IsRef wx g labR st) => rflush_any wx g labR st hr (HD.out.low.small (by omega)))
              have hr1 : (st.flushE == st.flushE) = true := by simp
              go_wp2_with fail
              refine CM.out.mono ?_
              rintro e v1 ⟨rfl, lab1, hD1, hC1, hL1⟩
              have HH := Lib.hid (HD.out.half hD1 hC1 hL1)
              have CN1 := Lib.hid (CN.out v1 HH.out.ref)
              clear hD1 hC1 hL1 CM CN
              go_wp2_with fail
              refine CN1.out.mono ?_
              rintro e v2 ⟨rfl, hl2⟩
              obtain ⟨lab2, hDu, _, _⟩ := HH.out.whole HD.out hl2 (low_flush HD.out.low)
              have HE := Lib.hid (hDu.up (cnt' := 4 * (i + 1)) (by omega))
              clear hDu hl2 CN1 HH HD HO HNo HCs
              go_wp2_with fail
              go_meet
              case rel => exact ⟨rfl, d, g, _, lab1, lab2, rfl, rfl, HE⟩
        case rest =>
          obtain ⟨rfl, d', g', st', lab', labR', rfl, rfl, HDc⟩ := hcut
          clear HD HO HNo HCs HAw o0 hob hk
          as_aux_lemma =>
            have HFw := Lib.hid (ref_few HDc.out.ref)
            go_wp2_with fail
            refine (loose_any wc d' lab' st' HDc.out.disk).mono ?_
            rintro e v1 ⟨A6, c6, rfl, ho6, hb6⟩
            have HDd := Lib.hid (HDc.out.below hb6)
            have HO6 := Lib.hid ho6.rd
            clear ho6 hb6 HDc
            go_wp2_with fail
            refine (rloose_any v1 g' labR' st' HDd.out.ref).mono ?_
            rintro e v2 ⟨A7, c7, rfl, ho7, hb7⟩
            have HDe := Lib.hid (HDd.out.below hb7)
            have CS := Lib.hid (sameloose_any A6 A7 st'.loose.length c6 c7 st'.loose v2 (HO6.out.below hb7) ho7.rd rfl (by have := HFw.out.1; omega))
            clear ho7 hb7 HDd HO6 HFw
            go_wp2_with fail
            refine CS.out.mono ?_
            rintro e v3 ⟨rfl, hb3⟩
            have HDf := Lib.hid (HDe.out.below hb3)
            clear hb3 CS HDe
            go_wp2_with fail
            go_loopw [26] (fun kk wx => ∃ k : Nat, k ≤ N ∧ kk = .int .i64 (k : Int) ∧ Hid (Duo w wx d' g' st' (4 * (i + 1)) lab' labR')) (fun kk _ => N - (intOf kk).toNat)
            case atStart => exact ⟨0, by omega, rfl, HDf⟩
            case round =>
              clear HDf
              obtain ⟨k, hkN, rfl, HDg⟩ := hrel
              rename World => wx
              by_cases hkn : k < N
              · have hki : (k : Int) < (N : Int) := by omega
                go_wp2_with fail
                refine (read_any (k : Int) wx d' lab' st' HDg.out.disk).mono ?_
                rintro e u1 ⟨A1, n1, c1, rfl, hr1, hb1, _, _⟩
                have HDh := Lib.hid (HDg.out.below hb1)
                have HR1 := Lib.hid hr1
                clear hr1 hb1 HDg
                go_wp2_with fail
                refine (rread_any (k : Int) u1 g' labR' st' HDh.out.ref).mono ?_
                rintro e u2 ⟨A2, n2, c2, rfl, hr2, hb2⟩
                have s1 : (convert 28 9 (.slice A1 n1 c1)).run Try.prog u2 = .ok (.string (str (st'.readB (k : Int)))) u2 := run_str (cap := c1) (HR1.out.below hb2)
                have s2 : (convert 28 9 (.slice A2 n2 c2)).run Try.prog u2 = .ok (.string (str (st'.readB (k : Int)))) u2 := run_str (cap := c2) hr2
                have s3 := str_same (a := st'.readB (k : Int)) rfl
                have s4 : (st'.ready (k : Int) == st'.ready (k : Int)) = true := by simp
                have HDi := Lib.hid (HDh.out.below hb2)
                clear hr2 hb2 HDh HR1
                go_wp2_with fail
                go_roundw
                case rel => exact ⟨k + 1, by omega, by go_num, HDi⟩
                case measure => simp [intOf]; omega
              · have hki : ¬ (k : Int) < (N : Int) := by omega
                go_wp2_with fail
                go_roundw
                case rel => exact ⟨i + 1, d', g', st', lab', labR', by omega, by omega, by go_num, rfl, rfl, HDg⟩
                case measure => simp [intOf]; omega
end Go.Proofs.Ytbdomhookjmmgaa
