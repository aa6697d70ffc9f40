/- For every slice of messages and every row of numbers: a peer has got one transfer of each number, the first, however often they come (P26.6), and the example at the head holds; the arguments stay as they were. No condition. -/
import Derived.Test.YthganbbiclmgpaaPrOnce
import Derived.Test.YthganbbiclmgpaaIns
import Derived.Test.YthganbbiclmgpaaHolds
import Derived.WalkKit
import Derived.ProofKit
import Derived.OpenShut
import Derived.ShutString
import Derived.ChangeOld
import Derived.Below
import Derived.Deep.RegionHeld
namespace Go.Proofs.Ythganbbiclmgpaa.netOnce
open Go.ChangeShapes Go.WideShapes Go.ChangeAt Go.RowKit
set_option linter.unusedVariables false
theorem own : ownKnob Try.prog.godebug = none := by kernel_rfl
theorem laidOut : laidOutB Try.prog = true := by kernel_rfl
set_option maxRecDepth 100000 in
set_option maxHeartbeats 8000000 in
theorem walk (A0 : Option Addr) (m0 c0 : Nat) (l0 : List Pr.Mg) (A1 : Option Addr) (m1 c1 : Nat) (l1 : List Nat) (w : World) (r0 : RdMg w A0 m0 l0) (wc0 : m0 ≤ c0) (w0 : m0 ≤ 9223372036854775807) (r1 : Rd w A1 m1 l1) (wc1 : m1 ≤ c1) (w1 : m1 ≤ 9223372036854775807) :
    Calls Try.prog 6 #[.slice A0 m0 c0, .slice A1 m1 c1] w fun e w' => e = .returned (.bool true) ∧ Below w.heap.size w w' := by
  -- heartbeats 8000000
  have HMs := Lib.hid r0
  have HBy := Lib.hid r1
  have HA := Lib.hid (fun wx => awake_any wx)
  go_enter Try.func6, Try.ntmps6
  go_wp2_with fail
  refine (newpeer_ok 3 w (by omega) (by omega)).mono ?_
  intro e w1 hg
  obtain ⟨g, b1, b2, b3, rfl, hp, hb, l1, l2, l3, l4⟩ := hg
  have HP := Lib.hid (show Peer w1 g b1 b2 b3 3 [] [] [] from ⟨hp.box, hp.sent, hp.open_, hp.got, hp.far⟩)
  have HB := Lib.hid hb
  have HL := Lib.hid (And.intro l1 (And.intro l2 l3))
  clear hp hb l1 l2 l3 l4
  go_wp2_with fail
  refine (HA.out w1).mono ?_
  rintro e w3 ⟨rfl, hb3⟩
  have R3 : Hid (Onc w w3 w3 g b1 b2 b3 [] [] none 0) := Lib.hid (by
    have hp := HP.out.below hb3
    exact ⟨hp, OwnC.none_ _ _ _ _, HL.out, ⟨hp.sent.lt, hp.open_.lt, hp.got.lt, hp.box.1⟩, below_next HB.out hb3, (below_next HB.out hb3).size, Nat.le_refl _⟩)
  clear hb3 HP HB HL
  go_upto_block 0 with fail
  go_cut [7] from 8 to 95 (fun s7 wx => ∃ (A : Option Addr) (cap : Nat) (G F : List Pr.Mg), s7 = .slice A F.length cap ∧ Hid (Onc w w3 wx g b1 b2 b3 G F A cap) ∧ Hid (Pr.Fst F G 40))
  case first =>
    go_wp2_with fail
    go_loopw [7, 8] (fun x i wr => ∃ (k : Nat) (A : Option Addr) (cap : Nat) (G F : List Pr.Mg), k ≤ m0 ∧ k ≤ 40 ∧ x = .slice A F.length cap ∧ i = .int .i64 (k : Int) ∧ Hid (Onc w w3 wr g b1 b2 b3 G F A cap) ∧ Hid (Pr.Fst F G k)) (fun _ i _ => m0 - (intOf i).toNat)
    case atStart => exact ⟨0, none, 0, [], [], by omega, by omega, rfl, rfl, R3, Lib.hid Pr.Fst.none⟩
    case round =>
      clear R3
      obtain ⟨k, A, cap, G, F, hk, hk4, rfl, rfl, HO, HF⟩ := hrel
      by_cases hkk : k < m0 ∧ k < 40
      · obtain ⟨hkm, hk40⟩ := hkk
        have hki : (k : Int) < (m0 : Int) := by omega
        have hk4i : (k : Int) < 40 := by omega
        obtain ⟨b, o, hA, hbl, hcells⟩ := HMs.out.2 (by omega)
        subst hA
        obtain ⟨x, hx⟩ : ∃ x, l0[k]? = some x := ⟨_, List.getElem?_eq_getElem (by rw [HMs.out.1]; exact hkm)⟩
        obtain ⟨hc5, hq, hsz⟩ := hcells k x hx
        obtain ⟨xk, xp, xq, xs, xn⟩ := x
        have hlow := HO.out.bel
        have e0 : wr.cell? ⟨b, o + k * 5, none⟩ = some (.int .i64 xk) := (hlow.cell hbl).trans (hc5 0 _ rfl)
        have e1 : wr.cell? ⟨b, o + k * 5 + 1, none⟩ = some (.int .i64 xp) := (hlow.cell hbl).trans (hc5 1 _ rfl)
        have e2 : wr.cell? ⟨b, o + k * 5 + 2, none⟩ = some (.int .i64 xq) := (hlow.cell hbl).trans (hc5 2 _ rfl)
        have e3 : wr.cell? ⟨b, o + k * 5 + 3, none⟩ = some (.string xs) := (hlow.cell hbl).trans (hc5 3 _ rfl)
        have e4 : wr.cell? ⟨b, o + k * 5 + 4, none⟩ = some (.int .i64 xn) := (hlow.cell hbl).trans (hc5 4 _ rfl)
        have HQ := Lib.hid (show Q64 xq from hq)
        have hsx : xs.size ≤ 9223372036854775807 := hsz
        clear hcells hx hc5 hlow hq hsz
        go_upto_region 11 with fail
        clear e0 e1 e2 e3 e4
        have HX := Lib.hid (Holds.new wr #[.int .i64 1, .int .i64 3, .int .i64 xq, .string xs, .int .i64 xn] 59)
        have ha : Below wr.heap.size wr (wr.alloc (.cells #[.int .i64 1, .int .i64 3, .int .i64 xq, .string xs, .int .i64 xn] 59)) := (Below.refl _ _).alloc (Nat.le_refl _) _
        have HO2 := Lib.hid (HO.out.below ha)
        have hXb : b1 < wr.heap.size ∧ b2 < wr.heap.size ∧ b3 < wr.heap.size := ⟨HO.out.peer.sent.lt, HO.out.peer.open_.lt, HO.out.peer.got.lt⟩
        have HXb := Lib.hid hXb
        clear ha hXb
        generalize (wr.alloc (.cells #[.int .i64 1, .int .i64 3, .int .i64 xq, .string xs, .int .i64 xn] 59)) = v at *
        generalize wr.heap.size = Xb at *
        obtain ⟨x0, x1, x2, x3, x4⟩ := results5 HX.out
        by_cases h100 : (100 : Int) < (xs.size : Int)
        · go_wp2_with fail
          go_roundw
          case rel => exact ⟨k + 1, A, cap, G, F, by omega, by omega, rfl, by go_num, HO2, Lib.hid HF.out.more⟩
          case measure => simp [intOf]; omega
        by_cases hneg : xq < 0
        · go_wp2_with fail
          go_roundw
          case rel => exact ⟨k + 1, A, cap, G, F, by omega, by omega, rfl, by go_num, HO2, Lib.hid HF.out.more⟩
          case measure => simp [intOf]; omega
        have HN0 := Lib.hid (show 0 ≤ xq by omega)
        go_wp2_with fail
        refine (hear_once w w3 v g b1 b2 b3 cap k G F A ⟨1, 3, xq, xs, xn⟩ HO2.out HF.out (by omega) ⟨rfl, rfl, HN0.out, HQ.out⟩).mono ?_
        rintro e v1 ⟨rfl, hO3, hc3⟩
        have ha : Below v1.heap.size v1 (v1.alloc (.cells #[.int .i64 2, .int .i64 3, .int .i64 xq, .string ⟨#[]⟩, .int .i64 0] 59)) := (Below.refl _ _).alloc (Nat.le_refl _) _
        have HO4 := Lib.hid (hO3.below ha)
        have HX4 := Lib.hid ((hc3.holds HX.out (Nat.ne_of_gt HXb.out.1) (Nat.ne_of_gt HXb.out.2.1) (Nat.ne_of_gt HXb.out.2.2)).below ha)
        have HY := Lib.hid (Holds.new v1 #[.int .i64 2, .int .i64 3, .int .i64 xq, .string ⟨#[]⟩, .int .i64 0] 59)
        clear hO3 hc3 ha x0 x1 x2 x3 x4 h100 hneg
        go_upto_region 13 with fail
        generalize (v1.alloc (.cells #[.int .i64 2, .int .i64 3, .int .i64 xq, .string ⟨#[]⟩, .int .i64 0] 59)) = v2 at *
        generalize v1.heap.size = Y at *
        obtain ⟨x0, x1, x2, x3, x4⟩ := results5 HX4.out
        obtain ⟨y0, y1, y2, y3, y4⟩ := results5 HY.out
        have hne := pne_self 2 3 xq ⟨#[]⟩ 0
        go_upto_block 2 with fail
        clear hne y0 y1 y2 y3 y4 x0 x1 x2 x3 x4 HO2 HO HX HXb HY
        go_cut [12, 13] from 73 to 89 (fun s12 s13 wx => s12 = .bool (Pr.hasq F xq) ∧ Hid (Onc w w3 wx g b1 b2 b3 (Pr.gotL G ⟨1, 3, xq, xs, xn⟩) F A cap) ∧ Hid (Holds wx Xb [.int .i64 1, .int .i64 3, .int .i64 xq, .string xs, .int .i64 xn]))
        case first =>
          have HS := Lib.hid (show Pr.hasq (F.take 0) xq = false by rw [List.take_zero]; rfl)
          have HFw := Lib.hid HF.out.few
          go_wp2_with fail
          go_loopw [12, 13] (fun d i wx => ∃ j : Nat, j ≤ F.length ∧ i = .int .i64 (j : Int) ∧ d = .bool (Pr.hasq (F.take j) xq) ∧ Hid (Onc w w3 wx g b1 b2 b3 (Pr.gotL G ⟨1, 3, xq, xs, xn⟩) F A cap) ∧ Hid (Holds wx Xb [.int .i64 1, .int .i64 3, .int .i64 xq, .string xs, .int .i64 xn])) (fun _ i _ => F.length - (intOf i).toNat)
          case atStart => exact ⟨0, Nat.zero_le _, rfl, by rw [HS.out], HO4, HX4⟩
          case round =>
            clear HO4 HX4
            obtain ⟨j, hj, rfl, rfl, HO4, HX4⟩ := hrel
            have hF4 : F.length ≤ 40 := by have := HFw.out; omega
            by_cases hjl : j < F.length
            · have hji : (j : Int) < (F.length : Int) := by omega
              obtain ⟨⟨yk, yp, yq, ys, yn⟩, hy⟩ : ∃ y, F[j]? = some y := ⟨_, List.getElem?_eq_getElem hjl⟩
              have HSn := Lib.hid (Pr.hasq_snoc hy xq)
              obtain ⟨b', o', rfl, _, _⟩ := HO4.out.rd.at_ hy
              obtain ⟨f0, f1, f2, f3, f4⟩ := at_five HO4.out.rd hy
              have x2 := HX4.out.at_ 2 rfl
              clear hy
              cases hd : Pr.hasq (F.take j) xq with
              | true =>
                have HE := Lib.hid (show true = Pr.hasq (F.take (j + 1)) xq by rw [HSn.out, hd]; rfl)
                clear hd
                go_wp2_with fail
                go_quiet (fail)
                have HO5 := Lib.hid (HO4.out.below (below_drewN _ wr nq))
                have HX5 := Lib.hid (HX4.out.below (below_drewN _ wr nq))
                go_wp2_with fail
                go_roundw
                case rel => exact ⟨j + 1, by omega, by go_num, by rw [← HE.out], HO5, HX5⟩
                case measure => simp [intOf]; omega
              | false =>
                have HE := Lib.hid (show (yq == xq) = Pr.hasq (F.take (j + 1)) xq by rw [HSn.out, hd, Bool.false_or, Bool.eq_iff_iff]; simp)
                clear hd
                go_wp2_with fail
                go_quiet (fail)
                have HO5 := Lib.hid (HO4.out.below (below_drewN _ wr nq))
                have HX5 := Lib.hid (HX4.out.below (below_drewN _ wr nq))
                go_wp2_with fail
                go_roundw
                case rel => exact ⟨j + 1, by omega, by go_num, by rw [← HE.out], HO5, HX5⟩
                case measure => simp [intOf]; omega
            · obtain rfl : j = F.length := by omega
              rw [List.take_length]
              go_wp2_with fail
              go_meet
              exact ⟨rfl, HO4, HX4⟩
        case rest =>
          obtain ⟨rfl, HO5, HX5⟩ := hcut
          have HM := Lib.hid (show (⟨1, 3, xq, xs, xn⟩ : Pr.Mg).k = 1 ∧ (⟨1, 3, xq, xs, xn⟩ : Pr.Mg).p = 3 ∧ 0 ≤ (⟨1, 3, xq, xs, xn⟩ : Pr.Mg).q ∧ Q64 (⟨1, 3, xq, xs, xn⟩ : Pr.Mg).q from ⟨rfl, rfl, HN0.out, HQ.out⟩)
          cases hd : Pr.hasq F xq with
          | true =>
            have HG := Lib.hid (HF.out.had (m := ⟨1, 3, xq, xs, xn⟩) hd)
            clear hd
            have HO6 : Hid (Onc w w3 wc g b1 b2 b3 G F A cap) := Lib.hid (by have := HO5.out; rw [HG.out] at this; exact this)
            go_wp2_with fail
            go_roundw
            case rel => exact ⟨k + 1, A, cap, G, F, by omega, by omega, rfl, by go_num, HO6, Lib.hid HF.out.more⟩
            case measure => simp [intOf]; omega
          | false =>
            have HF2 := Lib.hid (HF.out.put (m := ⟨1, 3, xq, xs, xn⟩) HM.out hd)
            clear hd
            have HFw := Lib.hid HF.out.few
            have hF4 : F.length + 1 ≤ 1000000 := by have := HFw.out; omega
            obtain ⟨x0, x1, x2, x3, x4⟩ := results5 HX5.out
            have HO6 := Lib.hid (HO5.out.below ((Below.refl _ _).alloc (Nat.le_refl _) (.cells #[.int .i64 1, .int .i64 3, .int .i64 xq, .string xs, .int .i64 xn] 59)))
            go_wp2_with (at_builtin; refine wpList_appC manyP rfl (.tmp 92) (.tmp 94) rfl rfl HO6.out.row ⟨wc.heap.size, 0, none⟩ 1 1 (Pr.Mg.cells ⟨1, 3, xq, xs, xn⟩) (Pr.cells_one _) rfl (rdc_new 5 wc 59 (Pr.Mg.cells ⟨1, 3, xq, xs, xn⟩) 1 rfl (0, 0)) hF4 HO6.out.sz ?_; intro A7 c7 w7 hg7; have HO7 := Lib.hid (HO6.out.push hg7); clear hg7)
            have hl : (F ++ [(⟨1, 3, xq, xs, xn⟩ : Pr.Mg)]).length = F.length + 1 := by simp
            go_roundw
            case rel => exact ⟨k + 1, A7, c7, _, _, by omega, by omega, by rw [hl], by go_num, HO7, HF2⟩
            case measure => simp [intOf]; omega
      · have HF4 := Lib.hid (HF.out.up hk4)
        go_wp2_with fail
        all_goals
          go_meet
          exact ⟨A, cap, G, F, rfl, HO, HF4⟩
  case rest =>
    obtain ⟨A, cap, G, F, rfl, HO, HF⟩ := hcut
    have HFw := Lib.hid HF.out.few
    go_upto_block 4 with fail
    go_cut [14] from 96 to 123 (fun s14 wx => Hid (Onc w w3 wx g b1 b2 b3 G F A cap))
    case first =>
      go_wp2_with fail
      go_loopw [14] (fun i wx => ∃ j : Nat, j ≤ m1 ∧ i = .int .i64 (j : Int) ∧ Hid (Onc w w3 wx g b1 b2 b3 G F A cap)) (fun i _ => m1 - (intOf i).toNat)
      case atStart => exact ⟨0, Nat.zero_le _, rfl, HO⟩
      case round =>
        clear HO
        obtain ⟨j, hj, rfl, HO⟩ := hrel
        by_cases hall : j < m1 ∧ j < 40 ∧ 0 < F.length
        · obtain ⟨hj1, hj2, hj3⟩ := hall
          have hj1i : (j : Int) < (m1 : Int) := by omega
          have hj2i : (j : Int) < 40 := by omega
          have hj3i : (0 : Int) < (F.length : Int) := by omega
          obtain ⟨b, o, x, hA, hbl, hx, hxl, hcell⟩ := HBy.out.at_ hj1
          subst hA
          have e0 := (HO.out.bel.cell hbl).trans hcell
          obtain ⟨i, hi⟩ : ∃ i, x % F.length = i := ⟨_, rfl⟩
          have hil : i < F.length := by rw [← hi]; exact Nat.mod_lt _ hj3
          have hmod : (x : Int) % (F.length : Int) = (i : Int) := by rw [← hi]; simp
          have htmod : Int.tmod (x : Int) (F.length : Int) = (i : Int) := by rw [Int.tmod_eq_emod_of_nonneg (by omega)]; exact hmod
          obtain ⟨⟨yk, yp, yq, ys, yn⟩, hy⟩ : ∃ y, F[i]? = some y := ⟨_, List.getElem?_eq_getElem hil⟩
          obtain ⟨b', o', rfl, _, _⟩ := HO.out.rd.at_ hy
          obtain ⟨f0, f1, f2, f3, f4⟩ := at_five HO.out.rd hy
          have HM := Lib.hid (HF.out.all _ (List.mem_of_getElem? hy))
          have HG := Lib.hid (HF.out.had (m := ⟨yk, yp, yq, ys, yn⟩) (Pr.hasq_yes.2 ⟨_, List.mem_of_getElem? hy, rfl⟩))
          have hF40 : F.length ≤ 40 := HFw.out
          clear hy hi hx hcell hbl
          go_wp2_with fail
          refine (hear_once w w3 wr g b1 b2 b3 cap 40 G F (some ⟨b', o', none⟩) ⟨yk, yp, yq, ys, yn⟩ HO.out HF.out (by omega) HM.out).mono ?_
          rintro e v1 ⟨rfl, hO3, _⟩
          rw [HG.out] at hO3
          have HO3 := Lib.hid hO3
          clear hO3 f0 f1 f2 f3 f4 e0 hmod htmod
          go_wp2_with fail
          go_roundw
          case rel => exact ⟨j + 1, by omega, by go_num, HO3⟩
          case measure => simp [intOf]; omega
        · go_wp2_with fail
          all_goals
            go_meet
            exact HO
    case rest =>
      have HO2 := hcut
      clear HO
      have HSm := Lib.hid (HF.out.lst.small (by omega))
      have HGl := Lib.hid HF.out.len
      go_wp2_with fail
      refine (got_any g b1 b2 b3 3 [] [] G wc HO2.out.peer (by omega) HSm.out).mono ?_
      intro e wq hg
      obtain ⟨A5, c5, rfl, r5, hb5, _, _⟩ := hg
      rw [HGl.out] at r5 ⊢
      have HR := Lib.hid r5
      have HOq := Lib.hid (HO2.out.below hb5)
      clear r5 hb5
      go_upto_region 29 with fail
      have HB0 := Lib.hid (Below.refl wq.heap.size wq)
      have hF40 : F.length ≤ 40 := HFw.out
      go_wp2_with fail
      go_loopw [16] (fun i wx => ∃ k : Nat, k ≤ F.length ∧ i = .int .i64 (k : Int) ∧ Hid (Below wq.heap.size wq wx)) (fun i _ => F.length - (intOf i).toNat)
      case atStart => exact ⟨0, Nat.zero_le _, rfl, HB0⟩
      case round =>
        clear HB0
        obtain ⟨k, hk, rfl, HB⟩ := hrel
        by_cases hkl : k < F.length
        · have hki : (k : Int) < (F.length : Int) := by omega
          obtain ⟨⟨xk, xp, xq, xs, xn⟩, hx⟩ : ∃ x, G[k]? = some x := ⟨_, List.getElem?_eq_getElem (by rw [HGl.out]; exact hkl)⟩
          have HX := Lib.hid hx
          obtain ⟨b, o, rfl, _, _⟩ := HR.out.at_ hx
          have HAny := Lib.hid (HF.out.got hx)
          clear hx
          go_upto_block 8 with fail
          go_cut [17, 18] from 137 to 154 (fun s17 s18 wx => s17 = .bool true ∧ Hid (Below wq.heap.size wq wx))
          case first =>
            have HS := Lib.hid (show Pr.anyM (F.take 0) ⟨xk, xp, xq, xs, xn⟩ = false by rw [List.take_zero]; rfl)
            go_wp2_with fail
            go_loopw [17, 18] (fun d i wx => ∃ j : Nat, j ≤ F.length ∧ i = .int .i64 (j : Int) ∧ d = .bool (Pr.anyM (F.take j) ⟨xk, xp, xq, xs, xn⟩) ∧ Hid (Below wq.heap.size wq wx)) (fun _ i _ => F.length - (intOf i).toNat)
            case atStart => exact ⟨0, Nat.zero_le _, rfl, by rw [HS.out], HB⟩
            case round =>
              clear HB
              obtain ⟨j, hj, rfl, rfl, HB⟩ := hrel
              by_cases hjl : j < F.length
              · have hji : (j : Int) < (F.length : Int) := by omega
                obtain ⟨⟨yk, yp, yq, ys, yn⟩, hy⟩ : ∃ y, F[j]? = some y := ⟨_, List.getElem?_eq_getElem hjl⟩
                have HSn := Lib.hid (Pr.any_snoc hy ⟨xk, xp, xq, xs, xn⟩)
                obtain ⟨b', o', rfl, _, _⟩ := HOq.out.rd.at_ hy
                obtain ⟨f0, f1, f2, f3, f4⟩ := at_five (HOq.out.rd.below HB.out) hy
                obtain ⟨e0, e1, e2, e3, e4⟩ := at_five (HR.out.below HB.out) HX.out
                have heq := eq_msg yk yp yq ys yn xk xp xq xs xn
                clear hy
                cases hd : Pr.anyM (F.take j) ⟨xk, xp, xq, xs, xn⟩ with
                | true =>
                  have HE := Lib.hid (show true = Pr.anyM (F.take (j + 1)) ⟨xk, xp, xq, xs, xn⟩ by rw [HSn.out, hd]; rfl)
                  clear hd
                  go_wp2_with fail
                  go_quiet (fail)
                  have HB5 := Lib.hid (below_next HB.out (below_drewN _ wr nq))
                  go_wp2_with fail
                  go_roundw
                  case rel => exact ⟨j + 1, by omega, by go_num, by rw [← HE.out], HB5⟩
                  case measure => simp [intOf]; omega
                | false =>
                  have HE := Lib.hid (show Pr.eqM ⟨yk, yp, yq, ys, yn⟩ ⟨xk, xp, xq, xs, xn⟩ = Pr.anyM (F.take (j + 1)) ⟨xk, xp, xq, xs, xn⟩ by rw [HSn.out, hd, Bool.false_or])
                  clear hd
                  go_wp2_with fail
                  go_quiet (fail)
                  have HB5 := Lib.hid (below_next HB.out (below_drewN _ wr nq))
                  go_wp2_with fail
                  go_roundw
                  case rel => exact ⟨j + 1, by omega, by go_num, by rw [← HE.out], HB5⟩
                  case measure => simp [intOf]; omega
              · obtain rfl : j = F.length := by omega
                rw [List.take_length, HAny.out]
                go_wp2_with fail
                go_meet
                exact ⟨rfl, HB⟩
          case rest =>
            obtain ⟨rfl, HB6⟩ := hcut
            obtain ⟨e0, e1, e2, e3, e4⟩ := at_five (HR.out.below HB6.out) HX.out
            rcases Nat.eq_zero_or_pos k with h0 | h0
            · subst h0
              go_wp2_with fail
              go_quiet (fail)
              have HB7 := Lib.hid (below_next HB6.out (below_drewN _ wc nq))
              go_wp2_with fail
              go_roundw
              case rel => exact ⟨0 + 1, by omega, by go_num, HB7⟩
              case measure => simp [intOf]; omega
            · obtain ⟨j, hjk⟩ : ∃ j, k = j + 1 := ⟨k - 1, by omega⟩
              obtain ⟨⟨zk, zp, zq, zs, zn⟩, hz⟩ : ∃ z, G[j]? = some z := ⟨_, List.getElem?_eq_getElem (by rw [HGl.out]; omega)⟩
              have hlt := HF.out.rise hz (by rw [← hjk]; exact HX.out)
              replace hlt : zq < xq := hlt
              have hge : ¬ xq ≤ zq := by omega
              have hgeb : decide (xq ≤ zq) = false := by simpa using hge
              obtain ⟨f0, f1, f2, f3, f4⟩ := at_five (HR.out.below HB6.out) hz
              have hk0 : (0 : Int) < (k : Int) := by omega
              have hk0b : decide (0 < k) = true := by simpa using h0
              have hsub : IntKind.i64.wrap ((k : Int) - 1) = (j : Int) := by rw [hjk]; rw [show ((j + 1 : Nat) : Int) - 1 = (j : Int) by omega]; exact IntWalk.i64_in _ (by omega)
              have hjl : (j : Int) < (F.length : Int) := by omega
              have hjn : j < F.length := by omega
              have HJ := Lib.hid hjk
              clear hz hjk hlt
              go_wp2_with fail
              go_quiet (fail)
              have HB7 := Lib.hid (below_next HB6.out (below_drewN _ wc nq))
              clear hsub hgeb hge hk0b f0 f1 f2 f3 f4 e0 e1 e2 e3 e4
              go_wp2_with fail
              go_roundw
              case rel => exact ⟨k + 1, by omega, by go_num, HB7⟩
              case measure => simp [intOf]; omega
        · have HFin := Lib.hid (HOq.out.below HB.out).bel
          go_wp2_with fail
          all_goals
            go_ret
            exact ⟨rfl, HFin.out⟩
set_option maxRecDepth 100000 in
theorem lifted (os : Os) (started : os.Started) (H : Type) (enc : TypeId × Value → H) :
    ReturnsInHanded {} Try.checked os 6 .any (Rows.netOnceSpec.pre6 enc Try.prog Try.f6 Rows.netOnceRow.domain false) (Rows.netOnceSpec.post enc Try.prog Try.f6 false true false false) := by
  refine returnsInHanded_of_change (C := Try.checked) own started (by kernel_rfl) Try.func6
    (ChangeSpec.witness6 (enc := enc) (C := Try.checked) false ⟨#[], #[.slice none 0 0, .slice none 0 0], []⟩ 8 (by kernel_rfl) (by kernel_rfl) (by kernel_rfl) (by kernel_rfl)) ?_
  intro W base args ds gs before hval0 hW hcnd _
  have hval : ∀ (j : Nat) t v, Try.f6.params[j]? = some t → args[j]? = some v → Value.okWide Try.prog W .any base t v := hval0
  have hW' := hW
  obtain ⟨p, q, hA0, hV, rfl, hfz, hnd⟩ := hW
  have hA : DataW.TrodAll enc Try.prog W 0 (fun _ => true) true Try.f6.params.toList args.toList ds p := hA0
  rw [Try.params6] at hA hval
  obtain ⟨v0, vs0, d0, ds0, p0, q0, hargs, rfl, rfl, h0, t0⟩ := trodAll_cons hA
  obtain ⟨v1, vs1, d1, ds1, p1, q1, rfl, rfl, rfl, h1, t1⟩ := trodAll_cons t0
  obtain ⟨rfl, rfl, rfl⟩ := trodAll_nil t1
  obtain rfl : args = #[v0, v1] := by cases args; simp_all
  obtain ⟨rfl, rfl⟩ := trodVars_none hV
  have k0 : Reads enc W 52 v0 d0 p0 := h0
  have lt0 : ∀ x ∈ p0, x.block < W.heap.size := by obtain ⟨m, hm⟩ := k0; exact DataW.trod_lt m _ _ _ hm
  obtain ⟨A0, m0, c0, l0, rfl, r0, wc0, w0⟩ := in_msgs (hval 0 52 v0 rfl rfl) k0
  have k1 : Reads enc W 44 v1 d1 p1 := h1
  have lt1 : ∀ x ∈ p1, x.block < W.heap.size := by obtain ⟨m, hm⟩ := k1; exact DataW.trod_lt m _ _ _ hm
  obtain ⟨A1, m1, c1, l1, rfl, r1, wc1, w1⟩ := in_bytes (hval 1 44 v1 rfl rfl) k1
  clear hA0 hval0
  refine (walk A0 m0 c0 l0 A1 m1 c1 l1 W r0 wc0 w0 r1 wc1 w1).mono fun e W' ⟨he, bel⟩ => ?_
  subst he
  exact ⟨_, rfl, _, _, _, [], _, [], hW', trodAll_mk1 (shut_bool Try.underlying4 _), (trodAll_cons_mk (Below.trod laidOut (by kernel_rfl) (of_decide_eq_true (by kernel_rfl)) k0 bel lt0) (trodAll_cons_mk (Below.trod laidOut (by kernel_rfl) (of_decide_eq_true (by kernel_rfl)) k1 bel lt1) trodAll_mk0)), rfl, bel.frame _, fun h => by cases h⟩
theorem over : Rows.netOnceRow.holds Try.pinned (OpenSpec.ofChange Rows.netOnceSpec) :=
  OpenClaim.holds_of_wide 6 Try.f6 rfl rfl rfl rfl rfl rfl rfl ⟨rfl, rfl, rfl, rfl, rfl⟩ rfl rfl rfl rfl rfl (by kernel_rfl) Try.func6 (by kernel_rfl)
    (of_decide_eq_true (by kernel_rfl)) (by unfold Func.isWrapper; first | (rw [if_pos (by decide +kernel)]; kernel_rfl) | (rw [if_neg (by decide +kernel)]; exact ⟨rfl, rfl⟩))
    (fun os started H enc _ => lifted os started H enc)
theorem proved : Rows.NetOnceSaid := over
end Go.Proofs.Ythganbbiclmgpaa.netOnce
