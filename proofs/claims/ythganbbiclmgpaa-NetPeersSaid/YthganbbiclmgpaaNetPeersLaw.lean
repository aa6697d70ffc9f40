/- For every number and every slice of acts: a peer of that number sends, answers, has got and sends again what the document says (P26.3, P26.4, P26.5), and the example at the head holds; the arguments stay as they were. No condition. -/
import Derived.Test.YthganbbiclmgpaaPrUni
import Derived.Test.YthganbbiclmgpaaPrIn
import Derived.Test.YthganbbiclmgpaaIns
import Derived.Test.YthganbbiclmgpaaHolds
import Derived.WalkKit
import Derived.ProofKit
import Derived.OpenShut
import Derived.ShutString
import Derived.ChangeOld
import Derived.Below
import Derived.Deep.RegionHeld
namespace Go.Proofs.Ythganbbiclmgpaa.netPeers
open Go.ChangeShapes Go.WideShapes Go.ChangeAt Go.RowKit
set_option linter.unusedVariables false
theorem own : ownKnob Try.prog.godebug = none := by kernel_rfl
theorem laidOut : laidOutB Try.prog = true := by kernel_rfl
set_option maxRecDepth 100000 in
set_option maxHeartbeats 8000000 in
theorem walk (n0 : Int) (A1 : Option Addr) (m1 c1 : Nat) (l1 : List Pr.Ac) (w : World) (wl0 : -9223372036854775808 ≤ n0) (w0 : n0 ≤ 9223372036854775807) (r1 : RdAc w A1 m1 l1) (wc1 : m1 ≤ c1) (w1 : m1 ≤ 9223372036854775807) :
    Calls Try.prog 5 #[.int .i64 n0, .slice A1 m1 c1] w fun e w' => e = .returned (.bool true) ∧ Below w.heap.size w w' := by
  -- heartbeats 8000000
  have HAc := Lib.hid r1
  have HA := Lib.hid (fun wx => awake_any wx)
  by_cases hn : 1 ≤ n0 ∧ n0 ≤ 15
  · obtain ⟨hn1, hn2⟩ := hn
    have hw0 : 0 < n0 := by omega
    go_enter Try.func5, Try.ntmps5
    go_wp2_with fail
    refine (newpeer_ok n0 w hn1 hn2).mono ?_
    intro e w1 hg
    obtain ⟨g, b1, b2, b3, rfl, hp, hb, l1, l2, l3, l4⟩ := hg
    have HP := Lib.hid (show Peer w1 g b1 b2 b3 n0 [] [] [] from ⟨hp.box, hp.sent, hp.open_, hp.got, hp.far⟩)
    have HB := Lib.hid hb
    have HL := Lib.hid (And.intro l4 (And.intro l1 (And.intro l2 l3)))
    clear hp hb l1 l2 l3 l4
    go_wp2_with fail
    refine (rnew_ok n0 w1 hn1 hn2).mono ?_
    rintro e w2 ⟨rfl, hb2⟩
    have HD2 := Lib.hid (Duo.start (c2 := .slice none 0 0) (c3 := .slice none 0 0) (HP.out.below hb2) (below_next HB.out hb2) HL.out 54 rfl)
    clear hb2
    go_upto_region 3 with fail
    generalize (w2.alloc (.cells #[.int .i64 n0, .slice none 0 0, .slice none 0 0] 54)) = w3 at *
    generalize w2.heap.size = r at *
    go_wp2_with fail
    refine (HA.out w3).mono ?_
    rintro e w4 ⟨rfl, hb4⟩
    have R4 : Hid (At w g b1 b2 b3 r n0 0 w4) := Lib.hid ⟨none, 0, [], none, 0, [], HD2.out.below hb4, Pr.Lst.none n0⟩
    clear HD2 hb4 HP HB HL
    go_upto_region 8 with fail
    go_loopw [9] (fun i wr => ∃ k : Nat, k ≤ m1 ∧ k ≤ 100 ∧ i = .int .i64 (k : Int) ∧ Hid (At w g b1 b2 b3 r n0 k wr)) (fun i _ => m1 - (intOf i).toNat)
    case atStart => exact ⟨0, by omega, by omega, rfl, R4⟩
    case round =>
      clear R4
      obtain ⟨k, hk, hk6, rfl, HG⟩ := hrel
      by_cases hkk : k < m1 ∧ k < 100
      · obtain ⟨hkm, hk60⟩ := hkk
        have hki : (k : Int) < (m1 : Int) := by omega
        have hk6i : (k : Int) < 100 := by omega
        obtain ⟨A, cap, l, B, c, K, hD, hL⟩ := HG.out
        have HD := Lib.hid hD
        have HLs := Lib.hid hL
        clear HG hD hL
        obtain ⟨b, o, hA, hbl, hcells⟩ := HAc.out.2 (by omega)
        subst hA
        obtain ⟨x, hx⟩ : ∃ x, l1[k]? = some x := ⟨_, List.getElem?_eq_getElem (by rw [HAc.out.1]; exact hkm)⟩
        obtain ⟨hc8, hkd, hsz, hq, hsz2⟩ := hcells k x hx
        obtain ⟨kd, s, n, ⟨xk, xp, xq, xs, xn⟩⟩ := x
        have hlow := HD.out.bel
        have e0 : wr.cell? ⟨b, o + k * 8, none⟩ = some (.int .u8 (kd : Int)) := (hlow.cell hbl).trans (hc8 0 _ rfl)
        have e1 : wr.cell? ⟨b, o + k * 8 + 1, none⟩ = some (.string s) := (hlow.cell hbl).trans (hc8 1 _ rfl)
        have e2 : wr.cell? ⟨b, o + k * 8 + 2, none⟩ = some (.int .i64 n) := (hlow.cell hbl).trans (hc8 2 _ rfl)
        have e3 : wr.cell? ⟨b, o + k * 8 + 3, none⟩ = some (.int .i64 xk) := (hlow.cell hbl).trans (hc8 3 _ rfl)
        have e4 : wr.cell? ⟨b, o + k * 8 + 4, none⟩ = some (.int .i64 xp) := (hlow.cell hbl).trans (hc8 4 _ rfl)
        have e5 : wr.cell? ⟨b, o + k * 8 + 5, none⟩ = some (.int .i64 xq) := (hlow.cell hbl).trans (hc8 5 _ rfl)
        have e6 : wr.cell? ⟨b, o + k * 8 + 6, none⟩ = some (.string xs) := (hlow.cell hbl).trans (hc8 6 _ rfl)
        have e7 : wr.cell? ⟨b, o + k * 8 + 7, none⟩ = some (.int .i64 xn) := (hlow.cell hbl).trans (hc8 7 _ rfl)
        have HQ := Lib.hid (show Q64 xq from hq)
        clear hcells hx hc8 hlow hq
        have HX := Lib.hid (Holds.new wr #[.int .u8 (kd : Int), .string s, .int .i64 n, .int .i64 xk, .int .i64 xp, .int .i64 xq, .string xs, .int .i64 xn] 61)
        have HDv := Lib.hid (HD.out.below ((Below.refl _ _).alloc (Nat.le_refl _) (.cells #[.int .u8 (kd : Int), .string s, .int .i64 n, .int .i64 xk, .int .i64 xp, .int .i64 xq, .string xs, .int .i64 xn] 61)))
        go_upto_region 11 with fail
        generalize (wr.alloc (.cells #[.int .u8 (kd : Int), .string s, .int .i64 n, .int .i64 xk, .int .i64 xp, .int .i64 xq, .string xs, .int .i64 xn] 61)) = v at *
        have hXb : b1 < wr.heap.size ∧ b2 < wr.heap.size ∧ b3 < wr.heap.size ∧ r < wr.heap.size := ⟨HD.out.peer.sent.lt, HD.out.peer.open_.lt, HD.out.peer.got.lt, HD.out.box.1⟩
        generalize wr.heap.size = X at *
        have HXb := Lib.hid hXb
        clear hXb
        have x0 := HX.out.at_ 0 rfl
        have x1 := HX.out.at_ 1 rfl
        have x2 := HX.out.at_ 2 rfl
        have x3 := HX.out.at_ 3 rfl
        have x4 := HX.out.at_ 4 rfl
        have x5 := HX.out.at_ 5 rfl
        have x6 := HX.out.at_ 6 rfl
        have x7 := HX.out.at_ 7 rfl
        clear e0 e1 e2 e3 e4 e5 e6 e7
        by_cases h100 : (100 : Int) < (s.size : Int)
        · have HI : Hid (At w g b1 b2 b3 r n0 (k + 1) v) := Lib.hid ⟨A, cap, l, B, c, K, HDv.out, HLs.out.more⟩
          go_wp2_with fail
          go_roundw
          case rel => exact ⟨k + 1, by omega, by omega, by go_num, HI⟩
          case measure => simp [intOf]; omega
        by_cases h101 : (100 : Int) < (xs.size : Int)
        · have HI : Hid (At w g b1 b2 b3 r n0 (k + 1) v) := Lib.hid ⟨A, cap, l, B, c, K, HDv.out, HLs.out.more⟩
          go_wp2_with fail
          go_roundw
          case rel => exact ⟨k + 1, by omega, by omega, by go_num, HI⟩
          case measure => simp [intOf]; omega
        go_upto_if 70 with fail
        clear h100 h101
        obtain ⟨ev, hev⟩ : ∃ ev : Bool, ((kd : Int) % 2 == 0) = ev := ⟨_, rfl⟩
        go_cut [11, 12, 13, 14, 15, 16, 17, 18, 19, 20] from 67 to 122 (fun s11 s12 s13 s14 s15 s16 s17 s18 s19 s20 wx => At w g b1 b2 b3 r n0 (k + 1) wx)
        case first =>
          cases ev with
          | true =>
            go_wp2_with fail
            refine (offer_uni g b1 b2 b3 n0 l K k s n v HDv.out.peer hw0 HLs.out (by omega)).mono ?_
            intro e v1 hg
            obtain ⟨mk, mp, mq, ms, mn, hM, rfl, hp, hc⟩ := hg
            have ha : Below v1.heap.size v1 (v1.alloc (.cells #[.int .i64 mk, .int .i64 mp, .int .i64 mq, .string ms, .int .i64 mn] 59)) := (Below.refl _ _).alloc (Nat.le_refl _) _
            have HD2 := Lib.hid ((HDv.out.change hp hc).below ha)
            have HX2 := Lib.hid ((hc.holds HX.out (Nat.ne_of_gt HXb.out.1) (Nat.ne_of_gt HXb.out.2.1) (Nat.ne_of_gt HXb.out.2.2.1)).below ha)
            have HY := Lib.hid (Holds.new v1 #[.int .i64 mk, .int .i64 mp, .int .i64 mq, .string ms, .int .i64 mn] 59)
            have HM := Lib.hid hM
            clear hM hp hc ha x0 x1 x2 x3 x4 x5 x6 x7
            go_upto_region 14 with fail
            generalize (v1.alloc (.cells #[.int .i64 mk, .int .i64 mp, .int .i64 mq, .string ms, .int .i64 mn] 59)) = v2 at *
            generalize v1.heap.size = Y at *
            obtain ⟨q0, q1, q2⟩ := results3 HD2.out.box
            have x1 := HX2.out.at_ 1 rfl
            have x2 := HX2.out.at_ 2 rfl
            go_wp2_with fail
            refine (roffer_uni n0 A B cap K.length c l s n v2 HD2.out.out (by have := HLs.out.few; omega)).mono ?_
            intro e v3 hg
            obtain ⟨A', cap', nk, np, nq, ns, nn, hN, rfl, hb3, hr3, hf3⟩ := hg
            have HD3 := Lib.hid (HD2.out.next hb3 hr3 hf3 (HD2.out.got.below hb3) (.inl rfl))
            have hE := HM.out.trans hN.symm
            injection hE with i1 i2 i3 i4 i5
            subst i1 i2 i3 i4 i5
            have HY3 := Lib.hid (HY.out.below hb3)
            obtain ⟨t1, t2, t3, t4⟩ := two_boxes v3 #[.int .i64 n0, .slice A' (Pr.offL n0 l s n).length cap', .slice B K.length c] #[.int .i64 mk, .int .i64 mp, .int .i64 mq, .string ms, .int .i64 mn] 54 59
            have HY4 := Lib.hid (HY3.out.below t3)
            have HD4 := Lib.hid (HD3.out.below t3)
            have HT1 := Lib.hid t1
            have HT2 := Lib.hid t2
            clear hN hb3 hr3 hf3 t1 t2 t3 t4 q0 q1 q2
            go_upto_region 15 with fail
            generalize ((v3.alloc (.cells #[.int .i64 n0, .slice A' (Pr.offL n0 l s n).length cap', .slice B K.length c] 54)).alloc (.cells #[.int .i64 mk, .int .i64 mp, .int .i64 mq, .string ms, .int .i64 mn] 59)) = v4 at *
            generalize v3.heap.size = Z at *
            obtain ⟨y0, y1, y2, y3, y4⟩ := results5 HY4.out
            obtain ⟨z0, z1, z2, z3, z4⟩ := results5 HT2.out
            obtain ⟨u0, u1, u2⟩ := results3 HT1.out
            obtain ⟨q0, q1, q2⟩ := results3 HD4.out.box
            have f0 := HD4.out.box.2.2 0
            have f1 := HD4.out.box.2.2 1
            have f2 := HD4.out.box.2.2 2
            have hne := pne_self mk mp mq ms mn
            go_upto_region 17 with fail
            have HD5 := Lib.hid (HD4.out.store (.slice A' (Pr.offL n0 l s n).length cap') (.slice B K.length c))
            go_wp2_with fail
            go_meet
            exact ⟨A', cap', _, B, c, K, HD5.out, Pr.off_lst HLs.out s n⟩
          | false =>
            go_wp2_with fail
            refine (hear_uni g b1 b2 b3 n0 l K k ⟨xk, xp, xq, xs, xn⟩ v HDv.out.peer hw0 HLs.out (by omega) HQ.out).mono ?_
            intro e v1 hg
            obtain ⟨mk, mp, mq, ms, mn, hM, rfl, hp, hc⟩ := hg
            have ha : Below v1.heap.size v1 (v1.alloc (.cells #[.int .i64 mk, .int .i64 mp, .int .i64 mq, .string ms, .int .i64 mn] 59)) := (Below.refl _ _).alloc (Nat.le_refl _) _
            have HD2 := Lib.hid ((HDv.out.change hp hc).below ha)
            have HX2 := Lib.hid ((hc.holds HX.out (Nat.ne_of_gt HXb.out.1) (Nat.ne_of_gt HXb.out.2.1) (Nat.ne_of_gt HXb.out.2.2.1)).below ha)
            have HY := Lib.hid (Holds.new v1 #[.int .i64 mk, .int .i64 mp, .int .i64 mq, .string ms, .int .i64 mn] 59)
            have HM := Lib.hid hM
            clear hM hp hc ha x0 x1 x2 x3 x4 x5 x6 x7
            go_upto_region 19 with fail
            generalize (v1.alloc (.cells #[.int .i64 mk, .int .i64 mp, .int .i64 mq, .string ms, .int .i64 mn] 59)) = v2 at *
            generalize v1.heap.size = Y at *
            obtain ⟨q0, q1, q2⟩ := results3 HD2.out.box
            have x3 := HX2.out.at_ 3 rfl
            have x4 := HX2.out.at_ 4 rfl
            have x5 := HX2.out.at_ 5 rfl
            have x6 := HX2.out.at_ 6 rfl
            have x7 := HX2.out.at_ 7 rfl
            go_wp2_with fail
            refine (rhear_uni n0 A B cap c l K ⟨xk, xp, xq, xs, xn⟩ v2 HD2.out.out HD2.out.got (by have := HLs.out.few; omega) (by have := HLs.out.few2; omega)).mono ?_
            intro e v3 hg
            obtain ⟨A', cap', B', c', nk, np, nq, ns, nn, hN, rfl, hb3, hr3, hf3, hr4, hf4⟩ := hg
            have HD3 := Lib.hid (HD2.out.next hb3 hr3 hf3 hr4 hf4)
            have hE := HM.out.trans hN.symm
            injection hE with i1 i2 i3 i4 i5
            subst i1 i2 i3 i4 i5
            have HY3 := Lib.hid (HY.out.below hb3)
            obtain ⟨t1, t2, t3, t4⟩ := two_boxes v3 #[.int .i64 n0, .slice A' (Pr.hearL n0 l ⟨xk, xp, xq, xs, xn⟩).length cap', .slice B' (Pr.hearK n0 K ⟨xk, xp, xq, xs, xn⟩).length c'] #[.int .i64 mk, .int .i64 mp, .int .i64 mq, .string ms, .int .i64 mn] 54 59
            have HY4 := Lib.hid (HY3.out.below t3)
            have HD4 := Lib.hid (HD3.out.below t3)
            have HT1 := Lib.hid t1
            have HT2 := Lib.hid t2
            clear hN hb3 hr3 hf3 t1 t2 t3 t4 q0 q1 q2
            go_upto_region 20 with fail
            generalize ((v3.alloc (.cells #[.int .i64 n0, .slice A' (Pr.hearL n0 l ⟨xk, xp, xq, xs, xn⟩).length cap', .slice B' (Pr.hearK n0 K ⟨xk, xp, xq, xs, xn⟩).length c'] 54)).alloc (.cells #[.int .i64 mk, .int .i64 mp, .int .i64 mq, .string ms, .int .i64 mn] 59)) = v4 at *
            generalize v3.heap.size = Z at *
            obtain ⟨y0, y1, y2, y3, y4⟩ := results5 HY4.out
            obtain ⟨z0, z1, z2, z3, z4⟩ := results5 HT2.out
            obtain ⟨u0, u1, u2⟩ := results3 HT1.out
            obtain ⟨q0, q1, q2⟩ := results3 HD4.out.box
            have f0 := HD4.out.box.2.2 0
            have f1 := HD4.out.box.2.2 1
            have f2 := HD4.out.box.2.2 2
            have hne := pne_self mk mp mq ms mn
            go_upto_region 22 with fail
            have HD5 := Lib.hid (HD4.out.store (.slice A' (Pr.hearL n0 l ⟨xk, xp, xq, xs, xn⟩).length cap') (.slice B' (Pr.hearK n0 K ⟨xk, xp, xq, xs, xn⟩).length c'))
            go_wp2_with fail
            go_meet
            exact ⟨A', cap', _, B', c', _, HD5.out, Pr.hear_lst HLs.out ⟨xk, xp, xq, xs, xn⟩ HQ.out⟩
        case rest =>
          clear x0 x1 x2 x3 x4 x5 x6 x7 HQ HX HDv HXb HD HLs
          obtain ⟨A, cap, l, B, c, K, hD, hL⟩ := hcut
          have HD := Lib.hid hD
          have HLs := Lib.hid hL
          have HSm := Lib.hid (hL.small (by omega))
          clear hD hL
          obtain ⟨q0, q1, q2⟩ := results3 HD.out.box
          have hcl : ∀ wx, Below wc.heap.size wc wx → wx.cell? ⟨r, 0, none⟩ = some (.int .i64 n0) ∧ wx.cell? ⟨r, 1, none⟩ = some (.slice A l.length cap) ∧ wx.cell? ⟨r, 2, none⟩ = some (.slice B K.length c) := fun wx hx => results3 (HD.out.below hx).box
          have HCl := Lib.hid hcl
          have HAg := Lib.hid (fun wx hx => again_any g b1 b2 b3 n0 _ _ K wx (HD.out.below hx).peer hw0 HSm.out)
          have HGt := Lib.hid (fun wx hx => got_any g b1 b2 b3 n0 _ _ K wx (HD.out.below hx).peer hw0 HSm.out)
          have HSt := Lib.hid (fun wx hx => sent_any g b1 b2 b3 n0 _ _ K wx (HD.out.below hx).peer hw0 HSm.out)
          have HRa := Lib.hid (fun wx hx => ragain_any n0 A B cap K.length c l wx (HD.out.below hx).out (by have := HLs.out.few; omega))
          have HRs := Lib.hid (fun wx hx => rsent_any n0 A B cap K.length c l wx (HD.out.below hx).out (by have := HLs.out.few; omega))
          have hd : Below wc.heap.size wc wc.drew := (Below.refl _ _).drew
          have HLo := Lib.hid HSm.out.lO
          have HLg := Lib.hid HSm.out.lG
          have HLt := Lib.hid HSm.out.lS
          clear hcl
          go_wp2_with fail
          go_region_held3 (fun wx => wx.cell? ⟨r, 0, none⟩ = some (.int .i64 n0) ∧ wx.cell? ⟨r, 1, none⟩ = some (.slice A l.length cap) ∧ wx.cell? ⟨r, 2, none⟩ = some (.slice B K.length c)) (first | exact HCl.out _ hd | exact HCl.out _ k8 | exact HCl.out _ k7 | exact HCl.out _ k6 | exact HCl.out _ k5 | exact HCl.out _ k4 | exact HCl.out _ k3 | exact HCl.out _ k2 | exact HCl.out _ k1) (first
            | (go_at_call 28; refine (HAg.out _ (by first | exact k2 | exact hd)).mono ?_; intro e u1 hg; obtain ⟨A1, c1, rfl, r1, hb1, _, _⟩ := hg; have k1 : Below wc.heap.size wc u1 := below_next (by first | exact k2 | exact hd) hb1)
            | (go_at_call 29; refine (HRa.out _ (by first | exact k1 | exact hd)).mono ?_; intro e u2 hg; obtain ⟨A2, c2, rfl, r2, hb2, _, _⟩ := hg; have k2 : Below wc.heap.size wc u2 := below_next (by first | exact k1 | exact hd) hb2)
            | (go_at_call 27; with_reducible refine (sames_same A1 A2 c1 c2 _ _ _ (r1.below hb2) r2 HLo.out).mono ?_; rintro e u3 ⟨rfl, hb3⟩; have k3 : Below wc.heap.size wc u3 := below_next k2 hb3)
            | (go_at_call 27; with_reducible refine (sames_same A1 A2 c1 c2 _ _ _ r1 (r2.below hb1) HLo.out).mono ?_; rintro e u3 ⟨rfl, hb3⟩; have k3 : Below wc.heap.size wc u3 := below_next k1 hb3)
            | (go_at_call 30; refine (HGt.out _ k3).mono ?_; intro e u4 hg; obtain ⟨A4, c4, rfl, r4, hb4, _, _⟩ := hg; have k4 : Below wc.heap.size wc u4 := below_next k3 hb4)
            | (go_at_call 27; with_reducible refine (sames_same A4 B c4 c _ _ _ r4 (HD.out.below k4).got HLg.out).mono ?_; rintro e u5 ⟨rfl, hb5⟩; have k5 : Below wc.heap.size wc u5 := below_next k4 hb5)
            | (go_at_call 31; refine (HSt.out _ (by first | exact k7 | exact k5)).mono ?_; intro e u6 hg; obtain ⟨A6, c6, rfl, r6, hb6, _, _⟩ := hg; have k6 : Below wc.heap.size wc u6 := below_next (by first | exact k7 | exact k5) hb6)
            | (go_at_call 32; refine (HRs.out _ (by first | exact k6 | exact k5)).mono ?_; intro e u7 hg; obtain ⟨A7, c7, rfl, r7, hb7, _, _⟩ := hg; have k7 : Below wc.heap.size wc u7 := below_next (by first | exact k6 | exact k5) hb7)
            | (go_at_call 27; with_reducible refine (sames_same A6 A7 c6 c7 _ _ _ (r6.below hb7) r7 HLt.out).mono ?_; rintro e u8 ⟨rfl, hb8⟩; have k8 : Below wc.heap.size wc u8 := below_next k7 hb8)
            | (go_at_call 27; with_reducible refine (sames_same A6 A7 c6 c7 _ _ _ r6 (r7.below hb6) HLt.out).mono ?_; rintro e u8 ⟨rfl, hb8⟩; have k8 : Below wc.heap.size wc u8 := below_next k6 hb8))
          all_goals
            have HI : Hid (At w g b1 b2 b3 r n0 (k + 1) u8) := Lib.hid ⟨A, cap, l, B, c, K, HD.out.below k8, HLs.out⟩
            go_wp2_with fail
            go_roundw
            case rel => exact ⟨k + 1, by omega, by omega, by go_num, HI⟩
            case measure => simp [intOf]; omega
      · go_wp2_with fail
        all_goals
          obtain ⟨A, cap, l, B, c, K, hD, hL⟩ := HG.out
          have HD := Lib.hid hD
          have HSm := Lib.hid (hL.small (by omega))
          clear hD hL HG
          obtain ⟨q0, q1, q2⟩ := results3 HD.out.box
          have hcl : ∀ wx, Below wr.heap.size wr wx → wx.cell? ⟨r, 2, none⟩ = some (.slice B K.length c) := fun wx hx => (results3 (HD.out.below hx).box).2.2
          have HCl := Lib.hid hcl
          have HGt := Lib.hid (fun wx hx => got_any g b1 b2 b3 n0 _ _ K wx (HD.out.below hx).peer hw0 HSm.out)
          have hd : Below wr.heap.size wr wr.drew := (Below.refl _ _).drew
          clear hcl
          go_region_held3 (fun wx => wx.cell? ⟨r, 2, none⟩ = some (.slice B K.length c)) (first | exact HCl.out _ hd | exact HCl.out _ k4) (first
            | (go_at_call 30; refine (HGt.out _ hd).mono ?_; intro e u4 hg; obtain ⟨A4, c4, rfl, r4, hb4, _, _⟩ := hg; have k4 : Below wr.heap.size wr u4 := below_next hd hb4))
          all_goals
            have HF := Lib.hid (HD.out.below k4).bel
            go_wp2
            go_ret
            exact ⟨rfl, HF.out⟩
  · have hno : n0 < 1 ∨ 15 < n0 := by omega
    clear hn
    go_enter Try.func5, Try.ntmps5
    go_wp2_with fail
    refine (newpeer_no n0 w hno).mono ?_
    rintro e w1 ⟨rfl, rfl⟩
    go_wp2_with fail
    refine (rnew_no n0 w hno).mono ?_
    rintro e w2 ⟨rfl, hb2⟩
    have HB2 := Lib.hid (below_next hb2 ((Below.refl _ _).alloc (Nat.le_refl _) (.cells #[.int .i64 0, .slice none 0 0, .slice none 0 0] 54)))
    clear hb2
    go_upto_region 3 with fail
    generalize (w2.alloc (.cells #[.int .i64 0, .slice none 0 0, .slice none 0 0] 54)) = w3 at *
    go_wp2_with fail
    refine (HA.out w3).mono ?_
    rintro e w4 ⟨rfl, hb4⟩
    have HF := Lib.hid (below_next HB2.out hb4)
    clear hb4
    go_wp2
    go_ret
    exact ⟨rfl, HF.out⟩
set_option maxRecDepth 100000 in
theorem lifted (os : Os) (started : os.Started) (H : Type) (enc : TypeId × Value → H) :
    ReturnsInHanded {} Try.checked os 5 .any (Rows.netPeersSpec.pre6 enc Try.prog Try.f5 Rows.netPeersRow.domain false) (Rows.netPeersSpec.post enc Try.prog Try.f5 false true false false) := by
  refine returnsInHanded_of_change (C := Try.checked) own started (by kernel_rfl) Try.func5
    (ChangeSpec.witness6 (enc := enc) (C := Try.checked) false ⟨#[], #[.int .i64 0, .slice none 0 0], []⟩ 8 (by kernel_rfl) (by kernel_rfl) (by kernel_rfl) (by kernel_rfl)) ?_
  intro W base args ds gs before hval0 hW hcnd _
  have hval : ∀ (j : Nat) t v, Try.f5.params[j]? = some t → args[j]? = some v → Value.okWide Try.prog W .any base t v := hval0
  have hW' := hW
  obtain ⟨p, q, hA0, hV, rfl, hfz, hnd⟩ := hW
  have hA : DataW.TrodAll enc Try.prog W 0 (fun _ => true) true Try.f5.params.toList args.toList ds p := hA0
  rw [Try.params5] at hA hval
  obtain ⟨v0, vs0, d0, ds0, p0, q0, hargs, rfl, rfl, h0, t0⟩ := trodAll_cons hA
  obtain ⟨v1, vs1, d1, ds1, p1, q1, rfl, rfl, rfl, h1, t1⟩ := trodAll_cons t0
  obtain ⟨rfl, rfl, rfl⟩ := trodAll_nil t1
  obtain rfl : args = #[v0, v1] := by cases args; simp_all
  obtain ⟨rfl, rfl⟩ := trodVars_none hV
  have k0 : Reads enc W 3 v0 d0 p0 := h0
  have lt0 : ∀ x ∈ p0, x.block < W.heap.size := by obtain ⟨m, hm⟩ := k0; exact DataW.trod_lt m _ _ _ hm
  obtain ⟨n0, rfl, wl0, w0⟩ := in_int (hval 0 3 v0 rfl rfl) k0
  have k1 : Reads enc W 47 v1 d1 p1 := h1
  have lt1 : ∀ x ∈ p1, x.block < W.heap.size := by obtain ⟨m, hm⟩ := k1; exact DataW.trod_lt m _ _ _ hm
  obtain ⟨A1, m1, c1, l1, rfl, r1, wc1, w1⟩ := in_acts (hval 1 47 v1 rfl rfl) k1
  clear hA0 hval0
  refine (walk n0 A1 m1 c1 l1 W wl0 w0 r1 wc1 w1).mono fun e W' ⟨he, bel⟩ => ?_
  subst he
  exact ⟨_, rfl, _, _, _, [], _, [], hW', trodAll_mk1 (shut_bool Try.underlying4 _), (trodAll_cons_mk (Below.trod laidOut (by kernel_rfl) (of_decide_eq_true (by kernel_rfl)) k0 bel lt0) (trodAll_cons_mk (Below.trod laidOut (by kernel_rfl) (of_decide_eq_true (by kernel_rfl)) k1 bel lt1) trodAll_mk0)), rfl, bel.frame _, fun h => by cases h⟩
theorem over : Rows.netPeersRow.holds Try.pinned (OpenSpec.ofChange Rows.netPeersSpec) :=
  OpenClaim.holds_of_wide 5 Try.f5 rfl rfl rfl rfl rfl rfl rfl ⟨rfl, rfl, rfl, rfl, rfl⟩ rfl rfl rfl rfl rfl (by kernel_rfl) Try.func5 (by kernel_rfl)
    (of_decide_eq_true (by kernel_rfl)) (by unfold Func.isWrapper; first | (rw [if_pos (by decide +kernel)]; kernel_rfl) | (rw [if_neg (by decide +kernel)]; exact ⟨rfl, rfl⟩))
    (fun os started H enc _ => lifted os started H enc)
theorem proved : Rows.NetPeersSaid := over
end Go.Proofs.Ythganbbiclmgpaa.netPeers
