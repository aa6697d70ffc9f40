/- WalBack: opened anew, a log has all records that were added. -/
import Derived.Test.YtahoiabibjdobaaM13
namespace Go.Proofs.Ytahoiabibjdobaa
open Go.RowKit Fi Fr
set_option linter.unusedVariables false
set_option linter.unusedSimpArgs false
set_option maxRecDepth 100000 in
set_option maxHeartbeats 16000000 in
theorem walback_any (GA : Option Addr) (gn gc : Nat) (G : List (List (List Nat))) (late : Nat) (w : World) (hG : RdG w GA gn G) (hgn : gn ≤ 9223372036854775807) (hlate : late < 256) :
    Calls Try.prog 3 #[.slice GA gn gc, .int .u8 (late : Int)] w fun e w' => e = .returned (.bool true) ∧ Below w.heap.size w w' := by
  have HG := Lib.hid hG
  clear hG
  go_enter Try.func3, Try.ntmps3
  go_wp2_with fail
  refine (awake_any _).mono ?_
  rintro e v0 ⟨rfl, hb0⟩
  go_wp2_with fail
  refine (new_any 52 _).mono ?_
  rintro e v1 hN
  rcases hN with ⟨_, _, d, lab, rfl, hD, hb1, hnl⟩ | ⟨hx, _⟩
  rotate_left
  · exact absurd ⟨by omega, by omega⟩ hx
  have HD1 := Lib.hid (show Ds w v1 d lab (Dk.St.new 52) [] from ⟨hb0.trans (hb1.mono hb0.size), hD, fun k hk => Nat.le_trans hb0.size (hnl k hk), fun u hu => by cases hu⟩)
  clear hb0 hb1 hD hnl
  go_wp2_with fail
  refine (place_any 3 2 _ (by omega) (by omega)).mono ?_
  rintro e v2 ⟨hb2, pb, po, cp, rfl, hpr, _, _⟩
  have HD2 := Lib.hid (HD1.out.next hb2)
  have CO := Lib.hid (wopen_any 3 cp 4 2 2 2 ⟨pb, po, none⟩ [] v2 d lab (Dk.St.new 52) HD2.out.disk hpr (Wl.Lg.new (by omega)) (by omega) ⟨by omega, by omega⟩ ⟨by omega, by omega⟩ ⟨by omega, by omega⟩)
  clear hb2 hpr HD1
  go_wp2_with fail
  refine CO.out.mono ?_
  rintro e v3 hg
  have hg : GivesLog v2 3 4 d 2 ((2 : Nat) : Int) ([], 0) e v3 := hg
  obtain ⟨lb, ad, cl, R, rc, rfl, hA, hR, _⟩ := at_of_open (E := 2) (c := 0) HD2.out (Wl.Lg.new (by omega)) (low_new 52) (by omega) rfl hg
  have HK := Lib.hid (show Bk w v3 d lb ad cl [] 0 lab (Dk.St.new 52) none 0 0 [] from ⟨hA, rfl, ⟨[], OwnV.none_ _ _ _, Items.nil _ _⟩, fun g e => by cases e⟩)
  clear hg hA hR CO HD2
  rw [show ([] : List (List Nat)).length = 0 from rfl]
  go_wp2_with fail
  go_loopw [10, 11] (fun s10 ii wr => ∃ (i : Nat) (Ps L : List (List Nat)) (lab : Nat → Tag) (st : Dk.St) (A : Option Addr) (cap : Nat), i ≤ 12 ∧ i ≤ gn ∧ ii = .int .i64 (i : Int) ∧ s10 = .slice A L.length cap ∧ Hid (Bk w wr d lb ad cl Ps (2 * Ps.length + i) lab st A L.length cap L) ∧ Hid (L.length ≤ 6 * i)) (fun _ ii _ => 12 - (intOf ii).toNat)
  case atStart => exact ⟨0, [], [], lab, Dk.St.new 52, none, 0, by omega, by omega, rfl, rfl, HK, Lib.hid (by simp)⟩
  case round =>
    clear HK
    obtain ⟨i, Ps, L, lab, st, A, cap, hi12, hig, rfl, rfl, HK, HLn⟩ := hrel
    by_cases hgo : i < gn ∧ i < 12
    · obtain ⟨h1, h2⟩ := hgo
      have hii : (i : Int) < (gn : Int) := by omega
      have hi2 : (i : Int) < 12 := by omega
      have hi0 : (0 : Int) ≤ (i : Int) := by omega
      obtain ⟨M, hM⟩ : ∃ M, G[i]? = some M := ⟨_, List.getElem?_eq_getElem (by rw [HG.out.1]; exact h1)⟩
      obtain ⟨gb, go, GB, gbc, rfl, hgb, hgcell, hgr, _, hgm⟩ := HG.out.2 i M hM
      have hgcellw := (HK.out.at_.ds.below.cell (p := ⟨gb, go + i, none⟩) hgb).trans hgcell
      have CL := Lib.hid (light_any (fun b => b < w.heap.size) GB M.length gbc M wr ((RdX.of hgr).below HK.out.at_.ds.below) hgm)
      have HGr := Lib.hid hgr
      have HLe := Lib.hid (Wl.light_le M)
      have HLl := Lib.hid (Wl.light_len M)
      clear hgcell hgr hM h1 h2 hgb
      generalize Wl.light M = g at *
      go_wp2_with fail
      refine CL.out.mono ?_
      rintro e v4 ⟨hb4, LB, lc, rfl, hrX, hlc, hnw⟩
      have HNw := Lib.hid (show ∀ b o, LB = some ⟨b, o, none⟩ → lab b = .no ∧ b ≠ lb from fun b o e => ⟨HK.out.at_.ds.disk.new_ (hnw b o e).1, by have := (hnw b o e).1; have := HK.out.at_.box.1; omega⟩)
      have HK4 := Lib.hid (HK.out.next hb4)
      have HRX := Lib.hid hrX
      clear hb4 hrX hlc hnw CL HK hgcellw
      go_wp2_with fail
      go_loopw [13, 14] (fun s jj wx => ∃ (k : Nat) (B : Option Addr) (dd : Nat), k ≤ g.length ∧ jj = .int .i64 (k : Int) ∧ s = .slice B k dd ∧ Hid (OwnI wx v4.heap.size B k dd (lens (g.take k))) ∧ Hid (Below v4.heap.size v4 wx)) (fun _ jj _ => g.length - (intOf jj).toNat)
      case atStart => exact ⟨0, none, 0, Nat.zero_le _, rfl, rfl, Lib.hid ⟨rfl, World.ownsRow_nil _ _ _ _⟩, Lib.hid (Below.refl _ _)⟩
      case round =>
        obtain ⟨k, B, dd, hk, rfl, rfl, HI, HBl⟩ := hrel
        by_cases hkn : k < g.length
        · obtain ⟨b, o, RB, cc, r, rfl, hb1, hrk, hcell, hrd, hrc, hrm⟩ := (HRX.out.rd.below HBl.out).at_ hkn
          have hki : (k : Int) < (g.length : Int) := by omega
          rename World => wx
          have hOa := HI.out.alloc (.cells #[.int .i64 (r.length : Int)] 3)
          have hca := (Holds.new wx #[.int .i64 (r.length : Int)] 3).at_ 0 rfl
          have hba : v4.heap.size ≤ (wx.alloc (.cells #[.int .i64 (r.length : Int)] 3)).heap.size := by have := HBl.out.size; simp; omega
          have HBb := Lib.hid (HBl.out.alloc HBl.out.size (.cells #[.int .i64 (r.length : Int)] 3))
          have HBlk := Lib.hid HI.out.blk
          have hle9 : k + 1 ≤ 1000000 := by have := HLl.out; omega
          have HSn := Lib.hid (lens_snoc hrk)
          have HCa := Lib.hid hca
          clear hrk hrd HI HBl hca
          go_wp2_with (first | (at_builtin; refine wpList_appI rfl (.tmp 64) (.tmp 70) rfl rfl hOa ⟨wx.heap.size, 0, none⟩ (r.length : Int) 1 rfl HCa.out hle9 hba ?_; intro A7 c7 v7 hO7 hg7))
          have hB7 := HBb.out.grown hg7 hba (fun g h => (HBlk.out g h).1)
          rw [← HSn.out] at hO7
          have HO7 := Lib.hid hO7
          have HB7 := Lib.hid hB7
          clear hg7 hO7 hB7
          go_roundw
          case rel => exact ⟨k + 1, A7, c7, by omega, by go_num, rfl, HO7, HB7⟩
          case measure => simp [intOf]; omega
        · have hkn2 : k = g.length := by omega
          subst hkn2
          have hki : ¬ (g.length : Int) < (g.length : Int) := by omega
          rename World => wx
          rw [List.take_length] at HI
          have HK5 := Lib.hid (HK4.out.next HBl.out)
          have HRX5 := Lib.hid (HRX.out.below HBl.out)
          have hPl := HK5.out.at_.lg.le
          have CF := Lib.hid (fits_any lb d 3 cl (some ad) 2 _ (Ps.length : Int) _ (L.length : Int) B g.length dd (lens g) wx HK5.out.at_.box (by omega) ⟨by omega, by omega⟩ HI.out.rd (by have := HLl.out; omega) (Fg.lens_le (fun r hr => by have := HLe.out r hr; omega)))
          rw [Wl.fits_lens HLe.out HLl.out] at CF
          have CA := Lib.hid (fun (W : World) (hW : Below wx.heap.size wx W) => wadd_any w d lb ad 3 cl 4 2 2 Ps L.length (2 * Ps.length + i) lab st _ LB lc g W (HK5.out.at_.next hW) (by omega) ⟨by omega, by omega⟩ (by omega) ⟨by omega, by omega⟩ (fun r hr => by have := HLe.out r hr; omega) (by have := HLl.out; omega) (HRX5.out.rd.below hW) (by omega) (by have := HLn.out; omega))
          clear HI HBl HK4 HRX
          by_cases hfit : 8 * 3 - Ps.length < (Fg.cut g).length
          · rw [show decide (((Fg.cut g).length : Int) ≤ 8 * ((3 : Nat) : Int) - (Ps.length : Int)) = false by simp; omega] at CF
            unfold GivesAdd at CA
            simp only [if_pos hfit] at CA
            clear hfit
            go_wp2_with fail
            refine CF.out.mono ?_
            rintro e v6 ⟨rfl, hb6⟩
            have CA6 := Lib.hid (CA.out v6 hb6)
            have HK6 := Lib.hid (HK5.out.next hb6)
            clear hb6 CF CA HK5
            go_wp2_with fail
            refine CA6.out.mono ?_
            rintro e v7 ⟨rfl, hb7⟩
            have HK7 := Lib.hid (HK6.out.next hb7).more
            clear hb7 CA6 HK6
            go_wp2_with fail
            go_roundw
            case rel => exact ⟨i + 1, Ps, L, lab, st, A, cap, by omega, by omega, by go_num, rfl, HK7, Lib.hid (by have := HLn.out; omega)⟩
            case measure => simp [intOf]; omega
          · rw [show decide (((Fg.cut g).length : Int) ≤ 8 * ((3 : Nat) : Int) - (Ps.length : Int)) = true by simp; omega] at CF
            unfold GivesAdd at CA
            simp only [if_neg hfit] at CA
            clear hfit
            go_wp2_with fail
            refine CF.out.mono ?_
            rintro e v6 ⟨rfl, hb6⟩
            have CA6 := Lib.hid (CA.out v6 hb6)
            have HK6 := Lib.hid (HK5.out.next hb6)
            have HRX6 := Lib.hid (HRX5.out.below hb6)
            clear hb6 CF CA HK5
            go_wp2_with fail
            refine CA6.out.mono ?_
            rintro e v7 ⟨rfl, hKp, lab7, st7, hA7⟩
            obtain ⟨vs, hown, hLi⟩ := HK6.out.kept hKp
            obtain ⟨us, hu1, hu2, hone⟩ := HRX6.out.vals
            have hrdv := hKp.rdv hu1 HNw.out
            have HUs := Lib.hid (hu2.back HK6.out.at_.ds.below)
            have hlen : L.length + g.length ≤ 1000000 := by have := HLn.out; have := HLl.out; omega
            have hbase : w.heap.size ≤ v7.heap.size := hA7.ds.below.size
            have HA7 := Lib.hid hA7
            have HLi := Lib.hid hLi
            have HOf := Lib.hid HK6.out.off
            have HPa := Lib.hid (Fg.pall_more HK6.out.pall (fun r hr => by have := HLe.out r hr; omega))
            clear hKp hA7 hLi hu1 hu2 CA6 HK6 HRX6
            go_wp2_with (first | (at_builtin; refine wpList_appV oneB rfl (.tmp 92) (.tmp 93) rfl rfl hown LB g.length lc us hone rfl hrdv hlen hbase ?_; intro A8 c8 v8 hg8))
            have hK8 := Bk.app HA7.out HOf.out hown HLi.out hg8 HUs.out HPa.out (by rw [List.length_append])
            rw [show 2 * Ps.length + i + 2 * (Fg.cut g).length + 1 = 2 * (Ps ++ Fg.cut g).length + (i + 1) by rw [List.length_append]; omega, ← List.length_append] at hK8
            have HK8 := Lib.hid hK8
            clear hg8 hK8 hown hrdv hone
            rw [← List.length_append]
            go_roundw
            case rel => exact ⟨i + 1, Ps ++ Fg.cut g, L ++ g, lab7, st7, A8, c8, by omega, by omega, by go_num, rfl, HK8, Lib.hid (by rw [List.length_append]; have := HLn.out; have := HLl.out; omega)⟩
            case measure => simp [intOf]; omega
    · have hl0 : (0 : Int) ≤ (late : Int) := by omega
      have hl1 : (late : Int) < 256 := by omega
      by_cases h1 : i < gn
      · have hii : (i : Int) < (gn : Int) := by omega
        have hi2 : ¬ (i : Int) < 12 := by omega
        clear hgo
        go_wp2_with fail
        refine (place_any 3 2 _ (by omega) (by omega)).mono ?_
        rintro e v6 ⟨hb6, pb2, po2, cp2, rfl, hpr, _, _⟩
        have HK6 := Lib.hid (HK.out.next hb6)
        have CO := Lib.hid (wopen_any 3 cp2 4 2 2 (2 + (late : Int)) ⟨pb2, po2, none⟩ Ps v6 d lab st HK6.out.at_.ds.disk hpr HK6.out.at_.lg (by omega) ⟨by omega, by omega⟩ ⟨by omega, by omega⟩ ⟨by omega, by omega⟩)
        rw [Fg.joinL_all HK6.out.pall] at CO
        clear hb6 hpr HK
        go_wp2_with fail
        refine CO.out.mono ?_
        rintro e v7 ⟨hb7, mb, mA, mc, R7, rc7, rfl, _, hm7, _, _, hR7, _, _⟩
        have HK7 := Lib.hid (HK6.out.next hb7)
        have CS := Lib.hid (rsame9_any R7 A L.length L.length rc7 cap L L v7 hR7.rd HK7.out.rd (by have := HLn.out; omega) (by have := HLn.out; omega))
        rw [decide_eq_true (rfl : L = L)] at CS
        have HM := Lib.hid (fun (W : World) (hW : Below v7.heap.size v7 W) => hm7.below hW)
        have HL := Lib.hid (fun (W : World) (hW : Below v7.heap.size v7 W) => HK7.out.at_.box.below hW)
        have HB7 := Lib.hid HK7.out.at_.ds.below
        have q1 : ((Ps.length : Int) == (Ps.length : Int)) = true := by simp
        have q2 : ((L.length : Int) == (L.length : Int)) = true := by simp
        clear hb7 hm7 hR7 CO HK6 HK7
        go_wp2_with fail
        refine CS.out.mono ?_
        rintro e v8 ⟨rfl, hb8⟩
        have CF1 := Lib.hid (lframes_any mb d 3 mc mA 2 _ (Ps.length : Int) _ (L.length : Int) v8 (HM.out v8 hb8))
        have CF2 := Lib.hid (lframes_any lb d 3 cl (some ad) 2 _ (Ps.length : Int) _ (L.length : Int) v8 (HL.out v8 hb8))
        have CR := Lib.hid (records_any mb d 3 mc mA 2 _ (Ps.length : Int) _ (L.length : Int) v8 (HM.out v8 hb8))
        have HB8 := Lib.hid (below_next HB7.out hb8)
        clear hb8 CS HM HL HB7
        go_wp2_with fail
        refine CF1.out.mono ?_
        rintro e v ⟨rfl, rfl⟩
        clear CF1
        go_wp2_with fail
        refine CF2.out.mono ?_
        rintro e v ⟨rfl, rfl⟩
        clear CF2
        go_wp2_with fail
        refine CR.out.mono ?_
        rintro e v ⟨rfl, rfl⟩
        clear CR
        go_wp2_with fail
        go_ret
        exact ⟨rfl, HB8.out⟩
      · have hii : ¬ (i : Int) < (gn : Int) := by omega
        clear hgo h1
        go_wp2_with fail
        refine (place_any 3 2 _ (by omega) (by omega)).mono ?_
        rintro e v6 ⟨hb6, pb2, po2, cp2, rfl, hpr, _, _⟩
        have HK6 := Lib.hid (HK.out.next hb6)
        have CO := Lib.hid (wopen_any 3 cp2 4 2 2 (2 + (late : Int)) ⟨pb2, po2, none⟩ Ps v6 d lab st HK6.out.at_.ds.disk hpr HK6.out.at_.lg (by omega) ⟨by omega, by omega⟩ ⟨by omega, by omega⟩ ⟨by omega, by omega⟩)
        rw [Fg.joinL_all HK6.out.pall] at CO
        clear hb6 hpr HK
        go_wp2_with fail
        refine CO.out.mono ?_
        rintro e v7 ⟨hb7, mb, mA, mc, R7, rc7, rfl, _, hm7, _, _, hR7, _, _⟩
        have HK7 := Lib.hid (HK6.out.next hb7)
        have CS := Lib.hid (rsame9_any R7 A L.length L.length rc7 cap L L v7 hR7.rd HK7.out.rd (by have := HLn.out; omega) (by have := HLn.out; omega))
        rw [decide_eq_true (rfl : L = L)] at CS
        have HM := Lib.hid (fun (W : World) (hW : Below v7.heap.size v7 W) => hm7.below hW)
        have HL := Lib.hid (fun (W : World) (hW : Below v7.heap.size v7 W) => HK7.out.at_.box.below hW)
        have HB7 := Lib.hid HK7.out.at_.ds.below
        have q1 : ((Ps.length : Int) == (Ps.length : Int)) = true := by simp
        have q2 : ((L.length : Int) == (L.length : Int)) = true := by simp
        clear hb7 hm7 hR7 CO HK6 HK7
        go_wp2_with fail
        refine CS.out.mono ?_
        rintro e v8 ⟨rfl, hb8⟩
        have CF1 := Lib.hid (lframes_any mb d 3 mc mA 2 _ (Ps.length : Int) _ (L.length : Int) v8 (HM.out v8 hb8))
        have CF2 := Lib.hid (lframes_any lb d 3 cl (some ad) 2 _ (Ps.length : Int) _ (L.length : Int) v8 (HL.out v8 hb8))
        have CR := Lib.hid (records_any mb d 3 mc mA 2 _ (Ps.length : Int) _ (L.length : Int) v8 (HM.out v8 hb8))
        have HB8 := Lib.hid (below_next HB7.out hb8)
        clear hb8 CS HM HL HB7
        go_wp2_with fail
        refine CF1.out.mono ?_
        rintro e v ⟨rfl, rfl⟩
        clear CF1
        go_wp2_with fail
        refine CF2.out.mono ?_
        rintro e v ⟨rfl, rfl⟩
        clear CF2
        go_wp2_with fail
        refine CR.out.mono ?_
        rintro e v ⟨rfl, rfl⟩
        clear CR
        go_wp2_with fail
        go_ret
        exact ⟨rfl, HB8.out⟩
end Go.Proofs.Ytahoiabibjdobaa
