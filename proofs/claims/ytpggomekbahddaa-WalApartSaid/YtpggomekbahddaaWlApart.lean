/- WalApart: what is added touches no sector but the frames' own. -/
import Derived.Test.YtpggomekbahddaaWlApA
namespace Go.Proofs.Ytpggomekbahddaa
open Go.RowKit Fi Fr
set_option linter.unusedVariables false
set_option linter.unusedSimpArgs false
set_option maxRecDepth 100000 in
set_option maxHeartbeats 16000000 in
theorem apart_any (FA : Option Addr) (fn fc : Nat) (F : List (List Nat)) (MA : Option Addr) (mn mc : Nat) (M : List (List Nat)) (WA : Option Addr) (wn wc : Nat) (wb : List Nat) (w : World) (hF : RdB w FA fn F) (hfn : fn ≤ 9223372036854775807) (hM : RdB w MA mn M) (hmn : mn ≤ 9223372036854775807) (hW : Rd w WA wn wb) :
    Calls Try.prog 3 #[.slice FA fn fc, .slice MA mn mc, .slice WA wn wc] w fun e w' => e = .returned (.bool true) ∧ Below w.heap.size w w' := by
  have HF := Lib.hid (And.intro hF hfn)
  have HM := Lib.hid (And.intro hM hmn)
  have HW := Lib.hid hW
  have hmk : ∀ w : World, (Instr.makeSlice 23 (.int .i64 128) (.int .i64 128)).run Try.prog w = .ok (.slice (some ⟨w.heap.size, 0, none⟩) 128 128) (w.alloc (.cells (madeCells #[.int .u8 0] 128) 5)) := make_all 128 (by omega)
  clear hF hM hW hfn hmn
  go_enter Try.func3, Try.ntmps3
  go_wp2_with fail
  refine (awake_any _).mono ?_
  rintro e v0 ⟨rfl, hb0⟩
  go_wp2_with fail
  refine (new_any 52 _).mono ?_
  rintro e v1 hN
  rcases hN with ⟨_, _, d, lab, rfl, hD, hb1, hnl⟩ | ⟨hx, _⟩
  rotate_left
  · exact absurd ⟨by omega, by omega⟩ hx
  have HD1 := Lib.hid (show Ds w v1 d lab (Dk.St.new 52) [] from ⟨hb0.trans (hb1.mono hb0.size), hD, fun k hk => Nat.le_trans hb0.size (hnl k hk), fun u hu => by cases hu⟩)
  clear hb0 hb1 hD hnl
  go_upto_region 5 with fail
  have HZ := Lib.hid (buf_zeros v1 128)
  have HDa := Lib.hid (HD1.out.add (.cells (madeCells #[.int .u8 0] 128) 5))
  have hRw := HW.out.below HDa.out.below
  have hsw : lab v1.heap.size = .no ∧ w.heap.size ≤ v1.heap.size := ⟨HD1.out.disk.new_ (Nat.le_refl _), HD1.out.below.size⟩
  have HSw := Lib.hid hsw
  clear hmk HD1 hsw
  generalize v1.alloc (.cells (madeCells #[.int .u8 0] 128) 5) = v1a at *
  generalize v1.heap.size = sb at *
  go_wp2_with (refine wpList_full rfl (.tmp 34) (.tmp 35) rfl HZ.out rfl WA wn wc wb rfl hRw ?_; intro vv w2 hb2 hc2)
  have HD2 := Lib.hid (HDa.out.ch1 hc2 HSw.out.1 HSw.out.2)
  have HB2 := Lib.hid hb2
  clear hRw HDa HZ hb2 hc2 HSw
  refine (place_any 2 1 _ (by omega) (by omega)).mono ?_
  rintro e v3 ⟨hb3, b, o, cp, rfl, hpr, hbl, hbh⟩
  have ha4 : Below v3.heap.size v3 (v3.alloc (.cells #[.int .i64 7, .int .i64 1, .slice (some ⟨b, o, none⟩) 2 cp] 31)) := (Below.refl _ _).alloc (Nat.le_refl _) _
  have HD4 := Lib.hid (((HD2.out.next hb3).also ⟨HD2.out.disk.new_ hbl, hbh⟩).add (.cells #[.int .i64 7, .int .i64 1, .slice (some ⟨b, o, none⟩) 2 cp] 31))
  have HP4 := Lib.hid (show Holds (v3.alloc (.cells #[.int .i64 7, .int .i64 1, .slice (some ⟨b, o, none⟩) 2 cp] 31)) v3.heap.size [.int .i64 7, .int .i64 1, .slice (some ⟨b, o, none⟩) 2 cp] from Holds.new v3 _ _)
  have HR4 := Lib.hid (hpr.below ha4)
  have HS4 := Lib.hid ((HB2.out.below hb3).below ha4)
  clear hb3 hpr hbl hbh ha4 HB2 HD2
  go_upto_region 7 with fail
  generalize v3.alloc (.cells #[.int .i64 7, .int .i64 1, .slice (some ⟨b, o, none⟩) 2 cp] 31) = v4 at *
  generalize v3.heap.size = q at *
  have CW := Lib.hid (apart_write (cp := 128) (a := 40) (x := 40) rfl HD4.out (Wl.Lg.new (by omega)) (low_new 52) (by omega) (by omega) (fun k hk => by unfold Wl.sx Wl.sy; omega) (show Rd v4 (some ⟨sb, 0, none⟩) 128 (Dk.full wb) from by have h := HS4.out.all; rwa [Dk.full_length] at h))
  go_wp2_with fail
  refine CW.out.mono ?_
  rintro e v5 ⟨rfl, lab5, st5, hD5, hC5, hG5, hl5⟩
  have HS5 := Lib.hid (HS4.out.chg hC5 (HD4.out.un sb (by simp)).1)
  have HP5 := Lib.hid (HP4.out.chg hC5 (HD4.out.un q (by simp)).1)
  have HR5 := Lib.hid (hC5.rdc HR4.out (fun b' o' e => by injection e with e; injection e with e3 e4; subst e3; exact (HD4.out.un b (by simp)).1))
  have HD5 := Lib.hid hD5
  clear CW
  have CW := Lib.hid (apart_write (cp := 128) (a := 1) (x := 1) rfl HD5.out hG5 hl5 (by omega) (by omega) (fun k hk => by unfold Wl.sx Wl.sy; omega) (show Rd v5 (some ⟨sb, 0, none⟩) 128 (Dk.full wb) from by have h := HS5.out.all; rwa [Dk.full_length] at h))
  clear HS4 HP4 HR4 HD4 hD5 hC5 hG5 hl5
  go_wp2_with fail
  refine CW.out.mono ?_
  rintro e v6 ⟨rfl, lab6, st6, hD6, hC6, hG6, hl6⟩
  have HP6 := Lib.hid (HP5.out.chg hC6 (HD5.out.un q (by simp)).1)
  have HR6 := Lib.hid (hC6.rdc HR5.out (fun b' o' e => by injection e with e; injection e with e3 e4; subst e3; exact (HD5.out.un b (by simp)).1))
  have HD6 := Lib.hid hD6
  have HG6 := Lib.hid hG6
  have HL6 := Lib.hid hl6
  clear CW HS5 HP5 HR5 HD5 hD6 hC6 hG6 hl6
  have x0 := HP6.out.at_ 0 rfl
  have x1 := HP6.out.at_ 1 rfl
  have x2 := HP6.out.at_ 2 rfl
  have CO := Lib.hid (wopen_any 2 cp 2 1 1 1 ⟨b, o, none⟩ [] v6 d lab6 st6 HD6.out.disk HR6.out HG6.out (by omega) ⟨by omega, by omega⟩ ⟨by omega, by omega⟩ ⟨by omega, by omega⟩)
  go_wp2_with fail
  refine CO.out.mono ?_
  rintro e v7 hg
  have hg : GivesLog v6 2 2 d 1 ((1 : Nat) : Int) ([], 0) e v7 := hg
  obtain ⟨lb, ad, cl, R, rc, rfl, hA, h1, h2, hb7⟩ := at_of_open2 (E := 1) (HD6.out.sub (V := []) (fun u h => by cases h)) HG6.out HL6.out (by omega) rfl hg
  have HA7 := Lib.hid (show Ap w v7 d lb ad cl [] 0 2 lab6 st6 q b o cp from ⟨(hA.also ⟨(HD6.out.un b (by simp)).1, Nat.lt_of_lt_of_le (HD6.out.un b (by simp)).2 hb7.size⟩).also ⟨(HD6.out.un q (by simp)).1, Nat.lt_of_lt_of_le (HD6.out.un q (by simp)).2 hb7.size⟩, HP6.out.below hb7, HR6.out.below hb7, ⟨by have := HP6.out.1; omega, by have := (HD6.out.un b (by simp)).2; omega⟩⟩)
  clear hg hA h1 h2 hb7 CO x0 x1 x2 HP6 HR6 HD6 HG6 HL6
  have CL := Lib.hid (light_any (fun b => b < w.heap.size) FA fn fc F v7 ((RdX.of HF.out.1).below HA7.out.at_.ds.below) HF.out.2)
  have HLe := Lib.hid (Wl.light_le F)
  have HLl := Lib.hid (Wl.light_len F)
  generalize Wl.light F = L1 at *
  go_wp2_with fail
  refine CL.out.mono ?_
  rintro e v8 ⟨hb8, LB, lc, rfl, hrX, hlc, hnw⟩
  have HA8 := Lib.hid (HA7.out.next hb8)
  have CA := Lib.hid (waddF_any w d lb ad 2 cl 2 1 1 [] 0 2 lab6 st6 [q, b] LB lc L1 v8 HA8.out.at_ (by omega) ⟨by omega, by omega⟩ (by omega) ⟨by omega, by omega⟩ (fun r hr => by have := HLe.out r hr; omega) (by have := HLl.out; omega) hrX.rd (by omega) (by omega))
  clear hb8 hrX hlc hnw CL HA7
  go_wp2_with fail
  refine CA.out.mono ?_
  rintro e v9 hg
  obtain ⟨r9, rfl, hK9, Ps, rc9, c9, lab9, st9, hA9, _, hc9, hrc9⟩ := add_any HA8.out.at_ hg HLl.out
  have HA9 := Lib.hid (HA8.out.kp hK9 hA9)
  have HC9 := Lib.hid (And.intro hc9 hrc9)
  clear hg hK9 hA9 CA HA8 HLe HLl hc9 hrc9
  have CF := Lib.hid (lframes_any lb d 2 cl (some ad) 1 _ (Ps.length : Int) _ (rc9 : Int) v9 HA9.out.at_.box)
  have hmkS : ∀ w : World, (Instr.makeSlice 41 (.int .i64 52) (.int .i64 52)).run Try.prog w = .ok (.slice (some ⟨w.heap.size, 0, none⟩) 52 52) (w.alloc (.cells (madeCells #[.string ⟨#[]⟩] 52) 9)) := make_row oneStr 52 (by omega)
  go_wp2_with fail
  refine CF.out.mono ?_
  rintro e v ⟨rfl, rfl⟩
  clear CF
  go_upto_region 15 with fail
  have HOf := Lib.hid HA9.out.off
  have HK := Lib.hid (Kept.made v9 st9 9)
  have HAa := Lib.hid (HA9.out.next ((Below.refl _ _).alloc (Nat.le_refl _) (.cells (madeCells #[.string ⟨#[]⟩] 52) 9)))
  clear hmkS HA9
  generalize v9.alloc (.cells (madeCells #[.string ⟨#[]⟩] 52) 9) = va at *
  generalize v9.heap.size = kb at *
  go_wp2_with fail
  go_loopw [16] (fun ii wr => ∃ k : Nat, k ≤ 52 ∧ ii = .int .i64 (k : Int) ∧ Hid (Ap w wr d lb ad cl Ps rc9 c9 lab9 st9 q b o cp) ∧ Hid (Kept wr kb st9 k)) (fun ii _ => 52 - (intOf ii).toNat)
  case atStart => exact ⟨0, by omega, rfl, HAa, HK⟩
  case round =>
    clear HAa HK
    obtain ⟨k, hk, rfl, HA, HK⟩ := hrel
    rename World => wr
    by_cases hk2 : k < 52
    · have hki : (k : Int) < 52 := by omega
      have hk0 : (0 : Int) ≤ (k : Int) := by omega
      have CR := Lib.hid (read_any (k : Int) wr d lab9 st9 HA.out.at_.ds.disk)
      go_wp2_with fail
      refine CR.out.mono ?_
      rintro e v1 ⟨A1, n1, c1, rfl, hr1, hb1, _, _⟩
      have s1 : (convert 23 9 (.slice A1 n1 c1)).run Try.prog v1 = .ok (.string (str (st9.readB (k : Int)))) v1 := run_str (cap := c1) hr1
      have HA1 := Lib.hid (HA.out.next hb1)
      have HK1 := Lib.hid (HK.out.next hb1)
      obtain ⟨⟨z, hz⟩, hf⟩ := HK1.out.cell hk2
      clear CR HA HK hr1 hb1
      go_wp2_with fail
      have HA2 := Lib.hid (HA1.out.cell (i := k) (u := .string (str (st9.readB (k : Int)))) HOf.out)
      have HK2 := Lib.hid (HK1.out.set hk2)
      go_roundw
      case rel => exact ⟨k + 1, by omega, by go_num, HA2, HK2⟩
      case measure => simp [intOf]; omega
    · have hki : ¬ (k : Int) < 52 := by omega
      have hk52 : k = 52 := by omega
      subst hk52
      clear hk hk2
      have CL := Lib.hid (light_any (fun b => b < w.heap.size) MA mn mc M wr ((RdX.of HM.out.1).below HA.out.at_.ds.below) HM.out.2)
      have HLe := Lib.hid (Wl.light_le M)
      have HLl := Lib.hid (Wl.light_len M)
      generalize Wl.light M = L2 at *
      go_wp2_with fail
      refine CL.out.mono ?_
      rintro e w1 ⟨hb1, LB2, lc2, rfl, hrX, hlc, hnw⟩
      have HA1 := Lib.hid (HA.out.next hb1)
      have HK1 := Lib.hid (HK.out.next hb1)
      have CA := Lib.hid (waddF_any w d lb ad 2 cl 2 1 1 Ps rc9 c9 lab9 st9 [q, b] LB2 lc2 L2 w1 HA1.out.at_ (by omega) ⟨by omega, by omega⟩ (by omega) ⟨by omega, by omega⟩ (fun r hr => by have := HLe.out r hr; omega) (by have := HLl.out; omega) hrX.rd (by have := HC9.out; omega) (by have := HC9.out; omega))
      have HPs := Lib.hid HA1.out.at_.lg.le
      clear hb1 hrX hlc hnw CL HA HK
      go_wp2_with fail
      refine CA.out.mono ?_
      rintro e w2 hg
      obtain ⟨r2, rfl, hK2, Ps2, rc2, c2, lab2, st2, hA2, hSm, _, _⟩ := add_any HA1.out.at_ hg HLl.out
      have HSm := Lib.hid hSm
      have HA2 := Lib.hid (HA1.out.kp hK2 hA2)
      have HK2 := Lib.hid (HK1.out.kp hK2 HOf.out.lab (by have := HOf.out.lt.1; omega))
      have hmkB : ∀ w : World, (Instr.makeSlice 44 (.int .i64 52) (.int .i64 52)).run Try.prog w = .ok (.slice (some ⟨w.heap.size, 0, none⟩) 52 52) (w.alloc (.cells (madeCells #[.bool false] 52) 4)) := make_row oneBl 52 (by omega)
      clear hg hK2 hA2 CA HA1 HK1 HLe HLl hSm HOf HC9
      go_upto_region 22 with fail
      have HOf := Lib.hid HA2.out.off
      have HO := Lib.hid (Owns.made w2 Ps.length 4)
      have HAb := Lib.hid (HA2.out.next ((Below.refl _ _).alloc (Nat.le_refl _) (.cells (madeCells #[.bool false] 52) 4)))
      have HKb := Lib.hid (HK2.out.next ((Below.refl _ _).alloc (Nat.le_refl _) (.cells (madeCells #[.bool false] 52) 4)))
      have HKo := Lib.hid (show kb ≠ w2.heap.size from by obtain ⟨cs, h, _⟩ := HK2.out; have := h.1; omega)
      clear hmkB HA2 HK2
      generalize w2.alloc (.cells (madeCells #[.bool false] 52) 4) = wb2 at *
      generalize w2.heap.size = ob at *
      go_wp2_with fail
      go_loopw [20] (fun ii wx => ∃ k : Nat, Ps.length ≤ k ∧ k ≤ 16 ∧ ii = .int .i64 (k : Int) ∧ Hid (Ap w wx d lb ad cl Ps2 rc2 c2 lab2 st2 q b o cp) ∧ Hid (Kept wx kb st9 52) ∧ Hid (Owns wx ob Ps.length k)) (fun ii _ => 16 - (intOf ii).toNat)
      case atStart => exact ⟨Ps.length, Nat.le_refl _, by have := HPs.out; omega, rfl, HAb, HKb, HO⟩
      case round =>
        clear HAb HKb HO
        obtain ⟨k, hk1, hk2, rfl, HA, HK, HO⟩ := hrel
        rename World => wx
        have x0 := HA.out.pl.at_ 0 rfl
        have x1 := HA.out.pl.at_ 1 rfl
        have x2 := HA.out.pl.at_ 2 rfl
        have CF := Lib.hid (apart_frames b o cp wx)
        go_wp2_with fail
        refine CF.out.mono ?_
        rintro e u1 ⟨rfl, hb1⟩
        have HA1 := Lib.hid (HA.out.next hb1)
        have HK1 := Lib.hid (HK.out.next hb1)
        have HO1 := Lib.hid (HO.out.next hb1)
        clear CF x0 x1 x2 hb1 HA HK HO
        by_cases hlt : k < 16
        · have hki : (k : Int) < 16 := by omega
          have x0 := HA1.out.pl.at_ 0 rfl
          have x1 := HA1.out.pl.at_ 1 rfl
          have x2 := HA1.out.pl.at_ 2 rfl
          have CS := Lib.hid (apart_sect k b o cp u1 hlt HA1.out.rt)
          go_wp2_with fail
          refine CS.out.mono ?_
          rintro e u2 ⟨rfl, hb2⟩
          have HA2 := Lib.hid (HA1.out.next hb2)
          have HK2 := Lib.hid (HK1.out.next hb2)
          have HO2 := Lib.hid (HO1.out.next hb2)
          obtain ⟨k1, k2, k3⟩ := Wl.sx_lt (show k < 24 by omega)
          have HOn := Lib.hid (HO2.out.two (show k < 24 by omega))
          generalize Wl.sx k = xk at *
          generalize Wl.sy k = yk at *
          have HAn := Lib.hid ((HA2.out.cell (i := xk) (u := .bool true) HOf.out).cell (i := yk) (u := .bool true) HOf.out)
          have HKn := Lib.hid ((HK2.out.other (i := xk) (u := .bool true) HKo.out).other (i := yk) (u := .bool true) HKo.out)
          obtain ⟨⟨z1, hz1⟩, hf1⟩ := HO2.out.cell k1
          obtain ⟨⟨z2, hz2⟩, hf2⟩ := HO2.out.cell k2
          have ki1 : (xk : Int) < 52 := by omega
          have ki2 : (yk : Int) < 52 := by omega
          have kj1 : (0 : Int) ≤ (xk : Int) := by omega
          have kj2 : (0 : Int) ≤ (yk : Int) := by omega
          clear CS x0 x1 x2 hb2 HA1 HK1 HO1
          go_wp2_with fail
          go_roundw
          case rel => exact ⟨k + 1, by omega, by omega, by go_num, HAn, HKn, HOn⟩
          case measure => simp [intOf]; omega
        · have hki : ¬ (k : Int) < 16 := by omega
          have hk16 : k = 16 := by omega
          subst hk16
          clear hlt hk2
          go_wp2_with fail
          go_loopw [24] (fun ii wy => ∃ k : Nat, k ≤ 52 ∧ ii = .int .i64 (k : Int) ∧ Hid (Ap w wy d lb ad cl Ps2 rc2 c2 lab2 st2 q b o cp) ∧ Hid (Kept wy kb st9 52) ∧ Hid (Owns wy ob Ps.length 16)) (fun ii _ => 52 - (intOf ii).toNat)
          case atStart => exact ⟨0, by omega, rfl, HA1, HK1, HO1⟩
          case round =>
            clear HA1 HK1 HO1
            obtain ⟨k, hk, rfl, HA, HK, HO⟩ := hrel
            rename World => wy
            by_cases hk2 : k < 52
            · have hki : (k : Int) < 52 := by omega
              have hk0 : (0 : Int) ≤ (k : Int) := by omega
              have CR := Lib.hid (read_any (k : Int) wy d lab2 st2 HA.out.at_.ds.disk)
              have hrdy := HA.out.at_.lg.free.ready hk2
              go_wp2_with fail
              refine CR.out.mono ?_
              rintro e v1 ⟨A1, n1, c1, rfl, hr1, hb1, _, _⟩
              rw [hrdy]
              have HA1 := Lib.hid (HA.out.next hb1)
              have HK1 := Lib.hid (HK.out.next hb1)
              have HO1 := Lib.hid (HO.out.next hb1)
              clear CR HA HK HO hb1 hrdy
              obtain ⟨x, hx, hxo⟩ := HO1.out.at_ hk2
              have hkc := HK1.out.at_ hk2
              have HEq := Lib.hid (show x = false → st2.readB (k : Int) = st9.readB (k : Int) from fun h => HSm.out k hk2 (fun j h1 h2 => hxo h j h1 (by omega)))
              have HCl := Lib.hid (fun (W : World) (hW : Below v1.heap.size v1 W) => And.intro (show W.cell? ⟨ob, k, none⟩ = some (.bool x) from by obtain ⟨bs, h1, _⟩ := HO1.out; exact (hW.cell (p := ⟨ob, k, none⟩) h1.1).trans hx) (And.intro (show W.cell? ⟨kb, k, none⟩ = some (.string (str (st9.readB (k : Int)))) from ((HK1.out.next hW).at_ hk2)) (show (convert 23 9 (.slice A1 n1 c1)).run Try.prog W = .ok (.string (str (st2.readB (k : Int)))) W from run_str (cap := c1) (hr1.below hW))))
              clear hx hxo hkc hr1
              cases x with
              | true =>
                go_upto_region 31 with fail
                refine region_class (fun w' => Below v1.heap.size v1 w') (by kernel_rfl) (by kernel_rfl) ((Below.refl _ _).drew) ?_
                repeat (go_big_quiet_step ((first | (intro _; with_reducible rfl) | (intro hq; obtain ⟨e0, e1, e2⟩ := HCl.out _ hq; simp [e0, e1, e2, hki, hk0, Result.andThen]; with_reducible rfl))))
                refine wpQuiet_nil ?_
                intro v hv
                have HAn := Lib.hid (HA1.out.next hv)
                have HKn := Lib.hid (HK1.out.next hv)
                have HOn := Lib.hid (HO1.out.next hv)
                clear hv HCl HA1 HK1 HO1
                go_wp2_with fail
                go_roundw
                case rel => exact ⟨k + 1, by omega, by go_num, HAn, HKn, HOn⟩
                case measure => simp [intOf]; omega
              | false =>
                rw [HEq.out rfl] at HCl
                generalize str (st9.readB (k : Int)) = sg at *
                go_upto_region 31 with fail
                refine region_class (fun w' => Below v1.heap.size v1 w') (by kernel_rfl) (by kernel_rfl) ((Below.refl _ _).drew) ?_
                repeat (go_big_quiet_step ((first | (intro _; with_reducible rfl) | (intro hq; obtain ⟨e0, e1, e2⟩ := HCl.out _ hq; simp [e0, e1, e2, hki, hk0, Result.andThen]; with_reducible rfl))))
                refine wpQuiet_nil ?_
                intro v hv
                have HAn := Lib.hid (HA1.out.next hv)
                have HKn := Lib.hid (HK1.out.next hv)
                have HOn := Lib.hid (HO1.out.next hv)
                clear hv HCl HA1 HK1 HO1
                go_wp2_with fail
                go_roundw
                case rel => exact ⟨k + 1, by omega, by go_num, HAn, HKn, HOn⟩
                case measure => simp [intOf]; omega
            · have hki : ¬ (k : Int) < 52 := by omega
              have HB := Lib.hid HA.out.at_.ds.below
              clear HA HK HO
              go_wp2_with fail
              go_ret
              exact ⟨rfl, HB.out⟩
end Go.Proofs.Ytpggomekbahddaa
