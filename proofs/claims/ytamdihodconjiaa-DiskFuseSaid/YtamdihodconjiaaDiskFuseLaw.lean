/- For every number and row of ops: behind a fuse just so many writing calls tell OK, and nothing is read or written then; a crash makes a disk of it that is not down (P3.9), and the example at the head holds; the arguments stay as they were. No condition. -/
import Derived.Test.YtamdihodconjiaaDkFuse
import Derived.Test.YtamdihodconjiaaIns
import Derived.Test.YtamdihodconjiaaHolds
import Derived.WalkKit
import Derived.ProofKit
import Derived.OpenShut
import Derived.ShutString
import Derived.ChangeOld
import Derived.Below
import Derived.Deep.RegionHeld
namespace Go.Proofs.Ytamdihodconjiaa.diskFuse
open Go.ChangeShapes Go.WideShapes Go.ChangeAt Go.RowKit
set_option linter.unusedVariables false
theorem own : ownKnob Try.prog.godebug = none := by kernel_rfl
theorem laidOut : laidOutB Try.prog = true := by kernel_rfl
set_option maxRecDepth 100000 in
set_option maxHeartbeats 8000000 in
theorem walk (n0 : Nat) (A1 : Option Addr) (m1 c1 : Nat) (l1 : List DOp) (w : World) (w0 : n0 < 256) (r1 : RdOps w A1 m1 l1) (wc1 : m1 ≤ c1) (w1 : m1 ≤ 9223372036854775807) :
    Calls Try.prog 7 #[.int .u8 (n0 : Int), .slice A1 m1 c1] w fun e w' => e = .returned (.bool true) ∧ Below w.heap.size w w' := by
  -- heartbeats 8000000
  have HR0 := Lib.hid r1
  clear r1
  obtain ⟨a, ha⟩ : ∃ a, a = n0 % 20 := ⟨_, rfl⟩
  have ha12 : a < 20 := by omega
  have hrem : (n0 : Int) % 20 = (a : Int) := by omega
  have HA12 := Lib.hid ha12
  clear ha ha12
  go_enter Try.func7, Try.ntmps7
  go_wp2_with fail
  refine (awake_any w).mono ?_
  rintro e w1 ⟨rfl, hb1⟩
  have B1 := Lib.hid hb1
  clear hb1
  go_wp2_with fail
  refine (new_any 12 w1).mono ?_
  intro e w2 hg
  rcases hg with ⟨_, _, d, lab0, rfl, hD, hb, hl⟩ | ⟨h, _⟩
  · have D2 := Lib.hid (show IsDisk w2 d lab0 (Dk.St.new 12) from hD)
    have B2 := Lib.hid (B1.out.trans (hb.mono B1.out.size))
    have HL0 := Lib.hid (fun k hk => Nat.le_trans B1.out.size (hl k hk))
    clear hD hb hl
    obtain ⟨hf0, hF0⟩ := Fsd.new (Plain.new 12 0) a (by have := HA12.out; omega)
    have hfu := fuse_m (a : Int) w2 d lab0 _ D2.out
    rw [hf0] at hfu
    have HFu := Lib.hid hfu
    have P0 := Lib.hid hF0
    clear hf0 hF0 hfu
    generalize (Dk.St.new 12).fuse (a : Int) = st0 at *
    go_wp2_with fail
    refine HFu.out.mono ?_
    rintro e w3 ⟨rfl, lab1, hD3, hC3, hL3⟩
    have D3 := Lib.hid hD3
    have B3 := Lib.hid (hC3.below B2.out HL0.out B2.out.size)
    have HL1 := Lib.hid (hL3.above HL0.out B2.out.size)
    clear hD3 hC3 hL3
    go_upto_region 7 with fail
    rw [hrem]
    clear hrem
    go_wp2_with fail
    go_loopw [7, 8] (fun l i wr => ∃ (k L : Nat) (lab : Nat → Tag) (st : Dk.St), k ≤ m1 ∧ k ≤ 40 ∧ L ≤ 20 ∧ l = .int .i64 (L : Int) ∧ i = .int .i64 (k : Int) ∧ Hid (IsDisk wr d lab st) ∧ Hid (Fsd st 12 k L) ∧ Hid (∀ j, lab j ≠ .no → w.heap.size ≤ j) ∧ Hid (Below w.heap.size w wr)) (fun _ i _ => m1 - (intOf i).toNat)
    case atStart => exact ⟨0, a, lab1, _, by omega, by omega, by have := HA12.out; omega, rfl, rfl, D3, P0, HL1, B3⟩
    case round =>
      obtain ⟨k, L, lab, st, hk, hk4, hL20, rfl, rfl, HD, HP, HLb, HB⟩ := hrel
      by_cases hkm : k < m1 ∧ k < 40
      · obtain ⟨hkm, hk40⟩ := hkm
        have hki : (k : Int) < (m1 : Int) := by omega
        have hki4 : (k : Int) < 40 := by omega
        obtain ⟨b, o, rfl, hbw, hcs⟩ := HR0.out.2 (by omega)
        obtain ⟨s, hs⟩ : ∃ s, l1[k]? = some s := ⟨_, List.getElem?_eq_getElem (by rw [HR0.out.1]; exact hkm)⟩
        have HO := Lib.hid ((hcs k s hs).below HB.out hbw)
        have hbl : b < wr.heap.size := Nat.lt_of_lt_of_le hbw HB.out.size
        have HNo := Lib.hid (show lab b = .no by
          cases e : lab b with
          | no => rfl
          | _ => exact absurd (HLb.out b (by rw [e]; simp)) (by omega))
        have e0 := HO.out.c0
        have e1 := HO.out.c1
        have e2 := HO.out.c2
        rw [Nat.add_zero] at e0
        clear hcs hs
        have PM := Lib.hid HP.out.more
        by_cases hkd : s.kind = 1
        · by_cases h0 : 0 ≤ s.at_
          · by_cases h12 : s.at_ < 12
            · rw [hkd] at e0
              clear hkd
              have HF := Lib.hid (fun wx (hb : Below wr.heap.size wr wx) => full_any s.A s.m s.c s.b wx (HO.out.rb.below hb))
              have hE : ∀ wx, Below wr.heap.size wr wx → wx.cell? ⟨b, o + k * 8 + 1, none⟩ = some (.int .i64 s.at_) ∧ wx.cell? ⟨b, o + k * 8 + 2, none⟩ = some (.slice s.A s.m s.c) := fun wx hb => ⟨(hb.cell (p := ⟨b, _, none⟩) hbl).trans e1, (hb.cell (p := ⟨b, _, none⟩) hbl).trans e2⟩
              have HE := Lib.hid hE
              have hd : Below wr.heap.size wr wr.drew := (Below.refl _ _).drew
              obtain ⟨hwe, hwf⟩ := HP.out.write h0 h12 (Dk.full_length s.b)
              have hwr := fun v (hb : Below wr.heap.size wr v) (hx : Buf v wr.heap.size (Dk.full s.b)) => write_any s.at_ (some ⟨wr.heap.size, 0, none⟩) 128 128 k (Dk.full s.b) v d lab st (HD.out.below hb) (by have h := hx.all; rw [Dk.full_length] at h; exact h) HP.out.low (by omega) (by omega)
              rw [hwe] at hwr
              have HWr := Lib.hid hwr
              have HWf := Lib.hid hwf
              have HAfter := Lib.hid (fun v v' (hb : Below wr.heap.size wr v) (hc : Chg lab v v') => (⟨(World.cell?_of_block (a := ⟨b, o + k * 8 + 1, none⟩) (hc.block b (Nat.lt_of_lt_of_le hbl hb.size) HNo.out)).trans (HE.out v hb).1, (World.cell?_of_block (a := ⟨b, o + k * 8 + 2, none⟩) (hc.block b (Nat.lt_of_lt_of_le hbl hb.size) HNo.out)).trans (HE.out v hb).2⟩ : v'.cell? ⟨b, o + k * 8 + 1, none⟩ = some (.int .i64 s.at_) ∧ v'.cell? ⟨b, o + k * 8 + 2, none⟩ = some (.slice s.A s.m s.c)))
              clear hE hwe hwf hwr
              generalize st.write s.at_ (Dk.full s.b) = st2 at *
              obtain rfl | ⟨j, rfl⟩ : L = 0 ∨ ∃ j, L = j + 1 := by cases L with
                | zero => exact .inl rfl
                | succ j => exact .inr ⟨j, rfl⟩
              · have ht : Dk.tell 0 = 30 := rfl
                rw [ht] at HWr
                clear ht
                go_upto_region 12 with fail
                clear e1 e2
                go_region_held3 (fun wx => wx.cell? ⟨b, o + k * 8 + 1, none⟩ = some (.int .i64 s.at_) ∧ wx.cell? ⟨b, o + k * 8 + 2, none⟩ = some (.slice s.A s.m s.c)) (first | exact HE.out _ hd | exact HE.out _ hc10 | exact HAfter.out _ _ hc10 hC11) (first | (go_at_call 15; refine (HF.out _ hd).mono ?_; rintro e v10 ⟨rfl, hb10, hx10⟩; have hc10 : Below wr.heap.size wr v10 := below_next hd hb10) | (go_at_call 16; refine (HWr.out _ hc10 hx10).mono ?_; rintro e v11 ⟨rfl, lab1, hD11, hC11, hL11⟩))
                all_goals
                  have D11 := Lib.hid hD11
                  have HB10 := HB.out.trans (hc10.mono HB.out.size)
                  have L11 := Lib.hid (hL11.above HLb.out HB10.size)
                  have B11 := Lib.hid (hC11.below HB10 HLb.out HB10.size)
                  clear hD11 hC11 hL11 hc10 hx10 hb10 HB10
                  go_wp2_with fail
                  go_roundw
                  case rel => exact ⟨k + 1, 0, lab1, _, by omega, by omega, by omega, rfl, by go_num, D11, HWf, L11, B11⟩
                  case measure => simp [intOf]; omega
              · have ht : Dk.tell (j + 1) = 0 := rfl
                rw [ht] at HWr
                have hj0 : (0 : Int) ≤ (j : Int) := by omega
                have hj20 : (j : Int) < 20 := by omega
                have hL : ((j + 1 : Nat) : Int) = (j : Int) + 1 := by omega
                clear ht
                go_upto_region 12 with fail
                clear e1 e2
                go_region_held3 (fun wx => wx.cell? ⟨b, o + k * 8 + 1, none⟩ = some (.int .i64 s.at_) ∧ wx.cell? ⟨b, o + k * 8 + 2, none⟩ = some (.slice s.A s.m s.c)) (first | exact HE.out _ hd | exact HE.out _ hc10 | exact HAfter.out _ _ hc10 hC11) (first | (go_at_call 15; refine (HF.out _ hd).mono ?_; rintro e v10 ⟨rfl, hb10, hx10⟩; have hc10 : Below wr.heap.size wr v10 := below_next hd hb10) | (go_at_call 16; refine (HWr.out _ hc10 hx10).mono ?_; rintro e v11 ⟨rfl, lab1, hD11, hC11, hL11⟩))
                all_goals
                  have D11 := Lib.hid hD11
                  have HB10 := HB.out.trans (hc10.mono HB.out.size)
                  have L11 := Lib.hid (hL11.above HLb.out HB10.size)
                  have B11 := Lib.hid (hC11.below HB10 HLb.out HB10.size)
                  clear hD11 hC11 hL11 hc10 hx10 hb10 HB10
                  go_wp2_with fail
                  go_roundw
                  case rel => exact ⟨k + 1, j, lab1, _, by omega, by omega, by omega, rfl, by go_num, D11, HWf, L11, B11⟩
                  case measure => simp [intOf]; omega
            · rw [hkd] at e0
              have h12i : ¬ s.at_ < 12 := h12
              go_wp2_with fail
              go_roundw
              case rel => exact ⟨k + 1, L, lab, st, by omega, by omega, hL20, rfl, by go_num, HD, PM, HLb, HB⟩
              case measure => simp [intOf]; omega
          · rw [hkd] at e0
            go_wp2_with fail
            go_roundw
            case rel => exact ⟨k + 1, L, lab, st, by omega, by omega, hL20, rfl, by go_num, HD, PM, HLb, HB⟩
            case measure => simp [intOf]; omega
        · have hkb : (s.kind == 1) = false := by simpa using hkd
          by_cases hk2 : s.kind = 2
          · rw [hk2] at e0
            clear hkb hkd hk2 e1 e2
            have hfl := flush_any k wr d lab st HD.out HP.out.low (by omega)
            obtain ⟨hfe, hff⟩ := HP.out.flush
            rw [hfe] at hfl
            have HFl := Lib.hid hfl
            have HFf := Lib.hid hff
            clear hfl hfe hff
            generalize st.flush = st2 at *
            obtain rfl | ⟨j, rfl⟩ : L = 0 ∨ ∃ j, L = j + 1 := by cases L with
              | zero => exact .inl rfl
              | succ j => exact .inr ⟨j, rfl⟩
            · have ht : Dk.tell 0 = 30 := rfl
              rw [ht] at HFl
              clear ht
              go_wp2_with fail
              refine HFl.out.mono ?_
              rintro e v3 ⟨rfl, lab3, hD, hC, hL⟩
              have D3f := Lib.hid hD
              have B3f := Lib.hid (hC.below HB.out HLb.out HB.out.size)
              have L3f := Lib.hid (hL.above HLb.out HB.out.size)
              clear hD hC hL e0
              go_wp2_with fail
              go_roundw
              case rel => exact ⟨k + 1, 0, lab3, _, by omega, by omega, by omega, rfl, by go_num, D3f, HFf, L3f, B3f⟩
              case measure => simp [intOf]; omega
            · have ht : Dk.tell (j + 1) = 0 := rfl
              rw [ht] at HFl
              clear ht
              have hj0 : (0 : Int) ≤ (j : Int) := by omega
              have hj20 : (j : Int) < 20 := by omega
              go_wp2_with fail
              refine HFl.out.mono ?_
              rintro e v3 ⟨rfl, lab3, hD, hC, hL⟩
              have D3f := Lib.hid hD
              have B3f := Lib.hid (hC.below HB.out HLb.out HB.out.size)
              have L3f := Lib.hid (hL.above HLb.out HB.out.size)
              clear hD hC hL e0
              go_wp2_with fail
              go_roundw
              case rel => exact ⟨k + 1, j, lab3, _, by omega, by omega, by omega, rfl, by go_num, D3f, HFf, L3f, B3f⟩
              case measure => simp [intOf]; omega
          · have hkb2 : (s.kind == 2) = false := by simpa using hk2
            go_wp2_with fail
            go_roundw
            case rel => exact ⟨k + 1, L, lab, st, by omega, by omega, hL20, rfl, by go_num, HD, PM, HLb, HB⟩
            case measure => simp [intOf]; omega
      · obtain ⟨wa, rfl⟩ : ∃ z : World, z = wr := ⟨wr, rfl⟩
        have key : (m1 : Int) ≤ (k : Int) ∨ ((k : Int) < (m1 : Int) ∧ (40 : Int) ≤ (k : Int)) := by omega
        obtain ⟨hcE, hcd, hcn⟩ := crash_none st
        have HcE := Lib.hid hcE
        have Hcd := Lib.hid hcd
        have Hcn := Lib.hid hcn
        have Hrd := Lib.hid (HP.out.ready (a := 0) (by omega) (by omega))
        have HDn := Lib.hid HP.out.down
        clear hcE hcd hcn
        obtain rfl | ⟨j, rfl⟩ : L = 0 ∨ ∃ j, L = j + 1 := by cases L with
          | zero => exact .inl rfl
          | succ j => exact .inr ⟨j, rfl⟩
        all_goals
          rcases key with q1 | ⟨q1, q2⟩
          all_goals
            go_wp2_with fail
            refine (read_any 0 wa d lab st HD.out).mono ?_
            rintro e v1 ⟨A9, n9, c9, rfl, hR9, hb9, hn9, _⟩
            rw [Hrd.out]
            have D9 := Lib.hid (HD.out.below hb9)
            have B9 := Lib.hid (HB.out.trans (hb9.mono HB.out.size))
            clear hR9 hb9 hn9
            go_wp2_with fail
            refine (crash_any v1 d lab st D9.out none 0 0 [] (RdC.nil 2 v1 none) rfl (by omega)).mono ?_
            rintro e w5 (⟨_, g, rfl, lab3', hG, hb5, hl5⟩ | ⟨hne, _⟩)
            · have G5 := Lib.hid hG
              have D5 := Lib.hid (D9.out.below hb5)
              have B5 := Lib.hid (B9.out.trans (hb5.mono B9.out.size))
              clear hG hb5 hl5
              have hd1 := down_any w5 d lab st D5.out
              have hd2 := down_any w5 g lab3' _ G5.out
              have hd3 := done_any w5 g lab3' _ G5.out
              rw [HDn.out] at hd1
              rw [Hcd.out] at hd2
              rw [Hcn.out] at hd3
              have HD1 := Lib.hid hd1
              have HD2 := Lib.hid hd2
              have HD3 := Lib.hid hd3
              clear hd1 hd2 hd3
              go_wp2_with (first | (go_at_call 26; first | (with_reducible refine HD1.out.mono ?_; rintro e w' ⟨rfl, rfl⟩) | (with_reducible refine HD2.out.mono ?_; rintro e w' ⟨rfl, rfl⟩)) | (go_at_call 27; refine HD3.out.mono ?_; rintro e w' ⟨rfl, rfl⟩))
              go_ret
              exact ⟨rfl, B5.out⟩
            · exact absurd HcE.out hne
  · exact absurd ⟨by omega, by omega⟩ h
set_option maxRecDepth 100000 in
theorem lifted (os : Os) (started : os.Started) (H : Type) (enc : TypeId × Value → H) :
    ReturnsInHanded {} Try.checked os 7 .any (Rows.diskFuseSpec.pre6 enc Try.prog Try.f7 Rows.diskFuseRow.domain false) (Rows.diskFuseSpec.post enc Try.prog Try.f7 false true false false) := by
  refine returnsInHanded_of_change (C := Try.checked) own started (by kernel_rfl) Try.func7
    (ChangeSpec.witness6 (enc := enc) (C := Try.checked) false ⟨#[], #[.int .u8 0, .slice none 0 0], []⟩ 8 (by kernel_rfl) (by kernel_rfl) (by kernel_rfl) (by kernel_rfl)) ?_
  intro W base args ds gs before hval0 hW hcnd _
  have hval : ∀ (j : Nat) t v, Try.f7.params[j]? = some t → args[j]? = some v → Value.okWide Try.prog W .any base t v := hval0
  have hW' := hW
  obtain ⟨p, q, hA0, hV, rfl, hfz, hnd⟩ := hW
  have hA : DataW.TrodAll enc Try.prog W 0 (fun _ => true) true Try.f7.params.toList args.toList ds p := hA0
  rw [Try.params7] at hA hval
  obtain ⟨v0, vs0, d0, ds0, p0, q0, hargs, rfl, rfl, h0, t0⟩ := trodAll_cons hA
  obtain ⟨v1, vs1, d1, ds1, p1, q1, rfl, rfl, rfl, h1, t1⟩ := trodAll_cons t0
  obtain ⟨rfl, rfl, rfl⟩ := trodAll_nil t1
  obtain rfl : args = #[v0, v1] := by cases args; simp_all
  obtain ⟨rfl, rfl⟩ := trodVars_none hV
  have k0 : Reads enc W 5 v0 d0 p0 := h0
  have lt0 : ∀ x ∈ p0, x.block < W.heap.size := by obtain ⟨m, hm⟩ := k0; exact DataW.trod_lt m _ _ _ hm
  obtain ⟨n0, rfl, w0⟩ := in_u8 (hval 0 5 v0 rfl rfl) k0
  have k1 : Reads enc W 22 v1 d1 p1 := h1
  have lt1 : ∀ x ∈ p1, x.block < W.heap.size := by obtain ⟨m, hm⟩ := k1; exact DataW.trod_lt m _ _ _ hm
  obtain ⟨A1, m1, c1, l1, rfl, r1, wc1, w1⟩ := in_ops (hval 1 22 v1 rfl rfl) k1
  clear hA0 hval0
  refine (walk n0 A1 m1 c1 l1 W w0 r1 wc1 w1).mono fun e W' ⟨he, bel⟩ => ?_
  subst he
  exact ⟨_, rfl, _, _, _, [], _, [], hW', trodAll_mk1 (shut_bool Try.underlying4 _), (trodAll_cons_mk (Below.trod laidOut (by kernel_rfl) (of_decide_eq_true (by kernel_rfl)) k0 bel lt0) (trodAll_cons_mk (Below.trod laidOut (by kernel_rfl) (of_decide_eq_true (by kernel_rfl)) k1 bel lt1) trodAll_mk0)), rfl, bel.frame _, fun h => by cases h⟩
theorem over : Rows.diskFuseRow.holds Try.pinned (OpenSpec.ofChange Rows.diskFuseSpec) :=
  OpenClaim.holds_of_wide 7 Try.f7 rfl rfl rfl rfl rfl rfl rfl ⟨rfl, rfl, rfl, rfl, rfl⟩ rfl rfl rfl rfl rfl (by kernel_rfl) Try.func7 (by kernel_rfl)
    (of_decide_eq_true (by kernel_rfl)) (by unfold Func.isWrapper; first | (rw [if_pos (by decide +kernel)]; kernel_rfl) | (rw [if_neg (by decide +kernel)]; exact ⟨rfl, rfl⟩))
    (fun os started H enc _ => lifted os started H enc)
theorem proved : Rows.DiskFuseSaid := over
end Go.Proofs.Ytamdihodconjiaa.diskFuse
