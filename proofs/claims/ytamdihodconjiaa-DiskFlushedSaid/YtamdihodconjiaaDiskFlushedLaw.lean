/- For every row of ops: behind a flush nothing is loose, and a crash changes nothing (P3.7), and the example at the head holds; the arguments stay as they were. No condition. -/
import Derived.Test.YtamdihodconjiaaDkRun
import Derived.Test.YtamdihodconjiaaIns
import Derived.Test.YtamdihodconjiaaHolds
import Derived.WalkKit
import Derived.ProofKit
import Derived.OpenShut
import Derived.ShutString
import Derived.ChangeOld
import Derived.Below
import Derived.Deep.RegionHeld
namespace Go.Proofs.Ytamdihodconjiaa.diskFlushed
open Go.ChangeShapes Go.WideShapes Go.ChangeAt Go.RowKit
set_option linter.unusedVariables false
theorem own : ownKnob Try.prog.godebug = none := by kernel_rfl
theorem laidOut : laidOutB Try.prog = true := by kernel_rfl
set_option maxRecDepth 100000 in
set_option maxHeartbeats 8000000 in
theorem walk (A0 : Option Addr) (m0 c0 : Nat) (l0 : List DOp) (w : World) (r0 : RdOps w A0 m0 l0) (wc0 : m0 ≤ c0) (w0 : m0 ≤ 9223372036854775807) :
    Calls Try.prog 5 #[.slice A0 m0 c0] w fun e w' => e = .returned (.bool true) ∧ Below w.heap.size w w' := by
  -- heartbeats 8000000
  have HR0 := Lib.hid r0
  clear r0
  go_enter Try.func5, Try.ntmps5
  go_wp2_with fail
  refine (awake_any w).mono ?_
  rintro e w1 ⟨rfl, hb1⟩
  have B1 := Lib.hid hb1
  clear hb1
  go_wp2_with fail
  refine (new_any 12 w1).mono ?_
  intro e w2 hg
  rcases hg with ⟨_, _, d, lab0, rfl, hD, hb, hl⟩ | ⟨h, _⟩
  · have D2 := Lib.hid (show IsDisk w2 d lab0 (Dk.St.new 12) from hD)
    have B2 := Lib.hid (B1.out.trans (hb.mono B1.out.size))
    have HL0 := Lib.hid (fun k hk => Nat.le_trans B1.out.size (hl k hk))
    clear hD hb hl
    go_upto_region 6 with fail
    go_wp2_with fail
    go_loopw [5] (fun i wr => ∃ (k : Nat) (lab : Nat → Tag) (st : Dk.St), k ≤ m0 ∧ k ≤ 40 ∧ i = .int .i64 (k : Int) ∧ Hid (IsDisk wr d lab st) ∧ Hid (Plain st 12 k) ∧ Hid (∀ j, lab j ≠ .no → w.heap.size ≤ j) ∧ Hid (Below w.heap.size w wr)) (fun i _ => m0 - (intOf i).toNat)
    case atStart => exact ⟨0, lab0, _, by omega, by omega, rfl, D2, Lib.hid (Plain.new 12 0), HL0, B2⟩
    case round =>
      obtain ⟨k, lab, st, hk, hk4, rfl, HD, HP, HLb, HB⟩ := hrel
      by_cases hkm : k < m0 ∧ k < 40
      · obtain ⟨hkm, hk40⟩ := hkm
        have hki : (k : Int) < (m0 : Int) := by omega
        have hki4 : (k : Int) < 40 := by omega
        obtain ⟨b, o, rfl, hbw, hcs⟩ := HR0.out.2 (by omega)
        obtain ⟨s, hs⟩ : ∃ s, l0[k]? = some s := ⟨_, List.getElem?_eq_getElem (by rw [HR0.out.1]; exact hkm)⟩
        have HO := Lib.hid ((hcs k s hs).below HB.out hbw)
        have hbl : b < wr.heap.size := Nat.lt_of_lt_of_le hbw HB.out.size
        have HNo := Lib.hid (show lab b = .no by
          cases e : lab b with
          | no => rfl
          | _ => exact absurd (HLb.out b (by rw [e]; simp)) (by omega))
        have e0 := HO.out.c0
        have e1 := HO.out.c1
        have e2 := HO.out.c2
        rw [Nat.add_zero] at e0
        clear hcs hs
        by_cases hkd : s.kind = 1
        · rw [hkd] at e0
          clear hkd
          have HF := Lib.hid (fun wx (hb : Below wr.heap.size wr wx) => full_any s.A s.m s.c s.b wx (HO.out.rb.below hb))
          have hE : ∀ wx, Below wr.heap.size wr wx → wx.cell? ⟨b, o + k * 8 + 1, none⟩ = some (.int .i64 s.at_) ∧ wx.cell? ⟨b, o + k * 8 + 2, none⟩ = some (.slice s.A s.m s.c) := fun wx hb => ⟨(hb.cell (p := ⟨b, _, none⟩) hbl).trans e1, (hb.cell (p := ⟨b, _, none⟩) hbl).trans e2⟩
          have HE := Lib.hid hE
          have hd : Below wr.heap.size wr wr.drew := (Below.refl _ _).drew
          have HWr := Lib.hid (fun v (hb : Below wr.heap.size wr v) (hx : Buf v wr.heap.size (Dk.full s.b)) => write_any s.at_ (some ⟨wr.heap.size, 0, none⟩) 128 128 k (Dk.full s.b) v d lab st (HD.out.below hb) (by have h := hx.all; rw [Dk.full_length] at h; exact h) HP.out.low (by omega) (by omega))
          have HAfter := Lib.hid (fun v v' (hb : Below wr.heap.size wr v) (hc : Chg lab v v') => (⟨(World.cell?_of_block (a := ⟨b, o + k * 8 + 1, none⟩) (hc.block b (Nat.lt_of_lt_of_le hbl hb.size) HNo.out)).trans (HE.out v hb).1, (World.cell?_of_block (a := ⟨b, o + k * 8 + 2, none⟩) (hc.block b (Nat.lt_of_lt_of_le hbl hb.size) HNo.out)).trans (HE.out v hb).2⟩ : v'.cell? ⟨b, o + k * 8 + 1, none⟩ = some (.int .i64 s.at_) ∧ v'.cell? ⟨b, o + k * 8 + 2, none⟩ = some (.slice s.A s.m s.c)))
          clear hE e1 e2
          go_upto_region 10 with fail
          go_region_held3 (fun wx => wx.cell? ⟨b, o + k * 8 + 1, none⟩ = some (.int .i64 s.at_) ∧ wx.cell? ⟨b, o + k * 8 + 2, none⟩ = some (.slice s.A s.m s.c)) (first | exact HE.out _ hd | exact HE.out _ hc10 | exact HAfter.out _ _ hc10 hC11) (first | (go_at_call 15; refine (HF.out _ hd).mono ?_; rintro e v10 ⟨rfl, hb10, hx10⟩; have hc10 : Below wr.heap.size wr v10 := below_next hd hb10) | (go_at_call 16; refine (HWr.out _ hc10 hx10).mono ?_; rintro e v11 ⟨rfl, lab1, hD11, hC11, hL11⟩))
          all_goals
            have D11 := Lib.hid hD11
            have HB10 := HB.out.trans (hc10.mono HB.out.size)
            have L11 := Lib.hid (hL11.above HLb.out HB10.size)
            have B11 := Lib.hid (hC11.below HB10 HLb.out HB10.size)
            clear hD11 hC11 hL11 hc10 hx10 hb10 HB10
            go_wp2_with fail
            go_roundw
            case rel => exact ⟨k + 1, lab1, _, by omega, by omega, by go_num, D11, Lib.hid (HP.out.write _ _), L11, B11⟩
            case measure => simp [intOf]; omega
        · have hkb : (s.kind == 1) = false := by simpa using hkd
          go_wp2_with fail
          go_roundw
          case rel => exact ⟨k + 1, lab, st, by omega, by omega, by go_num, HD, Lib.hid HP.out.more, HLb, HB⟩
          case measure => simp [intOf]; omega
      · obtain ⟨wa, rfl⟩ : ∃ z : World, z = wr := ⟨wr, rfl⟩
        have HD2 := Lib.hid (flush_any k wa d lab st HD.out HP.out.low (by omega))
        obtain ⟨hp2, hl2, he2⟩ := HP.out.flush
        rw [he2] at HD2
        obtain ⟨hlo, hcE, hcs, hrd⟩ := flushed hp2 hl2
        have HLo := Lib.hid hlo
        have HcE := Lib.hid hcE
        have Hcs := Lib.hid hcs
        have Hrd := Lib.hid hrd
        have key : (m0 : Int) ≤ (k : Int) ∨ ((k : Int) < (m0 : Int) ∧ (40 : Int) ≤ (k : Int)) := by omega
        have HRy := Lib.hid (show ∀ i : Nat, i < 12 → st.flush.ready (i : Int) = 0 from fun i hi => by
          unfold Dk.St.ready Dk.St.has
          rw [hp2.down, hp2.len, decide_eq_true (by omega : (0 : Int) ≤ (i : Int)), decide_eq_true (by omega : (i : Int) < ((12 : Nat) : Int))]
          rfl)
        clear hp2 hl2 he2 hlo hcE hcs hrd
        generalize st.flush = S at *
        rcases key with q1 | ⟨q1, q2⟩
        all_goals
          go_wp2_with fail
          refine HD2.out.mono ?_
          rintro e w3 ⟨rfl, lab1, hD3, hC3, hL3⟩
          have D3 := Lib.hid hD3
          have B3 := Lib.hid (hC3.below HB.out HLb.out HB.out.size)
          clear hD3 hC3 hL3
          go_wp2_with fail
          refine (loose_any w3 d lab1 S D3.out).mono ?_
          rintro e w4 ⟨A4, cap4, rfl, hO4, hb4⟩
          rw [HLo.out]
          have D4 := Lib.hid (D3.out.below hb4)
          have B4 := Lib.hid (B3.out.trans (hb4.mono B3.out.size))
          clear hO4 hb4
          go_wp2_with fail
          refine (crash_any w4 d lab1 S D4.out none 0 0 [] (RdC.nil 2 w4 none) rfl (by omega)).mono ?_
          rintro e w5 (⟨_, g, rfl, lab3', hG, hb5, hl5⟩ | ⟨hne, _⟩)
          · rw [Hcs.out] at hG
            have G5 := Lib.hid hG
            have D5 := Lib.hid (D4.out.below hb5)
            have B5 := Lib.hid (B4.out.trans (hb5.mono B4.out.size))
            clear hG hb5 hl5
            go_upto_region 16 with fail
            go_wp2_with fail
            go_loopw [8] (fun i wr => ∃ k5 : Nat, k5 ≤ 12 ∧ i = .int .i64 (k5 : Int) ∧ Hid (Below w5.heap.size w5 wr)) (fun i _ => 12 - (intOf i).toNat)
            case atStart => exact ⟨0, by omega, rfl, Lib.hid (Below.refl _ _)⟩
            case round =>
              obtain ⟨k5, hk5, rfl, HV⟩ := hrel
              by_cases hk12 : k5 < 12
              · have hki5 : (k5 : Int) < 12 := by omega
                have HRk := Lib.hid (HRy.out k5 hk12)
                have HRg := Lib.hid ((Hrd.out (k5 : Int)).1.trans (HRy.out k5 hk12))
                go_wp2_with fail
                refine (read_any (k5 : Int) wr d lab1 S (D5.out.below HV.out)).mono ?_
                rintro e v1 ⟨A1, n1, c1, rfl, hR1, hb1, hn1, _⟩
                rw [HRk.out]
                have HV1 := Lib.hid (below_next HV.out hb1)
                have R1 := Lib.hid hR1
                clear hR1 hb1 hn1
                go_wp2_with fail
                refine (read_any (k5 : Int) v1 g lab3' _ (G5.out.below HV1.out)).mono ?_
                rintro e v2 ⟨A2, n2, c2, rfl, hR2, hb2, hn2, _⟩
                rw [HRg.out]
                have HV2 := Lib.hid (below_next HV1.out hb2)
                have hst1 := run_str (cap := c1) (R1.out.below hb2)
                have hst2 := run_str (cap := c2) hR2
                rw [(Hrd.out (k5 : Int)).2] at hst2
                clear hR2 hb2 hn2
                go_wp2_with fail
                go_roundw
                case rel => exact ⟨k5 + 1, by omega, by go_num, HV2⟩
                case measure => simp [intOf]; omega
              · have hki5 : ¬ (k5 : Int) < 12 := by omega
                have HBf := Lib.hid (B5.out.trans (HV.out.mono B5.out.size))
                go_wp2
                go_ret
                exact ⟨rfl, HBf.out⟩
          · exact absurd HcE.out hne
  · exact absurd ⟨by omega, by omega⟩ h
set_option maxRecDepth 100000 in
theorem lifted (os : Os) (started : os.Started) (H : Type) (enc : TypeId × Value → H) :
    ReturnsInHanded {} Try.checked os 5 .any (Rows.diskFlushedSpec.pre6 enc Try.prog Try.f5 Rows.diskFlushedRow.domain false) (Rows.diskFlushedSpec.post enc Try.prog Try.f5 false true false false) := by
  refine returnsInHanded_of_change (C := Try.checked) own started (by kernel_rfl) Try.func5
    (ChangeSpec.witness6 (enc := enc) (C := Try.checked) false ⟨#[], #[.slice none 0 0], []⟩ 8 (by kernel_rfl) (by kernel_rfl) (by kernel_rfl) (by kernel_rfl)) ?_
  intro W base args ds gs before hval0 hW hcnd _
  have hval : ∀ (j : Nat) t v, Try.f5.params[j]? = some t → args[j]? = some v → Value.okWide Try.prog W .any base t v := hval0
  have hW' := hW
  obtain ⟨p, q, hA0, hV, rfl, hfz, hnd⟩ := hW
  have hA : DataW.TrodAll enc Try.prog W 0 (fun _ => true) true Try.f5.params.toList args.toList ds p := hA0
  rw [Try.params5] at hA hval
  obtain ⟨v0, vs0, d0, ds0, p0, q0, hargs, rfl, rfl, h0, t0⟩ := trodAll_cons hA
  obtain ⟨rfl, rfl, rfl⟩ := trodAll_nil t0
  obtain rfl : args = #[v0] := by cases args; simp_all
  obtain ⟨rfl, rfl⟩ := trodVars_none hV
  have k0 : Reads enc W 22 v0 d0 p0 := h0
  have lt0 : ∀ x ∈ p0, x.block < W.heap.size := by obtain ⟨m, hm⟩ := k0; exact DataW.trod_lt m _ _ _ hm
  obtain ⟨A0, m0, c0, l0, rfl, r0, wc0, w0⟩ := in_ops (hval 0 22 v0 rfl rfl) k0
  clear hA0 hval0
  refine (walk A0 m0 c0 l0 W r0 wc0 w0).mono fun e W' ⟨he, bel⟩ => ?_
  subst he
  exact ⟨_, rfl, _, _, _, [], _, [], hW', trodAll_mk1 (shut_bool Try.underlying4 _), (trodAll_cons_mk (Below.trod laidOut (by kernel_rfl) (of_decide_eq_true (by kernel_rfl)) k0 bel lt0) trodAll_mk0), rfl, bel.frame _, fun h => by cases h⟩
theorem over : Rows.diskFlushedRow.holds Try.pinned (OpenSpec.ofChange Rows.diskFlushedSpec) :=
  OpenClaim.holds_of_wide 5 Try.f5 rfl rfl rfl rfl rfl rfl rfl ⟨rfl, rfl, rfl, rfl, rfl⟩ rfl rfl rfl rfl rfl (by kernel_rfl) Try.func5 (by kernel_rfl)
    (of_decide_eq_true (by kernel_rfl)) (by unfold Func.isWrapper; first | (rw [if_pos (by decide +kernel)]; kernel_rfl) | (rw [if_neg (by decide +kernel)]; exact ⟨rfl, rfl⟩))
    (fun os started H enc _ => lifted os started H enc)
theorem proved : Rows.DiskFlushedSaid := over
end Go.Proofs.Ytamdihodconjiaa.diskFlushed
