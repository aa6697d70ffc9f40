/- For every number, bytes and row of ops: what was written to a sector is read, whatever is written to others, and flushed (P3.6), and the example at the head holds; the arguments stay as they were. No condition. -/
import Derived.Test.YtamdihodconjiaaDkKeep
import Derived.Test.YtamdihodconjiaaIns
import Derived.Test.YtamdihodconjiaaHolds
import Derived.WalkKit
import Derived.ProofKit
import Derived.OpenShut
import Derived.ShutString
import Derived.ChangeOld
import Derived.Below
import Derived.Deep.RegionHeld
namespace Go.Proofs.Ytamdihodconjiaa.diskReads
open Go.ChangeShapes Go.WideShapes Go.ChangeAt Go.RowKit
set_option linter.unusedVariables false
theorem own : ownKnob Try.prog.godebug = none := by kernel_rfl
theorem laidOut : laidOutB Try.prog = true := by kernel_rfl
set_option maxRecDepth 100000 in
set_option maxHeartbeats 8000000 in
theorem walk (n0 : Nat) (A1 : Option Addr) (m1 c1 : Nat) (l1 : List Nat) (A2 : Option Addr) (m2 c2 : Nat) (l2 : List DOp) (w : World) (w0 : n0 < 18446744073709551616) (r1 : Rd w A1 m1 l1) (wc1 : m1 ≤ c1) (w1 : m1 ≤ 9223372036854775807) (r2 : RdOps w A2 m2 l2) (wc2 : m2 ≤ c2) (w2 : m2 ≤ 9223372036854775807) :
    Calls Try.prog 4 #[.int .u64 (n0 : Int), .slice A1 m1 c1, .slice A2 m2 c2] w fun e w' => e = .returned (.bool true) ∧ Below w.heap.size w w' := by
  -- heartbeats 8000000
  have HR0 := Lib.hid r2
  have HRb := Lib.hid r1
  clear r1 r2
  obtain ⟨a, ha⟩ : ∃ a, a = n0 % 12 := ⟨_, rfl⟩
  have ha12 : a < 12 := by omega
  have hrem : (n0 : Int) % 12 = (a : Int) := by omega
  have HA12 := Lib.hid ha12
  have hai : (a : Int) < 12 := by omega
  clear ha ha12
  go_enter Try.func4, Try.ntmps4
  go_wp2_with fail
  refine (awake_any w).mono ?_
  rintro e w1 ⟨rfl, hb1⟩
  have B1 := Lib.hid hb1
  clear hb1
  go_wp2_with fail
  refine (new_any 12 w1).mono ?_
  intro e w2 hg
  rcases hg with ⟨_, _, d, lab0, rfl, hD, hb, hl⟩ | ⟨h, _⟩
  · have D2 := Lib.hid (show IsDisk w2 d lab0 (Dk.St.new 12) from hD)
    have B2 := Lib.hid (B1.out.trans (hb.mono B1.out.size))
    have HL0 := Lib.hid (fun k hk => Nat.le_trans B1.out.size (hl k hk))
    clear hD hb hl
    go_wp2_with fail
    refine (full_any A1 m1 c1 l1 w2 (HRb.out.below B2.out)).mono ?_
    rintro e w3 ⟨rfl, hb3, hx3⟩
    have hX : (Dk.full l1).length = 128 := Dk.full_length l1
    generalize Dk.full l1 = X at *
    have D3 := Lib.hid (D2.out.below hb3)
    have B3 := Lib.hid (B2.out.trans (hb3.mono B2.out.size))
    have Q0 := Lib.hid (D2.out.new_ (Nat.le_refl _))
    have X3 := Lib.hid hx3
    have HX := Lib.hid hX
    have hrd := hx3.all
    rw [hX] at hrd
    obtain ⟨hw0, hst0⟩ := stands_new (Plain.new 12 0) HA12.out hX
    have hw1 := write_any (a : Int) (some ⟨w2.heap.size, 0, none⟩) 128 128 0 X w3 d lab0 (Dk.St.new 12) D3.out hrd (Plain.new 12 0).low (by omega) (by omega)
    rw [hw0] at hw1
    have HW1 := Lib.hid hw1
    have S0 := Lib.hid hst0
    have P0 := Lib.hid ((Plain.new 12 0).write (a : Int) X)
    clear hb3 hx3 hX hrd hw1 hw0 hst0
    generalize w2.heap.size = q at *
    generalize (Dk.St.new 12).write (a : Int) X = st0 at *
    go_wp2_with fail
    refine HW1.out.mono ?_
    rintro e w4 ⟨rfl, lab1, hD4, hC4, hL4⟩
    have D4 := Lib.hid hD4
    have B4 := Lib.hid (hC4.below B3.out HL0.out B3.out.size)
    have HL1 := Lib.hid (hL4.above HL0.out B3.out.size)
    have X4 := Lib.hid (X3.out.chg hC4 Q0.out)
    have Q4 := Lib.hid ((hL4 q X3.out.lt).trans Q0.out)
    clear hD4 hC4 hL4
    go_upto_region 10 with fail
    go_wp2_with fail
    go_loopw [11] (fun i wr => ∃ (k : Nat) (lab : Nat → Tag) (st : Dk.St), k ≤ m2 ∧ k ≤ 40 ∧ i = .int .i64 (k : Int) ∧ Hid (IsDisk wr d lab st) ∧ Hid (Plain st 12 (k + 1)) ∧ Hid (Stands st a X) ∧ Hid (∀ j, lab j ≠ .no → w.heap.size ≤ j) ∧ Hid (Below w.heap.size w wr) ∧ Hid (Buf wr q X) ∧ Hid (lab q = .no)) (fun i _ => m2 - (intOf i).toNat)
    case atStart => exact ⟨0, lab1, _, by omega, by omega, rfl, D4, P0, S0, HL1, B4, X4, Q4⟩
    case round =>
      obtain ⟨k, lab, st, hk, hk4, rfl, HD, HP, HSt, HLb, HB, HQ, HNq⟩ := hrel
      by_cases hkm : k < m2 ∧ k < 40
      · obtain ⟨hkm, hk40⟩ := hkm
        have hki : (k : Int) < (m2 : Int) := by omega
        have hki4 : (k : Int) < 40 := by omega
        obtain ⟨b, o, rfl, hbw, hcs⟩ := HR0.out.2 (by omega)
        obtain ⟨s, hs⟩ : ∃ s, l2[k]? = some s := ⟨_, List.getElem?_eq_getElem (by rw [HR0.out.1]; exact hkm)⟩
        have HO := Lib.hid ((hcs k s hs).below HB.out hbw)
        have hbl : b < wr.heap.size := Nat.lt_of_lt_of_le hbw HB.out.size
        have HNo := Lib.hid (show lab b = .no by
          cases e : lab b with
          | no => rfl
          | _ => exact absurd (HLb.out b (by rw [e]; simp)) (by omega))
        have e0 := HO.out.c0
        have e1 := HO.out.c1
        have e2 := HO.out.c2
        rw [Nat.add_zero] at e0
        clear hcs hs
        have HKi := Lib.hid HO.out.c0
        by_cases hkd : s.kind = 1 ∧ s.at_ ≠ (a : Int)
        · obtain ⟨hkd, hat⟩ := hkd
          rw [hkd] at e0
          have hatb : (s.at_ != (a : Int)) = true := by simpa using hat
          have HAt := Lib.hid hat
          clear hkd
          have HF := Lib.hid (fun wx (hb : Below wr.heap.size wr wx) => full_any s.A s.m s.c s.b wx (HO.out.rb.below hb))
          have hE : ∀ wx, Below wr.heap.size wr wx → wx.cell? ⟨b, o + k * 8 + 1, none⟩ = some (.int .i64 s.at_) ∧ wx.cell? ⟨b, o + k * 8 + 2, none⟩ = some (.slice s.A s.m s.c) := fun wx hb => ⟨(hb.cell (p := ⟨b, _, none⟩) hbl).trans e1, (hb.cell (p := ⟨b, _, none⟩) hbl).trans e2⟩
          have HE := Lib.hid hE
          have hd : Below wr.heap.size wr wr.drew := (Below.refl _ _).drew
          have HWr := Lib.hid (fun v (hb : Below wr.heap.size wr v) (hx : Buf v wr.heap.size (Dk.full s.b)) => write_any s.at_ (some ⟨wr.heap.size, 0, none⟩) 128 128 (k + 1) (Dk.full s.b) v d lab st (HD.out.below hb) (by have h := hx.all; rw [Dk.full_length] at h; exact h) HP.out.low (by omega) (by omega))
          have HAfter := Lib.hid (fun v v' (hb : Below wr.heap.size wr v) (hc : Chg lab v v') => (⟨(World.cell?_of_block (a := ⟨b, o + k * 8 + 1, none⟩) (hc.block b (Nat.lt_of_lt_of_le hbl hb.size) HNo.out)).trans (HE.out v hb).1, (World.cell?_of_block (a := ⟨b, o + k * 8 + 2, none⟩) (hc.block b (Nat.lt_of_lt_of_le hbl hb.size) HNo.out)).trans (HE.out v hb).2⟩ : v'.cell? ⟨b, o + k * 8 + 1, none⟩ = some (.int .i64 s.at_) ∧ v'.cell? ⟨b, o + k * 8 + 2, none⟩ = some (.slice s.A s.m s.c)))
          clear hE
          go_upto_region 14 with fail
          go_region_held3 (fun wx => wx.cell? ⟨b, o + k * 8 + 1, none⟩ = some (.int .i64 s.at_) ∧ wx.cell? ⟨b, o + k * 8 + 2, none⟩ = some (.slice s.A s.m s.c)) (first | exact HE.out _ hd | exact HE.out _ hc10 | exact HAfter.out _ _ hc10 hC11) (first | (go_at_call 15; refine (HF.out _ hd).mono ?_; rintro e v10 ⟨rfl, hb10, hx10⟩; have hc10 : Below wr.heap.size wr v10 := below_next hd hb10) | (go_at_call 16; refine (HWr.out _ hc10 hx10).mono ?_; rintro e v11 ⟨rfl, lab1, hD11, hC11, hL11⟩))
          all_goals
            have D11 := Lib.hid hD11
            have HB10 := HB.out.trans (hc10.mono HB.out.size)
            have L11 := Lib.hid (hL11.above HLb.out HB10.size)
            have B11 := Lib.hid (hC11.below HB10 HLb.out HB10.size)
            have QB := HQ.out.below hc10
            have Q11 := Lib.hid (QB.chg hC11 HNq.out)
            have N11 := Lib.hid ((hL11 q QB.lt).trans HNq.out)
            have hk1 := HAfter.out _ _ hc10 hC11
            have e0 : v11.cell? ⟨b, o + k * 8, none⟩ = some (.int .i64 1) := (World.cell?_of_block (a := ⟨b, o + k * 8, none⟩) (hC11.block b (Nat.lt_of_lt_of_le hbl hc10.size) HNo.out)).trans ((hc10.cell (p := ⟨b, o + k * 8, none⟩) hbl).trans e0)
            have P11 := Lib.hid (HP.out.write s.at_ (Dk.full s.b))
            have S11 := Lib.hid (HSt.out.other HAt.out (Dk.full s.b))
            clear hD11 hC11 hL11 hc10 hx10 hb10 HB10 QB hk1
            go_wp2_with fail
            obtain ⟨hr9, hrb9⟩ := S11.out.read P11.out
            refine (read_any (a : Int) v11 d lab1 _ D11.out).mono ?_
            rintro e v1 ⟨A9, n9, c9, rfl, hR9, hb9, hn9, _⟩
            have HR9 := Lib.hid hr9
            rw [HR9.out]
            rw [hrb9] at hR9
            have hst9 := run_str (cap := c9) hR9
            have hbq := Q11.out.below hb9
            have hrd9 := hbq.all
            rw [HX.out] at hrd9
            have hstq := run_str (cap := 128) hrd9
            have Q9 := Lib.hid hbq
            have D9 := Lib.hid (D11.out.below hb9)
            have B9 := Lib.hid (B11.out.trans (hb9.mono B11.out.size))
            clear hR9 hb9 hn9 hbq hrd9 hr9 hrb9
            go_wp2_with fail
            go_roundw
            case rel => exact ⟨k + 1, lab1, _, by omega, by omega, by go_num, D9, P11, S11, L11, B9, Q9, N11⟩
            case measure => simp [intOf]; omega
        · have PM := Lib.hid HP.out.more
          by_cases hk2 : s.kind = 2
          · rw [hk2] at e0
            clear hk2 hkd
            have HFl := Lib.hid (flush_any (k + 1) wr d lab st HD.out HP.out.low (by omega))
            go_wp2_with fail
            refine HFl.out.mono ?_
            rintro e v3 ⟨rfl, lab3, hD, hC, hL⟩
            have D3f := Lib.hid hD
            have P3f := Lib.hid HP.out.flush.1
            have S3f := Lib.hid HSt.out.flush
            have B3f := Lib.hid (hC.below HB.out HLb.out HB.out.size)
            have L3f := Lib.hid (hL.above HLb.out HB.out.size)
            have Q3f := Lib.hid (HQ.out.chg hC HNq.out)
            have N3f := Lib.hid ((hL q HQ.out.lt).trans HNq.out)
            clear hD hC hL e0 e1 e2
            go_wp2_with fail
            obtain ⟨hr9, hrb9⟩ := S3f.out.read P3f.out
            refine (read_any (a : Int) v3 d lab3 _ D3f.out).mono ?_
            rintro e v1 ⟨A9, n9, c9, rfl, hR9, hb9, hn9, _⟩
            have HR9 := Lib.hid hr9
            rw [HR9.out]
            rw [hrb9] at hR9
            have hst9 := run_str (cap := c9) hR9
            have hbq := Q3f.out.below hb9
            have hrd9 := hbq.all
            rw [HX.out] at hrd9
            have hstq := run_str (cap := 128) hrd9
            have Q9 := Lib.hid hbq
            have D9 := Lib.hid (D3f.out.below hb9)
            have B9 := Lib.hid (B3f.out.trans (hb9.mono B3f.out.size))
            clear hR9 hb9 hn9 hbq hrd9 hr9 hrb9
            go_wp2_with fail
            go_roundw
            case rel => exact ⟨k + 1, lab3, _, by omega, by omega, by go_num, D9, P3f, S3f, L3f, B9, Q9, N3f⟩
            case measure => simp [intOf]; omega
          · have hkb2 : (s.kind == 2) = false := by simpa using hk2
            by_cases hk1 : s.kind = 1
            · have hat : s.at_ = (a : Int) := by
                refine Decidable.byContradiction fun h => hkd ⟨hk1, h⟩
              rw [hk1] at e0
              rw [hat] at e1
              clear hk1 hk2 hkb2 hkd hat
              go_wp2_with fail
              obtain ⟨hr9, hrb9⟩ := HSt.out.read PM.out
              refine (read_any (a : Int) wr d lab st HD.out).mono ?_
              rintro e v1 ⟨A9, n9, c9, rfl, hR9, hb9, hn9, _⟩
              have HR9 := Lib.hid hr9
              rw [HR9.out]
              rw [hrb9] at hR9
              have hst9 := run_str (cap := c9) hR9
              have hbq := HQ.out.below hb9
              have hrd9 := hbq.all
              rw [HX.out] at hrd9
              have hstq := run_str (cap := 128) hrd9
              have Q9 := Lib.hid hbq
              have D9 := Lib.hid (HD.out.below hb9)
              have B9 := Lib.hid (HB.out.trans (hb9.mono HB.out.size))
              clear hR9 hb9 hn9 hbq hrd9 hr9 hrb9
              go_wp2_with fail
              go_roundw
              case rel => exact ⟨k + 1, lab, st, by omega, by omega, by go_num, D9, PM, HSt, HLb, B9, Q9, HNq⟩
              case measure => simp [intOf]; omega
            · have hkb1 : (s.kind == 1) = false := by simpa using hk1
              clear hkd
              go_wp2_with fail
              obtain ⟨hr9, hrb9⟩ := HSt.out.read PM.out
              refine (read_any (a : Int) wr d lab st HD.out).mono ?_
              rintro e v1 ⟨A9, n9, c9, rfl, hR9, hb9, hn9, _⟩
              have HR9 := Lib.hid hr9
              rw [HR9.out]
              rw [hrb9] at hR9
              have hst9 := run_str (cap := c9) hR9
              have hbq := HQ.out.below hb9
              have hrd9 := hbq.all
              rw [HX.out] at hrd9
              have hstq := run_str (cap := 128) hrd9
              have Q9 := Lib.hid hbq
              have D9 := Lib.hid (HD.out.below hb9)
              have B9 := Lib.hid (HB.out.trans (hb9.mono HB.out.size))
              clear hR9 hb9 hn9 hbq hrd9 hr9 hrb9
              go_wp2_with fail
              go_roundw
              case rel => exact ⟨k + 1, lab, st, by omega, by omega, by go_num, D9, PM, HSt, HLb, B9, Q9, HNq⟩
              case measure => simp [intOf]; omega
      · have key : (m2 : Int) ≤ (k : Int) ∨ ((k : Int) < (m2 : Int) ∧ (40 : Int) ≤ (k : Int)) := by omega
        rcases key with q1 | ⟨q1, q2⟩
        all_goals
          go_wp2
          go_ret
          exact ⟨rfl, HB.out⟩
  · exact absurd ⟨by omega, by omega⟩ h
set_option maxRecDepth 100000 in
theorem lifted (os : Os) (started : os.Started) (H : Type) (enc : TypeId × Value → H) :
    ReturnsInHanded {} Try.checked os 4 .any (Rows.diskReadsSpec.pre6 enc Try.prog Try.f4 Rows.diskReadsRow.domain false) (Rows.diskReadsSpec.post enc Try.prog Try.f4 false true false false) := by
  refine returnsInHanded_of_change (C := Try.checked) own started (by kernel_rfl) Try.func4
    (ChangeSpec.witness6 (enc := enc) (C := Try.checked) false ⟨#[], #[.int .u64 0, .slice none 0 0, .slice none 0 0], []⟩ 8 (by kernel_rfl) (by kernel_rfl) (by kernel_rfl) (by kernel_rfl)) ?_
  intro W base args ds gs before hval0 hW hcnd _
  have hval : ∀ (j : Nat) t v, Try.f4.params[j]? = some t → args[j]? = some v → Value.okWide Try.prog W .any base t v := hval0
  have hW' := hW
  obtain ⟨p, q, hA0, hV, rfl, hfz, hnd⟩ := hW
  have hA : DataW.TrodAll enc Try.prog W 0 (fun _ => true) true Try.f4.params.toList args.toList ds p := hA0
  rw [Try.params4] at hA hval
  obtain ⟨v0, vs0, d0, ds0, p0, q0, hargs, rfl, rfl, h0, t0⟩ := trodAll_cons hA
  obtain ⟨v1, vs1, d1, ds1, p1, q1, rfl, rfl, rfl, h1, t1⟩ := trodAll_cons t0
  obtain ⟨v2, vs2, d2, ds2, p2, q2, rfl, rfl, rfl, h2, t2⟩ := trodAll_cons t1
  obtain ⟨rfl, rfl, rfl⟩ := trodAll_nil t2
  obtain rfl : args = #[v0, v1, v2] := by cases args; simp_all
  obtain ⟨rfl, rfl⟩ := trodVars_none hV
  have k0 : Reads enc W 41 v0 d0 p0 := h0
  have lt0 : ∀ x ∈ p0, x.block < W.heap.size := by obtain ⟨m, hm⟩ := k0; exact DataW.trod_lt m _ _ _ hm
  obtain ⟨n0, rfl, w0⟩ := in_uint (hval 0 41 v0 rfl rfl) k0
  have k1 : Reads enc W 35 v1 d1 p1 := h1
  have lt1 : ∀ x ∈ p1, x.block < W.heap.size := by obtain ⟨m, hm⟩ := k1; exact DataW.trod_lt m _ _ _ hm
  obtain ⟨A1, m1, c1, l1, rfl, r1, wc1, w1⟩ := in_bytes (hval 1 35 v1 rfl rfl) k1
  have k2 : Reads enc W 22 v2 d2 p2 := h2
  have lt2 : ∀ x ∈ p2, x.block < W.heap.size := by obtain ⟨m, hm⟩ := k2; exact DataW.trod_lt m _ _ _ hm
  obtain ⟨A2, m2, c2, l2, rfl, r2, wc2, w2⟩ := in_ops (hval 2 22 v2 rfl rfl) k2
  clear hA0 hval0
  refine (walk n0 A1 m1 c1 l1 A2 m2 c2 l2 W w0 r1 wc1 w1 r2 wc2 w2).mono fun e W' ⟨he, bel⟩ => ?_
  subst he
  exact ⟨_, rfl, _, _, _, [], _, [], hW', trodAll_mk1 (shut_bool Try.underlying4 _), (trodAll_cons_mk (Below.trod laidOut (by kernel_rfl) (of_decide_eq_true (by kernel_rfl)) k0 bel lt0) (trodAll_cons_mk (Below.trod laidOut (by kernel_rfl) (of_decide_eq_true (by kernel_rfl)) k1 bel lt1) (trodAll_cons_mk (Below.trod laidOut (by kernel_rfl) (of_decide_eq_true (by kernel_rfl)) k2 bel lt2) trodAll_mk0))), rfl, bel.frame _, fun h => by cases h⟩
theorem over : Rows.diskReadsRow.holds Try.pinned (OpenSpec.ofChange Rows.diskReadsSpec) :=
  OpenClaim.holds_of_wide 4 Try.f4 rfl rfl rfl rfl rfl rfl rfl ⟨rfl, rfl, rfl, rfl, rfl⟩ rfl rfl rfl rfl rfl (by kernel_rfl) Try.func4 (by kernel_rfl)
    (of_decide_eq_true (by kernel_rfl)) (by unfold Func.isWrapper; first | (rw [if_pos (by decide +kernel)]; kernel_rfl) | (rw [if_neg (by decide +kernel)]; exact ⟨rfl, rfl⟩))
    (fun os started H enc _ => lifted os started H enc)
theorem proved : Rows.DiskReadsSaid := over
end Go.Proofs.Ytamdihodconjiaa.diskReads
