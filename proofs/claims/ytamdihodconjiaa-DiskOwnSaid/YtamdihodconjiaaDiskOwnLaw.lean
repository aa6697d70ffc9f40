/- For every slice of bytes and every row of fates: a disk keeps no byte of what was handed in, and what it tells is the caller's own (P3.10), and the example at the head holds; the arguments stay as they were. No condition. -/
import Derived.Test.YtamdihodconjiaaDkOwn
import Derived.Test.YtamdihodconjiaaIns
import Derived.Test.YtamdihodconjiaaHolds
import Derived.WalkKit
import Derived.ProofKit
import Derived.OpenShut
import Derived.ShutString
import Derived.ChangeOld
import Derived.Below
import Derived.Deep.RegionHeld
namespace Go.Proofs.Ytamdihodconjiaa.diskOwn
open Go.ChangeShapes Go.WideShapes Go.ChangeAt Go.RowKit
set_option linter.unusedVariables false
theorem own : ownKnob Try.prog.godebug = none := by kernel_rfl
theorem laidOut : laidOutB Try.prog = true := by kernel_rfl
set_option maxRecDepth 100000 in
set_option maxHeartbeats 8000000 in
theorem walk {H : Type} {enc : TypeId × Value → H} {base : Nat} {d1 : DataW H} {p1 : List MemPlace} (A0 : Option Addr) (m0 c0 : Nat) (l0 : List Nat) (x1 : Value) (w : World) (r0 : Rd w A0 m0 l0) (wc0 : m0 ≤ c0) (w0 : m0 ≤ 9223372036854775807) (okx1 : Value.okWide Try.prog w .any base 36 x1) (rx1 : Reads enc w 36 x1 d1 p1) :
    Calls Try.prog 8 #[.slice A0 m0 c0, x1] w fun e w' => e = .returned (.bool true) ∧ Below w.heap.size w w' := by
  -- heartbeats 8000000
  have HR0 := Lib.hid r0
  clear okx1 rx1 r0
  go_enter Try.func8, Try.ntmps8
  go_wp2_with fail
  refine (awake_any w).mono ?_
  rintro e w1 ⟨rfl, hb1⟩
  have B1 := Lib.hid hb1
  clear hb1
  go_wp2_with fail
  refine (new_any 2 w1).mono ?_
  intro e w2 hg
  rcases hg with ⟨_, _, d, lab, rfl, hD, hb, hl⟩ | ⟨h, _⟩
  · have D2 := Lib.hid (show IsDisk w2 d lab ex0 from hD)
    have B2 := Lib.hid (B1.out.trans (hb.mono B1.out.size))
    have HL := Lib.hid (fun k hk => Nat.le_trans B1.out.size (hl k hk))
    clear hD hb hl
    go_wp2_with fail
    refine (full_any A0 m0 c0 l0 w2 (HR0.out.below B2.out)).mono ?_
    rintro e w3 ⟨rfl, hb3, hx3⟩
    have hX : (Dk.full l0).length = 128 := Dk.full_length l0
    generalize Dk.full l0 = X at *
    have D3 := Lib.hid (D2.out.below hb3)
    have B3 := Lib.hid (B2.out.trans (hb3.mono B2.out.size))
    have Q0 := Lib.hid (D2.out.new_ (Nat.le_refl _))
    have Q1 := Lib.hid (show w.heap.size ≤ w2.heap.size from B2.out.size)
    have X3 := Lib.hid hx3
    have HX := Lib.hid hX
    have hrd := hx3.all
    rw [hX] at hrd
    have hst := run_str (cap := 128) hrd
    have hw1 := write_any 1 (some ⟨w2.heap.size, 0, none⟩) 128 128 10 X w3 d lab ex0 D3.out hrd ex_low0 (by omega) (by omega)
    rw [own_w1 hX, own_s1 hX] at hw1
    have HW1 := Lib.hid hw1
    clear hb3 hx3 hX hrd hw1
    generalize w2.heap.size = q at *
    go_wp2_with fail
    refine HW1.out.mono ?_
    rintro e w4 ⟨rfl, lab1, hD4, hC4, hL4⟩
    have D4 := Lib.hid hD4
    have B4 := Lib.hid (hC4.below B3.out HL.out B3.out.size)
    have HL1 := Lib.hid (hL4.above HL.out B3.out.size)
    have X4 := Lib.hid (X3.out.chg hC4 Q0.out)
    have Q4 := Lib.hid ((hL4 q X3.out.lt).trans Q0.out)
    clear hD4 hC4 hL4 hst
    go_upto_region 10 with fail
    go_wp2_with fail
    go_loopw [9] (fun i wr => ∃ (k : Nat) (L : List Nat), k ≤ 128 ∧ i = .int .i64 (k : Int) ∧ Hid (L.length = 128) ∧ Hid (Buf wr q L) ∧ Hid (Ch1 q w4 wr)) (fun i _ => 128 - (intOf i).toNat)
    case atStart => exact ⟨0, X, by omega, rfl, HX, X4, Lib.hid (Ch1.refl _ _)⟩
    case round =>
      obtain ⟨k, L, hk, rfl, HLn, HBf, HCh⟩ := hrel
      by_cases hk8 : k < 128
      · have hki : (k : Int) < 128 := by omega
        obtain ⟨x, hx⟩ : ∃ x, L[k]? = some x := ⟨_, List.getElem?_eq_getElem (by rw [HLn.out]; exact hk8)⟩
        have hx256 : x < 256 := HBf.out.2 x (List.mem_of_getElem? hx)
        have hcell := HBf.out.cell hx
        have hfree := HBf.out.free k
        have hxor := u8_xor_nat x 255 hx256 (by omega)
        replace hxor : bits .xor .u8 (x : Int) 255 = ((x ^^^ 255 : Nat) : Int) := hxor
        have HB2 := Lib.hid (HBf.out.set k (x ^^^ 255) (xor_256 hx256))
        have HC2 := Lib.hid (HCh.out.trans (Ch1.set q k wr (.int .u8 ((x ^^^ 255 : Nat) : Int))))
        have HL2 := Lib.hid (show (L.set k (x ^^^ 255)).length = 128 by rw [List.length_set]; exact HLn.out)
        clear hx
        go_wp2_with fail
        go_roundw
        case rel => exact ⟨k + 1, L.set k (x ^^^ 255), by omega, by go_num, HL2, HB2, HC2⟩
        case measure => simp [intOf]; omega
      · have hki : ¬ (k : Int) < 128 := by omega
        obtain ⟨wa, rfl⟩ : ∃ z : World, z = wr := ⟨wr, rfl⟩
        have D5 := Lib.hid (D4.out.keep HCh.out.size (fun j hj => HCh.out.block j (D4.out.old j hj) (fun e => by rw [e, Q4.out] at hj; exact hj rfl)))
        have B5 := Lib.hid (HCh.out.below B4.out Q1.out B4.out.size)
        go_wp2_with fail
        refine (read_any 1 wa d lab1 (own1 Dk.zeros X) D5.out).mono ?_
        rintro e w6 ⟨A', n', c', rfl, hR, hb6, hn6, hz⟩
        obtain ⟨rfl, rfl, rfl, hbuf⟩ := hz own_ready
        have ER := Lib.hid (own_ready (Z := Dk.zeros) (X := X))
        rw [ER.out]
        rw [own_read] at hbuf
        have D6 := Lib.hid (D5.out.below hb6)
        have B6 := Lib.hid (B5.out.trans (hb6.mono B5.out.size))
        have X6 := Lib.hid hbuf
        have S6 := Lib.hid (HBf.out.below hb6)
        have R0 := Lib.hid (D5.out.new_ (Nat.le_refl _))
        have R1 := Lib.hid B5.out.size
        have R2 := Lib.hid (Nat.ne_of_lt HBf.out.lt)
        clear hR hb6 hn6 hz hbuf
        generalize wa.heap.size = r at *
        go_upto_region 15 with fail
        go_wp2_with fail
        go_loopw [12] (fun i wr => ∃ (k : Nat) (L : List Nat), k ≤ 128 ∧ i = .int .i64 (k : Int) ∧ Hid (L.length = 128) ∧ Hid (Buf wr r L) ∧ Hid (Ch1 r w6 wr)) (fun i _ => 128 - (intOf i).toNat)
        case atStart => exact ⟨0, X, by omega, rfl, HX, X6, Lib.hid (Ch1.refl _ _)⟩
        case round =>
          obtain ⟨k3, L3, hk3, rfl, HLn3, HBf3, HCh3⟩ := hrel
          by_cases hk8 : k3 < 128
          · have hki3 : (k3 : Int) < 128 := by omega
            obtain ⟨x, hx⟩ : ∃ x, L3[k3]? = some x := ⟨_, List.getElem?_eq_getElem (by rw [HLn3.out]; exact hk8)⟩
            have hx256 : x < 256 := HBf3.out.2 x (List.mem_of_getElem? hx)
            have hcell := HBf3.out.cell hx
            have hfree := HBf3.out.free k3
            have hxor := u8_xor_nat x 255 hx256 (by omega)
            replace hxor : bits .xor .u8 (x : Int) 255 = ((x ^^^ 255 : Nat) : Int) := hxor
            have HB2 := Lib.hid (HBf3.out.set k3 (x ^^^ 255) (xor_256 hx256))
            have HC2 := Lib.hid (HCh3.out.trans (Ch1.set r k3 wr (.int .u8 ((x ^^^ 255 : Nat) : Int))))
            have HL2 := Lib.hid (show (L3.set k3 (x ^^^ 255)).length = 128 by rw [List.length_set]; exact HLn3.out)
            clear hx
            go_wp2_with fail
            go_roundw
            case rel => exact ⟨k3 + 1, L3.set k3 (x ^^^ 255), by omega, by go_num, HL2, HB2, HC2⟩
            case measure => simp [intOf]; omega
          · have hki3 : ¬ (k3 : Int) < 128 := by omega
            obtain ⟨wb, rfl⟩ : ∃ z : World, z = wr := ⟨wr, rfl⟩
            have D7 := D6.out.keep HCh3.out.size (fun j hj => HCh3.out.block j (D6.out.old j hj) (fun e => by rw [e, R0.out] at hj; exact hj rfl))
            have B7 := Lib.hid (HCh3.out.below B6.out R1.out B6.out.size)
            have S7 := S6.out.block (HCh3.out.block q S6.out.lt R2.out)
            have b8 : Below wb.heap.size wb (wb.alloc (.cells #[.int .i64 1, .int .i64 0] 55)) := (Below.refl _ _).alloc (Nat.le_refl _) _
            have rc := rdc_new 2 wb 55 [.int .i64 1, .int .i64 0] 1 rfl (0, 0)
            have RC := Lib.hid (show RdC 2 (wb.alloc (.cells #[.int .i64 1, .int .i64 0] 55)) (some ⟨wb.heap.size, 0, none⟩) 1 (flatFa [⟨1, 0⟩]) from rc)
            have D8 := Lib.hid (D7.below b8)
            have S8 := Lib.hid (S7.below b8)
            have B8 := Lib.hid (B7.out.trans (b8.mono B7.out.size))
            clear D7 S7 b8 rc
            go_wp2_with fail
            generalize (wb.alloc (.cells #[.int .i64 1, .int .i64 0] 55)) = w8 at *
            refine (crash_any w8 d lab1 (own1 Dk.zeros X) D8.out (some ⟨wb.heap.size, 0, none⟩) 1 1 [⟨1, 0⟩] RC.out rfl (by omega)).mono ?_
            rintro e w9 (⟨_, g, rfl, lab3', hG, hb9, hl9⟩ | ⟨hne, _⟩)
            · rw [own_crashed] at hG
              have G9 := Lib.hid hG
              have D9 := Lib.hid (D8.out.below hb9)
              have S9 := Lib.hid (S8.out.below hb9)
              have B9 := Lib.hid (B8.out.trans (hb9.mono B8.out.size))
              have HL9 := Lib.hid hl9
              have O8 := Lib.hid D8.out.old
              have E8 := Lib.hid B8.out.size
              have hrd := S9.out.all
              rw [HLn.out] at hrd
              have hwc := write_any 1 (some ⟨q, 0, none⟩) 128 128 10 L w9 g lab3' (ownC X) hG hrd own_lowC (by omega) (by omega)
              rw [own_cw L HLn.out] at hwc
              have HWc := Lib.hid hwc
              clear hG hb9 hl9 hrd hwc
              go_wp2_with fail
              refine HWc.out.mono ?_
              rintro e w10 ⟨rfl, lab4, hG10, hC10, hL10⟩
              have D10 := D9.out.keep hC10.size (fun j hj => hC10.block j (D9.out.old j hj) (by
                cases e : lab3' j with
                | no => rfl
                | _ => exact absurd (HL9.out j (by rw [e]; simp)) (by have := O8.out j hj; omega)))
              have B10 := Lib.hid (hC10.below B9.out (fun j hj => Nat.le_trans E8.out (HL9.out j hj)) B9.out.size)
              have hrot : Calls Try.prog 28 #[.pointer (some ⟨d, 0, none⟩), .int .i64 1, .int .i64 0, .int .u8 1] w10 _ := rot_any 1 0 1 (by omega) w10 d lab1 (own1 Dk.zeros X) D10
              rw [own_rotE, own_rot] at hrot
              have HRot := Lib.hid hrot
              clear D10 hG10 hC10 hL10 hrot
              go_wp2_with fail
              refine HRot.out.mono ?_
              rintro e w11 ⟨rfl, lab5, hD11, hC11, hL11⟩
              have D11 := Lib.hid hD11
              have B11 := Lib.hid (hC11.below B10.out HL1.out B10.out.size)
              clear hD11 hC11 hL11
              generalize Dk.turn Dk.zeros 0 1 = Z at *
              go_wp2_with fail
              refine (read_any 1 w11 d lab5 (own1 Z X) D11.out).mono ?_
              rintro e w12 ⟨A', n', c', rfl, hR, hb12, hn12, hz⟩
              obtain ⟨rfl, rfl, rfl, hbuf⟩ := hz own_ready
              have ER2 := Lib.hid (own_ready (Z := Z) (X := X))
              rw [ER2.out]
              rw [own_read] at hbuf
              have D12 := Lib.hid (D11.out.below hb12)
              have B12 := Lib.hid (B11.out.trans (hb12.mono B11.out.size))
              have Y12 := Lib.hid hbuf
              have HY := Lib.hid hbuf.lt
              clear hR hb12 hn12 hz hbuf
              generalize w11.heap.size = y at *
              go_wp2_with fail
              refine (loose_any w12 d lab5 (own1 Z X) D12.out).mono ?_
              rintro e w13 ⟨A, cap, rfl, hO, hb13⟩
              have EL := Lib.hid (own_loose (Z := Z) (X := X))
              rw [EL.out] at hO
              rw [EL.out]
              obtain ⟨p, rfl, hp1, hp2⟩ := hO.form (by show 0 < 1; omega)
              obtain ⟨pb, po, hpe, _, hp0, _⟩ := hO.rd.two (i := 0) (by show 0 < 1; omega) rfl rfl
              injection hpe with hpe
              injection hpe with hpe1 hpe2
              subst hpe1 hpe2
              replace hp0 : w13.cell? ⟨p, 0, none⟩ = some (.int .i64 1) := hp0
              have hfr : w13.frozen? ⟨p, 0, none⟩ = false := by
                rcases hO.2 with ⟨_, h0⟩ | ⟨g', c', cur, hv, _, hg', _⟩
                · exact absurd h0 (by show ¬ 1 = 0; omega)
                · injection hv with hA _ _
                  injection hA with hA
                  injection hA with hA _
                  subst hA
                  exact frozen_of_row _ _ _ _ _ hg'
              have hc14 := Ch1.set p 0 w13 (.int .i64 0)
              have D13 := D12.out.below hb13
              have hpn : lab5 p = .no := D12.out.new_ hp1
              have D14 := Lib.hid (D13.keep hc14.size (fun j hj => hc14.block j (D13.old j hj) (fun e => by rw [e, hpn] at hj; exact hj rfl)))
              have B13 := B12.out.trans (hb13.mono B12.out.size)
              have B14 := Lib.hid (hc14.below B13 (Nat.le_trans B12.out.size hp1) B13.size)
              have Y14 := Lib.hid ((Y12.out.below hb13).block (hc14.block y (Nat.lt_of_lt_of_le HY.out hb13.size) (by have := HY.out; omega)))
              clear hO hb13 hp1 hp2 hc14 D13 B13 hpn
              go_upto_region 27 with fail
              clear hp0 hfr
              generalize (w13.setCell ⟨p, 0, none⟩ (.int .i64 0)) = w14 at *
              have hrd := Y14.out.all
              rw [HX.out] at hrd
              have hst := run_str (cap := 128) hrd
              clear hrd
              go_wp2_with fail
              refine (loose_any w14 d lab5 (own1 Z X) D14.out).mono ?_
              rintro e w15 ⟨A, cap, rfl, hO, hb15⟩
              have D15 := Lib.hid (D14.out.below hb15)
              have B15 := Lib.hid (B14.out.trans (hb15.mono B14.out.size))
              rw [EL.out]
              clear hO hb15 hst
              go_wp2_with fail
              refine (loose_any w15 d lab5 (own1 Z X) D15.out).mono ?_
              rintro e w16 ⟨A, cap, rfl, hO, hb16⟩
              have B16 := Lib.hid (B15.out.trans (hb16.mono B15.out.size))
              rw [EL.out] at hO
              rw [EL.out]
              obtain ⟨pb, po, rfl, _, hp0, _⟩ := hO.rd.two (i := 0) (by show 0 < 1; omega) rfl rfl
              replace hp0 : w16.cell? ⟨pb, po, none⟩ = some (.int .i64 1) := hp0
              clear hO hb16
              go_wp2
              go_ret
              exact ⟨rfl, B16.out⟩
            · exact absurd own_crash hne
  · exact absurd ⟨by omega, by omega⟩ h
set_option maxRecDepth 100000 in
theorem lifted (os : Os) (started : os.Started) (H : Type) (enc : TypeId × Value → H) :
    ReturnsInHanded {} Try.checked os 8 .any (Rows.diskOwnSpec.pre6 enc Try.prog Try.f8 Rows.diskOwnRow.domain false) (Rows.diskOwnSpec.post enc Try.prog Try.f8 false true false false) := by
  refine returnsInHanded_of_change (C := Try.checked) own started (by kernel_rfl) Try.func8
    (ChangeSpec.witness6 (enc := enc) (C := Try.checked) false ⟨#[], #[.slice none 0 0, .slice none 0 0], []⟩ 8 (by kernel_rfl) (by kernel_rfl) (by kernel_rfl) (by kernel_rfl)) ?_
  intro W base args ds gs before hval0 hW hcnd _
  have hval : ∀ (j : Nat) t v, Try.f8.params[j]? = some t → args[j]? = some v → Value.okWide Try.prog W .any base t v := hval0
  have hW' := hW
  obtain ⟨p, q, hA0, hV, rfl, hfz, hnd⟩ := hW
  have hA : DataW.TrodAll enc Try.prog W 0 (fun _ => true) true Try.f8.params.toList args.toList ds p := hA0
  rw [Try.params8] at hA hval
  obtain ⟨v0, vs0, d0, ds0, p0, q0, hargs, rfl, rfl, h0, t0⟩ := trodAll_cons hA
  obtain ⟨v1, vs1, d1, ds1, p1, q1, rfl, rfl, rfl, h1, t1⟩ := trodAll_cons t0
  obtain ⟨rfl, rfl, rfl⟩ := trodAll_nil t1
  obtain rfl : args = #[v0, v1] := by cases args; simp_all
  obtain ⟨rfl, rfl⟩ := trodVars_none hV
  have k0 : Reads enc W 35 v0 d0 p0 := h0
  have lt0 : ∀ x ∈ p0, x.block < W.heap.size := by obtain ⟨m, hm⟩ := k0; exact DataW.trod_lt m _ _ _ hm
  obtain ⟨A0, m0, c0, l0, rfl, r0, wc0, w0⟩ := in_bytes (hval 0 35 v0 rfl rfl) k0
  have k1 : Reads enc W 36 v1 d1 p1 := h1
  have lt1 : ∀ x ∈ p1, x.block < W.heap.size := by obtain ⟨m, hm⟩ := k1; exact DataW.trod_lt m _ _ _ hm
  have okv1 := hval 1 36 v1 rfl rfl
  clear hA0 hval0
  refine (walk A0 m0 c0 l0 v1 W r0 wc0 w0 okv1 k1).mono fun e W' ⟨he, bel⟩ => ?_
  subst he
  exact ⟨_, rfl, _, _, _, [], _, [], hW', trodAll_mk1 (shut_bool Try.underlying4 _), (trodAll_cons_mk (Below.trod laidOut (by kernel_rfl) (of_decide_eq_true (by kernel_rfl)) k0 bel lt0) (trodAll_cons_mk (Below.trod laidOut (by kernel_rfl) (of_decide_eq_true (by kernel_rfl)) k1 bel lt1) trodAll_mk0)), rfl, bel.frame _, fun h => by cases h⟩
theorem over : Rows.diskOwnRow.holds Try.pinned (OpenSpec.ofChange Rows.diskOwnSpec) :=
  OpenClaim.holds_of_wide 8 Try.f8 rfl rfl rfl rfl rfl rfl rfl ⟨rfl, rfl, rfl, rfl, rfl⟩ rfl rfl rfl rfl rfl (by kernel_rfl) Try.func8 (by kernel_rfl)
    (of_decide_eq_true (by kernel_rfl)) (by unfold Func.isWrapper; first | (rw [if_pos (by decide +kernel)]; kernel_rfl) | (rw [if_neg (by decide +kernel)]; exact ⟨rfl, rfl⟩))
    (fun os started H enc _ => lifted os started H enc)
theorem proved : Rows.DiskOwnSaid := over
end Go.Proofs.Ytamdihodconjiaa.diskOwn
