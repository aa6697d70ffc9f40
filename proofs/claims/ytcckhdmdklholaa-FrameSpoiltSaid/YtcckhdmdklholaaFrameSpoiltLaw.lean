/- For every stamp, kind, payload, place and mask of 32 bits: if any bit of the frame is turned by the mask from that place on, Decode gives ErrFrame (P4.6), and the example at the head holds; the arguments stay as they were. No condition. -/
import Derived.Test.YtcckhdmdklholaaFrTwo
import Derived.Test.YtcckhdmdklholaaFrBurst
import Derived.Test.YtcckhdmdklholaaFrEncA
import Derived.Test.YtcckhdmdklholaaFrBoth
import Derived.Test.YtcckhdmdklholaaFrIs
import Derived.Test.YtcckhdmdklholaaFrAwake
import Derived.Test.YtcckhdmdklholaaIns
import Derived.Test.YtcckhdmdklholaaHolds
import Derived.WalkKit
import Derived.ProofKit
import Derived.OpenShut
import Derived.ShutString
import Derived.ChangeOld
import Derived.Below
import Derived.Deep.RegionHeld
namespace Go.Proofs.Ytcckhdmdklholaa.frameSpoilt
open Go.ChangeShapes Go.WideShapes Go.ChangeAt Go.RowKit
set_option linter.unusedVariables false
theorem own : ownKnob Try.prog.godebug = none := by kernel_rfl
theorem laidOut : laidOutB Try.prog = true := by kernel_rfl
theorem bit_val (m k : Nat) (hm : m < 4294967296) : bits .and .u32 ((m : Int) / 2 ^ k) 1 = ((m / 2 ^ k % 2 : Nat) : Int) := by
  have e : (m : Int) / 2 ^ k = ((m / 2 ^ k : Nat) : Int) := by simp
  rw [e]
  have := u32_and_nat (m / 2 ^ k) 1 (Nat.lt_of_le_of_lt (Nat.div_le_self _ _) hm) (by omega)
  rw [Nat.and_one_is_mod] at this
  exact this
/-- What is kept through the loop. -/
def Kept (lk : List Nat) (p k acc : Nat) (t : Bool) : Prop := acc < 2 ^ k ∧ (t = true ↔ acc ≠ 0) ∧ lk.length = 128 ∧ Cr.run 4294967295 lk = Cr.steps 32 4294967295 ^^^ Cr.steps (8 * 128 - p) acc
/-- Nothing, and an error. -/
def Nothing (w : World) (r : Int) (s11 s12 : Value) (wx : World) : Prop := ∃ (B : Option Addr) (d : Nat), s11 = .slice B 0 d ∧ s12 = .int .i64 r ∧ Below w.heap.size w wx
/-- A frame in an array. -/
def Laid (w : World) (l : List Nat) (s11 s12 : Value) (wx : World) : Prop := ∃ g : Nat, s11 = .slice (some ⟨g, 0, none⟩) 128 128 ∧ s12 = .int .i64 0 ∧ Arr wx g l ∧ w.heap.size ≤ g ∧ Below w.heap.size w wx
theorem dec_kept {v : World} {g p k acc : Nat} {t : Bool} {lk : List Nat} (ha : Arr v g lk) (hk : k ≤ 32) (hK : Kept lk p k acc t) :
    ∃ (f e i z : Int) (q : List Nat) (r : Int), Calls Try.prog 15 #[.slice (some ⟨g, 0, none⟩) 128 128] v (GivesDec v f e i z q r) ∧ (t = true → r = 40) := by
  obtain ⟨h1, h2, h3, h4⟩ := hK
  have hr := ha.rd 0 128 (by omega)
  rw [List.drop_zero, List.take_of_length_le (by omega)] at hr
  have hacc : acc < 4294967296 := Nat.lt_of_lt_of_le h1 (Nat.pow_le_pow_right (n := 2) (by omega) hk)
  cases hF : Fr.isF lk with
  | true => 
    refine ⟨_, _, _, _, _, _, decode_any _ 128 128 lk v hr (Nat.le_refl _) hF, fun ht => ?_⟩
    have := Fr.bent_none ha.2 hacc (h2.1 ht) h4
    rw [this] at hF; cases hF
  | false => exact ⟨_, _, _, _, _, _, decode_no _ 128 128 lk v hr (Nat.le_refl _) (by omega) hF, fun _ => rfl⟩
set_option maxRecDepth 100000 in
set_option maxHeartbeats 8000000 in
theorem walk (f0 e0 i0 : Int) (n1 : Int) (A2 : Option Addr) (m2 c2 : Nat) (l2 : List Nat) (n3 : Nat) (n4 : Nat) (w : World) (wl1 : -9223372036854775808 ≤ n1) (w1 : n1 ≤ 9223372036854775807) (r2 : Rd w A2 m2 l2) (wc2 : m2 ≤ c2) (w2 : m2 ≤ 9223372036854775807) (w3 : n3 < 65536) (w4 : n4 < 4294967296) :
    Calls Try.prog 8 #[.agg #[.int .i64 f0, .int .i64 e0, .int .i64 i0], .int .i64 n1, .slice A2 m2 c2, .int .u16 (n3 : Int), .int .u32 (n4 : Int)] w fun e w' => e = .returned (.bool true) ∧ Below w.heap.size w w' := by
  -- heartbeats 8000000
  have hm := r2.1
  subst hm
  have hcut := fun W => cut_any A2 l2.length c2 l2 W rfl wc2 w2
  have HCut := Lib.hid hcut
  have hpl := fun (W : World) (hW : Below w.heap.size w W) => (r2.take (k := min 300 l2.length) (Nat.min_le_right _ _)).below hW
  have hpe : (l2.take (min 300 l2.length)) = l2.take 300 := by rw [← List.take_take]; simp
  have hpn : (l2.take 300).length = min 300 l2.length := List.length_take
  rw [hpe, ← hpn] at hpl
  have hb256 : ∀ x ∈ l2.take 300, x < 256 := fun x hx => r2.2.1 x (List.mem_of_mem_take hx)
  have hbig : (l2.take 300).length ≤ 9223372036854775807 := by rw [hpn]; omega
  have hcs := enc_cases f0 e0 i0 n1 A2 c2 (l2.take 300) hbig
  clear hpe hpn hbig hcut
  generalize l2.take 300 = pl at *
  have HP := Lib.hid hpl
  clear hpl
  rcases hcs with ⟨r, hr, he⟩ | ⟨f, e, i, k, rfl, rfl, rfl, rfl, hs, hk, hn⟩
  · have HE := Lib.hid he
    have hrb : (r != 0) = true := by rw [bne_iff_ne]; exact hr
    clear he hb256 hr
    go_enter Try.func8, Try.ntmps8
    have k0 := Holds.new w #[.int .i64 f0, .int .i64 e0, .int .i64 i0] 23
    have hx0 : Below w.heap.size w (w.alloc (.cells #[.int .i64 f0, .int .i64 e0, .int .i64 i0] 23)) := (Below.refl _ _).alloc (Nat.le_refl _) _
    go_upto_region 1 with fail
    generalize (w.alloc (.cells #[.int .i64 f0, .int .i64 e0, .int .i64 i0] 23)) = W at *
    have c30 := k0.at_ 0 rfl
    have c31 := k0.at_ 1 rfl
    have c32 := k0.at_ 2 rfl
    have hxd : Below w.heap.size w W.drew := hx0.drew
    have k0d := k0.below ((Below.refl W.heap.size W).drew)
    go_cut [11, 12] from 11 to 27 (fun s11 s12 wx => Nothing w r s11 s12 wx)
    case first =>
      go_region_held3 (fun w' => w'.cell? ⟨w.heap.size, 0, none⟩ = some (.int .i64 f0) ∧ w'.cell? ⟨w.heap.size, 1, none⟩ = some (.int .i64 e0) ∧ w'.cell? ⟨w.heap.size, 2, none⟩ = some (.int .i64 i0)) (first | exact ⟨c30, c31, c32⟩ | exact ⟨(k0d.below hb1).at_ 0 rfl, (k0d.below hb1).at_ 1 rfl, (k0d.below hb1).at_ 2 rfl⟩) (first | (go_at_call 9; refine (HCut.out _).mono ?_; rintro e9 v0 ⟨rfl, rfl⟩) | (go_at_call 10; refine (HE.out _ (HP.out _ hxd)).mono ?_; rintro e9 v1 ⟨B, d, rfl, hr1, hd1, hb1⟩))
      all_goals (go_wp2_with fail; go_meet; case rel => exact ⟨B, d, rfl, rfl, below_next hxd hb1⟩)
    case rest =>
      obtain ⟨B, d, rfl, rfl, hx1⟩ := hcut
      clear c30 c31 c32
      go_wp2_with fail
      refine (awake_any _).mono ?_
      rintro e9 v2 ⟨rfl, hb2⟩
      have hx2 := below_next hx1 hb2
      go_wp2_with fail
      go_ret
      exact ⟨rfl, hx2⟩
  · have he := fun (W : World) (hW : Rd W A2 pl.length pl) => encode_arr f e i k A2 c2 pl W hs hk hW hn
    have hfi := (Fr.frame_is f e i k (p := pl) hs hk hb256 hn).1
    have hflt := Fr.frame_lt (k := k) (f := f) (e := e) (i := i) (p := pl) (by have := (Fr.okK_iff.1 hk).2; omega) hb256
    have hflen := Fr.frame_len (k := k) (f := f) (e := e) (i := i) hn
    generalize Fr.frame k f e i pl = L at *
    have hrun := Fr.run_frame hflt hfi
    have HE := Lib.hid he
    have HRun := Lib.hid hrun
    have HLen := Lib.hid hflen
    clear he hb256 hs hk hn hfi hflt hrun hflen
    go_enter Try.func8, Try.ntmps8
    have k0 := Holds.new w #[.int .i64 (f : Int), .int .i64 (e : Int), .int .i64 (i : Int)] 23
    have hx0 : Below w.heap.size w (w.alloc (.cells #[.int .i64 (f : Int), .int .i64 (e : Int), .int .i64 (i : Int)] 23)) := (Below.refl _ _).alloc (Nat.le_refl _) _
    go_upto_region 1 with fail
    generalize (w.alloc (.cells #[.int .i64 (f : Int), .int .i64 (e : Int), .int .i64 (i : Int)] 23)) = W at *
    have c30 := k0.at_ 0 rfl
    have c31 := k0.at_ 1 rfl
    have c32 := k0.at_ 2 rfl
    have hxd : Below w.heap.size w W.drew := hx0.drew
    have k0d := k0.below ((Below.refl W.heap.size W).drew)
    go_cut [11, 12] from 11 to 27 (fun s11 s12 wx => Laid w L s11 s12 wx)
    case first =>
      go_region_held3 (fun w' => w'.cell? ⟨w.heap.size, 0, none⟩ = some (.int .i64 (f : Int)) ∧ w'.cell? ⟨w.heap.size, 1, none⟩ = some (.int .i64 (e : Int)) ∧ w'.cell? ⟨w.heap.size, 2, none⟩ = some (.int .i64 (i : Int))) (first | exact ⟨c30, c31, c32⟩ | exact ⟨(k0d.below hb1).at_ 0 rfl, (k0d.below hb1).at_ 1 rfl, (k0d.below hb1).at_ 2 rfl⟩) (first | (go_at_call 9; refine (HCut.out _).mono ?_; rintro e9 v0 ⟨rfl, rfl⟩) | (go_at_call 10; refine (HE.out _ (HP.out _ hxd)).mono ?_; rintro e9 v1 ⟨g, rfl, hg1, hgs, hb1⟩))
      all_goals (go_wp2_with fail; go_meet; case rel => exact ⟨g, rfl, rfl, hg1, by have := hxd.size; omega, below_next hxd hb1⟩)
    case rest =>
      obtain ⟨g, rfl, rfl, hg1, hgs, hx1⟩ := hcut
      clear c30 c31 c32 hxd HE HP HCut
      have HG1 := Lib.hid hg1
      clear hg1
      by_cases hx0 : n4 = 0
      · subst hx0
        go_wp2_with fail
        refine (awake_any _).mono ?_
        rintro e9 v2 ⟨rfl, hb2⟩
        have hx2 := below_next hx1 hb2
        go_wp2_with fail
        go_ret
        exact ⟨rfl, hx2⟩
      · have hmne : ((n4 : Int) == 0) = false := by rw [beq_eq_false_iff_ne]; omega
        obtain ⟨p, hp, hp2⟩ : ∃ p : Nat, (n3 : Int) % 1024 = (p : Int) ∧ p < 1024 := ⟨n3 % 1024, by omega, Nat.mod_lt _ (by omega)⟩
        clear hx0
        go_wp2_with fail
        refine (awake_any _).mono ?_
        rintro e9 v2 ⟨rfl, hb2⟩
        have hx2 := below_next hx1 hb2
        have hg2 := HG1.out.below hb2
        have HG2 := Lib.hid hg2
        have HX2 := Lib.hid hx2
        clear hb2 hx1 HG1 hg2 hx2
        go_wp2_with fail
        rw [hp]
        clear hp hmne
        go_loopw [14, 15] (fun tv ii v => ∃ (k acc : Nat) (t : Bool) (lk : List Nat), k ≤ 32 ∧ ii = .int .i64 k ∧ tv = .bool t ∧ Arr v g lk ∧ Below w.heap.size w v ∧ Kept lk p k acc t) (fun _ ii _ => 32 - (intOf ii).toNat)
        case atStart => exact ⟨0, 0, false, L, by omega, rfl, rfl, HG2.out, HX2.out, by omega, by simp, HLen.out, by rw [HRun.out, Cr.steps_zero, Nat.xor_zero]⟩
        case round =>
          clear HG2 HX2
          obtain ⟨k, acc, t, lk, hk, rfl, rfl, ho, hb, hK⟩ := hrel
          by_cases hex : k < 32 ∧ p + k < 1024
          · obtain ⟨hlt, hin⟩ := hex
            have hbv := bit_val n4 k w4
            have hk32 : (k : Int) < 32 := by omega
            have hin' : (p : Int) + (k : Int) < 1024 := by omega
            have HK := Lib.hid hK
            have Ho := Lib.hid ho
            have Hb := Lib.hid hb
            clear hK ho hb
            by_cases hbit : n4 / 2 ^ k % 2 = 1
            · have hb1 : (bits .and .u32 ((n4 : Int) / 2 ^ k) 1 == 1) = true := by rw [hbv, hbit]; rfl
              clear hbv hbit
              obtain ⟨q, hq⟩ : ∃ q, q = (p + k) / 8 := ⟨_, rfl⟩
              obtain ⟨j, hj⟩ : ∃ j, j = (p + k) % 8 := ⟨_, rfl⟩
              have hq128 : q < 128 := by omega
              obtain ⟨x, hx⟩ : ∃ x, lk[q]? = some x := ⟨lk[q]'(by rw [HK.out.2.2.1]; exact hq128), List.getElem?_eq_getElem _⟩
              have hx2 := Ho.out.2 x (List.mem_of_getElem? hx)
              have hcell := Ho.out.cell hx
              have hfree := Ho.out.free q
              have hj8 : j < 8 := by omega
              have hj8' : (j : Int) < 8 := by omega
              have hpow : 2 ^ j < 256 := Nat.pow_lt_pow_right (a := 2) (m := j) (n := 8) (by omega) hj8
              have hxor : bits .xor .u8 (x : Int) ((2 : Int) ^ j % 256) = ((x ^^^ 2 ^ j : Nat) : Int) := by rw [pow_cast, mod_u8 _ hpow]; exact u8_xor_nat x (2 ^ j) hx2 hpow
              have hy : x ^^^ 2 ^ j < 256 := Nat.xor_lt_two_pow (n := 8) hx2 hpow
              have hqn : (q : Int) < 128 := by omega
              have hq' : ((p : Int) + (k : Int)) / 8 = (q : Int) := by omega
              have hj' : ((p : Int) + (k : Int)) % 8 = (j : Int) := by omega
              have hpk0 : 0 ≤ (p : Int) + (k : Int) := by omega
              have hturn := Cr.turn_step (n := 128) HK.out.2.2.1 (show p + k < 8 * 128 by omega) hq hj hx _ HK.out.2.2.2
              have hnext := Cr.acc_next HK.out.1
              have hlen2 : (lk.set q (x ^^^ 2 ^ j)).length = 128 := by rw [List.length_set]; exact HK.out.2.2.1
              have Hturn := Lib.hid hturn
              have Hnext := Lib.hid hnext
              have HLen2 := Lib.hid hlen2
              clear hturn hnext hx hq hj hlen2
              go_wp2
              go_roundw
              case rel => exact ⟨k + 1, acc ^^^ 2 ^ k, true, lk.set q (x ^^^ 2 ^ j), by omega, by go_num, rfl, Ho.out.set q _ hy, Hb.out.setCell (p := ⟨g, q, none⟩) hgs _, Hnext.out.1, ⟨fun _ => Hnext.out.2, fun _ => rfl⟩, HLen2.out, Hturn.out⟩
              case measure => simp [intOf]; omega
            · have hb1 : (bits .and .u32 ((n4 : Int) / 2 ^ k) 1 == 1) = false := by
                rw [hbv, beq_eq_false_iff_ne]; omega
              clear hbv hbit
              go_wp2
              go_roundw
              case rel => exact ⟨k + 1, acc, t, lk, by omega, by go_num, rfl, Ho.out, Hb.out, Cr.pow_next HK.out.1, HK.out.2⟩
              case measure => simp [intOf]; omega
          · obtain ⟨df, de, di, dz, dq, dr, hdec, h40⟩ := dec_kept ho hk hK
            have HDec := Lib.hid hdec
            have Hb := Lib.hid hb
            clear ho hb hK hdec HLen HRun
            have hways : (k < 32 ∧ ¬ p + k < 1024) ∨ k = 32 := by omega
            clear hex
            rcases hways with ⟨hlt, hge⟩ | rfl
            · have hk32 : (k : Int) < 32 := by omega
              have hin' : ¬ (p : Int) + (k : Int) < 1024 := by omega
              go_wp2_with fail
              refine HDec.out.mono ?_
              rintro e9 v5 ⟨B5, d5, rfl, _, hb5⟩
              have hx5 := below_next Hb.out hb5
              have hx6 := hx5.alloc hx5.size (.cells #[.int .i64 df, .int .i64 de, .int .i64 di] 23)
              cases t
              · clear h40
                go_wp2_with fail
                go_ret
                exact ⟨rfl, hx6⟩
              · obtain rfl := h40 rfl
                clear h40
                go_wp2_with fail
                go_ret
                exact ⟨rfl, hx6⟩
            · go_wp2_with fail
              refine HDec.out.mono ?_
              rintro e9 v5 ⟨B5, d5, rfl, _, hb5⟩
              have hx5 := below_next Hb.out hb5
              have hx6 := hx5.alloc hx5.size (.cells #[.int .i64 df, .int .i64 de, .int .i64 di] 23)
              cases t
              · clear h40
                go_wp2_with fail
                go_ret
                exact ⟨rfl, hx6⟩
              · obtain rfl := h40 rfl
                clear h40
                go_wp2_with fail
                go_ret
                exact ⟨rfl, hx6⟩
set_option maxRecDepth 100000 in
theorem lifted (os : Os) (started : os.Started) (H : Type) (enc : TypeId × Value → H) :
    ReturnsInHanded {} Try.checked os 8 .any (Rows.frameSpoiltSpec.pre6 enc Try.prog Try.f8 Rows.frameSpoiltRow.domain false) (Rows.frameSpoiltSpec.post enc Try.prog Try.f8 false true false false) := by
  refine returnsInHanded_of_change (C := Try.checked) own started (by kernel_rfl) Try.func8
    (ChangeSpec.witness6 (enc := enc) (C := Try.checked) false ⟨#[], #[.agg #[.int .i64 0, .int .i64 0, .int .i64 0], .int .i64 0, .slice none 0 0, .int .u16 0, .int .u32 0], []⟩ 8 (by kernel_rfl) (by kernel_rfl) (by kernel_rfl) (by kernel_rfl)) ?_
  intro W base args ds gs before hval0 hW hcnd _
  have hval : ∀ (j : Nat) t v, Try.f8.params[j]? = some t → args[j]? = some v → Value.okWide Try.prog W .any base t v := hval0
  have hW' := hW
  obtain ⟨p, q, hA0, hV, rfl, hfz, hnd⟩ := hW
  have hA : DataW.TrodAll enc Try.prog W 0 (fun _ => true) true Try.f8.params.toList args.toList ds p := hA0
  rw [Try.params8] at hA hval
  obtain ⟨v0, vs0, d0, ds0, p0, q0, hargs, rfl, rfl, h0, t0⟩ := trodAll_cons hA
  obtain ⟨v1, vs1, d1, ds1, p1, q1, rfl, rfl, rfl, h1, t1⟩ := trodAll_cons t0
  obtain ⟨v2, vs2, d2, ds2, p2, q2, rfl, rfl, rfl, h2, t2⟩ := trodAll_cons t1
  obtain ⟨v3, vs3, d3, ds3, p3, q3, rfl, rfl, rfl, h3, t3⟩ := trodAll_cons t2
  obtain ⟨v4, vs4, d4, ds4, p4, q4, rfl, rfl, rfl, h4, t4⟩ := trodAll_cons t3
  obtain ⟨rfl, rfl, rfl⟩ := trodAll_nil t4
  obtain rfl : args = #[v0, v1, v2, v3, v4] := by cases args; simp_all
  obtain ⟨rfl, rfl⟩ := trodVars_none hV
  have k0 : Reads enc W 23 v0 d0 p0 := h0
  have lt0 : ∀ x ∈ p0, x.block < W.heap.size := by obtain ⟨m, hm⟩ := k0; exact DataW.trod_lt m _ _ _ hm
  obtain ⟨f0, e0, i0, rfl⟩ := in_stamp (hval 0 23 v0 rfl rfl) k0
  have k1 : Reads enc W 3 v1 d1 p1 := h1
  have lt1 : ∀ x ∈ p1, x.block < W.heap.size := by obtain ⟨m, hm⟩ := k1; exact DataW.trod_lt m _ _ _ hm
  obtain ⟨n1, rfl, wl1, w1⟩ := in_int (hval 1 3 v1 rfl rfl) k1
  have k2 : Reads enc W 24 v2 d2 p2 := h2
  have lt2 : ∀ x ∈ p2, x.block < W.heap.size := by obtain ⟨m, hm⟩ := k2; exact DataW.trod_lt m _ _ _ hm
  obtain ⟨A2, m2, c2, l2, rfl, r2, wc2, w2⟩ := in_bytes (hval 2 24 v2 rfl rfl) k2
  have k3 : Reads enc W 39 v3 d3 p3 := h3
  have lt3 : ∀ x ∈ p3, x.block < W.heap.size := by obtain ⟨m, hm⟩ := k3; exact DataW.trod_lt m _ _ _ hm
  obtain ⟨n3, rfl, w3⟩ := in_u16 (hval 3 39 v3 rfl rfl) k3
  have k4 : Reads enc W 40 v4 d4 p4 := h4
  have lt4 : ∀ x ∈ p4, x.block < W.heap.size := by obtain ⟨m, hm⟩ := k4; exact DataW.trod_lt m _ _ _ hm
  obtain ⟨n4, rfl, w4⟩ := in_u32 (hval 4 40 v4 rfl rfl) k4
  clear hA0 hval0
  refine (walk f0 e0 i0 n1 A2 m2 c2 l2 n3 n4 W wl1 w1 r2 wc2 w2 w3 w4).mono fun e W' ⟨he, bel⟩ => ?_
  subst he
  exact ⟨_, rfl, _, _, _, [], _, [], hW', trodAll_mk1 (shut_bool Try.underlying4 _), (trodAll_cons_mk (Below.trod laidOut (by kernel_rfl) (of_decide_eq_true (by kernel_rfl)) k0 bel lt0) (trodAll_cons_mk (Below.trod laidOut (by kernel_rfl) (of_decide_eq_true (by kernel_rfl)) k1 bel lt1) (trodAll_cons_mk (Below.trod laidOut (by kernel_rfl) (of_decide_eq_true (by kernel_rfl)) k2 bel lt2) (trodAll_cons_mk (Below.trod laidOut (by kernel_rfl) (of_decide_eq_true (by kernel_rfl)) k3 bel lt3) (trodAll_cons_mk (Below.trod laidOut (by kernel_rfl) (of_decide_eq_true (by kernel_rfl)) k4 bel lt4) trodAll_mk0))))), rfl, bel.frame _, fun h => by cases h⟩
theorem over : Rows.frameSpoiltRow.holds Try.pinned (OpenSpec.ofChange Rows.frameSpoiltSpec) :=
  OpenClaim.holds_of_wide 8 Try.f8 rfl rfl rfl rfl rfl rfl rfl ⟨rfl, rfl, rfl, rfl, rfl⟩ rfl rfl rfl rfl rfl (by kernel_rfl) Try.func8 (by kernel_rfl)
    (of_decide_eq_true (by kernel_rfl)) (by unfold Func.isWrapper; first | (rw [if_pos (by decide +kernel)]; kernel_rfl) | (rw [if_neg (by decide +kernel)]; exact ⟨rfl, rfl⟩))
    (fun os started H enc _ => lifted os started H enc)
theorem proved : Rows.FrameSpoiltSaid := over
end Go.Proofs.Ytcckhdmdklholaa.frameSpoilt
