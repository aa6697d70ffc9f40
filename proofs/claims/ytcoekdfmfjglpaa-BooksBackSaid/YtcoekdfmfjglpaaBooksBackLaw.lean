/- A hold that is released and a grant that is spent leave totals as they were. -/
import Derived.Test.YtcoekdfmfjglpaaBoBack
import Derived.Test.YtcoekdfmfjglpaaBoLaw
import Derived.Test.YtcoekdfmfjglpaaIns
import Derived.Test.YtcoekdfmfjglpaaHolds
import Derived.WalkKit
import Derived.ProofKit
import Derived.OpenShut
import Derived.ShutString
import Derived.ChangeOld
import Derived.Below
import Derived.Deep.RegionHeld
namespace Go.Proofs.Ytcoekdfmfjglpaa.booksBack
open Go.ChangeShapes Go.WideShapes Go.ChangeAt Go.RowKit
set_option linter.unusedVariables false
theorem own : ownKnob Try.prog.godebug = none := by kernel_rfl
theorem laidOut : laidOutB Try.prog = true := by kernel_rfl
set_option maxRecDepth 100000 in
set_option maxHeartbeats 16000000 in
theorem walk (A0 : Option Addr) (m0 c0 : Nat) (l0 : List Bo.Tt) (s1 : ByteArray) (n2 : Int) (w : World) (r0 : RdT w A0 m0 l0) (wc0 : m0 ≤ c0) (w0 : m0 ≤ 9223372036854775807) (w1 : s1.size ≤ 9223372036854775807) (wl2 : -9223372036854775808 ≤ n2) (w2 : n2 ≤ 9223372036854775807) :
    Calls Try.prog 6 #[.slice A0 m0 c0, .string s1, .int .i64 n2] w fun e w' => e = .returned (.bool true) ∧ Below w.heap.size w w' := by
-- heartbeats 16000000
  have HRa := Lib.hid r0
  have HLe := Lib.hid (less_any A0 m0 c0 l0 w HRa.out w0)
  go_enter Try.func6, Try.ntmps6
  go_wp2_with fail
  refine HLe.out.mono ?_
  rintro e v1 ⟨B, c, rfl, hf, hr, hb⟩
  have HR1 := Lib.hid hr
  have HB1 := Lib.hid hb
  have HT := Lib.hid (Bo.less_most l0)
  clear hr hb HLe HRa r0
  generalize Bo.less l0 = T at *
  generalize hN : T.length = N at *
  have HN := Lib.hid hN
  clear hN
  have hN30 : N ≤ 30 := HT.out
  have hO0 := OwnC.empty 4 v1 46 v1.heap.size (Nat.le_refl _)
  have hR0 := (RdC.alloc HR1.out.2.1 (.cells #[] 46))
  go_upto_region 3 with (at_builtin; refine wpList_appN manyT rfl (.tmp 17) (.tmp 18) rfl rfl hO0 B N c (Bo.tflat T) (Bo.tflat_one _) rfl hR0 (by omega) (by simp) ?_; intro A3 c3 v3 hg3; have HK3 := Lib.hid (first_app ((Below.refl v1.heap.size v1).alloc (Nat.le_refl _) _) (Nat.le_refl _) hg3); clear hg3 hO0 hR0; rw [Nat.zero_add])
  go_cut [1] from 20 to 25 (fun t1 W => ∃ (key : ByteArray), t1 = .string key ∧ key.size ≤ 20 ∧ v3 = W)
  case first =>
    by_cases h1 : s1.size ≤ 20
    · have h1' : ¬ (20 : Int) < (s1.size : Int) := by omega
      go_wp2_with fail
      go_meet
      case rel => exact ⟨_, rfl, by first | omega | (rw [ByteArray.size_extract]; omega), rfl⟩
    · have h1' : (20 : Int) < (s1.size : Int) := by omega
      have h2' : (20 : Int) ≤ (s1.size : Int) := by omega
      go_wp2_with fail
      go_meet
      case rel => exact ⟨_, rfl, by rw [ByteArray.size_extract]; omega, rfl⟩
  case rest =>
    obtain ⟨key, rfl, hkey, hwc⟩ := hcut
    subst hwc
    have HBk := Lib.hid HK3.out.1
    have HKp := Lib.hid HK3.out.2.1
    have HR3 := Lib.hid (RdT.below HR1.out HBk.out)
    clear HK3
    have HQ4 := Lib.hid (Holds.new v3 #[.int .i64 1, .int .i64 2, .int .i64 3, .int .i64 5] 23)
    have hb4 : Below v3.heap.size v3 (v3.alloc (.cells #[.int .i64 1, .int .i64 2, .int .i64 3, .int .i64 5] 23)) := (Below.refl _ _).alloc (Nat.le_refl _) _
    have HB4 := Lib.hid (below_next HB1.out (HBk.out.trans (hb4.mono HBk.out.size)))
    have HR4 := Lib.hid (RdT.below HR3.out hb4)
    have HKd := Lib.hid (show RdT (v3.alloc (.cells #[.int .i64 1, .int .i64 2, .int .i64 3, .int .i64 5] 23)) A3 N T from ⟨HN.out, (OwnC.rd HKp.out).below hb4, HR3.out.2.2⟩)
    clear hb4 HR3 HKp HBk HB1 HR1
    go_wp2_with fail
    generalize (v3.alloc (.cells #[.int .i64 1, .int .i64 2, .int .i64 3, .int .i64 5] 23)) = v4 at *
    go_loopw [9] (fun ii wr => ∃ (j : Nat), j ≤ 2 ∧ ii = .int .i64 (2 * (j : Int)) ∧ Hid (Below v4.heap.size v4 wr)) (fun ii _ => 4 - (intOf ii).toNat)
    case atStart => exact ⟨0, by omega, rfl, Lib.hid (Below.refl _ _)⟩
    case round =>
      obtain ⟨j, hj, rfl, HB⟩ := hrel
      obtain ⟨wo, hwo⟩ : ∃ wo, wo = wr := ⟨wr, rfl⟩
      subst hwo
      have hall : j = 0 ∨ j = 1 ∨ j = 2 := by omega
      have HQ := Lib.hid (HQ4.out.below HB.out)
      have q0 := HQ.out.at_ 0 rfl
      have q1 := HQ.out.at_ 1 rfl
      have q2 := HQ.out.at_ 2 rfl
      have q3 := HQ.out.at_ 3 rfl
      rcases hall with rfl | rfl | rfl
      · have HA := Lib.hid (badd_any B N c T ⟨1, key, n2⟩ wo (RdT.below HR4.out HB.out) (by omega) (by show key.size ≤ _; omega))
        replace HA : Hid (Calls Try.prog 9 #[.slice B N c, .agg #[.int .i64 1, .string key, .int .i64 n2]] wo (GivesAdd wo T ⟨1, key, n2⟩)) := HA
        go_wp2_with fail
        refine HA.out.mono ?_
        rintro e v5 ⟨B5, c5, rfl, ho5, hb5⟩
        have HO5 := Lib.hid ho5
        have HB5 := Lib.hid hb5
        clear ho5 hb5 HA q0 q1 q2 q3
        have HBB5 := Lib.hid (HB.out.trans (HB5.out.mono HB.out.size))
        have HQ5 := Lib.hid (HQ4.out.below HBB5.out)
        have q0 := HQ5.out.at_ 0 rfl
        have q1 := HQ5.out.at_ 1 rfl
        have q2 := HQ5.out.at_ 2 rfl
        have q3 := HQ5.out.at_ 3 rfl
        by_cases h1 : Bo.addC T ⟨1, key, n2⟩ = 0
        · have HBa := Lib.hid (Bo.back (T := T) (s := key) (n := n2) (ka := 1) (kb := 2) (by omega) h1)
          have HLx := Lib.hid (Bo.addT_len T ⟨1, key, n2⟩)
          have HA2 := Lib.hid (badd_any B5 _ c5 _ ⟨2, key, n2⟩ v5 (add_rd HO5.out) (by have := HLx.out; have := HN.out; omega) (by show key.size ≤ _; omega))
          replace HA2 : Hid (Calls Try.prog 9 #[.slice B5 (Bo.addT T ⟨1, key, n2⟩).length c5, .agg #[.int .i64 2, .string key, .int .i64 n2]] v5 (GivesAdd v5 (Bo.addT T ⟨1, key, n2⟩) ⟨2, key, n2⟩)) := HA2
          rw [h1]
          clear h1
          go_wp2_with fail
          refine HA2.out.mono ?_
          rintro e v6 ⟨B6, c6, rfl, ho6, hb6⟩
          have HR6 := Lib.hid (add_rd ho6)
          have HO6 := Lib.hid (OwnC.below HO5.out hb6)
          have HB6 := Lib.hid (below_next HB5.out hb6)
          clear ho6 hb6 HA2 q0 q1 q2 q3
          rw [HBa.out.1, HBa.out.2.2]
          rw [HBa.out.2.2] at HR6
          have HSm := Lib.hid (same_any B6 B _ c6 N c _ T v6 HR6.out (RdT.below HR4.out (HB.out.trans (HB6.out.mono HB.out.size))) (by have := HLx.out; have := HN.out; omega) (by omega))
          rw [HBa.out.2.1] at HSm
          have HL2 := Lib.hid (show (Bo.addT T ⟨1, key, n2⟩).length ≤ 31 by have := HLx.out; have := HN.out; omega)
          generalize (Bo.addT T ⟨1, key, n2⟩).length = L at *
          have hLL : ((L : Int) == (L : Int)) = true := by simp
          go_wp2_with fail
          refine HSm.out.mono ?_
          rintro e v7 ⟨t, rfl, ht, hb7⟩
          have ht2 : t = true := by simpa using ht
          subst ht2
          have HO7 := Lib.hid (OwnC.below HO6.out hb7)
          have HB7 := Lib.hid (below_next HB6.out hb7)
          have hL31 := HL2.out
          clear ht hb7 HSm HR6 HO6 HO5 HBa HLx
          generalize Bo.tflat (Bo.addT T ⟨1, key, n2⟩) = vs at *
          go_wp2_with fail
          go_loopw [14] (fun ii wz => ∃ (k : Nat) (us : List Value), k ≤ L ∧ ii = .int .i64 (k : Int) ∧ Hid (OwnC 4 wz wo.heap.size 46 B5 L c5 us) ∧ Hid (Below wo.heap.size wo wz)) (fun ii _ => L - (intOf ii).toNat)
          case atStart => exact ⟨0, vs, by omega, rfl, HO7, HB7⟩
          case round =>
            obtain ⟨k, us, hk, rfl, HOz, HBz⟩ := hrel
            by_cases hkL : k < L
            · have hki : (k : Int) < (L : Int) := by omega
              obtain ⟨g, rfl, hg1, hg2⟩ := HOz.out.form (by omega)
              obtain ⟨u, hu⟩ := own_cell HOz.out (j := k * 4 + 1) (by omega)
              have hfz := own_free HOz.out (k * 4 + 1)
              have HOn := Lib.hid (own_stored HOz.out (k * 4 + 1) (.int .i64 (-1)))
              have HBn := Lib.hid (HBz.out.setCell (p := ⟨g, k * 4 + 1, none⟩) hg1 (.int .i64 (-1)))
              clear hg1 hg2
              go_wp2
              go_roundw
              case rel => exact ⟨k + 1, _, by omega, by go_num, HOn, HBn⟩
              case measure => simp [intOf]; omega
            · have hke : k = L := by omega
              obtain rfl : L = k := hke.symm
              have hnk : ¬ (L : Int) < (L : Int) := by omega
              clear hkL
              go_wp2
              go_roundw
              case rel => exact ⟨0 + 1, by omega, by go_num, Lib.hid (HB.out.trans (HBz.out.mono HB.out.size))⟩
              case measure => simp [intOf]
        · have hne : (Bo.addC T ⟨1, key, n2⟩ == 0) = false := beq_eq_false_iff_ne.2 h1
          generalize Bo.addC T ⟨1, key, n2⟩ = E1 at *
          go_wp2
          go_roundw
          case rel => exact ⟨0 + 1, by omega, by go_num, HBB5⟩
          case measure => simp [intOf]
      · have HA := Lib.hid (badd_any B N c T ⟨3, key, n2⟩ wo (RdT.below HR4.out HB.out) (by omega) (by show key.size ≤ _; omega))
        replace HA : Hid (Calls Try.prog 9 #[.slice B N c, .agg #[.int .i64 3, .string key, .int .i64 n2]] wo (GivesAdd wo T ⟨3, key, n2⟩)) := HA
        go_wp2_with fail
        refine HA.out.mono ?_
        rintro e v5 ⟨B5, c5, rfl, ho5, hb5⟩
        have HO5 := Lib.hid ho5
        have HB5 := Lib.hid hb5
        clear ho5 hb5 HA q0 q1 q2 q3
        have HBB5 := Lib.hid (HB.out.trans (HB5.out.mono HB.out.size))
        have HQ5 := Lib.hid (HQ4.out.below HBB5.out)
        have q0 := HQ5.out.at_ 0 rfl
        have q1 := HQ5.out.at_ 1 rfl
        have q2 := HQ5.out.at_ 2 rfl
        have q3 := HQ5.out.at_ 3 rfl
        by_cases h1 : Bo.addC T ⟨3, key, n2⟩ = 0
        · have HBa := Lib.hid (Bo.back (T := T) (s := key) (n := n2) (ka := 3) (kb := 5) (by omega) h1)
          have HLx := Lib.hid (Bo.addT_len T ⟨3, key, n2⟩)
          have HA2 := Lib.hid (badd_any B5 _ c5 _ ⟨5, key, n2⟩ v5 (add_rd HO5.out) (by have := HLx.out; have := HN.out; omega) (by show key.size ≤ _; omega))
          replace HA2 : Hid (Calls Try.prog 9 #[.slice B5 (Bo.addT T ⟨3, key, n2⟩).length c5, .agg #[.int .i64 5, .string key, .int .i64 n2]] v5 (GivesAdd v5 (Bo.addT T ⟨3, key, n2⟩) ⟨5, key, n2⟩)) := HA2
          rw [h1]
          clear h1
          go_wp2_with fail
          refine HA2.out.mono ?_
          rintro e v6 ⟨B6, c6, rfl, ho6, hb6⟩
          have HR6 := Lib.hid (add_rd ho6)
          have HO6 := Lib.hid (OwnC.below HO5.out hb6)
          have HB6 := Lib.hid (below_next HB5.out hb6)
          clear ho6 hb6 HA2 q0 q1 q2 q3
          rw [HBa.out.1, HBa.out.2.2]
          rw [HBa.out.2.2] at HR6
          have HSm := Lib.hid (same_any B6 B _ c6 N c _ T v6 HR6.out (RdT.below HR4.out (HB.out.trans (HB6.out.mono HB.out.size))) (by have := HLx.out; have := HN.out; omega) (by omega))
          rw [HBa.out.2.1] at HSm
          have HL2 := Lib.hid (show (Bo.addT T ⟨3, key, n2⟩).length ≤ 31 by have := HLx.out; have := HN.out; omega)
          generalize (Bo.addT T ⟨3, key, n2⟩).length = L at *
          have hLL : ((L : Int) == (L : Int)) = true := by simp
          go_wp2_with fail
          refine HSm.out.mono ?_
          rintro e v7 ⟨t, rfl, ht, hb7⟩
          have ht2 : t = true := by simpa using ht
          subst ht2
          have HO7 := Lib.hid (OwnC.below HO6.out hb7)
          have HB7 := Lib.hid (below_next HB6.out hb7)
          have hL31 := HL2.out
          clear ht hb7 HSm HR6 HO6 HO5 HBa HLx
          generalize Bo.tflat (Bo.addT T ⟨3, key, n2⟩) = vs at *
          go_wp2_with fail
          go_loopw [14] (fun ii wz => ∃ (k : Nat) (us : List Value), k ≤ L ∧ ii = .int .i64 (k : Int) ∧ Hid (OwnC 4 wz wo.heap.size 46 B5 L c5 us) ∧ Hid (Below wo.heap.size wo wz)) (fun ii _ => L - (intOf ii).toNat)
          case atStart => exact ⟨0, vs, by omega, rfl, HO7, HB7⟩
          case round =>
            obtain ⟨k, us, hk, rfl, HOz, HBz⟩ := hrel
            by_cases hkL : k < L
            · have hki : (k : Int) < (L : Int) := by omega
              obtain ⟨g, rfl, hg1, hg2⟩ := HOz.out.form (by omega)
              obtain ⟨u, hu⟩ := own_cell HOz.out (j := k * 4 + 1) (by omega)
              have hfz := own_free HOz.out (k * 4 + 1)
              have HOn := Lib.hid (own_stored HOz.out (k * 4 + 1) (.int .i64 (-1)))
              have HBn := Lib.hid (HBz.out.setCell (p := ⟨g, k * 4 + 1, none⟩) hg1 (.int .i64 (-1)))
              clear hg1 hg2
              go_wp2
              go_roundw
              case rel => exact ⟨k + 1, _, by omega, by go_num, HOn, HBn⟩
              case measure => simp [intOf]; omega
            · have hke : k = L := by omega
              obtain rfl : L = k := hke.symm
              have hnk : ¬ (L : Int) < (L : Int) := by omega
              clear hkL
              go_wp2
              go_roundw
              case rel => exact ⟨1 + 1, by omega, by go_num, Lib.hid (HB.out.trans (HBz.out.mono HB.out.size))⟩
              case measure => simp [intOf]
        · have hne : (Bo.addC T ⟨3, key, n2⟩ == 0) = false := beq_eq_false_iff_ne.2 h1
          generalize Bo.addC T ⟨3, key, n2⟩ = E1 at *
          go_wp2
          go_roundw
          case rel => exact ⟨1 + 1, by omega, by go_num, HBB5⟩
          case measure => simp [intOf]
      · have HQe := Lib.hid (equal_any B A3 N c N c3 T T wo (RdT.below HR4.out HB.out) (RdT.below HKd.out HB.out) (by omega) (by omega))
        clear q0 q1 q2 q3
        go_wp2_with fail
        refine HQe.out.mono ?_
        rintro e v8 ⟨t, rfl, ht, hb8⟩
        have ht2 : t = true := by simpa using ht
        subst ht2
        have HB8 := Lib.hid (below_next HB4.out (HB.out.trans (hb8.mono HB.out.size)))
        clear ht hb8
        go_wp2_with fail
        refine (awake_any _).mono ?_
        rintro e v9 ⟨rfl, hb9⟩
        have HF := Lib.hid (below_next HB8.out hb9)
        clear hb9
        go_wp2
        go_ret
        exact ⟨rfl, HF.out⟩
set_option maxRecDepth 100000 in
theorem lifted (os : Os) (started : os.Started) (H : Type) (enc : TypeId × Value → H) :
    ReturnsInHanded {} Try.checked os 6 .any (Rows.booksBackSpec.pre6 enc Try.prog Try.f6 Rows.booksBackRow.domain false) (Rows.booksBackSpec.post enc Try.prog Try.f6 false true false false) := by
  refine returnsInHanded_of_change (C := Try.checked) own started (by kernel_rfl) Try.func6
    (ChangeSpec.witness6 (enc := enc) (C := Try.checked) false ⟨#[], #[.slice none 0 0, .string ⟨#[]⟩, .int .i64 0], []⟩ 8 (by kernel_rfl) (by kernel_rfl) (by kernel_rfl) (by kernel_rfl)) ?_
  intro W base args ds gs before hval0 hW hcnd _
  have hval : ∀ (j : Nat) t v, Try.f6.params[j]? = some t → args[j]? = some v → Value.okWide Try.prog W .any base t v := hval0
  have hW' := hW
  obtain ⟨p, q, hA0, hV, rfl, hfz, hnd⟩ := hW
  have hA : DataW.TrodAll enc Try.prog W 0 (fun _ => true) true Try.f6.params.toList args.toList ds p := hA0
  rw [Try.params6] at hA hval
  obtain ⟨v0, vs0, d0, ds0, p0, q0, hargs, rfl, rfl, h0, t0⟩ := trodAll_cons hA
  obtain ⟨v1, vs1, d1, ds1, p1, q1, rfl, rfl, rfl, h1, t1⟩ := trodAll_cons t0
  obtain ⟨v2, vs2, d2, ds2, p2, q2, rfl, rfl, rfl, h2, t2⟩ := trodAll_cons t1
  obtain ⟨rfl, rfl, rfl⟩ := trodAll_nil t2
  obtain rfl : args = #[v0, v1, v2] := by cases args; simp_all
  obtain ⟨rfl, rfl⟩ := trodVars_none hV
  have k0 : Reads enc W 22 v0 d0 p0 := h0
  have lt0 : ∀ x ∈ p0, x.block < W.heap.size := by obtain ⟨m, hm⟩ := k0; exact DataW.trod_lt m _ _ _ hm
  obtain ⟨A0, m0, c0, l0, rfl, r0, wc0, w0⟩ := in_tots (hval 0 22 v0 rfl rfl) k0
  have k1 : Reads enc W 9 v1 d1 p1 := h1
  have lt1 : ∀ x ∈ p1, x.block < W.heap.size := by obtain ⟨m, hm⟩ := k1; exact DataW.trod_lt m _ _ _ hm
  obtain ⟨s1, rfl, w1⟩ := in_str (hval 1 9 v1 rfl rfl) k1
  have k2 : Reads enc W 3 v2 d2 p2 := h2
  have lt2 : ∀ x ∈ p2, x.block < W.heap.size := by obtain ⟨m, hm⟩ := k2; exact DataW.trod_lt m _ _ _ hm
  obtain ⟨n2, rfl, wl2, w2⟩ := in_int (hval 2 3 v2 rfl rfl) k2
  clear hA0 hval0
  refine (walk A0 m0 c0 l0 s1 n2 W r0 wc0 w0 w1 wl2 w2).mono fun e W' ⟨he, bel⟩ => ?_
  subst he
  exact ⟨_, rfl, _, _, _, [], _, [], hW', trodAll_mk1 (shut_bool Try.underlying4 _), (trodAll_cons_mk (Below.trod laidOut (by kernel_rfl) (of_decide_eq_true (by kernel_rfl)) k0 bel lt0) (trodAll_cons_mk (Below.trod laidOut (by kernel_rfl) (of_decide_eq_true (by kernel_rfl)) k1 bel lt1) (trodAll_cons_mk (Below.trod laidOut (by kernel_rfl) (of_decide_eq_true (by kernel_rfl)) k2 bel lt2) trodAll_mk0))), rfl, bel.frame _, fun h => by cases h⟩
theorem over : Rows.booksBackRow.holds Try.pinned (OpenSpec.ofChange Rows.booksBackSpec) :=
  OpenClaim.holds_of_wide 6 Try.f6 rfl rfl rfl rfl rfl rfl rfl ⟨rfl, rfl, rfl, rfl, rfl⟩ rfl rfl rfl rfl rfl (by kernel_rfl) Try.func6 (by kernel_rfl)
    (of_decide_eq_true (by kernel_rfl)) (by unfold Func.isWrapper; first | (rw [if_pos (by decide +kernel)]; kernel_rfl) | (rw [if_neg (by decide +kernel)]; exact ⟨rfl, rfl⟩))
    (fun os started H enc _ => lifted os started H enc)
theorem proved : Rows.BooksBackSaid := over
end Go.Proofs.Ytcoekdfmfjglpaa.booksBack
