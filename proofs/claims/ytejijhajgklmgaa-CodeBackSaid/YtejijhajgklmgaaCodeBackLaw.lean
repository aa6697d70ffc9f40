/- For every number, string, slice of strings and slice of bytes (cut as the law cuts them): what was written as a number, a text, a number of 8 bytes and a key is taken, whatever stands behind it (P2.6), and the example at the head holds; the arguments stay as they were. No condition. -/
import Derived.Test.YtejijhajgklmgaaCodeUniK
import Derived.WalkKit
import Derived.ProofKit
import Derived.OpenShut
import Derived.ShutString
import Derived.ChangeOld
import Derived.Below
import Derived.Deep.RegionHeld
namespace Go.Proofs.Ytejijhajgklmgaa.codeBack
open Go.ChangeShapes Go.WideShapes Go.ChangeAt Go.RowKit
set_option linter.unusedVariables false
theorem own : ownKnob Try.prog.godebug = none := by kernel_rfl
theorem laidOut : laidOutB Try.prog = true := by kernel_rfl
set_option maxRecDepth 100000 in
set_option maxHeartbeats 2000000 in
theorem walk (n0 : Nat) (s1 : ByteArray) (A2 : Option Addr) (m2 c2 : Nat) (l2 : List ByteArray) (A3 : Option Addr) (m3 c3 : Nat) (l3 : List Nat) (w : World) (w0 : n0 < 18446744073709551616) (w1 : s1.size ≤ 9223372036854775807) (r2 : RdS w A2 m2 l2) (wc2 : m2 ≤ c2) (w2 : m2 ≤ 9223372036854775807) (ws2 : ∀ s ∈ l2, s.size ≤ 9223372036854775807) (r3 : Rd w A3 m3 l3) (wc3 : m3 ≤ c3) (w3 : m3 ≤ 9223372036854775807) :
    Calls Try.prog 7 #[.int .u64 (n0 : Int), .string s1, .slice A2 m2 c2, .slice A3 m3 c3] w fun e w' => e = .returned (.bool true) ∧ Below w.heap.size w w' := by
  -- heartbeats 2000000
  have hl := r3.take (k := min m3 4096) (by omega)
  have hcut := fun w => cut_any A3 m3 c3 wc3 w3 w
  have hmn : min m3 4096 ≤ 4096 := by omega
  have hmc : min m3 4096 ≤ c3 := by omega
  have Hcut := Lib.hid hcut
  clear hcut r3
  generalize l3.take (min m3 4096) = l at hl
  generalize min m3 4096 = m at hl hmn hmc Hcut
  have hsh := fun w => short_any s1 w1 w
  have hcs := cutS_size s1
  have Hsh := Lib.hid hsh
  have hrl := rowsOf_length l2
  have hrs : ∀ p ∈ rowsOf l2, p.size ≤ 4096 := by
    intro p hp
    obtain ⟨q, _, rfl⟩ := List.mem_map.1 hp
    exact cutS_size q
  have Hrs := Lib.hid hrs
  clear hsh hrs
  have hnl := Cd.num_length n0
  have hfl : (Cd.fixed n0 8).length = 8 := by
    show (Cd.lowTo n0 8).reverse.length = 8
    rw [List.length_reverse, Cd.lowTo_length]
  have Hfl := Lib.hid hfl
  clear hfl
  go_enter Try.func7, Try.ntmps7
  go_wp2_with fail
  refine (Hsh.out _).mono ?_
  rintro e v1 ⟨rfl, rfl⟩
  generalize cutS s1 = s at *
  have htl : (Cd.text s).length ≤ 4107 := by
    have := Cd.num_length s.size
    unfold Cd.text; rw [List.length_append, bs_length]; omega
  go_wp2_with fail
  refine (rows_any A2 m2 c2 l2 _ r2 w2 ws2).mono ?_
  rintro e v1 ⟨A1', cap1, rfl, hr1, _, hb1⟩
  generalize rowsOf l2 = a at *
  go_wp2_with fail
  refine (Hcut.out _).mono ?_
  rintro e v2 ⟨rfl, rfl⟩
  have hl1 := hl.below hb1
  clear hl
  go_wp2_with fail
  refine (num_any n0 w0 _).mono ?_
  rintro e v2 ⟨A2', cap2, rfl, ho2, hb2⟩
  have hs2 := hb2.size
  have hl2 := hl1.below hb2
  go_wp2_with (first | (at_builtin; refine wpList_appB rfl (.tmp 30) (.tmp 31) rfl rfl ho2 A3 m c3 l rfl hl2 (by omega) hs2 ?_; intro A4 c4 v4 hg4; have hb4 := hg4.below hb2 hs2 (fun g hg => (ho2.blk g hg).1); have ho4 := hg4.own))
  have hx4 := below_next hb1 hb4
  have hl4 := hl1.below hb4
  have hr4 := hr1.below hb4
  clear hb1 hb2 hl1 hr1 hl2 ho2 hs2 hg4 hb4
  have ht := takenum_any A4 _ c4 (Cd.num n0 ++ l) _ ho4.rd ho4.cap (by omega)
  rw [takeNum_num n0 w0] at ht
  refine ht.mono ?_
  rintro e v5 ⟨B5, d5, rfl, hq5, _, hb5⟩
  have hx5 := below_next hx4 hb5
  have hl5 := hl4.below hb5
  have hr5 := hr4.below hb5
  clear ht hx4 hl4 hr4 hb5 ho4
  go_wp2_with fail
  refine (text_any s (by omega) _).mono ?_
  rintro e v6 ⟨A6, c6, rfl, ho6, hb6⟩
  have hs6 := hb6.size
  have hl6 := hl5.below hb6
  go_wp2_with (first | (at_builtin; refine wpList_appB rfl (.tmp 39) (.tmp 40) rfl rfl ho6 A3 m c3 l rfl hl6 (by omega) hs6 ?_; intro A7 c7 v7 hg7; have hb7 := hg7.below hb6 hs6 (fun g hg => (ho6.blk g hg).1); have ho7 := hg7.own))
  have hx7 := below_next hx5 hb7
  have hl7 := hl5.below hb7
  have hr7 := hr5.below hb7
  have hq7 := hq5.below hb7
  clear hx5 hl5 hr5 hq5 hb7 hb6 ho6 hs6 hl6 hg7
  have ht := taketext_any A7 _ c7 (s.size : Int) (Cd.text s ++ l) _ ho7.rd ho7.cap (by omega) (by omega)
  rw [takeText_text s (by omega)] at ht
  refine ht.mono ?_
  rintro e v8 ⟨B8, d8, rfl, hq8, _, hb8⟩
  have hx8 := below_next hx7 hb8
  have hl8 := hl7.below hb8
  have hr8 := hr7.below hb8
  have hp8 := hq7.below hb8
  clear ht hx7 hl7 hr7 hq7 hb8 ho7
  rw [str_bs]
  go_wp2_with fail
  refine (fixed_any n0 8 w0 _).mono ?_
  rintro e v9 ⟨A9, c9, rfl, ho9, hb9⟩
  have hs9 := hb9.size
  have hl9 := hl8.below hb9
  rw [Hfl.out] at ho9
  rw [Hfl.out]
  go_wp2_with (first | (at_builtin; refine wpList_appB rfl (.tmp 50) (.tmp 51) rfl rfl ho9 A3 m c3 l rfl hl9 (by omega) hs9 ?_; intro A10 c10 v10 hg10; have hb10 := hg10.below hb9 hs9 (fun g hg => (ho9.blk g hg).1); have ho10 := hg10.own))
  have hx10 := below_next hx8 hb10
  have hl10 := hl8.below hb10
  have hr10 := hr8.below hb10
  have hq10 := hq8.below hb10
  have hp10 := hp8.below hb10
  clear hx8 hl8 hr8 hq8 hp8 hb10 hb9 ho9 hs9 hl9 hg10
  have ht := takefixed_any A10 _ c10 8 (Cd.fixed n0 8 ++ l) _ ho10.rd ho10.cap (by omega)
  rw [takeFixed_fixed n0 w0] at ht
  refine ht.mono ?_
  rintro e v11 ⟨B11, d11, rfl, hq11, _, hb11⟩
  have hx11 := below_next hx10 hb11
  have c1 := run_str (cap := c3) (hl10.below hb11)
  have hr11 := hr10.below hb11
  have c2' := run_str (cap := d8) (hq10.below hb11)
  have c3' := run_str (cap := d5) (hp10.below hb11)
  have c4' := run_str (cap := d11) hq11
  clear ht hx10 hl10 hr10 hq10 hp10 hb11 ho10
  go_wp2_with fail
  refine (key_any A1' _ cap1 a _ hr11 (fun p hp => Nat.le_trans (Hrs.out p hp) (by omega))).mono ?_
  rintro e v12 ⟨rfl, hb12⟩
  have hx12 := below_next hx11 hb12
  have hr12 := hr11.below hb12
  clear hx11 hr11 hb12 c1 c2' c3' c4'
  have hkl : (keyS a).size ≤ 100000 := by
    unfold keyS
    split
    · decide
    · rename_i h8
      have h1 := Cd.keyOf_length a 4096 Hrs.out
      have h2 : a.length * (2 * 4096 + 2) ≤ 8 * (2 * 4096 + 2) := Nat.mul_le_mul_right _ (by omega)
      rw [← bs_length, bs_str (Cd.keyOf_lt a)]
      omega
  go_wp2_with fail
  refine (parts_any (keyS a) hkl _).mono ?_
  intro e v13 hg13
  obtain ⟨A13, c13, rfl, hq13, hb13⟩ := hg13.uni
  clear hg13
  have hx13 := below_next hx12 hb13
  have hr13 := hr12.below hb13
  clear hx12 hr12 hb13 hkl
  by_cases h8 : 8 < a.length
  · have h8' : (8 : Int) < (a.length : Int) := by omega
    have he : keyE a = 3 := by unfold keyE; rw [if_pos h8]
    rw [he]
    generalize keyS a = ks at *
    clear he
    go_wp2_with fail
    refine (awake_any _).mono ?_
    rintro e v14 ⟨rfl, hb14⟩
    go_wp2_with fail
    go_ret
    exact ⟨rfl, below_next hx13 hb14⟩
  · have h8' : ¬ (8 : Int) < (a.length : Int) := by omega
    have he : keyE a = 0 := by unfold keyE; rw [if_neg h8]
    have hps : Cd.parts (bs (keyS a)) = some a := by
      unfold keyS
      rw [if_neg h8, bs_str (Cd.keyOf_lt a), parts_keyOf a (by omega)]
    rw [he, hps]
    rw [hps] at hq13
    generalize keyS a = ks at *
    clear he hps
    have hq13' : RdS v13 A13 a.length a := hq13
    have hpl : partsL (some a) = a := rfl
    have hpe : partsE (some a) = 0 := rfl
    rw [hpl, hpe]
    clear hpl hpe hq13
    go_wp2_with fail
    refine (same_yes A13 A1' _ c13 _ cap1 a _ hq13' hr13 (by omega) (by omega)).mono ?_
    rintro e v14 ⟨rfl, hb14⟩
    go_wp2_with fail
    refine (awake_any _).mono ?_
    rintro e v15 ⟨rfl, hb15⟩
    go_wp2_with fail
    go_ret
    exact ⟨rfl, below_next (below_next hx13 hb14) hb15⟩
set_option maxRecDepth 100000 in
theorem lifted (os : Os) (started : os.Started) (H : Type) (enc : TypeId × Value → H) :
    ReturnsInHanded {} Try.checked os 7 .any (Rows.codeBackSpec.pre6 enc Try.prog Try.f7 Rows.codeBackRow.domain false) (Rows.codeBackSpec.post enc Try.prog Try.f7 false true false false) := by
  refine returnsInHanded_of_change (C := Try.checked) own started (by kernel_rfl) Try.func7
    (ChangeSpec.witness6 (enc := enc) (C := Try.checked) false ⟨#[], #[.int .u64 0, .string ⟨#[]⟩, .slice none 0 0, .slice none 0 0], []⟩ 8 (by kernel_rfl) (by kernel_rfl) (by kernel_rfl) (by kernel_rfl)) ?_
  intro W base args ds gs before hval0 hW hcnd _
  have hval : ∀ (j : Nat) t v, Try.f7.params[j]? = some t → args[j]? = some v → Value.okWide Try.prog W .any base t v := hval0
  have hW' := hW
  obtain ⟨p, q, hA0, hV, rfl, hfz, hnd⟩ := hW
  have hA : DataW.TrodAll enc Try.prog W 0 (fun _ => true) true Try.f7.params.toList args.toList ds p := hA0
  rw [Try.params7] at hA hval
  obtain ⟨v0, vs0, d0, ds0, p0, q0, hargs, rfl, rfl, h0, t0⟩ := trodAll_cons hA
  obtain ⟨v1, vs1, d1, ds1, p1, q1, rfl, rfl, rfl, h1, t1⟩ := trodAll_cons t0
  obtain ⟨v2, vs2, d2, ds2, p2, q2, rfl, rfl, rfl, h2, t2⟩ := trodAll_cons t1
  obtain ⟨v3, vs3, d3, ds3, p3, q3, rfl, rfl, rfl, h3, t3⟩ := trodAll_cons t2
  obtain ⟨rfl, rfl, rfl⟩ := trodAll_nil t3
  obtain rfl : args = #[v0, v1, v2, v3] := by cases args; simp_all
  obtain ⟨rfl, rfl⟩ := trodVars_none hV
  have k0 : Reads enc W 22 v0 d0 p0 := h0
  have lt0 : ∀ x ∈ p0, x.block < W.heap.size := by obtain ⟨m, hm⟩ := k0; exact DataW.trod_lt m _ _ _ hm
  obtain ⟨n0, rfl, w0⟩ := in_u64 (hval 0 22 v0 rfl rfl) k0
  have k1 : Reads enc W 9 v1 d1 p1 := h1
  have lt1 : ∀ x ∈ p1, x.block < W.heap.size := by obtain ⟨m, hm⟩ := k1; exact DataW.trod_lt m _ _ _ hm
  obtain ⟨s1, rfl, w1⟩ := in_str (hval 1 9 v1 rfl rfl) k1
  have k2 : Reads enc W 38 v2 d2 p2 := h2
  have lt2 : ∀ x ∈ p2, x.block < W.heap.size := by obtain ⟨m, hm⟩ := k2; exact DataW.trod_lt m _ _ _ hm
  obtain ⟨A2, m2, c2, l2, rfl, r2, wc2, w2, ws2⟩ := in_strs (hval 2 38 v2 rfl rfl) k2
  have k3 : Reads enc W 23 v3 d3 p3 := h3
  have lt3 : ∀ x ∈ p3, x.block < W.heap.size := by obtain ⟨m, hm⟩ := k3; exact DataW.trod_lt m _ _ _ hm
  obtain ⟨A3, m3, c3, l3, rfl, r3, wc3, w3⟩ := in_bytes (hval 3 23 v3 rfl rfl) k3
  clear hA0 hval0
  refine (walk n0 s1 A2 m2 c2 l2 A3 m3 c3 l3 W w0 w1 r2 wc2 w2 ws2 r3 wc3 w3).mono fun e W' ⟨he, bel⟩ => ?_
  subst he
  exact ⟨_, rfl, _, _, _, [], _, [], hW', trodAll_mk1 (shut_bool Try.underlying4 _), (trodAll_cons_mk (Below.trod laidOut (by kernel_rfl) (of_decide_eq_true (by kernel_rfl)) k0 bel lt0) (trodAll_cons_mk (Below.trod laidOut (by kernel_rfl) (of_decide_eq_true (by kernel_rfl)) k1 bel lt1) (trodAll_cons_mk (Below.trod laidOut (by kernel_rfl) (of_decide_eq_true (by kernel_rfl)) k2 bel lt2) (trodAll_cons_mk (Below.trod laidOut (by kernel_rfl) (of_decide_eq_true (by kernel_rfl)) k3 bel lt3) trodAll_mk0)))), rfl, bel.frame _, fun h => by cases h⟩
theorem over : Rows.codeBackRow.holds Try.pinned (OpenSpec.ofChange Rows.codeBackSpec) :=
  OpenClaim.holds_of_wide 7 Try.f7 rfl rfl rfl rfl rfl rfl rfl ⟨rfl, rfl, rfl, rfl, rfl⟩ rfl rfl rfl rfl rfl (by kernel_rfl) Try.func7 (by kernel_rfl)
    (of_decide_eq_true (by kernel_rfl)) (by unfold Func.isWrapper; first | (rw [if_pos (by decide +kernel)]; kernel_rfl) | (rw [if_neg (by decide +kernel)]; exact ⟨rfl, rfl⟩))
    (fun os started H enc _ => lifted os started H enc)
theorem proved : Rows.CodeBackSaid := over
end Go.Proofs.Ytejijhajgklmgaa.codeBack
