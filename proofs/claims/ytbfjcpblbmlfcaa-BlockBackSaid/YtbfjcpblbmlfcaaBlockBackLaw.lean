/- For every slice of entries and every number: of those of its first 70 entries that have at most 200 bytes of key and 400 of value, what Encode makes is decoded as they are, and the entry at that place is found again; or Encode tells ErrBlock and nothing (P12.4), and the example at the head holds; the arguments stay as they were. No condition. -/
import Derived.Test.YtbfjcpblbmlfcaaBkLaw
import Derived.Test.YtbfjcpblbmlfcaaIns
import Derived.Test.YtbfjcpblbmlfcaaHolds
import Derived.WalkKit
import Derived.ProofKit
import Derived.OpenShut
import Derived.ShutString
import Derived.ChangeOld
import Derived.Below
import Derived.Deep.RegionHeld
namespace Go.Proofs.Ytbfjcpblbmlfcaa.blockBack
open Go.ChangeShapes Go.WideShapes Go.ChangeAt Go.RowKit
set_option linter.unusedVariables false
theorem own : ownKnob Try.prog.godebug = none := by kernel_rfl
theorem laidOut : laidOutB Try.prog = true := by kernel_rfl
set_option maxRecDepth 100000 in
set_option maxHeartbeats 8000000 in
theorem walk (A0 : Option Addr) (m0 c0 : Nat) (l0 : List (Bk.En × Bk.Sl)) (n1 : Nat) (w : World) (r0 : RdI w A0 m0 l0) (wc0 : m0 ≤ c0) (w0 : m0 ≤ 9223372036854775807) (w1 : n1 < 256) :
    Calls Try.prog 6 #[.slice A0 m0 c0, .int .u8 (n1 : Int)] w fun e w' => e = .returned (.bool true) ∧ Below w.heap.size w w' := by
  -- heartbeats 8000000
  have HFew := Lib.hid (few_any A0 m0 c0 l0 w r0 w0)
  clear r0 wc0 w0
  go_enter Try.func6, Try.ntmps6
  go_wp2_with fail
  refine (HFew.out).mono ?_
  rintro e9 v1 ⟨B, d, rfl, hd, hE, hb1⟩
  have hlen : (Bk.few l0).length ≤ 70 := by have := Bk.few_len l0 70; rw [Bk.few_all (Or.inr rfl)] at this; exact this
  generalize Bk.few l0 = fs at *
  have HE := Lib.hid hE
  have HB1 := Lib.hid hb1
  clear hE hb1 HFew
  by_cases hf : Bk.fine fs
  · have hol := Bk.out_length hf
    have hgood := Bk.good_out hf HE.out.small
    have hol2 : 1 ≤ fs.length := hf.2.1
    have Hf := Lib.hid hf
    have Hg := Lib.hid hgood
    clear hgood hf
    go_wp2_with fail
    refine (encode_yes B fs.length d fs v1 HE.out (by omega) hd Hf.out).mono ?_
    rintro e9 v2 ⟨A2, c2, rfl, ho2, hb2⟩
    have hcap := ho2.cap
    have HO2 := Lib.hid ho2.rd
    have HB2 := Lib.hid (below_next HB1.out hb2)
    have HE2 := Lib.hid (HE.out.below hb2)
    clear ho2 hb2
    generalize Bk.out fs = ol at *
    go_wp2_with fail
    refine (awake_any v2).mono ?_
    rintro e9 v3 ⟨rfl, hb3⟩
    have HO3 := Lib.hid (HO2.out.below hb3)
    have HB3 := Lib.hid (below_next HB2.out hb3)
    have HE3 := Lib.hid (HE2.out.below hb3)
    clear hb3
    go_wp2_with fail
    refine (decode_any A2 ol.length c2 ol v3 HO3.out hcap (by omega)).mono ?_
    rintro e9 v4 ⟨hb4, hg | ⟨hg, -⟩⟩
    · obtain ⟨B2, m2, d2, es, hgood, rfl, hE4⟩ := hg
      have hmap := Bk.good_map hgood Hg.out
      have hm2 : m2 ≤ 64 := by rw [← hE4.len]; exact hgood.2.1.2.2
      have hm3 : m2 = fs.length := by rw [← hE4.len]; exact Bk.map_len hmap
      subst hm3
      have HX := Lib.hid hE4.rde
      have Hmap := Lib.hid hmap
      have HO4 := Lib.hid (HO3.out.below hb4)
      have HB4 := Lib.hid (below_next HB3.out hb4)
      have HE4 := Lib.hid (HE3.out.below hb4)
      clear hmap hE4 hb4 hgood
      go_wp2_with fail
      refine (sameall_any B2 B fs.length d2 fs.length d es fs v4 HX.out HE4.out (by omega) (by omega)).mono ?_
      rintro e9 v5 ⟨t, rfl, ht, hb5⟩
      obtain rfl : t = true := ht.2 Hmap.out
      have HO5 := Lib.hid (HO4.out.below hb5)
      have HB5 := Lib.hid (below_next HB4.out hb5)
      have HE5 := Lib.hid (HE4.out.below hb5)
      clear hb5 ht
      obtain ⟨k, hk⟩ : ∃ k : Nat, k = n1 % fs.length := ⟨_, rfl⟩
      have hkl : k < fs.length := by rw [hk]; exact Nat.mod_lt _ (by omega)
      have hki : (k : Int) < (fs.length : Int) := by omega
      have hmod : (n1 : Int) % (fs.length : Int) = (k : Int) := by rw [hk]; omega
      obtain ⟨x, hx⟩ : ∃ x, fs[k]? = some x := ⟨_, List.getElem?_eq_getElem hkl⟩
      obtain ⟨b, o, rfl, hbl, hcell⟩ := HE5.out.at_ hx
      have Hat := Lib.hid (HE5.out.2.2 x (List.mem_of_getElem? hx))
      have Hx := Lib.hid hx
      obtain ⟨⟨key, seq, del, val⟩, V, vn, vc⟩ := x
      have e0 : v5.cell? ⟨b, o + k * 4, none⟩ = some (.string key) := hcell 0 _ rfl
      have e1 : v5.cell? ⟨b, o + k * 4 + 1, none⟩ = some (.int .i64 seq) := hcell 1 _ rfl
      have e2 : v5.cell? ⟨b, o + k * 4 + 2, none⟩ = some (.bool del) := hcell 2 _ rfl
      have e3 : v5.cell? ⟨b, o + k * 4 + 3, none⟩ = some (.slice V vn vc) := hcell 3 _ rfl
      clear hk hcell hx hbl
      go_wp2_with fail
      have hb6 : Below v5.heap.size v5 (v5.alloc (.cells #[Value.string key, .int .i64 seq, .bool del, .slice V vn vc] 37)) := (Below.refl _ _).alloc (Nat.le_refl _) _
      have HBox := Lib.hid (Holds.new v5 #[Value.string key, .int .i64 seq, .bool del, .slice V vn vc] 37)
      have HO6 := Lib.hid (HO5.out.below hb6)
      have HB6 := Lib.hid (below_next HB5.out hb6)
      have HA6 := Lib.hid (Hat.out.below hb6)
      clear hb6 e0 e1 e2 e3
      generalize (v5.alloc (.cells #[Value.string key, .int .i64 seq, .bool del, .slice V vn vc] 37)) = v6 at *
      generalize v5.heap.size = bx at *
      refine (find_any A2 ol.length c2 ol key seq v6 HO6.out hcap (by omega)).mono ?_
      rintro e9 v7 ⟨q, t, r, he, hq, hb7, hfo⟩
      obtain ⟨rfl, rfl, hqx⟩ := Bk.found_at (x := (⟨key, seq, del, val⟩, V, vn, vc)) Hg.out Hx.out hfo
      obtain ⟨⟨qk, qs, qd, qv⟩, qV, qn, qc⟩ := q
      injection hqx with i1 i2 i3 i4
      subst i1 i2 i3 i4
      have he : e9 = .returned (.tuple #[.agg #[.string qk, .int .i64 qs, .bool qd, .slice qV qn qc], .bool true, .int .i64 0]) := he
      subst he
      have hb8 : Below v7.heap.size v7 (v7.alloc (.cells #[Value.string qk, .int .i64 qs, .bool qd, .slice qV qn qc] 37)) := (Below.refl _ _).alloc (Nat.le_refl _) _
      have h1 := (HBox.out.below hb7).below hb8
      have h2 := Holds.new v7 #[Value.string qk, .int .i64 qs, .bool qd, .slice qV qn qc] 37
      have a0 := h1.at_ 0 rfl
      have a1 := h1.at_ 1 rfl
      have a2 := h1.at_ 2 rfl
      have a3 := h1.at_ 3 rfl
      have b0 := h2.at_ 0 rfl
      have b1 := h2.at_ 1 rfl
      have b2 := h2.at_ 2 rfl
      have b3 := h2.at_ 3 rfl
      have HB8 := Lib.hid (below_next (below_next HB6.out hb7) hb8)
      have HA8 := Lib.hid ((HA6.out.below hb7).below hb8)
      have HQ8 := Lib.hid (hq.below hb8)
      clear hb7 hb8 h1 h2 hq hfo
      go_wp2_with fail
      refine (same_any (⟨qk, qs, qd, qv⟩, V, vn, vc) (⟨qk, qs, qd, qv⟩, qV, qn, qc) _ HA8.out HQ8.out).mono ?_
      rintro e9 v9 ⟨t, rfl, ht, hb9⟩
      obtain rfl : t = true := ht.2 rfl
      have hx9 := below_next HB8.out hb9
      clear a0 a1 a2 a3 b0 b1 b2 b3
      go_wp2_with fail
      go_ret
      exact ⟨rfl, hx9⟩
    · exact absurd Hg.out (hg _)
  · go_wp2_with fail
    refine (encode_no B fs.length d fs v1 HE.out (by omega) hd hf).mono ?_
    rintro e9 v2 ⟨rfl, hb2⟩
    have HB2 := Lib.hid (below_next HB1.out hb2)
    clear hb2
    go_wp2_with fail
    refine (awake_any _).mono ?_
    rintro e9 v3 ⟨rfl, hb3⟩
    have hx3 := below_next HB2.out hb3
    go_wp2_with fail
    go_ret
    exact ⟨rfl, hx3⟩
set_option maxRecDepth 100000 in
theorem lifted (os : Os) (started : os.Started) (H : Type) (enc : TypeId × Value → H) :
    ReturnsInHanded {} Try.checked os 6 .any (Rows.blockBackSpec.pre6 enc Try.prog Try.f6 Rows.blockBackRow.domain false) (Rows.blockBackSpec.post enc Try.prog Try.f6 false true false false) := by
  refine returnsInHanded_of_change (C := Try.checked) own started (by kernel_rfl) Try.func6
    (ChangeSpec.witness6 (enc := enc) (C := Try.checked) false ⟨#[], #[.slice none 0 0, .int .u8 0], []⟩ 8 (by kernel_rfl) (by kernel_rfl) (by kernel_rfl) (by kernel_rfl)) ?_
  intro W base args ds gs before hval0 hW hcnd _
  have hval : ∀ (j : Nat) t v, Try.f6.params[j]? = some t → args[j]? = some v → Value.okWide Try.prog W .any base t v := hval0
  have hW' := hW
  obtain ⟨p, q, hA0, hV, rfl, hfz, hnd⟩ := hW
  have hA : DataW.TrodAll enc Try.prog W 0 (fun _ => true) true Try.f6.params.toList args.toList ds p := hA0
  rw [Try.params6] at hA hval
  obtain ⟨v0, vs0, d0, ds0, p0, q0, hargs, rfl, rfl, h0, t0⟩ := trodAll_cons hA
  obtain ⟨v1, vs1, d1, ds1, p1, q1, rfl, rfl, rfl, h1, t1⟩ := trodAll_cons t0
  obtain ⟨rfl, rfl, rfl⟩ := trodAll_nil t1
  obtain rfl : args = #[v0, v1] := by cases args; simp_all
  obtain ⟨rfl, rfl⟩ := trodVars_none hV
  have k0 : Reads enc W 22 v0 d0 p0 := h0
  have lt0 : ∀ x ∈ p0, x.block < W.heap.size := by obtain ⟨m, hm⟩ := k0; exact DataW.trod_lt m _ _ _ hm
  obtain ⟨A0, m0, c0, l0, rfl, r0, wc0, w0⟩ := in_entries (hval 0 22 v0 rfl rfl) k0
  have k1 : Reads enc W 5 v1 d1 p1 := h1
  have lt1 : ∀ x ∈ p1, x.block < W.heap.size := by obtain ⟨m, hm⟩ := k1; exact DataW.trod_lt m _ _ _ hm
  obtain ⟨n1, rfl, w1⟩ := in_u8 (hval 1 5 v1 rfl rfl) k1
  clear hA0 hval0
  refine (walk A0 m0 c0 l0 n1 W r0 wc0 w0 w1).mono fun e W' ⟨he, bel⟩ => ?_
  subst he
  exact ⟨_, rfl, _, _, _, [], _, [], hW', trodAll_mk1 (shut_bool Try.underlying4 _), (trodAll_cons_mk (Below.trod laidOut (by kernel_rfl) (of_decide_eq_true (by kernel_rfl)) k0 bel lt0) (trodAll_cons_mk (Below.trod laidOut (by kernel_rfl) (of_decide_eq_true (by kernel_rfl)) k1 bel lt1) trodAll_mk0)), rfl, bel.frame _, fun h => by cases h⟩
theorem over : Rows.blockBackRow.holds Try.pinned (OpenSpec.ofChange Rows.blockBackSpec) :=
  OpenClaim.holds_of_wide 6 Try.f6 rfl rfl rfl rfl rfl rfl rfl ⟨rfl, rfl, rfl, rfl, rfl⟩ rfl rfl rfl rfl rfl (by kernel_rfl) Try.func6 (by kernel_rfl)
    (of_decide_eq_true (by kernel_rfl)) (by unfold Func.isWrapper; first | (rw [if_pos (by decide +kernel)]; kernel_rfl) | (rw [if_neg (by decide +kernel)]; exact ⟨rfl, rfl⟩))
    (fun os started H enc _ => lifted os started H enc)
theorem proved : Rows.BlockBackSaid := over
end Go.Proofs.Ytbfjcpblbmlfcaa.blockBack
