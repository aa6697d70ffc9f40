/- For every slice of bytes, every key and every number: the entry, whether there is one, and the error that Find tells of its first 32768 bytes are what the document says (P12.3), and the example at the head holds; the arguments stay as they were. No condition. -/
import Derived.Test.YtbfjcpblbmlfcaaBkCut
import Derived.Test.YtbfjcpblbmlfcaaBkGet
import Derived.Test.YtbfjcpblbmlfcaaIns
import Derived.Test.YtbfjcpblbmlfcaaHolds
import Derived.WalkKit
import Derived.ProofKit
import Derived.OpenShut
import Derived.ShutString
import Derived.ChangeOld
import Derived.Below
import Derived.Deep.RegionHeld
namespace Go.Proofs.Ytbfjcpblbmlfcaa.blockFinds
open Go.ChangeShapes Go.WideShapes Go.ChangeAt Go.RowKit
set_option linter.unusedVariables false
theorem own : ownKnob Try.prog.godebug = none := by kernel_rfl
theorem laidOut : laidOutB Try.prog = true := by kernel_rfl
set_option maxRecDepth 100000 in
set_option maxHeartbeats 8000000 in
theorem walk (A0 : Option Addr) (m0 c0 : Nat) (l0 : List Nat) (s1 : ByteArray) (n2 : Int) (w : World) (r0 : Rd w A0 m0 l0) (wc0 : m0 ≤ c0) (w0 : m0 ≤ 9223372036854775807) (w1 : s1.size ≤ 9223372036854775807) (wl2 : -9223372036854775808 ≤ n2) (w2 : n2 ≤ 9223372036854775807) :
    Calls Try.prog 5 #[.slice A0 m0 c0, .string s1, .int .i64 n2] w fun e w' => e = .returned (.bool true) ∧ Below w.heap.size w w' := by
  -- heartbeats 8000000
  have hm := r0.1
  subst hm
  have hcut := fun W => cut_any A0 l0.length c0 l0 W rfl wc0 w0
  have HCut := Lib.hid hcut
  have hpl := fun (W : World) (hW : Below w.heap.size w W) => (r0.take (k := min 32768 l0.length) (Nat.min_le_right _ _)).below hW
  have hpe : (l0.take (min 32768 l0.length)) = l0.take 32768 := by rw [← List.take_take]; simp
  have hpn : (l0.take 32768).length = min 32768 l0.length := List.length_take
  rw [hpe, ← hpn] at hpl
  have hbig : (l0.take 32768).length ≤ 1000000 := by rw [hpn]; omega
  have hcc : (l0.take 32768).length ≤ c0 := by rw [hpn]; omega
  clear hpe hpn hcut
  generalize l0.take 32768 = pl at *
  have HP := Lib.hid hpl
  clear hpl
  go_enter Try.func5, Try.ntmps5
  go_wp2_with fail
  refine (HCut.out _).mono ?_
  rintro e9 v0 ⟨rfl, rfl⟩
  go_wp2_with fail
  refine (find_any A0 pl.length c0 pl s1 n2 w (HP.out _ (Below.refl _ _)) hcc hbig).mono ?_
  rintro e9 v1 ⟨q, t, r, he, hat, hb1, hf⟩
  have Hf := Lib.hid hf
  obtain ⟨⟨qk, qs, qd, qv⟩, qV, qn, qc⟩ := q
  have he : e9 = .returned (.tuple #[.agg #[.string qk, .int .i64 qs, .bool qd, .slice qV qn qc], .bool t, .int .i64 r]) := he
  subst he
  have hb2 : Below v1.heap.size v1 (v1.alloc (.cells #[Value.string qk, .int .i64 qs, .bool qd, .slice qV qn qc] 37)) := (Below.refl _ _).alloc (Nat.le_refl _) _
  have HBox := Lib.hid (Holds.new v1 #[Value.string qk, .int .i64 qs, .bool qd, .slice qV qn qc] 37)
  have HB2 := Lib.hid (below_next hb1 hb2)
  have HA2 := Lib.hid (hat.below hb2)
  clear hb1 hb2 hat hf
  go_wp2_with fail
  generalize (v1.alloc (.cells #[Value.string qk, .int .i64 qs, .bool qd, .slice qV qn qc] 37)) = v2 at *
  generalize v1.heap.size = b1 at *
  refine (rfind_any A0 pl.length c0 pl s1 n2 v2 (HP.out _ HB2.out) hcc hbig).mono ?_
  rintro e9 v3 ⟨q', t', r', he, hat3, hb3, hf3⟩
  obtain ⟨hqq, rfl, rfl⟩ := Bk.found_same (HP.out _ (Below.refl _ _)).2.1 Hf.out hf3
  obtain ⟨⟨pk, ps, pd, pv⟩, pV, pn, pc⟩ := q'
  injection hqq with i1 i2 i3 i4
  subst i1 i2 i3 i4
  have he : e9 = .returned (.tuple #[.agg #[.string qk, .int .i64 qs, .bool qd, .slice pV pn pc], .bool t, .int .i64 r]) := he
  subst he
  have hb4 : Below v3.heap.size v3 (v3.alloc (.cells #[Value.string qk, .int .i64 qs, .bool qd, .slice pV pn pc] 37)) := (Below.refl _ _).alloc (Nat.le_refl _) _
  have h1 := (HBox.out.below hb3).below hb4
  have h2 := Holds.new v3 #[Value.string qk, .int .i64 qs, .bool qd, .slice pV pn pc] 37
  have a0 := h1.at_ 0 rfl
  have a1 := h1.at_ 1 rfl
  have a2 := h1.at_ 2 rfl
  have a3 := h1.at_ 3 rfl
  have b0 := h2.at_ 0 rfl
  have b1' := h2.at_ 1 rfl
  have b2 := h2.at_ 2 rfl
  have b3 := h2.at_ 3 rfl
  have HB4 := Lib.hid (below_next (below_next HB2.out hb3) hb4)
  have HA4 := Lib.hid ((HA2.out.below hb3).below hb4)
  have HQ4 := Lib.hid (hat3.below hb4)
  have htt : (t == t) = true := by simp
  have hrr : (r == r) = true := by simp
  clear hb3 hb4 h1 h2 hat3 hf3
  go_wp2_with fail
  refine (same_any (⟨qk, qs, qd, qv⟩, qV, qn, qc) (⟨qk, qs, qd, qv⟩, pV, pn, pc) _ HA4.out HQ4.out).mono ?_
  rintro e9 v5 ⟨u, rfl, hu, hb5⟩
  obtain rfl : u = true := hu.2 rfl
  have HB5 := Lib.hid (below_next HB4.out hb5)
  clear a0 a1 a2 a3 b0 b1' b2 b3 hb5 hu
  go_wp2_with fail
  refine (awake_any _).mono ?_
  rintro e9 v6 ⟨rfl, hb6⟩
  have hx6 := below_next HB5.out hb6
  go_wp2_with fail
  go_ret
  exact ⟨rfl, hx6⟩
set_option maxRecDepth 100000 in
theorem lifted (os : Os) (started : os.Started) (H : Type) (enc : TypeId × Value → H) :
    ReturnsInHanded {} Try.checked os 5 .any (Rows.blockFindsSpec.pre6 enc Try.prog Try.f5 Rows.blockFindsRow.domain false) (Rows.blockFindsSpec.post enc Try.prog Try.f5 false true false false) := by
  refine returnsInHanded_of_change (C := Try.checked) own started (by kernel_rfl) Try.func5
    (ChangeSpec.witness6 (enc := enc) (C := Try.checked) false ⟨#[], #[.slice none 0 0, .string ⟨#[]⟩, .int .i64 0], []⟩ 8 (by kernel_rfl) (by kernel_rfl) (by kernel_rfl) (by kernel_rfl)) ?_
  intro W base args ds gs before hval0 hW hcnd _
  have hval : ∀ (j : Nat) t v, Try.f5.params[j]? = some t → args[j]? = some v → Value.okWide Try.prog W .any base t v := hval0
  have hW' := hW
  obtain ⟨p, q, hA0, hV, rfl, hfz, hnd⟩ := hW
  have hA : DataW.TrodAll enc Try.prog W 0 (fun _ => true) true Try.f5.params.toList args.toList ds p := hA0
  rw [Try.params5] at hA hval
  obtain ⟨v0, vs0, d0, ds0, p0, q0, hargs, rfl, rfl, h0, t0⟩ := trodAll_cons hA
  obtain ⟨v1, vs1, d1, ds1, p1, q1, rfl, rfl, rfl, h1, t1⟩ := trodAll_cons t0
  obtain ⟨v2, vs2, d2, ds2, p2, q2, rfl, rfl, rfl, h2, t2⟩ := trodAll_cons t1
  obtain ⟨rfl, rfl, rfl⟩ := trodAll_nil t2
  obtain rfl : args = #[v0, v1, v2] := by cases args; simp_all
  obtain ⟨rfl, rfl⟩ := trodVars_none hV
  have k0 : Reads enc W 24 v0 d0 p0 := h0
  have lt0 : ∀ x ∈ p0, x.block < W.heap.size := by obtain ⟨m, hm⟩ := k0; exact DataW.trod_lt m _ _ _ hm
  obtain ⟨A0, m0, c0, l0, rfl, r0, wc0, w0⟩ := in_bytes (hval 0 24 v0 rfl rfl) k0
  have k1 : Reads enc W 9 v1 d1 p1 := h1
  have lt1 : ∀ x ∈ p1, x.block < W.heap.size := by obtain ⟨m, hm⟩ := k1; exact DataW.trod_lt m _ _ _ hm
  obtain ⟨s1, rfl, w1⟩ := in_str (hval 1 9 v1 rfl rfl) k1
  have k2 : Reads enc W 3 v2 d2 p2 := h2
  have lt2 : ∀ x ∈ p2, x.block < W.heap.size := by obtain ⟨m, hm⟩ := k2; exact DataW.trod_lt m _ _ _ hm
  obtain ⟨n2, rfl, wl2, w2⟩ := in_int (hval 2 3 v2 rfl rfl) k2
  clear hA0 hval0
  refine (walk A0 m0 c0 l0 s1 n2 W r0 wc0 w0 w1 wl2 w2).mono fun e W' ⟨he, bel⟩ => ?_
  subst he
  exact ⟨_, rfl, _, _, _, [], _, [], hW', trodAll_mk1 (shut_bool Try.underlying4 _), (trodAll_cons_mk (Below.trod laidOut (by kernel_rfl) (of_decide_eq_true (by kernel_rfl)) k0 bel lt0) (trodAll_cons_mk (Below.trod laidOut (by kernel_rfl) (of_decide_eq_true (by kernel_rfl)) k1 bel lt1) (trodAll_cons_mk (Below.trod laidOut (by kernel_rfl) (of_decide_eq_true (by kernel_rfl)) k2 bel lt2) trodAll_mk0))), rfl, bel.frame _, fun h => by cases h⟩
theorem over : Rows.blockFindsRow.holds Try.pinned (OpenSpec.ofChange Rows.blockFindsSpec) :=
  OpenClaim.holds_of_wide 5 Try.f5 rfl rfl rfl rfl rfl rfl rfl ⟨rfl, rfl, rfl, rfl, rfl⟩ rfl rfl rfl rfl rfl (by kernel_rfl) Try.func5 (by kernel_rfl)
    (of_decide_eq_true (by kernel_rfl)) (by unfold Func.isWrapper; first | (rw [if_pos (by decide +kernel)]; kernel_rfl) | (rw [if_neg (by decide +kernel)]; exact ⟨rfl, rfl⟩))
    (fun os started H enc _ => lifted os started H enc)
theorem proved : Rows.BlockFindsSaid := over
end Go.Proofs.Ytbfjcpblbmlfcaa.blockFinds
