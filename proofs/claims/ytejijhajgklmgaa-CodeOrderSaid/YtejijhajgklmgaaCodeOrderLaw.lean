/- For every two slices of strings (the first nine of each, the first 4096 bytes of each string): their keys are ordered, byte by byte, as the rows of parts are, part by part (P2.7), and the example at the head holds; the arguments stay as they were. No condition. -/
import Derived.Test.YtejijhajgklmgaaCodeUniK
import Derived.WalkKit
import Derived.ProofKit
import Derived.OpenShut
import Derived.ShutString
import Derived.ChangeOld
import Derived.Below
import Derived.Deep.RegionHeld
namespace Go.Proofs.Ytejijhajgklmgaa.codeOrder
open Go.ChangeShapes Go.WideShapes Go.ChangeAt Go.RowKit
set_option linter.unusedVariables false
theorem own : ownKnob Try.prog.godebug = none := by kernel_rfl
theorem laidOut : laidOutB Try.prog = true := by kernel_rfl
set_option maxRecDepth 100000 in
set_option maxHeartbeats 1000000 in
theorem walk (A0 : Option Addr) (m0 c0 : Nat) (l0 : List ByteArray) (A1 : Option Addr) (m1 c1 : Nat) (l1 : List ByteArray) (w : World) (r0 : RdS w A0 m0 l0) (wc0 : m0 ≤ c0) (w0 : m0 ≤ 9223372036854775807) (ws0 : ∀ s ∈ l0, s.size ≤ 9223372036854775807) (r1 : RdS w A1 m1 l1) (wc1 : m1 ≤ c1) (w1 : m1 ≤ 9223372036854775807) (ws1 : ∀ s ∈ l1, s.size ≤ 9223372036854775807) :
    Calls Try.prog 9 #[.slice A0 m0 c0, .slice A1 m1 c1] w fun e w' => e = .returned (.bool true) ∧ Below w.heap.size w w' := by
  -- heartbeats 1000000
  have hr0l := rowsOf_length l0
  have hr0s := rowsOf_size l0
  have hr1l := rowsOf_length l1
  have hr1s := rowsOf_size l1
  have H0s := Lib.hid hr0s
  have H1s := Lib.hid hr1s
  clear hr0s hr1s
  go_enter Try.func9, Try.ntmps9
  go_wp2_with fail
  refine (rows_any A0 m0 c0 l0 _ r0 w0 ws0).mono ?_
  rintro e v1 ⟨A1', cap1, rfl, hr1, _, hb1⟩
  generalize rowsOf l0 = a at *
  go_wp2_with fail
  refine (rows_any A1 m1 c1 l1 _ (r1.below hb1) w1 ws1).mono ?_
  rintro e v2 ⟨A2', cap2, rfl, hr2, _, hb2⟩
  generalize rowsOf l1 = b at *
  have hx2 := below_next hb1 hb2
  have hr12 := hr1.below hb2
  clear hr1 hb1 hb2
  go_wp2_with fail
  refine (awake_any _).mono ?_
  rintro e v3 ⟨rfl, hb3⟩
  have hx3 := below_next hx2 hb3
  have ha3 := hr12.below hb3
  have hb3' := hr2.below hb3
  clear hr12 hr2 hx2 hb3
  have hlen : ∀ (x : List ByteArray), keyE x = 0 ∧ x.length ≤ 8 ∧ keyS x = str (Cd.keyOf x) ∨ keyE x = 3 ∧ 8 < x.length ∧ keyS x = ⟨#[]⟩ := by
    intro x
    unfold keyE keyS
    by_cases h : 8 < x.length
    · rw [if_pos h, if_pos h]; exact .inr ⟨rfl, h, rfl⟩
    · rw [if_neg h, if_neg h]; exact .inl ⟨rfl, by omega, rfl⟩
  have hab : Op.bytesLess (str (Cd.keyOf a)).toList (str (Cd.keyOf b)).toList = aheadB a b := by
    rw [bytesLess_bs, bs_str (Cd.keyOf_lt a), bs_str (Cd.keyOf_lt b), keyOf_less]
  have hba : Op.bytesLess (str (Cd.keyOf b)).toList (str (Cd.keyOf a)).toList = aheadB b a := by
    rw [bytesLess_bs, bs_str (Cd.keyOf_lt a), bs_str (Cd.keyOf_lt b), keyOf_less]
  have hka := fun w' h => key_any A1' a.length cap1 a w' h H0s.out
  have hkb := fun w' h => key_any A2' b.length cap2 b w' h H1s.out
  rcases hlen a with ⟨e1, la, e2⟩ | ⟨e1, la, e2⟩ <;> rcases hlen b with ⟨e3, lb, e4⟩ | ⟨e3, lb, e4⟩
  all_goals
    rw [e1, e2] at hka
    rw [e3, e4] at hkb
    have Hka := Lib.hid hka
    have Hkb := Lib.hid hkb
    have hla : (8 : Int) < (a.length : Int) ↔ 8 < a.length := by omega
    clear hka hkb e1 e2 e3 e4 hlen hla
    generalize str (Cd.keyOf a) = ka at hab hba Hka
    generalize str (Cd.keyOf b) = kb at hab hba Hkb
    go_wp2_with fail
    refine (Hka.out _ ha3).mono ?_
    rintro e v4 ⟨rfl, hb4⟩
    have hx4 := below_next hx3 hb4
    have ha4 := ha3.below hb4
    have hb4' := hb3'.below hb4
    clear hx3 hb4 ha3 hb3'
    go_wp2_with fail
    refine (Hkb.out _ hb4').mono ?_
    rintro e v5 ⟨rfl, hb5⟩
    have hx5 := below_next hx4 hb5
    have ha5 := ha4.below hb5
    have hb5' := hb4'.below hb5
    clear hx4 hb5 ha4 hb4'
    go_wp2_with fail
    first
    | (go_ret; exact ⟨rfl, hx5⟩)
    | (go_ret; refine ⟨?_, hx5⟩; simp; omega)
    | (refine (ahead_any A1' A2' _ cap1 _ cap2 a b _ ha5 hb5' (by omega) (by omega)).mono ?_
       rintro e v6 ⟨rfl, hb6⟩
       have hx6 := below_next hx5 hb6
       have ha6 := ha5.below hb6
       have hb6' := hb5'.below hb6
       go_wp2_with fail
       refine (ahead_any A2' A1' _ cap2 _ cap1 b a _ hb6' ha6 (by omega) (by omega)).mono ?_
       rintro e v7 ⟨rfl, hb7⟩
       go_wp2_with fail
       go_ret
       exact ⟨rfl, below_next hx6 hb7⟩)
set_option maxRecDepth 100000 in
theorem lifted (os : Os) (started : os.Started) (H : Type) (enc : TypeId × Value → H) :
    ReturnsInHanded {} Try.checked os 9 .any (Rows.codeOrderSpec.pre6 enc Try.prog Try.f9 Rows.codeOrderRow.domain false) (Rows.codeOrderSpec.post enc Try.prog Try.f9 false true false false) := by
  refine returnsInHanded_of_change (C := Try.checked) own started (by kernel_rfl) Try.func9
    (ChangeSpec.witness6 (enc := enc) (C := Try.checked) false ⟨#[], #[.slice none 0 0, .slice none 0 0], []⟩ 8 (by kernel_rfl) (by kernel_rfl) (by kernel_rfl) (by kernel_rfl)) ?_
  intro W base args ds gs before hval0 hW hcnd _
  have hval : ∀ (j : Nat) t v, Try.f9.params[j]? = some t → args[j]? = some v → Value.okWide Try.prog W .any base t v := hval0
  have hW' := hW
  obtain ⟨p, q, hA0, hV, rfl, hfz, hnd⟩ := hW
  have hA : DataW.TrodAll enc Try.prog W 0 (fun _ => true) true Try.f9.params.toList args.toList ds p := hA0
  rw [Try.params9] at hA hval
  obtain ⟨v0, vs0, d0, ds0, p0, q0, hargs, rfl, rfl, h0, t0⟩ := trodAll_cons hA
  obtain ⟨v1, vs1, d1, ds1, p1, q1, rfl, rfl, rfl, h1, t1⟩ := trodAll_cons t0
  obtain ⟨rfl, rfl, rfl⟩ := trodAll_nil t1
  obtain rfl : args = #[v0, v1] := by cases args; simp_all
  obtain ⟨rfl, rfl⟩ := trodVars_none hV
  have k0 : Reads enc W 38 v0 d0 p0 := h0
  have lt0 : ∀ x ∈ p0, x.block < W.heap.size := by obtain ⟨m, hm⟩ := k0; exact DataW.trod_lt m _ _ _ hm
  obtain ⟨A0, m0, c0, l0, rfl, r0, wc0, w0, ws0⟩ := in_strs (hval 0 38 v0 rfl rfl) k0
  have k1 : Reads enc W 38 v1 d1 p1 := h1
  have lt1 : ∀ x ∈ p1, x.block < W.heap.size := by obtain ⟨m, hm⟩ := k1; exact DataW.trod_lt m _ _ _ hm
  obtain ⟨A1, m1, c1, l1, rfl, r1, wc1, w1, ws1⟩ := in_strs (hval 1 38 v1 rfl rfl) k1
  clear hA0 hval0
  refine (walk A0 m0 c0 l0 A1 m1 c1 l1 W r0 wc0 w0 ws0 r1 wc1 w1 ws1).mono fun e W' ⟨he, bel⟩ => ?_
  subst he
  exact ⟨_, rfl, _, _, _, [], _, [], hW', trodAll_mk1 (shut_bool Try.underlying4 _), (trodAll_cons_mk (Below.trod laidOut (by kernel_rfl) (of_decide_eq_true (by kernel_rfl)) k0 bel lt0) (trodAll_cons_mk (Below.trod laidOut (by kernel_rfl) (of_decide_eq_true (by kernel_rfl)) k1 bel lt1) trodAll_mk0)), rfl, bel.frame _, fun h => by cases h⟩
theorem over : Rows.codeOrderRow.holds Try.pinned (OpenSpec.ofChange Rows.codeOrderSpec) :=
  OpenClaim.holds_of_wide 9 Try.f9 rfl rfl rfl rfl rfl rfl rfl ⟨rfl, rfl, rfl, rfl, rfl⟩ rfl rfl rfl rfl rfl (by kernel_rfl) Try.func9 (by kernel_rfl)
    (of_decide_eq_true (by kernel_rfl)) (by unfold Func.isWrapper; first | (rw [if_pos (by decide +kernel)]; kernel_rfl) | (rw [if_neg (by decide +kernel)]; exact ⟨rfl, rfl⟩))
    (fun os started H enc _ => lifted os started H enc)
theorem proved : Rows.CodeOrderSaid := over
end Go.Proofs.Ytejijhajgklmgaa.codeOrder
