/- For every two names (the first 16 bytes of each), every two numbers of 32 bits and every two peers: the keys of holds of one name stand side by side, by their numbers, and so do those of transfers to one peer; a hold's key has at most 64 bytes (P21.6), and the example at the head holds; the arguments stay as they were. No condition. -/
import Derived.Test.YtaoiokilnmpniaaInBox
import Derived.Test.YtaoiokilnmpniaaBoxOrd
import Derived.WalkKit
import Derived.ProofKit
import Derived.OpenShut
import Derived.ShutString
import Derived.ChangeOld
import Derived.Below
import Derived.Deep.RegionHeld
namespace Go.Proofs.Ytaoiokilnmpniaa.outboxOrder
open Go.ChangeShapes Go.WideShapes Go.ChangeAt Go.RowKit
set_option linter.unusedVariables false
theorem own : ownKnob Try.prog.godebug = none := by kernel_rfl
theorem laidOut : laidOutB Try.prog = true := by kernel_rfl
theorem hold_key (a : ByteArray) (m : Nat) (ha : nameB a = true) (hs : a.size ≤ 16) (hm : m < 4294967296) (W : World) : Calls Try.prog 26 #[.string a, .int .i64 (m : Int)] W fun e w' => e = .returned (.tuple #[.string (str (Cd.keyOf [⟨#[104]⟩, a, numS m 8])), .int .i64 0]) ∧ Below W.heap.size W w' := by
  have h := kholdkey a m W (by omega)
  unfold GivesKey at h
  rw [ha, show withinB (m : Int) 0 1099511627776 = true from decide_eq_true (by omega)] at h
  exact h
theorem holds_key (a : ByteArray) (ha : nameB a = true) (hs : a.size ≤ 16) (W : World) : Calls Try.prog 28 #[.string a] W fun e w' => e = .returned (.tuple #[.string (str (Cd.keyOf [⟨#[104]⟩, a])), .int .i64 0]) ∧ Below W.heap.size W w' := by
  have h := kholdskey a W (by omega)
  unfold GivesKey at h
  rw [ha] at h
  exact h
theorem out_key (p m : Nat) (h1 : 1 ≤ p) (h2 : p ≤ 15) (hm : m < 4294967296) (W : World) : Calls Try.prog 30 #[.int .i64 (p : Int), .int .i64 (m : Int)] W fun e w' => e = .returned (.tuple #[.string (str (Cd.keyOf [⟨#[111]⟩, numS p 1, numS m 8])), .int .i64 0]) ∧ Below W.heap.size W w' := by
  have h := koutkey p m W
  unfold GivesKey at h
  rw [show withinB (p : Int) 1 15 = true from decide_eq_true (by omega), show withinB (m : Int) 0 1099511627776 = true from decide_eq_true (by omega)] at h
  exact h
theorem outs_key (p : Nat) (h1 : 1 ≤ p) (h2 : p ≤ 15) (W : World) : Calls Try.prog 32 #[.int .i64 (p : Int)] W fun e w' => e = .returned (.tuple #[.string (str (Cd.keyOf [⟨#[111]⟩, numS p 1])), .int .i64 0]) ∧ Below W.heap.size W w' := by
  have h := koutskey p W
  unfold GivesKey at h
  rw [show withinB (p : Int) 1 15 = true from decide_eq_true (by omega)] at h
  exact h
/-- What is known of two keys, whichever way their parts lie. -/
def Lies (same : Bool) (less : Bool) (X Y E : ByteArray) : Prop :=
  (same = true → (E.size : Int) ≤ (Y.size : Int) ∧ ((Y.extract 0 E.size).toList == E.toList) = true) ∧ (same = false → ((Y.extract 0 E.size).toList == E.toList) = false) ∧ Op.bytesLess X.toList Y.toList = less
theorem lies (c a b x y : ByteArray) : Lies (decide (a = b)) (bif decide (a = b) then lessL (bs x) (bs y) else lessL (bs a) (bs b)) (str (Cd.keyOf [c, a, x])) (str (Cd.keyOf [c, b, y])) (str (Cd.keyOf [c, a])) := by
  refine ⟨fun h => ?_, fun h => ?_, ?_⟩
  · have := of_decide_eq_true h
    subst this
    have h2 := begins_yes c a y
    exact ⟨by omega, h2.2⟩
  · exact begins_no c a b y (of_decide_eq_false h)
  · rw [keys_less]
    by_cases h : a = b
    · rw [if_pos h, decide_eq_true h]; rfl
    · rw [if_neg h, decide_eq_false h]; rfl
set_option maxRecDepth 100000 in
set_option maxHeartbeats 4000000 in
theorem walk (s0 : ByteArray) (s1 : ByteArray) (n2 : Nat) (n3 : Nat) (n4 : Nat) (n5 : Nat) (w : World) (w0 : s0.size ≤ 9223372036854775807) (w1 : s1.size ≤ 9223372036854775807) (w2 : n2 < 4294967296) (w3 : n3 < 4294967296) (w4 : n4 < 256) (w5 : n5 < 256) :
    Calls Try.prog 8 #[.string s0, .string s1, .int .u32 (n2 : Int), .int .u32 (n3 : Int), .int .u8 (n4 : Int), .int .u8 (n5 : Int)] w fun e w' => e = .returned (.bool true) ∧ Below w.heap.size w w' := by
  -- heartbeats 4000000
  obtain ⟨u0, hu0⟩ : ∃ u, u = if 16 < s0.size then 16 else s0.size := ⟨_, rfl⟩
  have hu01 : (if (16 : Int) < (s0.size : Int) then (16 : Int) else (s0.size : Int)) = (u0 : Int) := by
    rw [hu0]; split <;> split <;> omega
  have hu02 : (u0 : Int) ≤ (s0.size : Int) := by rw [← hu01]; split <;> omega
  obtain ⟨u1, hu1⟩ : ∃ u, u = if 16 < s1.size then 16 else s1.size := ⟨_, rfl⟩
  have hu11 : (if (16 : Int) < (s1.size : Int) then (16 : Int) else (s1.size : Int)) = (u1 : Int) := by
    rw [hu1]; split <;> split <;> omega
  have hu12 : (u1 : Int) ≤ (s1.size : Int) := by rw [← hu11]; split <;> omega
  obtain ⟨a, ha⟩ : ∃ a, s0.extract 0 u0 = a := ⟨_, rfl⟩
  obtain ⟨b, hb⟩ : ∃ b, s1.extract 0 u1 = b := ⟨_, rfl⟩
  have has : a.size ≤ 16 := by rw [← ha, ByteArray.size_extract, hu0]; split <;> omega
  have hbs : b.size ≤ 16 := by rw [← hb, ByteArray.size_extract, hu1]; split <;> omega
  clear hu0 hu1
  by_cases hae : a.size = 0 ∨ b.size = 0
  · have hx : ((a.size : Int) == 0) = true ∨ ((a.size : Int) == 0) = false ∧ ((b.size : Int) == 0) = true := by
      by_cases h : a.size = 0
      · exact .inl (by rw [beq_iff_eq]; omega)
      · exact .inr ⟨by rw [beq_eq_false_iff_ne]; omega, by rw [beq_iff_eq]; omega⟩
    clear hae
    rcases hx with hx | ⟨hx, hx2⟩
    all_goals
      go_enter Try.func8, Try.ntmps8
      go_wp2_with fail
      go_region
      all_goals
        go_wp2_with (first | (go_at_call 18; refine (awake_any _).mono ?_; rintro e v3 ⟨rfl, hb3⟩))
        go_ret
        exact ⟨rfl, ((Below.refl _ _).drew).trans hb3⟩
  · have ha0 : ((a.size : Int) == 0) = false := by rw [beq_eq_false_iff_ne]; omega
    have hb0 : ((b.size : Int) == 0) = false := by rw [beq_eq_false_iff_ne]; omega
    have hna : nameB a = true := decide_eq_true (by omega)
    have hnb : nameB b = true := decide_eq_true (by omega)
    obtain ⟨p, hp⟩ : ∃ p, p = n4 % 15 + 1 := ⟨_, rfl⟩
    obtain ⟨q, hq⟩ : ∃ q, q = n5 % 15 + 1 := ⟨_, rfl⟩
    have hpi : (n4 : Int) % 15 + 1 = (p : Int) := by omega
    have hqi : (n5 : Int) % 15 + 1 = (q : Int) := by omega
    have hX := hold_key a n2 hna has w2
    have hY := hold_key b n3 hnb hbs w3
    have hE := holds_key a hna has
    have hU := out_key p n2 (by omega) (by omega) w2
    have hV := out_key q n3 (by omega) (by omega) w3
    have hF := outs_key p (by omega) (by omega)
    have l1 := lies ⟨#[104]⟩ a b (numS n2 8) (numS n3 8)
    have l2 := lies ⟨#[111]⟩ (numS p 1) (numS q 1) (numS n2 8) (numS n3 8)
    have h8 : (256 : Nat) ^ 8 = 18446744073709551616 := by decide
    rw [numS_less n2 n3 8 (by omega) (by omega) (by omega) (by omega) (by omega)] at l1 l2
    have es : decide (numS p 1 = numS q 1) = decide (p = q) := by rw [decide_eq_decide]; exact numS_inj p q 1 (by omega) (by omega) (by omega) (by omega) (by omega)
    rw [numS_less p q 1 (by omega) (by omega) (by omega) (by omega) (by omega), es] at l2
    have hab := toList_beq a b
    rw [show decide (bs a = bs b) = decide (a = b) by rw [decide_eq_decide]; exact ⟨bs_inj, fun h => by rw [h]⟩] at hab
    have hlab := bytesLess_bs a b
    have hsl : decide (a = b) = true → lessL (bs a) (bs b) = false := by intro h; rw [of_decide_eq_true h, lessL_irrefl]
    generalize decide (a = b) = sm at *
    generalize lessL (bs a) (bs b) = ls at *
    have hpq : ((p : Int) == (q : Int)) = decide (p = q) := by rw [Bool.eq_iff_iff, beq_iff_eq, decide_eq_true_iff]; omega
    have hspq : decide (p = q) = true → decide (p < q) = false := by intro h; have := of_decide_eq_true h; exact decide_eq_false (by omega)
    obtain ⟨mn, hmn⟩ : ∃ mn, decide (n2 < n3) = mn := ⟨_, rfl⟩
    rw [hmn] at l1 l2
    generalize decide (p = q) = sp at *
    obtain ⟨lp, hlp⟩ : ∃ lp, decide (p < q) = lp := ⟨_, rfl⟩
    rw [hlp] at l2 hspq
    have Hsl := Lib.hid hsl
    have Hspq := Lib.hid hspq
    have hxs := key_short ⟨#[104]⟩ a (numS n2 8) (by decide) has (numS_size _ _)
    generalize str (Cd.keyOf [⟨#[104]⟩, a, numS n2 8]) = X at *
    generalize str (Cd.keyOf [⟨#[104]⟩, b, numS n3 8]) = Y at *
    generalize str (Cd.keyOf [⟨#[104]⟩, a]) = E at *
    generalize str (Cd.keyOf [⟨#[111]⟩, numS p 1, numS n2 8]) = U at *
    generalize str (Cd.keyOf [⟨#[111]⟩, numS q 1, numS n3 8]) = V at *
    generalize str (Cd.keyOf [⟨#[111]⟩, numS p 1]) = F at *
    have HX := Lib.hid hX
    have HY := Lib.hid hY
    have HE := Lib.hid hE
    have HU := Lib.hid hU
    have HV := Lib.hid hV
    have HF := Lib.hid hF
    have L1 := Lib.hid l1
    have L2 := Lib.hid l2
    have hxs2 : (X.size : Int) ≤ 64 := by omega
    clear hsl hspq es hX hY hE hU hV hF l1 l2 h8 hna hnb hae hxs hp hq
    go_enter Try.func8, Try.ntmps8
    go_wp2_with fail
    go_region
    all_goals
      go_wp2_with fail
      refine (HX.out _).mono ?_
      rintro e v1 ⟨rfl, hb1⟩
      go_wp2_with fail
      refine (HY.out _).mono ?_
      rintro e v2 ⟨rfl, hb2⟩
      go_wp2_with fail
      refine (HE.out _).mono ?_
      rintro e v3 ⟨rfl, hb3⟩
      go_wp2_with fail
      refine (HU.out _).mono ?_
      rintro e v4 ⟨rfl, hb4⟩
      go_wp2_with fail
      refine (HV.out _).mono ?_
      rintro e v5 ⟨rfl, hb5⟩
      go_upto_region 13 with (go_at_call 32; refine (HF.out _).mono ?_; rintro e v6 ⟨rfl, hb6⟩)
      go_cut [27] (fun s27 wx => s27 = .bool true ∧ wx = v6)
      case first =>
        obtain ⟨y1, y2, y3⟩ := L1.out
        cases sm
        · have z2 := y2 rfl
          rw [cond_false] at y3
          clear y1 y2
          cases ls
          all_goals
            by_cases hsz : (E.size : Int) ≤ (Y.size : Int)
            all_goals
              go_wp2_with fail
              go_meet
              exact ⟨rfl, rfl⟩
        · obtain ⟨z1, z2⟩ := y1 rfl
          rw [cond_true] at y3
          rw [Hsl.out rfl] at hlab
          clear y1 y2
          cases mn
          all_goals
            go_wp2_with fail
            go_meet
            exact ⟨rfl, rfl⟩
      case rest =>
        obtain ⟨rfl, rfl⟩ := hcut
        go_upto_region 14 with fail
        go_cut [28] (fun s28 wx => s28 = .bool true ∧ wx = wc)
        case first =>
          obtain ⟨y1, y2, y3⟩ := L2.out
          cases sp
          · have z2 := y2 rfl
            rw [cond_false] at y3
            clear y1 y2
            cases lp
            all_goals
              by_cases hsz : (F.size : Int) ≤ (V.size : Int)
              all_goals
                go_wp2_with fail
                go_meet
                exact ⟨rfl, rfl⟩
          · obtain ⟨z1, z2⟩ := y1 rfl
            rw [cond_true] at y3
            rw [Hspq.out rfl] at hlp
            clear y1 y2
            cases mn
            all_goals
              go_wp2_with fail
              go_meet
              exact ⟨rfl, rfl⟩
        case rest =>
          obtain ⟨rfl, rfl⟩ := hcut
          go_wp2_with (first | (go_at_call 18; refine (awake_any _).mono ?_; rintro e v7 ⟨rfl, hb7⟩))
          go_ret
          exact ⟨rfl, below_next (below_next (below_next (below_next (below_next (below_next (((Below.refl _ _).drew).trans hb1) hb2) hb3) hb4) hb5) hb6) hb7⟩
set_option maxRecDepth 100000 in
theorem lifted (os : Os) (started : os.Started) (H : Type) (enc : TypeId × Value → H) :
    ReturnsInHanded {} Try.checked os 8 .any (Rows.outboxOrderSpec.pre6 enc Try.prog Try.f8 Rows.outboxOrderRow.domain false) (Rows.outboxOrderSpec.post enc Try.prog Try.f8 false true false false) := by
  refine returnsInHanded_of_change (C := Try.checked) own started (by kernel_rfl) Try.func8
    (ChangeSpec.witness6 (enc := enc) (C := Try.checked) false ⟨#[], #[.string ⟨#[]⟩, .string ⟨#[]⟩, .int .u32 0, .int .u32 0, .int .u8 0, .int .u8 0], []⟩ 8 (by kernel_rfl) (by kernel_rfl) (by kernel_rfl) (by kernel_rfl)) ?_
  intro W base args ds gs before hval0 hW hcnd _
  have hval : ∀ (j : Nat) t v, Try.f8.params[j]? = some t → args[j]? = some v → Value.okWide Try.prog W .any base t v := hval0
  have hW' := hW
  obtain ⟨p, q, hA0, hV, rfl, hfz, hnd⟩ := hW
  have hA : DataW.TrodAll enc Try.prog W 0 (fun _ => true) true Try.f8.params.toList args.toList ds p := hA0
  rw [Try.params8] at hA hval
  obtain ⟨v0, vs0, d0, ds0, p0, q0, hargs, rfl, rfl, h0, t0⟩ := trodAll_cons hA
  obtain ⟨v1, vs1, d1, ds1, p1, q1, rfl, rfl, rfl, h1, t1⟩ := trodAll_cons t0
  obtain ⟨v2, vs2, d2, ds2, p2, q2, rfl, rfl, rfl, h2, t2⟩ := trodAll_cons t1
  obtain ⟨v3, vs3, d3, ds3, p3, q3, rfl, rfl, rfl, h3, t3⟩ := trodAll_cons t2
  obtain ⟨v4, vs4, d4, ds4, p4, q4, rfl, rfl, rfl, h4, t4⟩ := trodAll_cons t3
  obtain ⟨v5, vs5, d5, ds5, p5, q5, rfl, rfl, rfl, h5, t5⟩ := trodAll_cons t4
  obtain ⟨rfl, rfl, rfl⟩ := trodAll_nil t5
  obtain rfl : args = #[v0, v1, v2, v3, v4, v5] := by cases args; simp_all
  obtain ⟨rfl, rfl⟩ := trodVars_none hV
  have k0 : Reads enc W 9 v0 d0 p0 := h0
  have lt0 : ∀ x ∈ p0, x.block < W.heap.size := by obtain ⟨m, hm⟩ := k0; exact DataW.trod_lt m _ _ _ hm
  obtain ⟨s0, rfl, w0⟩ := in_str (hval 0 9 v0 rfl rfl) k0
  have k1 : Reads enc W 9 v1 d1 p1 := h1
  have lt1 : ∀ x ∈ p1, x.block < W.heap.size := by obtain ⟨m, hm⟩ := k1; exact DataW.trod_lt m _ _ _ hm
  obtain ⟨s1, rfl, w1⟩ := in_str (hval 1 9 v1 rfl rfl) k1
  have k2 : Reads enc W 80 v2 d2 p2 := h2
  have lt2 : ∀ x ∈ p2, x.block < W.heap.size := by obtain ⟨m, hm⟩ := k2; exact DataW.trod_lt m _ _ _ hm
  obtain ⟨n2, rfl, w2⟩ := in_u32 (hval 2 80 v2 rfl rfl) k2
  have k3 : Reads enc W 80 v3 d3 p3 := h3
  have lt3 : ∀ x ∈ p3, x.block < W.heap.size := by obtain ⟨m, hm⟩ := k3; exact DataW.trod_lt m _ _ _ hm
  obtain ⟨n3, rfl, w3⟩ := in_u32 (hval 3 80 v3 rfl rfl) k3
  have k4 : Reads enc W 5 v4 d4 p4 := h4
  have lt4 : ∀ x ∈ p4, x.block < W.heap.size := by obtain ⟨m, hm⟩ := k4; exact DataW.trod_lt m _ _ _ hm
  obtain ⟨n4, rfl, w4⟩ := in_u8 (hval 4 5 v4 rfl rfl) k4
  have k5 : Reads enc W 5 v5 d5 p5 := h5
  have lt5 : ∀ x ∈ p5, x.block < W.heap.size := by obtain ⟨m, hm⟩ := k5; exact DataW.trod_lt m _ _ _ hm
  obtain ⟨n5, rfl, w5⟩ := in_u8 (hval 5 5 v5 rfl rfl) k5
  clear hA0 hval0
  refine (walk s0 s1 n2 n3 n4 n5 W w0 w1 w2 w3 w4 w5).mono fun e W' ⟨he, bel⟩ => ?_
  subst he
  exact ⟨_, rfl, _, _, _, [], _, [], hW', trodAll_mk1 (shut_bool Try.underlying4 _), (trodAll_cons_mk (Below.trod laidOut (by kernel_rfl) (of_decide_eq_true (by kernel_rfl)) k0 bel lt0) (trodAll_cons_mk (Below.trod laidOut (by kernel_rfl) (of_decide_eq_true (by kernel_rfl)) k1 bel lt1) (trodAll_cons_mk (Below.trod laidOut (by kernel_rfl) (of_decide_eq_true (by kernel_rfl)) k2 bel lt2) (trodAll_cons_mk (Below.trod laidOut (by kernel_rfl) (of_decide_eq_true (by kernel_rfl)) k3 bel lt3) (trodAll_cons_mk (Below.trod laidOut (by kernel_rfl) (of_decide_eq_true (by kernel_rfl)) k4 bel lt4) (trodAll_cons_mk (Below.trod laidOut (by kernel_rfl) (of_decide_eq_true (by kernel_rfl)) k5 bel lt5) trodAll_mk0)))))), rfl, bel.frame _, fun h => by cases h⟩
theorem over : Rows.outboxOrderRow.holds Try.pinned (OpenSpec.ofChange Rows.outboxOrderSpec) :=
  OpenClaim.holds_of_wide 8 Try.f8 rfl rfl rfl rfl rfl rfl rfl ⟨rfl, rfl, rfl, rfl, rfl⟩ rfl rfl rfl rfl rfl (by kernel_rfl) Try.func8 (by kernel_rfl)
    (of_decide_eq_true (by kernel_rfl)) (by unfold Func.isWrapper; first | (rw [if_pos (by decide +kernel)]; kernel_rfl) | (rw [if_neg (by decide +kernel)]; exact ⟨rfl, rfl⟩))
    (fun os started H enc _ => lifted os started H enc)
theorem proved : Rows.OutboxOrderSaid := over
end Go.Proofs.Ytaoiokilnmpniaa.outboxOrder
