/- For every name (the first 20 bytes), every peer and every number: the keys, and their errors, are the document's (P21.3, and the example at the head holds; the arguments stay as they were. No condition. -/
import Derived.Test.YtaoiokilnmpniaaInBox
import Derived.Test.YtaoiokilnmpniaaBoxAwake
import Derived.WalkKit
import Derived.ProofKit
import Derived.OpenShut
import Derived.ShutString
import Derived.ChangeOld
import Derived.Below
import Derived.Deep.RegionHeld
namespace Go.Proofs.Ytaoiokilnmpniaa.outboxKeys
open Go.ChangeShapes Go.WideShapes Go.ChangeAt Go.RowKit
set_option linter.unusedVariables false
theorem own : ownKnob Try.prog.godebug = none := by kernel_rfl
theorem laidOut : laidOutB Try.prog = true := by kernel_rfl
set_option maxRecDepth 100000 in
theorem alike_same (a : ByteArray) (e : Int) (w : World) : Calls Try.prog 21 #[.string a, .int .i64 e, .string a, .int .i64 e] w fun e w' => e = .returned (.bool true) ∧ w = w' := by
  go_enter Try.func21, Try.ntmps21
  go_wp2
  go_ret
  exact ⟨rfl, rfl⟩
set_option maxRecDepth 100000 in
set_option maxHeartbeats 4000000 in
theorem walk (s0 : ByteArray) (n1 : Int) (n2 : Int) (w : World) (w0 : s0.size ≤ 9223372036854775807) (wl1 : -9223372036854775808 ≤ n1) (w1 : n1 ≤ 9223372036854775807) (wl2 : -9223372036854775808 ≤ n2) (w2 : n2 ≤ 9223372036854775807) :
    Calls Try.prog 4 #[.string s0, .int .i64 n1, .int .i64 n2] w fun e w' => e = .returned (.bool true) ∧ Below w.heap.size w w' := by
  -- heartbeats 4000000
  have hcut : s0.size ≤ 20 ∨ 20 < s0.size := by omega
  obtain ⟨s, hs, hsz⟩ : ∃ s : ByteArray, (s0.size ≤ 20 ∧ s = s0 ∨ 20 < s0.size ∧ s = s0.extract 0 20) ∧ s.size ≤ 20 := by
    rcases hcut with h | h
    · exact ⟨s0, .inl ⟨h, rfl⟩, h⟩
    · exact ⟨s0.extract 0 20, .inr ⟨h, rfl⟩, by rw [ByteArray.size_extract]; omega⟩
  clear hcut
  have hsz2 : s.size ≤ 9223372036854775807 := by omega
  have hp0 := fun W => kaccountkey s W hsz2
  have hr0 := fun W => rkaccountkey s W hsz2
  have hp1 := fun W => kholdkey s n2 W hsz2
  have hr1 := fun W => rkholdkey s n2 W hsz2
  have hp2 := fun W => kholdskey s W hsz2
  have hr2 := fun W => rkholdskey s W hsz2
  have hp3 := fun W => koutkey n1 n2 W
  have hr3 := fun W => rkoutkey n1 n2 W
  have hp4 := fun W => koutskey n1 W
  have hr4 := fun W => rkoutskey n1 W
  have hp5 := fun W => knextkey n1 W
  have hr5 := fun W => rknextkey n1 W
  have hp6 := fun W => kinboxkey n1 W
  have hr6 := fun W => rkinboxkey n1 W
  have hn := fun W => name_any s W hsz2
  have hrn := fun W => rname_any s W hsz2
  generalize nameB s = bn at *
  unfold GivesKey at hp0 hr0 hp1 hr1 hp2 hr2 hp3 hr3 hp4 hr4 hp5 hr5 hp6 hr6
  generalize mkS (bn) [⟨#[97]⟩, s] = a0 at hp0 hr0
  generalize mkE (bn) = e0 at hp0 hr0
  have Hp0 := Lib.hid hp0
  have Hr0 := Lib.hid hr0
  generalize mkS (bn && withinB n2 0 1099511627776) [⟨#[104]⟩, s, numS n2 8] = a1 at hp1 hr1
  generalize mkE (bn && withinB n2 0 1099511627776) = e1 at hp1 hr1
  have Hp1 := Lib.hid hp1
  have Hr1 := Lib.hid hr1
  generalize mkS (bn) [⟨#[104]⟩, s] = a2 at hp2 hr2
  generalize mkE (bn) = e2 at hp2 hr2
  have Hp2 := Lib.hid hp2
  have Hr2 := Lib.hid hr2
  generalize mkS (withinB n1 1 15 && withinB n2 0 1099511627776) [⟨#[111]⟩, numS n1 1, numS n2 8] = a3 at hp3 hr3
  generalize mkE (withinB n1 1 15 && withinB n2 0 1099511627776) = e3 at hp3 hr3
  have Hp3 := Lib.hid hp3
  have Hr3 := Lib.hid hr3
  generalize mkS (withinB n1 1 15) [⟨#[111]⟩, numS n1 1] = a4 at hp4 hr4
  generalize mkE (withinB n1 1 15) = e4 at hp4 hr4
  have Hp4 := Lib.hid hp4
  have Hr4 := Lib.hid hr4
  generalize mkS (withinB n1 1 15) [⟨#[110]⟩, numS n1 1] = a5 at hp5 hr5
  generalize mkE (withinB n1 1 15) = e5 at hp5 hr5
  have Hp5 := Lib.hid hp5
  have Hr5 := Lib.hid hr5
  generalize mkS (withinB n1 1 15) [⟨#[105]⟩, numS n1 1] = a6 at hp6 hr6
  generalize mkE (withinB n1 1 15) = e6 at hp6 hr6
  have Hp6 := Lib.hid hp6
  have Hr6 := Lib.hid hr6
  have Hn := Lib.hid hn
  have Hrn := Lib.hid hrn
  clear hsz hsz2 hn hrn hp0 hr0 hp1 hr1 hp2 hr2 hp3 hr3 hp4 hr4 hp5 hr5 hp6 hr6
  rcases hs with ⟨hcut, hs⟩ | ⟨hcut, hs⟩
  all_goals
    rw [hs] at Hp0 Hr0 Hp1 Hr1 Hp2 Hr2 Hn Hrn
    clear hs
    first | (have hc2 : ¬ (20 : Int) < (s0.size : Int) := by omega) | (have hc2 : (20 : Int) < (s0.size : Int) := by omega)
    go_enter Try.func4, Try.ntmps4
    go_wp2_with (first | (go_at_call 19; refine (Hp0.out _).mono ?_; rintro e vp0 ⟨rfl, hbp0⟩) | (go_at_call 20; refine (Hr0.out _).mono ?_; rintro e vr0 ⟨rfl, hbr0⟩) | (go_at_call 26; refine (Hp1.out _).mono ?_; rintro e vp1 ⟨rfl, hbp1⟩) | (go_at_call 27; refine (Hr1.out _).mono ?_; rintro e vr1 ⟨rfl, hbr1⟩) | (go_at_call 28; refine (Hp2.out _).mono ?_; rintro e vp2 ⟨rfl, hbp2⟩) | (go_at_call 29; refine (Hr2.out _).mono ?_; rintro e vr2 ⟨rfl, hbr2⟩) | (go_at_call 30; refine (Hp3.out _).mono ?_; rintro e vp3 ⟨rfl, hbp3⟩) | (go_at_call 31; refine (Hr3.out _).mono ?_; rintro e vr3 ⟨rfl, hbr3⟩) | (go_at_call 32; refine (Hp4.out _).mono ?_; rintro e vp4 ⟨rfl, hbp4⟩) | (go_at_call 33; refine (Hr4.out _).mono ?_; rintro e vr4 ⟨rfl, hbr4⟩) | (go_at_call 34; refine (Hp5.out _).mono ?_; rintro e vp5 ⟨rfl, hbp5⟩) | (go_at_call 35; refine (Hr5.out _).mono ?_; rintro e vr5 ⟨rfl, hbr5⟩) | (go_at_call 36; refine (Hp6.out _).mono ?_; rintro e vp6 ⟨rfl, hbp6⟩) | (go_at_call 37; refine (Hr6.out _).mono ?_; rintro e vr6 ⟨rfl, hbr6⟩) | (go_at_call 21; refine (alike_same _ _ _).mono ?_; rintro e va ⟨rfl, rfl⟩) | (go_at_call 22; refine (Hn.out _).mono ?_; rintro e va ⟨rfl, rfl⟩) | (go_at_call 23; refine (Hrn.out _).mono ?_; rintro e va ⟨rfl, rfl⟩) | (go_at_call 24; refine (kclockkey _).mono ?_; rintro e vc ⟨rfl, hbc⟩) | (go_at_call 25; refine (rkclockkey _).mono ?_; rintro e vd ⟨rfl, hbd⟩) | (go_at_call 18; refine (awake_any _).mono ?_; rintro e vw ⟨rfl, hbw⟩))
    all_goals
      go_ret
      exact ⟨rfl, below_next (below_next (below_next (below_next (below_next (below_next (below_next (below_next (below_next (below_next (below_next (below_next (below_next (below_next (below_next (below_next hbp0 hbr0) hbc) hbd) hbp1) hbr1) hbp2) hbr2) hbp3) hbr3) hbp4) hbr4) hbp5) hbr5) hbp6) hbr6) hbw⟩
set_option maxRecDepth 100000 in
theorem lifted (os : Os) (started : os.Started) (H : Type) (enc : TypeId × Value → H) :
    ReturnsInHanded {} Try.checked os 4 .any (Rows.outboxKeysSpec.pre6 enc Try.prog Try.f4 Rows.outboxKeysRow.domain false) (Rows.outboxKeysSpec.post enc Try.prog Try.f4 false true false false) := by
  refine returnsInHanded_of_change (C := Try.checked) own started (by kernel_rfl) Try.func4
    (ChangeSpec.witness6 (enc := enc) (C := Try.checked) false ⟨#[], #[.string ⟨#[]⟩, .int .i64 0, .int .i64 0], []⟩ 8 (by kernel_rfl) (by kernel_rfl) (by kernel_rfl) (by kernel_rfl)) ?_
  intro W base args ds gs before hval0 hW hcnd _
  have hval : ∀ (j : Nat) t v, Try.f4.params[j]? = some t → args[j]? = some v → Value.okWide Try.prog W .any base t v := hval0
  have hW' := hW
  obtain ⟨p, q, hA0, hV, rfl, hfz, hnd⟩ := hW
  have hA : DataW.TrodAll enc Try.prog W 0 (fun _ => true) true Try.f4.params.toList args.toList ds p := hA0
  rw [Try.params4] at hA hval
  obtain ⟨v0, vs0, d0, ds0, p0, q0, hargs, rfl, rfl, h0, t0⟩ := trodAll_cons hA
  obtain ⟨v1, vs1, d1, ds1, p1, q1, rfl, rfl, rfl, h1, t1⟩ := trodAll_cons t0
  obtain ⟨v2, vs2, d2, ds2, p2, q2, rfl, rfl, rfl, h2, t2⟩ := trodAll_cons t1
  obtain ⟨rfl, rfl, rfl⟩ := trodAll_nil t2
  obtain rfl : args = #[v0, v1, v2] := by cases args; simp_all
  obtain ⟨rfl, rfl⟩ := trodVars_none hV
  have k0 : Reads enc W 9 v0 d0 p0 := h0
  have lt0 : ∀ x ∈ p0, x.block < W.heap.size := by obtain ⟨m, hm⟩ := k0; exact DataW.trod_lt m _ _ _ hm
  obtain ⟨s0, rfl, w0⟩ := in_str (hval 0 9 v0 rfl rfl) k0
  have k1 : Reads enc W 3 v1 d1 p1 := h1
  have lt1 : ∀ x ∈ p1, x.block < W.heap.size := by obtain ⟨m, hm⟩ := k1; exact DataW.trod_lt m _ _ _ hm
  obtain ⟨n1, rfl, wl1, w1⟩ := in_int (hval 1 3 v1 rfl rfl) k1
  have k2 : Reads enc W 3 v2 d2 p2 := h2
  have lt2 : ∀ x ∈ p2, x.block < W.heap.size := by obtain ⟨m, hm⟩ := k2; exact DataW.trod_lt m _ _ _ hm
  obtain ⟨n2, rfl, wl2, w2⟩ := in_int (hval 2 3 v2 rfl rfl) k2
  clear hA0 hval0
  refine (walk s0 n1 n2 W w0 wl1 w1 wl2 w2).mono fun e W' ⟨he, bel⟩ => ?_
  subst he
  exact ⟨_, rfl, _, _, _, [], _, [], hW', trodAll_mk1 (shut_bool Try.underlying4 _), (trodAll_cons_mk (Below.trod laidOut (by kernel_rfl) (of_decide_eq_true (by kernel_rfl)) k0 bel lt0) (trodAll_cons_mk (Below.trod laidOut (by kernel_rfl) (of_decide_eq_true (by kernel_rfl)) k1 bel lt1) (trodAll_cons_mk (Below.trod laidOut (by kernel_rfl) (of_decide_eq_true (by kernel_rfl)) k2 bel lt2) trodAll_mk0))), rfl, bel.frame _, fun h => by cases h⟩
theorem over : Rows.outboxKeysRow.holds Try.pinned (OpenSpec.ofChange Rows.outboxKeysSpec) :=
  OpenClaim.holds_of_wide 4 Try.f4 rfl rfl rfl rfl rfl rfl rfl ⟨rfl, rfl, rfl, rfl, rfl⟩ rfl rfl rfl rfl rfl (by kernel_rfl) Try.func4 (by kernel_rfl)
    (of_decide_eq_true (by kernel_rfl)) (by unfold Func.isWrapper; first | (rw [if_pos (by decide +kernel)]; kernel_rfl) | (rw [if_neg (by decide +kernel)]; exact ⟨rfl, rfl⟩))
    (fun os started H enc _ => lifted os started H enc)
theorem proved : Rows.OutboxKeysSaid := over
end Go.Proofs.Ytaoiokilnmpniaa.outboxKeys
