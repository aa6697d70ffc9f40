/- For every slice of strings (the first 200, the first 80 bytes of each) and every number of bits from 1 to 16: the filter has each of them, and no more bits are set than there are probes for each (P11.3, P11.6), and the example at the head holds; the arguments stay as they were. No condition. -/
import Derived.Test.YtpoogjdkjolkhaaBloomFil
import Derived.WalkKit
import Derived.ProofKit
import Derived.OpenShut
import Derived.ShutString
import Derived.ChangeOld
import Derived.Below
import Derived.Deep.RegionHeld
namespace Go.Proofs.Ytpoogjdkjolkhaa.bloomNever
open Go.ChangeShapes Go.WideShapes Go.ChangeAt Go.RowKit
set_option linter.unusedVariables false
theorem own : ownKnob Try.prog.godebug = none := by kernel_rfl
theorem laidOut : laidOutB Try.prog = true := by kernel_rfl
set_option maxRecDepth 100000 in
set_option maxHeartbeats 1000000 in
theorem walk (A0 : Option Addr) (m0 c0 : Nat) (l0 : List ByteArray) (n1 : Nat) (w : World) (r0 : RdS w A0 m0 l0) (wc0 : m0 ≤ c0) (w0 : m0 ≤ 9223372036854775807) (ws0 : ∀ s ∈ l0, s.size ≤ 9223372036854775807) (w1 : n1 < 256) :
    Calls Try.prog 6 #[.slice A0 m0 c0, .int .u8 (n1 : Int)] w fun e w' => e = .returned (.bool true) ∧ Below w.heap.size w w' := by
  -- heartbeats 1000000
  have hfs := fewS_size l0
  have hfl := fewS_length l0
  obtain ⟨b, hb⟩ : ∃ b, b = n1 % 16 + 1 := ⟨_, rfl⟩
  have hbi : (n1 : Int) % 16 + 1 = (b : Int) := by omega
  have hb16 : b ≤ 16 := by omega
  have hb1 : 1 ≤ b := by omega
  have Hf := Lib.hid hfs
  clear hfs hb
  go_enter Try.func6, Try.ntmps6
  go_wp2_with fail
  refine (few_any A0 m0 c0 l0 w r0 w0 ws0).mono ?_
  rintro e v1 ⟨A1, cap1, rfl, ho1, hbl1⟩
  have hr1 := ho1.rd.strs
  have hs1 : ∀ s ∈ fewS l0, s.size ≤ 9223372036854775807 := fun s hs => by have := Hf.out s hs; omega
  clear ho1 Hf
  generalize fewS l0 = ks at *
  obtain ⟨m1, m2, m3⟩ := size_form ks.length b (by omega) hb16
  obtain ⟨p1, p2⟩ := probes_form b hb16
  have hmk := make_any A1 ks.length cap1 (b : Int) ks v1 hr1 hs1
  rw [makeF_in ks b hb1 hb16 (by omega)] at hmk
  generalize Bl.sizeOf ks.length b = m at *
  generalize Bl.probesOf b = p at *
  have hlen := filter_length (ks.map hashN) m p
  have hhas2 : ∀ (W : World) (A : Option Addr) (c : Nat), Rd W A (Bl.filter (ks.map hashN) m p).length (Bl.filter (ks.map hashN) m p) → ∀ s ∈ ks, Calls Try.prog 17 #[.slice A (Bl.filter (ks.map hashN) m p).length c, .string s] W fun e w' => e = .returned (.bool true) ∧ Below W.heap.size W w' := by
    intro W A c h s hs
    have h2 := has_any A (Bl.filter (ks.map hashN) m p).length c (Bl.filter (ks.map hashN) m p) s W h (by omega) (hs1 s hs)
    rw [filter_hasF ks m p m1 m2 m3 p1 (by omega) s hs] at h2
    exact h2
  have hcnt := fun W A c h hc => count_any A (Bl.filter (ks.map hashN) m p).length c (Bl.filter (ks.map hashN) m p) W h hc (by omega)
  unfold GivesCount at hcnt
  obtain ⟨n, hn1, hn2⟩ := filter_cnt (ks.map hashN) m p m1 m2 m3
  rw [List.length_map] at hn2
  rw [filter_is _ m p m1 m2 m3 p1 (by omega), if_pos rfl, hn1] at hcnt
  have hg0 : (Bl.filter (ks.map hashN) m p)[0]? = some p := rfl
  obtain ⟨q, hq⟩ : ∃ q : Nat, q = p * ks.length := ⟨_, rfl⟩
  have hqi : (p : Int) * (ks.length : Int) = (q : Int) := by rw [hq]; simp
  have hq2 : q ≤ 3200 := by rw [hq]; exact Nat.mul_le_mul (show p ≤ 16 by omega) hfl
  rw [← hq] at hn2
  generalize Bl.filter (ks.map hashN) m p = f at *
  have Hmk := Lib.hid hmk
  have Hhas := Lib.hid hhas2
  have Hcnt := Lib.hid hcnt
  have Hg0 := Lib.hid hg0
  have Hs1 := Lib.hid hs1
  have hf0 : ((f.length : Int) == 0) = false := by rw [beq_eq_false_iff_ne]; omega
  have hf9 : 9 ≤ f.length := by omega
  clear hmk hhas2 hcnt hn1 hg0 hq hlen hs1 m3
  go_wp2_with fail
  refine Hmk.out.mono ?_
  rintro e v2 ⟨A2, cap2, rfl, ho2, hbl2⟩
  have hr2 := hr1.below hbl2
  have hbl12 := below_next hbl1 hbl2
  clear hbl1 hbl2 hr1
  go_wp2_with fail
  go_loopw [7] (fun i wr => ∃ k : Nat, k ≤ ks.length ∧ i = .int .i64 (k : Int) ∧ Below v2.heap.size v2 wr) (fun i _ => ks.length - (intOf i).toNat)
  case atStart => exact ⟨0, by omega, rfl, Below.refl _ _⟩
  case round =>
    obtain ⟨k, hk, rfl, hb⟩ := hrel
    have hrd := ho2.rd.below hb
    have hcp := ho2.cap
    by_cases hlt : k < ks.length
    · have hki : (k : Int) < (ks.length : Int) := by omega
      obtain ⟨b1, o1, s, rfl, hbl, hsk, hcell⟩ := hr2.at_ hlt
      have hcell1 := (hb.cell (p := ⟨b1, o1 + k, none⟩) hbl).trans hcell
      have hc := Hhas.out wr A2 cap2 hrd s (List.mem_of_getElem? hsk)
      have Hc := Lib.hid hc
      clear hc hsk hcell
      go_wp2_with (first | (go_at_call 17; refine Hc.out.mono ?_; rintro e v3 ⟨rfl, hb3⟩; have hb23 := below_next hb hb3))
      go_roundw
      case rel => exact ⟨k + 1, by omega, by go_num, hb23⟩
      case measure => simp [intOf]; omega
    · have hkn : k = ks.length := by omega
      subst hkn
      obtain ⟨g, rfl, hg1, hg2⟩ := ho2.form (by omega)
      have hf0 := (hb.cell (p := ⟨g, 0, none⟩) hg2).trans (ho2.cell Hg0.out)
      go_wp2_with (first | (go_at_call 15; refine (Hcnt.out _ _ _ hrd hcp).mono ?_; rintro e v3 ⟨rfl, rfl⟩) | (go_at_call 14; refine (awake_any _).mono ?_; rintro e v5 ⟨rfl, hb5⟩))
      go_ret
      exact ⟨rfl, below_next (below_next hbl12 hb) hb5⟩
set_option maxRecDepth 100000 in
theorem lifted (os : Os) (started : os.Started) (H : Type) (enc : TypeId × Value → H) :
    ReturnsInHanded {} Try.checked os 6 .any (Rows.bloomNeverSpec.pre6 enc Try.prog Try.f6 Rows.bloomNeverRow.domain false) (Rows.bloomNeverSpec.post enc Try.prog Try.f6 false true false false) := by
  refine returnsInHanded_of_change (C := Try.checked) own started (by kernel_rfl) Try.func6
    (ChangeSpec.witness6 (enc := enc) (C := Try.checked) false ⟨#[], #[.slice none 0 0, .int .u8 0], []⟩ 8 (by kernel_rfl) (by kernel_rfl) (by kernel_rfl) (by kernel_rfl)) ?_
  intro W base args ds gs before hval0 hW hcnd _
  have hval : ∀ (j : Nat) t v, Try.f6.params[j]? = some t → args[j]? = some v → Value.okWide Try.prog W .any base t v := hval0
  have hW' := hW
  obtain ⟨p, q, hA0, hV, rfl, hfz, hnd⟩ := hW
  have hA : DataW.TrodAll enc Try.prog W 0 (fun _ => true) true Try.f6.params.toList args.toList ds p := hA0
  rw [Try.params6] at hA hval
  obtain ⟨v0, vs0, d0, ds0, p0, q0, hargs, rfl, rfl, h0, t0⟩ := trodAll_cons hA
  obtain ⟨v1, vs1, d1, ds1, p1, q1, rfl, rfl, rfl, h1, t1⟩ := trodAll_cons t0
  obtain ⟨rfl, rfl, rfl⟩ := trodAll_nil t1
  obtain rfl : args = #[v0, v1] := by cases args; simp_all
  obtain ⟨rfl, rfl⟩ := trodVars_none hV
  have k0 : Reads enc W 22 v0 d0 p0 := h0
  have lt0 : ∀ x ∈ p0, x.block < W.heap.size := by obtain ⟨m, hm⟩ := k0; exact DataW.trod_lt m _ _ _ hm
  obtain ⟨A0, m0, c0, l0, rfl, r0, wc0, w0, ws0⟩ := in_strs (hval 0 22 v0 rfl rfl) k0
  have k1 : Reads enc W 5 v1 d1 p1 := h1
  have lt1 : ∀ x ∈ p1, x.block < W.heap.size := by obtain ⟨m, hm⟩ := k1; exact DataW.trod_lt m _ _ _ hm
  obtain ⟨n1, rfl, w1⟩ := in_u8 (hval 1 5 v1 rfl rfl) k1
  clear hA0 hval0
  refine (walk A0 m0 c0 l0 n1 W r0 wc0 w0 ws0 w1).mono fun e W' ⟨he, bel⟩ => ?_
  subst he
  exact ⟨_, rfl, _, _, _, [], _, [], hW', trodAll_mk1 (shut_bool Try.underlying4 _), (trodAll_cons_mk (Below.trod laidOut (by kernel_rfl) (of_decide_eq_true (by kernel_rfl)) k0 bel lt0) (trodAll_cons_mk (Below.trod laidOut (by kernel_rfl) (of_decide_eq_true (by kernel_rfl)) k1 bel lt1) trodAll_mk0)), rfl, bel.frame _, fun h => by cases h⟩
theorem over : Rows.bloomNeverRow.holds Try.pinned (OpenSpec.ofChange Rows.bloomNeverSpec) :=
  OpenClaim.holds_of_wide 6 Try.f6 rfl rfl rfl rfl rfl rfl rfl ⟨rfl, rfl, rfl, rfl, rfl⟩ rfl rfl rfl rfl rfl (by kernel_rfl) Try.func6 (by kernel_rfl)
    (of_decide_eq_true (by kernel_rfl)) (by unfold Func.isWrapper; first | (rw [if_pos (by decide +kernel)]; kernel_rfl) | (rw [if_neg (by decide +kernel)]; exact ⟨rfl, rfl⟩))
    (fun os started H enc _ => lifted os started H enc)
theorem proved : Rows.BloomNeverSaid := over
end Go.Proofs.Ytpoogjdkjolkhaa.bloomNever
