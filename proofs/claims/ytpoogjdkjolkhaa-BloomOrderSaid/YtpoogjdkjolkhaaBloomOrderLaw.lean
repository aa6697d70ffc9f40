/- For every slice of strings (the first 200, the first 80 bytes of each), however they are turned, and every number of bits from 1 to 16: the filter of the turned row is the filter of the row (P11.4), and the example at the head holds; the arguments stay as they were. No condition. -/
import Derived.Test.YtpoogjdkjolkhaaBloomTurn
import Derived.WalkKit
import Derived.ProofKit
import Derived.OpenShut
import Derived.ShutString
import Derived.ChangeOld
import Derived.Below
import Derived.Deep.RegionHeld
namespace Go.Proofs.Ytpoogjdkjolkhaa.bloomOrder
open Go.ChangeShapes Go.WideShapes Go.ChangeAt Go.RowKit
set_option linter.unusedVariables false
theorem own : ownKnob Try.prog.godebug = none := by kernel_rfl
theorem laidOut : laidOutB Try.prog = true := by kernel_rfl
set_option maxRecDepth 100000 in
set_option maxHeartbeats 1000000 in
theorem walk (A0 : Option Addr) (m0 c0 : Nat) (l0 : List ByteArray) (n1 : Nat) (n2 : Nat) (w : World) (r0 : RdS w A0 m0 l0) (wc0 : m0 ≤ c0) (w0 : m0 ≤ 9223372036854775807) (ws0 : ∀ s ∈ l0, s.size ≤ 9223372036854775807) (w1 : n1 < 18446744073709551616) (w2 : n2 < 256) :
    Calls Try.prog 7 #[.slice A0 m0 c0, .int .u64 (n1 : Int), .int .u8 (n2 : Int)] w fun e w' => e = .returned (.bool true) ∧ Below w.heap.size w w' := by
  -- heartbeats 1000000
  have hfs := fewS_size l0
  have hfl := fewS_length l0
  obtain ⟨b, hb⟩ : ∃ b, b = n2 % 16 + 1 := ⟨_, rfl⟩
  have hbi : (n2 : Int) % 16 + 1 = (b : Int) := by omega
  have hb16 : b ≤ 16 := by omega
  have hb1 : 1 ≤ b := by omega
  have Hf := Lib.hid hfs
  have W1 := Lib.hid w1
  clear hfs hb w1
  go_enter Try.func7, Try.ntmps7
  go_wp2_with fail
  refine (few_any A0 m0 c0 l0 w r0 w0 ws0).mono ?_
  rintro e v1 ⟨A1, cap1, rfl, ho1, hbl1⟩
  have hr1 := ho1.rd.strs
  have hs1 : ∀ s ∈ fewS l0, s.size ≤ 9223372036854775807 := fun s hs => by have := Hf.out s hs; omega
  clear ho1 Hf
  generalize fewS l0 = ks at *
  have Hs1 := Lib.hid hs1
  clear hs1
  go_wp2_with fail
  go_loopw [7, 8] (fun v i wr => ∃ (k c : Nat) (B : Option Addr), k ≤ ks.length ∧ i = .int .i64 (k : Int) ∧ v = .slice B k c ∧ OwnV wr v1.heap.size 9 B k c (sv (turned ks (n1 % ks.length) k)) ∧ Below v1.heap.size v1 wr) (fun _ i _ => ks.length - (intOf i).toNat)
  case atStart => exact ⟨0, 0, none, by omega, rfl, rfl, OwnV.none_ v1 v1.heap.size _, Below.refl _ _⟩
  case round =>
    obtain ⟨k, c, B, hk, rfl, rfl, ho, hb⟩ := hrel
    have hsz := hb.size
    by_cases hlt : k < ks.length
    · have hki : (k : Int) < (ks.length : Int) := by omega
      obtain ⟨r, hr⟩ : ∃ r, r = n1 % ks.length := ⟨_, rfl⟩
      have hri : (n1 : Int) % (ks.length : Int) = (r : Int) := by rw [hr]; simp
      have hrl : r < ks.length := by rw [hr]; exact Nat.mod_lt _ (by omega)
      rw [← hr] at ho
      obtain ⟨y, hy⟩ : ∃ y : Nat, y = ks.length - 1 - k + r := ⟨_, rfl⟩
      have hyi : (ks.length : Int) - 1 - (k : Int) + (r : Int) = (y : Int) := by omega
      have hy0 : (0 : Int) ≤ (ks.length : Int) - 1 - (k : Int) := by omega
      obtain ⟨j, hj⟩ : ∃ j, j = turnAt ks.length r k := ⟨_, rfl⟩
      have hji : (y : Int) % (ks.length : Int) = (j : Int) := by rw [hj, hy]; unfold turnAt; simp
      have hjl : j < ks.length := by rw [hj]; exact turnAt_lt _ _ _ (by omega)
      have hn0 : ¬ (ks.length : Int) = 0 := by omega
      obtain ⟨b1, o1, s, rfl, hbl, hsk, hcell⟩ := hr1.at_ hjl
      have hcell1 := (hb.cell (p := ⟨b1, o1 + j, none⟩) hbl).trans hcell
      have hsn : turned ks r (k + 1) = turned ks r k ++ [s] := by
        rw [turned_snoc, ← hj, List.getD_eq_getElem?_getD, hsk]; rfl
      have Hsn := Lib.hid hsn
      have Hr := Lib.hid hr
      clear hsn hr hy hj hcell hsk
      go_wp2_with (first | (at_builtin; refine wpList_appV oneStr rfl (.tmp 21) (.tmp 41) rfl rfl (ho.alloc _) (some ⟨wr.heap.size, 0, none⟩) 1 1 [.string s] (by intro u hu; rw [List.mem_singleton.1 hu]; rfl) rfl (rdv_one _ _ _) (by omega) (Nat.le_trans hsz (size_alloc_le _ _)) ?_; intro A3 cap3 w3 hg3))
      go_roundw
      case rel =>
        refine ⟨k + 1, cap3, A3, by omega, by go_num, rfl, ?_, hg3.below (hb.alloc hsz _) (Nat.le_trans hsz (size_alloc_le _ _)) (fun g hg => (ho.blk g hg).1)⟩
        rw [← Hr.out, Hsn.out, sv_append]
        exact hg3.own
      case measure => simp [intOf]; omega
    · have hkn : k = ks.length := by omega
      subst hkn
      have hT : makeF (turned ks (n1 % ks.length) ks.length) (b : Int) = makeF ks (b : Int) := by
        apply turned_makeF
        rcases Nat.eq_zero_or_pos ks.length with h | h
        · exact .inr (List.eq_nil_of_length_eq_zero h)
        · exact .inl (Nat.mod_lt _ h)
      have hTs : ∀ s ∈ turned ks (n1 % ks.length) ks.length, s.size ≤ 9223372036854775807 := by
        intro s hs
        rcases Nat.eq_zero_or_pos ks.length with h | h
        · rw [h] at hs; cases hs
        · exact Hs1.out s ((turned_mem ks _ (Nat.mod_lt _ h) s).1 hs)
      have hrt := ho.rd.strs
      generalize turned ks (n1 % ks.length) ks.length = ts at *
      have hm1 := fun W h => make_any A1 ks.length cap1 (b : Int) ks W h Hs1.out
      have hm2 := fun W h => make_any B ks.length c (b : Int) ts W h hTs
      rw [hT, makeF_in ks b hb1 hb16 (by omega)] at hm2
      rw [makeF_in ks b hb1 hb16 (by omega)] at hm1
      generalize Bl.filter (ks.map hashN) (Bl.sizeOf ks.length b) (Bl.probesOf b) = f at *
      have Hm1 := Lib.hid hm1
      have Hm2 := Lib.hid hm2
      have hr1' := hr1.below hb
      have hss := str_same (a := f) rfl
      clear hm1 hm2 hT hTs ho hr1
      go_wp2_with fail
      refine (Hm1.out _ hr1').mono ?_
      rintro e v2 ⟨A2, cap2, rfl, ho2, hbl2⟩
      go_wp2_with fail
      refine (Hm2.out _ (hrt.below hbl2)).mono ?_
      rintro e v3 ⟨A3, cap3, rfl, ho3, hbl3⟩
      have hcv2 := run_str (cap := cap2) (ho2.rd.below hbl3)
      have hcv3 := run_str (cap := cap3) ho3.rd
      have hx := below_next (below_next (below_next hbl1 hb) hbl2) hbl3
      clear ho2 ho3 hbl1 hb hbl2 hbl3
      go_wp2_with (first | (go_at_call 14; refine (awake_any _).mono ?_; rintro e v5 ⟨rfl, hb5⟩))
      go_ret
      exact ⟨rfl, below_next hx hb5⟩
set_option maxRecDepth 100000 in
theorem lifted (os : Os) (started : os.Started) (H : Type) (enc : TypeId × Value → H) :
    ReturnsInHanded {} Try.checked os 7 .any (Rows.bloomOrderSpec.pre6 enc Try.prog Try.f7 Rows.bloomOrderRow.domain false) (Rows.bloomOrderSpec.post enc Try.prog Try.f7 false true false false) := by
  refine returnsInHanded_of_change (C := Try.checked) own started (by kernel_rfl) Try.func7
    (ChangeSpec.witness6 (enc := enc) (C := Try.checked) false ⟨#[], #[.slice none 0 0, .int .u64 0, .int .u8 0], []⟩ 8 (by kernel_rfl) (by kernel_rfl) (by kernel_rfl) (by kernel_rfl)) ?_
  intro W base args ds gs before hval0 hW hcnd _
  have hval : ∀ (j : Nat) t v, Try.f7.params[j]? = some t → args[j]? = some v → Value.okWide Try.prog W .any base t v := hval0
  have hW' := hW
  obtain ⟨p, q, hA0, hV, rfl, hfz, hnd⟩ := hW
  have hA : DataW.TrodAll enc Try.prog W 0 (fun _ => true) true Try.f7.params.toList args.toList ds p := hA0
  rw [Try.params7] at hA hval
  obtain ⟨v0, vs0, d0, ds0, p0, q0, hargs, rfl, rfl, h0, t0⟩ := trodAll_cons hA
  obtain ⟨v1, vs1, d1, ds1, p1, q1, rfl, rfl, rfl, h1, t1⟩ := trodAll_cons t0
  obtain ⟨v2, vs2, d2, ds2, p2, q2, rfl, rfl, rfl, h2, t2⟩ := trodAll_cons t1
  obtain ⟨rfl, rfl, rfl⟩ := trodAll_nil t2
  obtain rfl : args = #[v0, v1, v2] := by cases args; simp_all
  obtain ⟨rfl, rfl⟩ := trodVars_none hV
  have k0 : Reads enc W 22 v0 d0 p0 := h0
  have lt0 : ∀ x ∈ p0, x.block < W.heap.size := by obtain ⟨m, hm⟩ := k0; exact DataW.trod_lt m _ _ _ hm
  obtain ⟨A0, m0, c0, l0, rfl, r0, wc0, w0, ws0⟩ := in_strs (hval 0 22 v0 rfl rfl) k0
  have k1 : Reads enc W 43 v1 d1 p1 := h1
  have lt1 : ∀ x ∈ p1, x.block < W.heap.size := by obtain ⟨m, hm⟩ := k1; exact DataW.trod_lt m _ _ _ hm
  obtain ⟨n1, rfl, w1⟩ := in_uint (hval 1 43 v1 rfl rfl) k1
  have k2 : Reads enc W 5 v2 d2 p2 := h2
  have lt2 : ∀ x ∈ p2, x.block < W.heap.size := by obtain ⟨m, hm⟩ := k2; exact DataW.trod_lt m _ _ _ hm
  obtain ⟨n2, rfl, w2⟩ := in_u8 (hval 2 5 v2 rfl rfl) k2
  clear hA0 hval0
  refine (walk A0 m0 c0 l0 n1 n2 W r0 wc0 w0 ws0 w1 w2).mono fun e W' ⟨he, bel⟩ => ?_
  subst he
  exact ⟨_, rfl, _, _, _, [], _, [], hW', trodAll_mk1 (shut_bool Try.underlying4 _), (trodAll_cons_mk (Below.trod laidOut (by kernel_rfl) (of_decide_eq_true (by kernel_rfl)) k0 bel lt0) (trodAll_cons_mk (Below.trod laidOut (by kernel_rfl) (of_decide_eq_true (by kernel_rfl)) k1 bel lt1) (trodAll_cons_mk (Below.trod laidOut (by kernel_rfl) (of_decide_eq_true (by kernel_rfl)) k2 bel lt2) trodAll_mk0))), rfl, bel.frame _, fun h => by cases h⟩
theorem over : Rows.bloomOrderRow.holds Try.pinned (OpenSpec.ofChange Rows.bloomOrderSpec) :=
  OpenClaim.holds_of_wide 7 Try.f7 rfl rfl rfl rfl rfl rfl rfl ⟨rfl, rfl, rfl, rfl, rfl⟩ rfl rfl rfl rfl rfl (by kernel_rfl) Try.func7 (by kernel_rfl)
    (of_decide_eq_true (by kernel_rfl)) (by unfold Func.isWrapper; first | (rw [if_pos (by decide +kernel)]; kernel_rfl) | (rw [if_neg (by decide +kernel)]; exact ⟨rfl, rfl⟩))
    (fun os started H enc _ => lifted os started H enc)
theorem proved : Rows.BloomOrderSaid := over
end Go.Proofs.Ytpoogjdkjolkhaa.bloomOrder
