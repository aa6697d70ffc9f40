/- Lines of unlike keys can be put into totals in whatever order. -/
import Derived.Test.YtcoekdfmfjglpaaBoLaw
import Derived.Test.YtcoekdfmfjglpaaIns
import Derived.Test.YtcoekdfmfjglpaaHolds
import Derived.WalkKit
import Derived.ProofKit
import Derived.OpenShut
import Derived.ShutString
import Derived.ChangeOld
import Derived.Below
import Derived.Deep.RegionHeld
namespace Go.Proofs.Ytcoekdfmfjglpaa.booksOrder
open Go.ChangeShapes Go.WideShapes Go.ChangeAt Go.RowKit
set_option linter.unusedVariables false
theorem own : ownKnob Try.prog.godebug = none := by kernel_rfl
theorem laidOut : laidOutB Try.prog = true := by kernel_rfl
set_option maxRecDepth 100000 in
set_option maxHeartbeats 8000000 in
theorem walk (A0 : Option Addr) (m0 c0 : Nat) (l0 : List Bo.Tt) (x1 : Bo.Ln) (x2 : Bo.Ln) (w : World) (r0 : RdT w A0 m0 l0) (wc0 : m0 ≤ c0) (w0 : m0 ≤ 9223372036854775807) (w1 : x1.key.size ≤ 9223372036854775807) (wn1 : -9223372036854775808 ≤ x1.n ∧ x1.n ≤ 9223372036854775807) (w2 : x2.key.size ≤ 9223372036854775807) (wn2 : -9223372036854775808 ≤ x2.n ∧ x2.n ≤ 9223372036854775807) :
    Calls Try.prog 5 #[.slice A0 m0 c0, .agg x1.cells.toArray, .agg x2.cells.toArray] w fun e w' => e = .returned (.bool true) ∧ Below w.heap.size w w' := by
-- heartbeats 8000000
  have HRa := Lib.hid r0
  have hks1 := w1
  have hks2 := w2
  obtain ⟨k1, s1, n1⟩ := x1
  obtain ⟨k2, s2, n2⟩ := x2
  dsimp only at hks1 hks2 wn1 wn2
  have HU := Lib.hid (show Below w.heap.size w ((w.alloc (.cells #[Value.int .i64 k1, .string s1, .int .i64 n1] 25)).alloc (.cells #[Value.int .i64 k2, .string s2, .int .i64 n2] 25)) from ((Below.refl _ _).alloc (Nat.le_refl _) _).alloc (by simp) _)
  have HLe := Lib.hid (fun (u : World) (hu : Below w.heap.size w u) => less_any A0 m0 c0 l0 u (HRa.out.below hu) w0)
  have HX := Lib.hid (show ∀ x ∈ [(⟨k1, s1, n1⟩ : Bo.Ln), ⟨k2, s2, n2⟩], x.key.size ≤ 9223372036854775807 ∧ (-9223372036854775808 ≤ x.n ∧ x.n ≤ 9223372036854775807) by
    intro x hx
    simp at hx
    rcases hx with rfl | rfl
    · exact ⟨hks1, wn1⟩
    · exact ⟨hks2, wn2⟩)
  have hx1 : (Bo.Ln.cells ⟨k1, s1, n1⟩).toArray = #[Value.int .i64 k1, .string s1, .int .i64 n1] := rfl
  have hx2 : (Bo.Ln.cells ⟨k2, s2, n2⟩).toArray = #[Value.int .i64 k2, .string s2, .int .i64 n2] := rfl
  rw [hx1, hx2]
  clear hx1 hx2 hks1 hks2 wn1 wn2 w1 w2 r0
  go_enter Try.func5, Try.ntmps5
  have HZ1 := Lib.hid ((Holds.new w #[Value.int .i64 k1, .string s1, .int .i64 n1] 25).alloc (.cells #[Value.int .i64 k2, .string s2, .int .i64 n2] 25))
  have HZ2 := Lib.hid (Holds.new (w.alloc (.cells #[Value.int .i64 k1, .string s1, .int .i64 n1] 25)) #[Value.int .i64 k2, .string s2, .int .i64 n2] 25)
  rw [World.size_alloc] at HZ2
  go_wp2_with fail
  refine (HLe.out _ HU.out).mono ?_
  rintro e v1 ⟨B, c, rfl, hf, hr, hb⟩
  have HR1 := Lib.hid hr
  have HB1 := Lib.hid (below_next HU.out hb)
  have HY1 := Lib.hid (HZ1.out.below hb)
  have HY2 := Lib.hid (HZ2.out.below hb)
  have HT := Lib.hid (Bo.less_most l0)
  clear hr hb HZ1 HZ2 HLe HU HRa
  generalize Bo.less l0 = T at *
  generalize hN : T.length = N at *
  have HN := Lib.hid hN
  clear hN
  have a0 := HY1.out.at_ 0 rfl
  have a1 := HY1.out.at_ 1 rfl
  have a2 := HY1.out.at_ 2 rfl
  have b0 := HY2.out.at_ 0 rfl
  have b1 := HY2.out.at_ 1 rfl
  have b2 := HY2.out.at_ 2 rfl
  have HFw := Lib.hid (few_any (some ⟨v1.heap.size, 0, none⟩) 2 2 _ _ (RdL.new v1 [⟨k1, s1, n1⟩, ⟨k2, s2, n2⟩] HX.out) (by decide))
  go_wp2_with fail
  refine HFw.out.mono ?_
  rintro e v2 ⟨Bf, cf, rfl, hf2, hr2, hb2⟩
  clear a0 a1 a2 b0 b1 b2 HFw
  have hr2 : RdL v2 Bf 2 [⟨k1, Bo.cutK s1, n1⟩, ⟨k2, Bo.cutK s2, n2⟩] := hr2
  have HB2 := Lib.hid (((Below.refl v1.heap.size v1).alloc (Nat.le_refl _) (.cells (Bo.lflat [⟨k1, s1, n1⟩, ⟨k2, s2, n2⟩]).toArray 25)).trans (hb2.mono (by simp)))
  obtain ⟨b, o, rfl, hbl, hcells⟩ := hr2.two
  have HC := Lib.hid hcells
  have HK1 := Lib.hid (Bo.cutK_size s1)
  have HK2 := Lib.hid (Bo.cutK_size s2)
  have HRt := Lib.hid (RdT.below HR1.out HB2.out)
  have HBw := Lib.hid (below_next HB1.out HB2.out)
  clear hr2 hb2 hf2 hcells hbl HB1 HB2 HR1 HY1 HY2 HX
  have hlen : (Bo.few [(⟨k1, s1, n1⟩ : Bo.Ln), ⟨k2, s2, n2⟩]).length = 2 := rfl
  rw [hlen]
  generalize Bo.cutK s1 = y1 at *
  generalize Bo.cutK s2 = y2 at *
  have HA1 := Lib.hid (fun (u : World) (hu : Below v2.heap.size v2 u) => badd_any B N c T ⟨k1, y1, n1⟩ u (HRt.out.below hu) (by have := HT.out; omega) (by have := HK1.out; show y1.size ≤ _; omega))
  have HA2 := Lib.hid (fun (u : World) (hu : Below v2.heap.size v2 u) => badd_any B N c T ⟨k2, y2, n2⟩ u (HRt.out.below hu) (by have := HT.out; omega) (by have := HK2.out; show y2.size ≤ _; omega))
  replace HA1 : Hid (∀ u : World, Below v2.heap.size v2 u → Calls Try.prog 9 #[.slice B N c, .agg #[.int .i64 k1, .string y1, .int .i64 n1]] u (GivesAdd u T ⟨k1, y1, n1⟩)) := HA1
  replace HA2 : Hid (∀ u : World, Below v2.heap.size v2 u → Calls Try.prog 9 #[.slice B N c, .agg #[.int .i64 k2, .string y2, .int .i64 n2]] u (GivesAdd u T ⟨k2, y2, n2⟩)) := HA2
  obtain ⟨⟨a0, a1, a2⟩, b0, b1, b2⟩ := HC.out v2 (Below.refl _ _)
  by_cases hkk : y1 = y2
  · have g0 : (y1.toList == y2.toList) = true := by rw [hkk]; exact Bo.byt_same y2
    clear hkk
    go_wp2_with fail
    go_big_quiet (fail)
    have HBq := Lib.hid (below_drewN HBw.out nq)
    go_wp2_with fail
    refine (awake_any _).mono ?_
    rintro e v3 ⟨rfl, hb3⟩
    have HF := Lib.hid (below_next HBq.out hb3)
    clear hb3
    go_wp2
    go_ret
    exact ⟨rfl, HF.out⟩
  have g0 : (y1.toList == y2.toList) = false := Bo.byt_other hkk
  have Hne := Lib.hid hkk
  clear hkk
  go_wp2_with fail
  go_big_quiet (fail)
  have HBq := Lib.hid (below_drewN (Below.refl v2.heap.size v2) nq)
  generalize v2.drewN nq = v3 at *
  clear a0 a1 a2 b0 b1 b2
  obtain ⟨⟨a0, a1, a2⟩, b0, b1, b2⟩ := HC.out v3 HBq.out
  go_wp2_with fail
  refine (HA1.out _ HBq.out).mono ?_
  rintro e v4 ⟨B1, c1, rfl, ho1, hb4⟩
  have HB4 := Lib.hid (HBq.out.trans (hb4.mono HBq.out.size))
  have HR1 := Lib.hid (add_rd ho1)
  have HL1 := Lib.hid (Bo.addT_len T ⟨k1, y1, n1⟩)
  clear ho1 hb4 a0 a1 a2 b0 b1 b2
  obtain ⟨⟨a0, a1, a2⟩, b0, b1, b2⟩ := HC.out v4 HB4.out
  go_wp2_with fail
  refine (HA2.out _ HB4.out).mono ?_
  rintro e v5 ⟨B2, c2, rfl, ho2, hb5⟩
  have HB5 := Lib.hid (HB4.out.trans (hb5.mono HB4.out.size))
  have HR1 := Lib.hid (RdT.below HR1.out hb5)
  have HR2 := Lib.hid (add_rd ho2)
  have HL2 := Lib.hid (Bo.addT_len T ⟨k2, y2, n2⟩)
  clear ho2 hb5 a0 a1 a2 b0 b1 b2 HA1 HA2
  have HBx := Lib.hid (below_next HBw.out HB5.out)
  obtain ⟨⟨a0, a1, a2⟩, b0, b1, b2⟩ := HC.out v5 HB5.out
  have HAw := Lib.hid (fun (u : World) => awake_any u)
  by_cases h1 : Bo.addC T ⟨k1, y1, n1⟩ = 0
  · by_cases h2 : Bo.addC T ⟨k2, y2, n2⟩ = 0
    · have HN1 := Lib.hid (Bo.addC_next (T := T) (a := ⟨k1, y1, n1⟩) (b := ⟨k2, y2, n2⟩) Hne.out h1 h2)
      have HN2 := Lib.hid (Bo.addC_next (T := T) (a := ⟨k2, y2, n2⟩) (b := ⟨k1, y1, n1⟩) (fun e => Hne.out e.symm) h2 h1)
      have HEq := Lib.hid (show Bo.next (Bo.next T ⟨k1, y1, n1⟩) ⟨k2, y2, n2⟩ = Bo.next (Bo.next T ⟨k2, y2, n2⟩) ⟨k1, y1, n1⟩ from Bo.next_comm (Bo.okT_iff.1 (Bo.addC_zero h1).1).1 Hne.out)
      have HAx := Lib.hid (fun (u : World) (hu : Below v5.heap.size v5 u) => badd_any B1 _ c1 _ ⟨k2, y2, n2⟩ u (HR1.out.below hu) (by have := HL1.out; have := HT.out; have := HN.out; omega) (by have := HK2.out; show y2.size ≤ _; omega))
      have HAy := Lib.hid (fun (u : World) (hu : Below v5.heap.size v5 u) => badd_any B2 _ c2 _ ⟨k1, y1, n1⟩ u (HR2.out.below hu) (by have := HL2.out; have := HT.out; have := HN.out; omega) (by have := HK1.out; show y1.size ≤ _; omega))
      replace HAx : Hid (∀ u : World, Below v5.heap.size v5 u → Calls Try.prog 9 #[.slice B1 (Bo.addT T ⟨k1, y1, n1⟩).length c1, .agg #[.int .i64 k2, .string y2, .int .i64 n2]] u (GivesAdd u (Bo.addT T ⟨k1, y1, n1⟩) ⟨k2, y2, n2⟩)) := HAx
      replace HAy : Hid (∀ u : World, Below v5.heap.size v5 u → Calls Try.prog 9 #[.slice B2 (Bo.addT T ⟨k2, y2, n2⟩).length c2, .agg #[.int .i64 k1, .string y1, .int .i64 n1]] u (GivesAdd u (Bo.addT T ⟨k2, y2, n2⟩) ⟨k1, y1, n1⟩)) := HAy
      have HLn := Lib.hid (show (Bo.next (Bo.next T ⟨k2, y2, n2⟩) ⟨k1, y1, n1⟩).length ≤ 1000000 by
        have g1 := (Bo.ins_len (Bo.next T ⟨k2, y2, n2⟩) (Bo.put (Bo.get (Bo.next T ⟨k2, y2, n2⟩) (⟨k1, y1, n1⟩ : Bo.Ln).key) ⟨k1, y1, n1⟩)).1
        have g2 := (Bo.ins_len T (Bo.put (Bo.get T (⟨k2, y2, n2⟩ : Bo.Ln).key) ⟨k2, y2, n2⟩)).1
        have := HT.out
        have := HN.out
        unfold Bo.next at g1 ⊢
        omega)
      rw [h1, h2]
      generalize (Bo.addT T ⟨k1, y1, n1⟩).length = L1 at *
      generalize (Bo.addT T ⟨k2, y2, n2⟩).length = L2 at *
      clear h1 h2 HL1 HL2
      go_wp2_with fail
      refine (HAx.out _ (Below.refl _ _)).mono ?_
      rintro e v6 ⟨B3, c3, rfl, ho3, hb6⟩
      rw [HN1.out.1]
      have HR3 := Lib.hid (add_rd ho3)
      rw [HN1.out.2] at HR3 ⊢
      have HB6 := Lib.hid hb6
      clear ho3 hb6 a0 a1 a2 b0 b1 b2
      obtain ⟨⟨a0, a1, a2⟩, b0, b1, b2⟩ := HC.out v6 (HB5.out.trans (HB6.out.mono HB5.out.size))
      go_wp2_with fail
      refine (HAy.out _ HB6.out).mono ?_
      rintro e v7 ⟨B4, c4, rfl, ho4, hb7⟩
      rw [HN2.out.1]
      have HR4 := Lib.hid (add_rd ho4)
      rw [HN2.out.2] at HR4 ⊢
      have HR3 := Lib.hid (RdT.below HR3.out hb7)
      have HB7 := Lib.hid (below_next HBx.out (HB6.out.trans (hb7.mono HB6.out.size)))
      clear ho4 hb7 a0 a1 a2 b0 b1 b2 HAx HAy
      rw [HEq.out] at HR3 ⊢
      generalize Bo.next (Bo.next T ⟨k2, y2, n2⟩) ⟨k1, y1, n1⟩ = R at *
      have HQ := Lib.hid (equal_any B3 B4 R.length c3 R.length c4 R R v7 HR3.out HR4.out HLn.out HLn.out)
      go_wp2_with fail
      refine HQ.out.mono ?_
      rintro e v8 ⟨t, rfl, ht, hb8⟩
      have ht2 : t = true := by simpa using ht
      subst ht2
      have HB8 := Lib.hid (below_next HB7.out hb8)
      clear ht hb8
      go_wp2_with fail
      refine (HAw.out _).mono ?_
      rintro e v9 ⟨rfl, hb9⟩
      have HF := Lib.hid (below_next HB8.out hb9)
      clear hb9
      go_wp2
      go_ret
      exact ⟨rfl, HF.out⟩
    · have he2 : Bo.addT T ⟨k2, y2, n2⟩ = [] := Bo.addT_none h2
      rw [h1, he2]
      generalize Bo.addC T ⟨k2, y2, n2⟩ = E2 at *
      generalize (Bo.addT T ⟨k1, y1, n1⟩).length = L1 at *
      have hne : (E2 == 0) = false := beq_eq_false_iff_ne.2 h2
      clear h1 he2 HL1 HL2 HR1 HR2
      go_wp2_with fail
      refine (HAw.out _).mono ?_
      rintro e v9 ⟨rfl, hb9⟩
      have HF := Lib.hid (below_next HBx.out hb9)
      clear hb9
      go_wp2
      go_ret
      exact ⟨rfl, HF.out⟩
  · have he1 : Bo.addT T ⟨k1, y1, n1⟩ = [] := Bo.addT_none h1
    rw [he1]
    by_cases h2 : Bo.addC T ⟨k2, y2, n2⟩ = 0
    · rw [h2]
      generalize Bo.addC T ⟨k1, y1, n1⟩ = E1 at *
      generalize (Bo.addT T ⟨k2, y2, n2⟩).length = L2 at *
      have hne : (E1 == 0) = false := beq_eq_false_iff_ne.2 h1
      clear h2 he1 HL1 HL2 HR1 HR2
      go_wp2_with fail
      refine (HAw.out _).mono ?_
      rintro e v9 ⟨rfl, hb9⟩
      have HF := Lib.hid (below_next HBx.out hb9)
      clear hb9
      go_wp2
      go_ret
      exact ⟨rfl, HF.out⟩
    · have he2 : Bo.addT T ⟨k2, y2, n2⟩ = [] := Bo.addT_none h2
      rw [he2]
      generalize Bo.addC T ⟨k1, y1, n1⟩ = E1 at *
      generalize Bo.addC T ⟨k2, y2, n2⟩ = E2 at *
      have hne : (E1 == 0) = false := beq_eq_false_iff_ne.2 h1
      have hne2 : (E2 == 0) = false := beq_eq_false_iff_ne.2 h2
      clear he1 he2 HL1 HL2 HR1 HR2
      go_wp2_with fail
      refine (HAw.out _).mono ?_
      rintro e v9 ⟨rfl, hb9⟩
      have HF := Lib.hid (below_next HBx.out hb9)
      clear hb9
      go_wp2
      go_ret
      exact ⟨rfl, HF.out⟩
set_option maxRecDepth 100000 in
theorem lifted (os : Os) (started : os.Started) (H : Type) (enc : TypeId × Value → H) :
    ReturnsInHanded {} Try.checked os 5 .any (Rows.booksOrderSpec.pre6 enc Try.prog Try.f5 Rows.booksOrderRow.domain false) (Rows.booksOrderSpec.post enc Try.prog Try.f5 false true false false) := by
  refine returnsInHanded_of_change (C := Try.checked) own started (by kernel_rfl) Try.func5
    (ChangeSpec.witness6 (enc := enc) (C := Try.checked) false ⟨#[], #[.slice none 0 0, .agg #[.int .i64 0, .string ⟨#[]⟩, .int .i64 0], .agg #[.int .i64 0, .string ⟨#[]⟩, .int .i64 0]], []⟩ 8 (by kernel_rfl) (by kernel_rfl) (by kernel_rfl) (by kernel_rfl)) ?_
  intro W base args ds gs before hval0 hW hcnd _
  have hval : ∀ (j : Nat) t v, Try.f5.params[j]? = some t → args[j]? = some v → Value.okWide Try.prog W .any base t v := hval0
  have hW' := hW
  obtain ⟨p, q, hA0, hV, rfl, hfz, hnd⟩ := hW
  have hA : DataW.TrodAll enc Try.prog W 0 (fun _ => true) true Try.f5.params.toList args.toList ds p := hA0
  rw [Try.params5] at hA hval
  obtain ⟨v0, vs0, d0, ds0, p0, q0, hargs, rfl, rfl, h0, t0⟩ := trodAll_cons hA
  obtain ⟨v1, vs1, d1, ds1, p1, q1, rfl, rfl, rfl, h1, t1⟩ := trodAll_cons t0
  obtain ⟨v2, vs2, d2, ds2, p2, q2, rfl, rfl, rfl, h2, t2⟩ := trodAll_cons t1
  obtain ⟨rfl, rfl, rfl⟩ := trodAll_nil t2
  obtain rfl : args = #[v0, v1, v2] := by cases args; simp_all
  obtain ⟨rfl, rfl⟩ := trodVars_none hV
  have k0 : Reads enc W 22 v0 d0 p0 := h0
  have lt0 : ∀ x ∈ p0, x.block < W.heap.size := by obtain ⟨m, hm⟩ := k0; exact DataW.trod_lt m _ _ _ hm
  obtain ⟨A0, m0, c0, l0, rfl, r0, wc0, w0⟩ := in_tots (hval 0 22 v0 rfl rfl) k0
  have k1 : Reads enc W 25 v1 d1 p1 := h1
  have lt1 : ∀ x ∈ p1, x.block < W.heap.size := by obtain ⟨m, hm⟩ := k1; exact DataW.trod_lt m _ _ _ hm
  obtain ⟨x1, rfl, w1, wn1⟩ := in_line (hval 1 25 v1 rfl rfl) k1
  have k2 : Reads enc W 25 v2 d2 p2 := h2
  have lt2 : ∀ x ∈ p2, x.block < W.heap.size := by obtain ⟨m, hm⟩ := k2; exact DataW.trod_lt m _ _ _ hm
  obtain ⟨x2, rfl, w2, wn2⟩ := in_line (hval 2 25 v2 rfl rfl) k2
  clear hA0 hval0
  refine (walk A0 m0 c0 l0 x1 x2 W r0 wc0 w0 w1 wn1 w2 wn2).mono fun e W' ⟨he, bel⟩ => ?_
  subst he
  exact ⟨_, rfl, _, _, _, [], _, [], hW', trodAll_mk1 (shut_bool Try.underlying4 _), (trodAll_cons_mk (Below.trod laidOut (by kernel_rfl) (of_decide_eq_true (by kernel_rfl)) k0 bel lt0) (trodAll_cons_mk (Below.trod laidOut (by kernel_rfl) (of_decide_eq_true (by kernel_rfl)) k1 bel lt1) (trodAll_cons_mk (Below.trod laidOut (by kernel_rfl) (of_decide_eq_true (by kernel_rfl)) k2 bel lt2) trodAll_mk0))), rfl, bel.frame _, fun h => by cases h⟩
theorem over : Rows.booksOrderRow.holds Try.pinned (OpenSpec.ofChange Rows.booksOrderSpec) :=
  OpenClaim.holds_of_wide 5 Try.f5 rfl rfl rfl rfl rfl rfl rfl ⟨rfl, rfl, rfl, rfl, rfl⟩ rfl rfl rfl rfl rfl (by kernel_rfl) Try.func5 (by kernel_rfl)
    (of_decide_eq_true (by kernel_rfl)) (by unfold Func.isWrapper; first | (rw [if_pos (by decide +kernel)]; kernel_rfl) | (rw [if_neg (by decide +kernel)]; exact ⟨rfl, rfl⟩))
    (fun os started H enc _ => lifted os started H enc)
theorem proved : Rows.BooksOrderSaid := over
end Go.Proofs.Ytcoekdfmfjglpaa.booksOrder
