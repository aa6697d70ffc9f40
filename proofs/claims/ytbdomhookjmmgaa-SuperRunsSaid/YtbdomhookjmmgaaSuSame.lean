/- The document's SamePlace and Same: two superblocks. -/
import Derived.Test.YtbdomhookjmmgaaSuM
import Derived.Test.YtbdomhookjmmgaaSuA
namespace Go.Proofs.Ytbdomhookjmmgaa
open Go.RowKit Fr Su
set_option linter.unusedVariables false
theorem ne_pair (x y z u : Int) (w : World) (h : ¬ (x = z ∧ y = u)) : (binOp .neq 93 (.agg #[.int .i64 x, .int .i64 y]) (.agg #[.int .i64 z, .int .i64 u])).run Try.prog w = .ok (.bool true) w := by
  by_cases h1 : x = z
  · have h2 : ¬ y = u := fun e => h ⟨h1, e⟩
    simp [go_sem, h1, h2]
  · simp [go_sem, h1]
theorem ne_pair_self (x y : Int) (w : World) : (binOp .neq 93 (.agg #[.int .i64 x, .int .i64 y]) (.agg #[.int .i64 x, .int .i64 y])).run Try.prog w = .ok (.bool false) w := by
  simp [go_sem]
set_option maxRecDepth 100000 in
set_option maxHeartbeats 4000000 in
theorem splace_any (i1 m1 i2 m2 : Int) (A1 A2 : Option Addr) (c1 c2 : Nat) (p1 p2 : List (Int × Int)) (w : World) (h1 : RdC 2 w A1 p1.length (pv p1)) (h2 : RdC 2 w A2 p2.length (pv p2)) (hb1 : p1.length ≤ 1000) (hb2 : p2.length ≤ 1000) :
    Calls Try.prog 57 #[.agg #[.int .i64 i1, .int .i64 m1, .slice A1 p1.length c1], .agg #[.int .i64 i2, .int .i64 m2, .slice A2 p2.length c2]] w fun e w' => e = .returned (.bool (decide (i1 = i2 ∧ m1 = m2 ∧ p1 = p2))) ∧ Below w.heap.size w w' := by
  obtain ⟨r, hr⟩ : ∃ r : Bool, r = decide (i1 = i2 ∧ m1 = m2 ∧ p1 = p2) := ⟨_, rfl⟩
  rw [← hr]
  have Hr := Lib.hid hr
  have H1 := Lib.hid h1
  have H2 := Lib.hid h2
  clear hr h1 h2
  by_cases a1 : i1 = i2
  rotate_left
  · have HN := Lib.hid (show r = false by rw [Hr.out]; exact decide_eq_false (fun h => a1 h.1))
    have a1b : (i1 == i2) = false := by simpa using a1
    have a1c : (i1 != i2) = true := by simpa using a1
    go_enter Try.func57, Try.ntmps57
    go_wp2_with fail
    go_ret
    exact ⟨by rw [HN.out]; rfl, by repeat (first | exact Below.refl _ _ | refine Below.alloc ?_ (by simp <;> omega) _)⟩
  subst a1
  by_cases a2 : m1 = m2
  rotate_left
  · have HN := Lib.hid (show r = false by rw [Hr.out]; exact decide_eq_false (fun h => a2 h.2.1))
    have a2b : (m1 == m2) = false := by simpa using a2
    have a2c : (m1 != m2) = true := by simpa using a2
    go_enter Try.func57, Try.ntmps57
    go_wp2_with fail
    go_ret
    exact ⟨by rw [HN.out]; rfl, by repeat (first | exact Below.refl _ _ | refine Below.alloc ?_ (by simp <;> omega) _)⟩
  subst a2
  obtain ⟨n1, hn1⟩ : ∃ n, n = p1.length := ⟨_, rfl⟩
  obtain ⟨n2, hn2⟩ : ∃ n, n = p2.length := ⟨_, rfl⟩
  rw [← hn1] at H1 hb1 ⊢
  rw [← hn2] at H2 hb2 ⊢
  have HN1 := Lib.hid hn1
  have HN2 := Lib.hid hn2
  clear hn1 hn2
  by_cases a3 : n1 = n2
  rotate_left
  · have HN := Lib.hid (show r = false by rw [Hr.out]; exact decide_eq_false (fun h => a3 (by rw [HN1.out, HN2.out, h.2.2])))
    have a3b : ((n1 : Int) == (n2 : Int)) = false := by rw [beq_eq_false_iff_ne]; omega
    have a3c : ((n1 : Int) != (n2 : Int)) = true := by rw [bne_iff_ne]; omega
    go_enter Try.func57, Try.ntmps57
    go_wp2_with fail
    go_ret
    exact ⟨by rw [HN.out]; rfl, by repeat (first | exact Below.refl _ _ | refine Below.alloc ?_ (by simp <;> omega) _)⟩
  subst a3
  have hx0 := (Holds.new w #[.int .i64 i1, .int .i64 m1, .slice A1 n1 c1] 24).alloc (.cells #[.int .i64 i1, .int .i64 m1, .slice A2 n1 c2] 24)
  have hy0 : Holds ((w.alloc (.cells #[.int .i64 i1, .int .i64 m1, .slice A1 n1 c1] 24)).alloc (.cells #[.int .i64 i1, .int .i64 m1, .slice A2 n1 c2] 24)) (w.heap.size + 1) [.int .i64 i1, .int .i64 m1, .slice A2 n1 c2] := by
    have := Holds.new (w.alloc (.cells #[.int .i64 i1, .int .i64 m1, .slice A1 n1 c1] 24)) #[.int .i64 i1, .int .i64 m1, .slice A2 n1 c2] 24
    simpa using this
  have hB0 : Below w.heap.size w ((w.alloc (.cells #[.int .i64 i1, .int .i64 m1, .slice A1 n1 c1] 24)).alloc (.cells #[.int .i64 i1, .int .i64 m1, .slice A2 n1 c2] 24)) := by repeat (first | exact Below.refl _ _ | refine Below.alloc ?_ (by simp <;> omega) _)
  go_enter Try.func57, Try.ntmps57
  go_upto_region 3 with fail
  generalize ((w.alloc (.cells #[.int .i64 i1, .int .i64 m1, .slice A1 n1 c1] 24)).alloc (.cells #[.int .i64 i1, .int .i64 m1, .slice A2 n1 c2] 24)) = v0 at *
  have HX := Lib.hid hx0
  have HY := Lib.hid hy0
  have HB0 := Lib.hid hB0
  clear hx0 hy0 hB0
  go_wp2_with fail
  go_loopw [5] (fun i wr => ∃ k : Nat, k ≤ n1 ∧ i = .int .i64 (k : Int) ∧ Hid (p1.take k = p2.take k) ∧ Hid (Below v0.heap.size v0 wr)) (fun i _ => n1 - (intOf i).toNat)
  case atStart => exact ⟨0, by omega, rfl, Lib.hid rfl, Lib.hid (Below.refl _ _)⟩
  case round =>
    obtain ⟨k, hk, rfl, HP, HB⟩ := hrel
    have ca := (HX.out.below HB.out).at_ 2 rfl
    have cb := (HY.out.below HB.out).at_ 2 rfl
    by_cases hkn : k < n1
    · have hki : (k : Int) < (n1 : Int) := by omega
      have hk0 : ¬ (k : Int) < 0 := by omega
      obtain ⟨⟨x, y⟩, hp⟩ : ∃ p, p1[k]? = some p := ⟨_, List.getElem?_eq_getElem (by rw [← HN1.out]; exact hkn)⟩
      obtain ⟨⟨z, u⟩, hq⟩ : ∃ p, p2[k]? = some p := ⟨_, List.getElem?_eq_getElem (by rw [← HN2.out]; exact hkn)⟩
      obtain ⟨b, o, rfl, hbl, e0, e1⟩ := ((H1.out.below HB0.out).below HB.out).two2 hkn (pv_at hp).1 (pv_at hp).2
      obtain ⟨b', o', rfl, hbl', g0, g1⟩ := ((H2.out.below HB0.out).below HB.out).two2 hkn (pv_at hq).1 (pv_at hq).2
      simp only at e0 e1 g0 g1
      have HP1 := Lib.hid hp
      have HQ1 := Lib.hid hq
      clear hp hq
      by_cases hxy : x = z ∧ y = u
      · obtain ⟨rfl, rfl⟩ := hxy
        have hne := ne_pair_self x y
        go_upto_region 6 with fail
        go_region
        go_wp2_with fail
        go_roundw
        case rel => exact ⟨k + 1, by omega, by go_num, Lib.hid (by rw [List.take_add_one, List.take_add_one, HP.out, HP1.out, HQ1.out]), Lib.hid HB.out.drew⟩
        case measure => simp [intOf]; omega
      · have hne := fun v => ne_pair x y z u v hxy
        have HN := Lib.hid (show r = false by
          rw [Hr.out]
          refine decide_eq_false (fun h => hxy ?_)
          have e := HP1.out
          rw [h.2.2, HQ1.out] at e
          injection e with e
          injection e with e1 e2
          exact ⟨e1.symm, e2.symm⟩)
        go_upto_region 6 with fail
        go_region
        go_wp2_with fail
        go_ret
        exact ⟨by rw [HN.out]; rfl, HB0.out.trans (HB.out.drew.mono HB0.out.size)⟩
    · have hkl : k = n1 := by omega
      have HYe := Lib.hid (show r = true by
        rw [Hr.out]
        have := HP.out
        rw [List.take_of_length_le (by rw [← HN1.out]; omega), List.take_of_length_le (by rw [← HN2.out]; omega)] at this
        exact decide_eq_true ⟨by trivial, by trivial, this⟩)
      subst hkl
      go_wp2_with fail
      go_ret
      exact ⟨by rw [HYe.out]; rfl, HB0.out.trans (HB.out.mono HB0.out.size)⟩
def Su.eqS (a b : S) : Bool := decide (a.g = b.g ∧ a.e = b.e ∧ a.i = b.i ∧ a.m = b.m ∧ a.ps = b.ps)
theorem Su.eqS_iff {a b : S} : Su.eqS a b = true ↔ a = b := by
  unfold Su.eqS
  rw [decide_eq_true_iff]
  constructor
  · rintro ⟨h1, h2, h3, h4, h5⟩
    cases a; cases b
    simp only at h1 h2 h3 h4 h5
    subst h1 h2 h3 h4 h5
    rfl
  · rintro rfl
    exact ⟨rfl, rfl, rfl, rfl, rfl⟩
set_option maxRecDepth 100000 in
set_option maxHeartbeats 4000000 in
theorem same_su (a b : S) (A1 A2 : Option Addr) (c1 c2 : Nat) (w : World) (h1 : RdC 2 w A1 a.ps.length (pv a.ps)) (h2 : RdC 2 w A2 b.ps.length (pv b.ps)) (hb1 : a.ps.length ≤ 1000) (hb2 : b.ps.length ≤ 1000) :
    Calls Try.prog 17 #[Su.val a A1 c1, Su.val b A2 c2] w fun e w' => e = .returned (.bool (Su.eqS a b)) ∧ Below w.heap.size w w' := by
  obtain ⟨r, hr⟩ : ∃ r : Bool, r = Su.eqS a b := ⟨_, rfl⟩
  rw [← hr]
  have Hr := Lib.hid hr
  have HP := Lib.hid (fun v (hv : Below w.heap.size w v) => splace_any a.i a.m b.i b.m A1 A2 c1 c2 a.ps b.ps v (h1.below hv) (h2.below hv) hb1 hb2)
  clear hr h1 h2
  unfold Su.val
  by_cases a1 : a.g = b.g
  rotate_left
  · have HN := Lib.hid (show r = false by rw [Hr.out]; exact decide_eq_false (fun h => a1 h.1))
    have a1b : (a.g == b.g) = false := by simpa using a1
    go_enter Try.func17, Try.ntmps17
    go_wp2_with fail
    go_ret
    exact ⟨by rw [HN.out]; rfl, by repeat (first | exact Below.refl _ _ | refine Below.alloc ?_ (by simp <;> omega) _)⟩
  by_cases a2 : a.e = b.e
  rotate_left
  · have HN := Lib.hid (show r = false by rw [Hr.out]; exact decide_eq_false (fun h => a2 h.2.1))
    have a2b : (a.e == b.e) = false := by simpa using a2
    have a1b : (a.g == b.g) = true := by simpa using a1
    clear a1
    go_enter Try.func17, Try.ntmps17
    go_wp2_with fail
    go_ret
    exact ⟨by rw [HN.out]; rfl, by repeat (first | exact Below.refl _ _ | refine Below.alloc ?_ (by simp <;> omega) _)⟩
  have HE := Lib.hid (show r = decide (a.i = b.i ∧ a.m = b.m ∧ a.ps = b.ps) by rw [Hr.out]; unfold Su.eqS; simp [a1, a2])
  have a2b : (a.e == b.e) = true := by simpa using a2
  have a1b : (a.g == b.g) = true := by simpa using a1
  clear a1 a2
  have hB0 : ∀ x y tx ty, Below w.heap.size w ((w.alloc (.cells x tx)).alloc (.cells y ty)) := fun x y tx ty => by repeat (first | exact Below.refl _ _ | refine Below.alloc ?_ (by simp <;> omega) _)
  go_enter Try.func17, Try.ntmps17
  go_wp2_with fail
  refine (HP.out _ (hB0 _ _ _ _)).mono ?_
  rintro e v ⟨rfl, hb⟩
  rw [← HE.out]
  have HBv := Lib.hid ((hB0 _ _ _ _).trans (hb.mono (hB0 _ _ _ _).size))
  clear hb hB0
  cases r
  all_goals
    go_wp2_with fail
    go_ret
    exact ⟨rfl, HBv.out⟩
end Go.Proofs.Ytbdomhookjmmgaa
