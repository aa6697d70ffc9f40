/- Strange: a frame that none knows. -/
import Derived.Test.YtbdomhookjmmgaaSuRDecAny
import Derived.Test.YtbdomhookjmmgaaSuR
namespace Go.Proofs.Ytbdomhookjmmgaa
open Go.RowKit Fr Su
set_option linter.unusedVariables false
namespace Su
def strange (l a b d : List Nat) : Bool := isF l && decide (¬ a = l) && decide (¬ b = l) && decide (¬ d = l)
end Su
set_option maxRecDepth 100000 in
set_option maxHeartbeats 4000000 in
theorem strange_any (A : Option Addr) (n c : Nat) (l : List Nat) (w : World) (K : Option Addr) (a0 a1 a2 : List Nat) (h : Rd w A n l) (hc : n ≤ c) (hbig : n ≤ 9223372036854775807)
    (hk : RdV w K 3 [.string (str a0), .string (str a1), .string (str a2)]) (ha0 : ∀ x ∈ a0, x < 256) (ha1 : ∀ x ∈ a1, x < 256) (ha2 : ∀ x ∈ a2, x < 256) :
    Calls Try.prog 45 #[.slice A n c, .slice K 3 3] w fun e w' => e = .returned (.bool (Su.strange l a0 a1 a2)) ∧ Below w.heap.size w w' := by
  obtain ⟨RS, hRS⟩ : ∃ RS, RS = Su.strange l a0 a1 a2 := ⟨_, rfl⟩
  rw [← hRS]
  unfold Su.strange at hRS
  have HRS := Lib.hid hRS
  obtain ⟨kb, ko, rfl, hkb, hkc⟩ := hk.2 (by omega)
  have HA := Lib.hid h
  have HKc := Lib.hid (And.intro hkb hkc)
  have HX0 := Lib.hid ha0
  have HX1 := Lib.hid ha1
  have HX2 := Lib.hid ha2
  cases hf : isF l with
  | false =>
    have HD := Lib.hid (rdecode_no A n c l w h hc hbig hf)
    have HQ := Lib.hid (show RS = false by rw [HRS.out, hf]; rfl)
    clear hRS h hk hkb hkc HRS hf
    go_enter Try.func45, Try.ntmps45
    go_wp2_with fail
    refine HD.out.mono ?_
    rintro e' v1 ⟨A1, c1, rfl, hR1, hb1⟩
    have HB := Lib.hid hb1
    have HB2 := Lib.hid (hb1.alloc hb1.size (.cells #[.int .i64 0, .int .i64 0, .int .i64 0] 96))
    clear hb1 hR1
    go_wp2_with fail
    go_ret
    exact ⟨by rw [HQ.out]; rfl, HB2.out⟩
  | true =>
    have HD := Lib.hid (rdecode_yes A n c l w h hc hf)
    have HQ := Lib.hid (show RS = (decide (¬ a0 = l) && decide (¬ a1 = l) && decide (¬ a2 = l)) by rw [HRS.out, hf, Bool.true_and])
    generalize (F l 4 4 : Int) = q1 at *
    generalize (F l 8 4 : Int) = q2 at *
    generalize (F l 12 4 : Int) = q3 at *
    generalize (F l 1 1 : Int) = q4 at *
    clear hRS h hk hkb hkc HRS hf
    go_enter Try.func45, Try.ntmps45
    go_wp2_with fail
    refine HD.out.mono ?_
    rintro e' v1 ⟨A1, c1, rfl, hR1, hb1⟩
    have HB2 := Lib.hid (hb1.alloc hb1.size (.cells #[.int .i64 q1, .int .i64 q2, .int .i64 q3] 96))
    clear hb1 hR1
    go_wp2_with fail
    generalize v1.alloc (.cells #[.int .i64 q1, .int .i64 q2, .int .i64 q3] 96) = v2 at *
    have k0 : v2.cell? ⟨kb, ko + 0, none⟩ = some (.string (str a0)) := (HB2.out.cell (p := ⟨kb, ko + 0, none⟩) HKc.out.1).trans (HKc.out.2 0 _ rfl)
    have k1 : v2.cell? ⟨kb, ko + 1, none⟩ = some (.string (str a1)) := (HB2.out.cell (p := ⟨kb, ko + 1, none⟩) HKc.out.1).trans (HKc.out.2 1 _ rfl)
    have k2 : v2.cell? ⟨kb, ko + 2, none⟩ = some (.string (str a2)) := (HB2.out.cell (p := ⟨kb, ko + 2, none⟩) HKc.out.1).trans (HKc.out.2 2 _ rfl)
    rw [Nat.add_zero] at k0
    refine wp_loop_rounds 5 ?_
    rw [rounds_succ]
    go_wp2_with fail
    have hs := run_str (w := v2.drew) (cap := c) (HA.out.below (w' := v2.drew) HB2.out.drew)
    by_cases hq0 : a0 = l
    · have hst : ((str a0).toList == (str l).toList) = true := str_same hq0
      have HZ := Lib.hid (show RS = false by rw [HQ.out]; simp [hq0])
      clear hq0
      go_region
      go_wp2_with fail
      go_ret
      exact ⟨by rw [HZ.out]; rfl, HB2.out.drew⟩
    · have hst0 : ((str a0).toList == (str l).toList) = false := str_other HX0.out HA.out.2.1 hq0
      have HN0 := Lib.hid hq0
      clear hq0
      go_region
      go_wp2_with fail
      clear hst0 hs
      rw [rounds_succ]
      go_wp2_with fail
      have hs := run_str (w := v2.drew.drew) (cap := c) (HA.out.below (w' := v2.drew.drew) HB2.out.drew.drew)
      by_cases hq1 : a1 = l
      · have hst : ((str a1).toList == (str l).toList) = true := str_same hq1
        have HZ := Lib.hid (show RS = false by rw [HQ.out]; simp [hq1])
        clear hq1
        go_region
        go_wp2_with fail
        go_ret
        exact ⟨by rw [HZ.out]; rfl, HB2.out.drew.drew⟩
      · have hst1 : ((str a1).toList == (str l).toList) = false := str_other HX1.out HA.out.2.1 hq1
        have HN1 := Lib.hid hq1
        clear hq1
        go_region
        go_wp2_with fail
        clear hst1 hs
        rw [rounds_succ]
        go_wp2_with fail
        have hs := run_str (w := v2.drew.drew.drew) (cap := c) (HA.out.below (w' := v2.drew.drew.drew) HB2.out.drew.drew.drew)
        by_cases hq2 : a2 = l
        · have hst : ((str a2).toList == (str l).toList) = true := str_same hq2
          have HZ := Lib.hid (show RS = false by rw [HQ.out]; simp [hq2])
          clear hq2
          go_region
          go_wp2_with fail
          go_ret
          exact ⟨by rw [HZ.out]; rfl, HB2.out.drew.drew.drew⟩
        · have hst2 : ((str a2).toList == (str l).toList) = false := str_other HX2.out HA.out.2.1 hq2
          have HN2 := Lib.hid hq2
          clear hq2
          go_region
          go_wp2_with fail
          clear hst2 hs
          rw [rounds_succ]
          go_wp2_with fail
          go_ret
          exact ⟨by rw [HQ.out]; simp [HN0.out, HN1.out, HN2.out], HB2.out.drew.drew.drew⟩
end Go.Proofs.Ytbdomhookjmmgaa
