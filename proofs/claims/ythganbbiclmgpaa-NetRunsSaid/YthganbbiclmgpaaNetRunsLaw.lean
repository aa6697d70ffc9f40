/- For every slice of steps (a kind, a mail, a number each), as far as the law looks at it: what a net tells of each call, and its mails behind it, one behind the other, are what the document says (P26.1, P26.2, P26.7), and the example at the head holds; the argument stays as it was. No condition. -/
import Derived.Test.YthganbbiclmgpaaMlRuns
import Derived.Test.YthganbbiclmgpaaIns
import Derived.Test.YthganbbiclmgpaaHolds
import Derived.WalkKit
import Derived.ProofKit
import Derived.OpenShut
import Derived.ShutString
import Derived.ChangeOld
import Derived.Below
import Derived.Deep.RegionHeld
namespace Go.Proofs.Ythganbbiclmgpaa.netRuns
open Go.ChangeShapes Go.WideShapes Go.ChangeAt Go.RowKit
set_option linter.unusedVariables false
theorem own : ownKnob Try.prog.godebug = none := by kernel_rfl
theorem laidOut : laidOutB Try.prog = true := by kernel_rfl
theorem three_new (w : World) (a b c : Array Value) (ta tb tc : TypeId) : Holds (((w.alloc (.cells a ta)).alloc (.cells b tb)).alloc (.cells c tc)) w.heap.size a.toList ∧ Holds (((w.alloc (.cells a ta)).alloc (.cells b tb)).alloc (.cells c tc)) (w.heap.size + 1) b.toList ∧ Holds (((w.alloc (.cells a ta)).alloc (.cells b tb)).alloc (.cells c tc)) (w.heap.size + 1 + 1) c.toList ∧ Below w.heap.size w (((w.alloc (.cells a ta)).alloc (.cells b tb)).alloc (.cells c tc)) := by
  have e1 : (w.alloc (.cells a ta)).heap.size = w.heap.size + 1 := by simp
  have e2 : ((w.alloc (.cells a ta)).alloc (.cells b tb)).heap.size = w.heap.size + 1 + 1 := by simp
  refine ⟨((Holds.new w a ta).alloc _).alloc _, ?_, ?_, (((Below.refl _ _).alloc (Nat.le_refl _) _).alloc (by omega) _).alloc (by omega) _⟩
  · have h := (Holds.new (w.alloc (.cells a ta)) b tb).alloc (.cells c tc)
    rw [e1] at h
    exact h
  · have h := Holds.new ((w.alloc (.cells a ta)).alloc (.cells b tb)) c tc
    rw [e2] at h
    exact h
theorem runHolds {S0 S g cap cap' c q : Nat} {w1 v v' : World} {A A' B : Option Addr} {L L' K : List Ml.M} {cs : List Value} (h : RunG S0 S g w1 v A cap L B c K) (X : Holds v q cs) (hm : Moved g A cap L v A' cap' L' v') (h1 : S0 ≤ q) (h2 : q < S) : Holds v' q cs :=
  X.moved hm (by have := h.hg; omega) (fun e => by have := h.gapA q e; omega)
set_option maxRecDepth 100000 in
set_option maxHeartbeats 8000000 in
theorem walk (A0 : Option Addr) (m0 c0 : Nat) (l0 : List Ml.St) (w : World) (r0 : RdSt w A0 m0 l0) (wc0 : m0 ≤ c0) (w0 : m0 ≤ 9223372036854775807) :
    Calls Try.prog 3 #[.slice A0 m0 c0] w fun e w' => e = .returned (.bool true) ∧ Below w.heap.size w w' := by
  -- heartbeats 8000000
  have HSt := Lib.hid r0
  have HA := Lib.hid (fun wx => awake_any wx)
  go_enter Try.func3, Try.ntmps3
  go_wp2_with fail
  refine (new_any w).mono ?_
  rintro e w1 ⟨rfl, h1, hb1⟩
  have H1 := Lib.hid h1
  have HB1 := Lib.hid hb1
  have hg := h1.box.1
  clear h1 hb1
  go_wp2_with fail
  refine (HA.out w1).mono ?_
  rintro e w2 ⟨rfl, hb2⟩
  have R2 : Hid (RunG w2.heap.size w2.heap.size w.heap.size w1 w2 none 0 [] none 0 []) := Lib.hid (by
    have h := hb2.size
    exact ⟨Moved.quiet H1.out hb2, ⟨rfl, RdC.nil 3 _ _⟩, Nat.le_refl _, (fun hn => absurd hn (Nat.lt_irrefl 0)), (fun hn => absurd hn (Nat.lt_irrefl 0)), (fun _ e => by cases e), (fun hn => absurd hn (Nat.lt_irrefl 0)), by omega, h, Nat.le_refl _, Nat.le_refl _⟩)
  clear hb2
  go_upto_region 6 with fail
  go_loopw [4, 5] (fun x i wr => ∃ (k : Nat) (A : Option Addr) (cap : Nat) (L : List Ml.M) (B : Option Addr) (c : Nat), k ≤ m0 ∧ k ≤ 60 ∧ x = .slice B L.length c ∧ i = .int .i64 (k : Int) ∧ L.length ≤ 256 ∧ Hid (RunG wr.heap.size wr.heap.size w.heap.size w1 wr A cap L B c L)) (fun _ i _ => m0 - (intOf i).toNat)
  case atStart => exact ⟨0, none, 0, [], none, 0, by omega, by omega, rfl, rfl, by simp, R2⟩
  case round =>
    obtain ⟨k, A, cap, L, B, c, hk, hk6, rfl, rfl, hL, HG⟩ := hrel
    by_cases hkk : k < m0 ∧ k < 60
    · obtain ⟨hkm, hk60⟩ := hkk
      have hki : (k : Int) < (m0 : Int) := by omega
      have hk6i : (k : Int) < 60 := by omega
      have hlow := HG.out.mv.low HB1.out (Nat.le_refl _) (fun _ h => by cases h) (by omega)
      obtain ⟨b, o, hA, hbl, hcells⟩ := HSt.out.2 (by omega)
      subst hA
      obtain ⟨x, hx⟩ : ∃ x, l0[k]? = some x := ⟨_, List.getElem?_eq_getElem (by rw [HSt.out.1]; exact hkm)⟩
      obtain ⟨hc5, hkd, hsz⟩ := hcells k x hx
      obtain ⟨kd, ⟨f, t, s⟩, i⟩ := x
      have e0 : wr.cell? ⟨b, o + k * 5, none⟩ = some (.int .u8 (kd : Int)) := (hlow.cell hbl).trans (hc5 0 _ rfl)
      have e1 : wr.cell? ⟨b, o + k * 5 + 1, none⟩ = some (.int .i64 f) := (hlow.cell hbl).trans (hc5 1 _ rfl)
      have e2 : wr.cell? ⟨b, o + k * 5 + 2, none⟩ = some (.int .i64 t) := (hlow.cell hbl).trans (hc5 2 _ rfl)
      have e3 : wr.cell? ⟨b, o + k * 5 + 3, none⟩ = some (.string s) := (hlow.cell hbl).trans (hc5 3 _ rfl)
      have e4 : wr.cell? ⟨b, o + k * 5 + 4, none⟩ = some (.int .i64 i) := (hlow.cell hbl).trans (hc5 4 _ rfl)
      clear hcells hx hc5 hlow
      by_cases h5 : 5000 < s.size
      all_goals (first
        | (have h51 : (5000 : Int) < (s.size : Int) := (by omega); have h52 : (5000 : Int) ≤ (s.size : Int) := (by omega); go_upto_region 11 with fail; generalize s.extract 0 5000 = s2)
        | (have h51 : ¬ (5000 : Int) < (s.size : Int) := (by omega); go_upto_region 11 with fail; obtain ⟨s2, rfl⟩ : ∃ s2, s2 = s := ⟨_, rfl⟩))
      all_goals
        clear e0 e1 e2 e3 e4 h5 h51
        obtain ⟨t6, t9, t10, tb⟩ := three_new wr #[.int .u8 (kd : Int), .int .i64 f, .int .i64 t, .string s2, .int .i64 i] #[.int .i64 0, .int .i64 0, .string ⟨#[]⟩] #[.int .i64 0, .int .i64 0, .string ⟨#[]⟩] 30 28 28
        have X6 := Lib.hid t6
        have X9 := Lib.hid t9
        have X10 := Lib.hid t10
        have HV := Lib.hid (HG.out.gap tb)
        clear t6 t9 t10 tb
        go_upto_region 13 with fail
        generalize (((wr.alloc (.cells #[.int .u8 (kd : Int), .int .i64 f, .int .i64 t, .string s2, .int .i64 i] 30)).alloc (.cells #[.int .i64 0, .int .i64 0, .string ⟨#[]⟩] 28)).alloc (.cells #[.int .i64 0, .int .i64 0, .string ⟨#[]⟩] 28)) = v at *
        have x0 := X6.out.at_ 0 rfl
        have x1 := X6.out.at_ 1 rfl
        have x2 := X6.out.at_ 2 rfl
        have x3 := X6.out.at_ 3 rfl
        have x4 := X6.out.at_ 4 rfl
        go_upto_region 16 with fail
        have hL1 : L.length ≤ 1000 := by omega
        have hq6 : wr.heap.size < v.heap.size := X6.out.1
        have hq9 : wr.heap.size + 1 < v.heap.size := X9.out.1
        have hq10 : wr.heap.size + 1 + 1 < v.heap.size := X10.out.1
        have hl9 : wr.heap.size ≤ wr.heap.size + 1 := by omega
        have hl10 : wr.heap.size ≤ wr.heap.size + 1 + 1 := by omega
        clear hkd hsz
        generalize (kd : Int) % 5 = r
        by_cases q0 : r = 0
        · subst q0
          go_wp2_with fail
          refine (send_any w.heap.size cap A L ⟨f, t, s2⟩ v HV.out.mv.net hL1).mono ?_
          rintro e9 v3 ⟨rfl, A3, cap3, hm3⟩
          have V3 := Lib.hid (HV.out.net hm3)
          have Y6 := Lib.hid (runHolds HV.out X6.out hm3 (Nat.le_refl _) hq6)
          have Y9a := Lib.hid (runHolds HV.out X9.out hm3 hl9 hq9)
          have Y10a := Lib.hid (runHolds HV.out X10.out hm3 hl10 hq10)
          clear hm3 x0 x1 x2 x3 x4
          have x1 := Y6.out.at_ 1 rfl
          have x2 := Y6.out.at_ 2 rfl
          have x3 := Y6.out.at_ 3 rfl
          go_wp2_with fail
          refine (rsend_any B c L ⟨f, t, s2⟩ v3 V3.out.rd V3.out.fit hL1).mono ?_
          rintro e9 v4 ⟨B4, c4, rfl, hrd, hft, hb4, halt⟩
          have HVz := Lib.hid (V3.out.list hrd hft hb4 halt)
          have Y9 := Lib.hid (Y9a.out.below hb4)
          have Y10 := Lib.hid (Y10a.out.below hb4)
          have hfew := Ml.send_few (m := ⟨f, t, s2⟩) hL
          clear hrd hft hb4 halt x1 x2 x3
          generalize Ml.sendL L ⟨f, t, s2⟩ = L2 at *
          obtain ⟨j0, j1, j2⟩ := results3 Y9.out
          obtain ⟨i0, i1, i2⟩ := results3 Y10.out
          have hne := ne_self 0 0 ⟨#[]⟩
          have hLk : L2.length ≤ 1000 := by omega
          generalize hEE : Ml.sendE L ⟨f, t, s2⟩ = EE at *
          clear hEE
          go_wp2_with fail
          refine (like_same _ _ _ _ _ L2 _ HVz.out.mv.net HVz.out.rd hLk).mono ?_
          rintro e9 z2 ⟨rfl, hb9⟩
          have HSh := Lib.hid (HVz.out.below hb9).shut
          clear hb9 j0 j1 j2 i0 i1 i2
          go_wp2_with fail
          go_roundw
          case rel => exact ⟨k + 1, _, _, L2, _, _, by omega, by omega, rfl, by go_num, hfew, HSh⟩
          case measure => simp [intOf]; omega
        have qb0 : (r == 0) = false := by simp [q0]
        by_cases q1 : r = 1
        · subst q1
          go_wp2_with fail
          refine (take_any w.heap.size cap A L i v HV.out.mv.net hL1).mono ?_
          rintro e9 v3 ⟨he, A3, cap3, hm3⟩
          obtain ⟨mm, hmm⟩ : ∃ mm, Ml.atM L i = mm := ⟨_, rfl⟩
          rw [hmm] at he
          have Hmm := Lib.hid hmm
          clear hmm
          obtain ⟨ma, mb, mc⟩ := mm
          have he : e9 = .returned (.tuple #[.agg #[.int .i64 ma, .int .i64 mb, .string mc], .int .i64 (Ml.hasE L i)]) := he
          subst he
          have V3 := Lib.hid (HV.out.net hm3)
          have Y6 := Lib.hid (runHolds HV.out X6.out hm3 (Nat.le_refl _) hq6)
          have Y9a := Lib.hid (runHolds HV.out X9.out hm3 hl9 hq9)
          have Y10a := Lib.hid (runHolds HV.out X10.out hm3 hl10 hq10)
          clear hm3 x0 x1 x2 x3 x4
          obtain ⟨j0, j1, j2⟩ := results3 Y9a.out
          have z0 := Y9a.out.2.2 0
          have z1 := Y9a.out.2.2 1
          have z2 := Y9a.out.2.2 2
          have V4 := Lib.hid (V3.out.store3 (wr.heap.size + 1) (.int .i64 ma) (.int .i64 mb) (.string mc) hl9 hq9)
          have Y9b := Lib.hid (Y9a.out.set3 (.int .i64 ma) (.int .i64 mb) (.string mc))
          have Y10b := Lib.hid (Y10a.out.other3 (b := wr.heap.size + 1) (x := .int .i64 ma) (y := .int .i64 mb) (z := .string mc) (by omega))
          have Y6b := Lib.hid (Y6.out.other3 (b := wr.heap.size + 1) (x := .int .i64 ma) (y := .int .i64 mb) (z := .string mc) (by omega))
          go_upto_region 21 with fail
          clear j0 j1 j2 z0 z1 z2
          generalize (((v3.setCell ⟨wr.heap.size + 1, 0, none⟩ (.int .i64 ma)).setCell ⟨wr.heap.size + 1, 1, none⟩ (.int .i64 mb)).setCell ⟨wr.heap.size + 1, 2, none⟩ (.string mc)) = v4 at *
          have x4 := Y6b.out.at_ 4 rfl
          go_wp2_with fail
          refine (rtake_any B c L i v4 V4.out.rd V4.out.fit hL1).mono ?_
          rintro e9 v5 ⟨B5, c5, he, hrd, hft, hb5, halt⟩
          rw [Hmm.out] at he
          have he : e9 = .returned (.tuple #[.slice B5 (Ml.takeL L i).length c5, .agg #[.int .i64 ma, .int .i64 mb, .string mc], .int .i64 (Ml.hasE L i)]) := he
          subst he
          have V5 := Lib.hid (V4.out.list hrd hft hb5 halt)
          have Y9c := Lib.hid (Y9b.out.below hb5)
          have Y10c := Lib.hid (Y10b.out.below hb5)
          clear hrd hft hb5 halt x4
          obtain ⟨j0, j1, j2⟩ := results3 Y10c.out
          have z0 := Y10c.out.2.2 0
          have z1 := Y10c.out.2.2 1
          have z2 := Y10c.out.2.2 2
          have HVz := Lib.hid (V5.out.store3 (wr.heap.size + 1 + 1) (.int .i64 ma) (.int .i64 mb) (.string mc) hl10 hq10)
          have Y10 := Lib.hid (Y10c.out.set3 (.int .i64 ma) (.int .i64 mb) (.string mc))
          have Y9 := Lib.hid (Y9c.out.other3 (b := wr.heap.size + 1 + 1) (x := .int .i64 ma) (y := .int .i64 mb) (z := .string mc) (by omega))
          have hfew := Ml.take_few (i := i) hL
          generalize Ml.takeL L i = L2 at *
          go_upto_region 28 with fail
          clear j0 j1 j2 z0 z1 z2
          generalize (((v5.setCell ⟨wr.heap.size + 1 + 1, 0, none⟩ (.int .i64 ma)).setCell ⟨wr.heap.size + 1 + 1, 1, none⟩ (.int .i64 mb)).setCell ⟨wr.heap.size + 1 + 1, 2, none⟩ (.string mc)) = v6 at *
          obtain ⟨j0, j1, j2⟩ := results3 Y9.out
          obtain ⟨i0, i1, i2⟩ := results3 Y10.out
          have hne := ne_self ma mb mc
          have hLk : L2.length ≤ 1000 := by omega
          generalize hEE : Ml.hasE L i = EE at *
          clear hEE
          go_wp2_with fail
          refine (like_same _ _ _ _ _ L2 _ HVz.out.mv.net HVz.out.rd hLk).mono ?_
          rintro e9 z2 ⟨rfl, hb9⟩
          have HSh := Lib.hid (HVz.out.below hb9).shut
          clear hb9 j0 j1 j2 i0 i1 i2
          go_wp2_with fail
          go_roundw
          case rel => exact ⟨k + 1, _, _, L2, _, _, by omega, by omega, rfl, by go_num, hfew, HSh⟩
          case measure => simp [intOf]; omega
        have qb1 : (r == 1) = false := by simp [q1]
        by_cases q2 : r = 2
        · subst q2
          go_wp2_with fail
          refine (lose_any w.heap.size cap A L i v HV.out.mv.net hL1).mono ?_
          rintro e9 v3 ⟨rfl, A3, cap3, hm3⟩
          have V3 := Lib.hid (HV.out.net hm3)
          have Y6 := Lib.hid (runHolds HV.out X6.out hm3 (Nat.le_refl _) hq6)
          have Y9a := Lib.hid (runHolds HV.out X9.out hm3 hl9 hq9)
          have Y10a := Lib.hid (runHolds HV.out X10.out hm3 hl10 hq10)
          clear hm3 x0 x1 x2 x3 x4
          have x4 := Y6.out.at_ 4 rfl
          go_wp2_with fail
          refine (rtake_any B c L i v3 V3.out.rd V3.out.fit hL1).mono ?_
          rintro e9 v4 ⟨B4, c4, rfl, hrd, hft, hb4, halt⟩
          have HVz := Lib.hid (V3.out.list hrd hft hb4 halt)
          have Y9 := Lib.hid (Y9a.out.below hb4)
          have Y10 := Lib.hid (Y10a.out.below hb4)
          have hfew := Ml.take_few (i := i) hL
          clear hrd hft hb4 halt x4
          generalize Ml.takeL L i = L2 at *
          obtain ⟨j0, j1, j2⟩ := results3 Y9.out
          obtain ⟨i0, i1, i2⟩ := results3 Y10.out
          have hne := ne_self 0 0 ⟨#[]⟩
          have hLk : L2.length ≤ 1000 := by omega
          generalize hEE : Ml.hasE L i = EE at *
          clear hEE
          go_wp2_with fail
          refine (like_same _ _ _ _ _ L2 _ HVz.out.mv.net HVz.out.rd hLk).mono ?_
          rintro e9 z2 ⟨rfl, hb9⟩
          have HSh := Lib.hid (HVz.out.below hb9).shut
          clear hb9 j0 j1 j2 i0 i1 i2
          go_wp2_with fail
          go_roundw
          case rel => exact ⟨k + 1, _, _, L2, _, _, by omega, by omega, rfl, by go_num, hfew, HSh⟩
          case measure => simp [intOf]; omega
        have qb2 : (r == 2) = false := by simp [q2]
        by_cases q3 : r = 3
        · subst q3
          go_wp2_with fail
          refine (twin_any w.heap.size cap A L i v HV.out.mv.net hL1).mono ?_
          rintro e9 v3 ⟨rfl, A3, cap3, hm3⟩
          have V3 := Lib.hid (HV.out.net hm3)
          have Y6 := Lib.hid (runHolds HV.out X6.out hm3 (Nat.le_refl _) hq6)
          have Y9a := Lib.hid (runHolds HV.out X9.out hm3 hl9 hq9)
          have Y10a := Lib.hid (runHolds HV.out X10.out hm3 hl10 hq10)
          clear hm3 x0 x1 x2 x3 x4
          have x4 := Y6.out.at_ 4 rfl
          go_wp2_with fail
          refine (rtwin_any B c L i v3 V3.out.rd V3.out.fit hL1).mono ?_
          rintro e9 v4 ⟨B4, c4, rfl, hrd, hft, hb4, halt⟩
          have HVz := Lib.hid (V3.out.list hrd hft hb4 halt)
          have Y9 := Lib.hid (Y9a.out.below hb4)
          have Y10 := Lib.hid (Y10a.out.below hb4)
          have hfew := Ml.twin_few (i := i) hL
          clear hrd hft hb4 halt x4
          generalize Ml.twinL L i = L2 at *
          obtain ⟨j0, j1, j2⟩ := results3 Y9.out
          obtain ⟨i0, i1, i2⟩ := results3 Y10.out
          have hne := ne_self 0 0 ⟨#[]⟩
          have hLk : L2.length ≤ 1000 := by omega
          generalize hEE : Ml.twinE L i = EE at *
          clear hEE
          go_wp2_with fail
          refine (like_same _ _ _ _ _ L2 _ HVz.out.mv.net HVz.out.rd hLk).mono ?_
          rintro e9 z2 ⟨rfl, hb9⟩
          have HSh := Lib.hid (HVz.out.below hb9).shut
          clear hb9 j0 j1 j2 i0 i1 i2
          go_wp2_with fail
          go_roundw
          case rel => exact ⟨k + 1, _, _, L2, _, _, by omega, by omega, rfl, by go_num, hfew, HSh⟩
          case measure => simp [intOf]; omega
        have qb3 : (r == 3) = false := by simp [q3]
        go_wp2_with fail
        refine (at_any w.heap.size cap A L i v HV.out.mv.net).mono ?_
        rintro e9 v3 ⟨he, hb3⟩
        obtain ⟨mm, hmm⟩ : ∃ mm, Ml.atM L i = mm := ⟨_, rfl⟩
        rw [hmm] at he
        have Hmm := Lib.hid hmm
        clear hmm
        obtain ⟨ma, mb, mc⟩ := mm
        have he : e9 = .returned (.tuple #[.agg #[.int .i64 ma, .int .i64 mb, .string mc], .int .i64 (Ml.hasE L i)]) := he
        subst he
        have V3 := Lib.hid (HV.out.below hb3)
        have Y6 := Lib.hid (X6.out.below hb3)
        have Y9a := Lib.hid (X9.out.below hb3)
        have Y10a := Lib.hid (X10.out.below hb3)
        clear hb3 x0 x1 x2 x3 x4
        obtain ⟨j0, j1, j2⟩ := results3 Y9a.out
        have z0 := Y9a.out.2.2 0
        have z1 := Y9a.out.2.2 1
        have z2 := Y9a.out.2.2 2
        have V4 := Lib.hid (V3.out.store3 (wr.heap.size + 1) (.int .i64 ma) (.int .i64 mb) (.string mc) hl9 hq9)
        have Y9b := Lib.hid (Y9a.out.set3 (.int .i64 ma) (.int .i64 mb) (.string mc))
        have Y10b := Lib.hid (Y10a.out.other3 (b := wr.heap.size + 1) (x := .int .i64 ma) (y := .int .i64 mb) (z := .string mc) (by omega))
        have Y6b := Lib.hid (Y6.out.other3 (b := wr.heap.size + 1) (x := .int .i64 ma) (y := .int .i64 mb) (z := .string mc) (by omega))
        go_upto_region 15 with fail
        clear j0 j1 j2 z0 z1 z2
        generalize (((v3.setCell ⟨wr.heap.size + 1, 0, none⟩ (.int .i64 ma)).setCell ⟨wr.heap.size + 1, 1, none⟩ (.int .i64 mb)).setCell ⟨wr.heap.size + 1, 2, none⟩ (.string mc)) = v4 at *
        have x4 := Y6b.out.at_ 4 rfl
        go_wp2_with fail
        refine (rat_any B c L i v4 V4.out.rd).mono ?_
        rintro e9 v5 ⟨he, hb5⟩
        rw [Hmm.out] at he
        have he : e9 = .returned (.tuple #[.agg #[.int .i64 ma, .int .i64 mb, .string mc], .int .i64 (Ml.hasE L i)]) := he
        subst he
        have V5 := Lib.hid (V4.out.below hb5)
        have Y9c := Lib.hid (Y9b.out.below hb5)
        have Y10c := Lib.hid (Y10b.out.below hb5)
        clear hb5 x4
        obtain ⟨j0, j1, j2⟩ := results3 Y10c.out
        have z0 := Y10c.out.2.2 0
        have z1 := Y10c.out.2.2 1
        have z2 := Y10c.out.2.2 2
        have HVz := Lib.hid (V5.out.store3 (wr.heap.size + 1 + 1) (.int .i64 ma) (.int .i64 mb) (.string mc) hl10 hq10)
        have Y10 := Lib.hid (Y10c.out.set3 (.int .i64 ma) (.int .i64 mb) (.string mc))
        have Y9 := Lib.hid (Y9c.out.other3 (b := wr.heap.size + 1 + 1) (x := .int .i64 ma) (y := .int .i64 mb) (z := .string mc) (by omega))
        have hfew := hL
        generalize L = L2 at *
        go_upto_region 28 with fail
        clear j0 j1 j2 z0 z1 z2
        generalize (((v5.setCell ⟨wr.heap.size + 1 + 1, 0, none⟩ (.int .i64 ma)).setCell ⟨wr.heap.size + 1 + 1, 1, none⟩ (.int .i64 mb)).setCell ⟨wr.heap.size + 1 + 1, 2, none⟩ (.string mc)) = v6 at *
        obtain ⟨j0, j1, j2⟩ := results3 Y9.out
        obtain ⟨i0, i1, i2⟩ := results3 Y10.out
        have hne := ne_self ma mb mc
        have hLk : L2.length ≤ 1000 := by omega
        generalize hEE : Ml.hasE L2 i = EE at *
        clear hEE
        go_wp2_with fail
        refine (like_same _ _ _ _ _ L2 _ HVz.out.mv.net HVz.out.rd hLk).mono ?_
        rintro e9 z2 ⟨rfl, hb9⟩
        have HSh := Lib.hid (HVz.out.below hb9).shut
        clear hb9 j0 j1 j2 i0 i1 i2
        go_wp2_with fail
        go_roundw
        case rel => exact ⟨k + 1, _, _, L2, _, _, by omega, by omega, rfl, by go_num, hfew, HSh⟩
        case measure => simp [intOf]; omega
    · go_wp2
      all_goals
        go_ret
        exact ⟨rfl, HG.out.mv.low HB1.out (Nat.le_refl _) (fun _ h => by cases h) (by omega)⟩
set_option maxRecDepth 100000 in
theorem lifted (os : Os) (started : os.Started) (H : Type) (enc : TypeId × Value → H) :
    ReturnsInHanded {} Try.checked os 3 .any (Rows.netRunsSpec.pre6 enc Try.prog Try.f3 Rows.netRunsRow.domain false) (Rows.netRunsSpec.post enc Try.prog Try.f3 false true false false) := by
  refine returnsInHanded_of_change (C := Try.checked) own started (by kernel_rfl) Try.func3
    (ChangeSpec.witness6 (enc := enc) (C := Try.checked) false ⟨#[], #[.slice none 0 0], []⟩ 8 (by kernel_rfl) (by kernel_rfl) (by kernel_rfl) (by kernel_rfl)) ?_
  intro W base args ds gs before hval0 hW hcnd _
  have hval : ∀ (j : Nat) t v, Try.f3.params[j]? = some t → args[j]? = some v → Value.okWide Try.prog W .any base t v := hval0
  have hW' := hW
  obtain ⟨p, q, hA0, hV, rfl, hfz, hnd⟩ := hW
  have hA : DataW.TrodAll enc Try.prog W 0 (fun _ => true) true Try.f3.params.toList args.toList ds p := hA0
  rw [Try.params3] at hA hval
  obtain ⟨v0, vs0, d0, ds0, p0, q0, hargs, rfl, rfl, h0, t0⟩ := trodAll_cons hA
  obtain ⟨rfl, rfl, rfl⟩ := trodAll_nil t0
  obtain rfl : args = #[v0] := by cases args; simp_all
  obtain ⟨rfl, rfl⟩ := trodVars_none hV
  have k0 : Reads enc W 22 v0 d0 p0 := h0
  have lt0 : ∀ x ∈ p0, x.block < W.heap.size := by obtain ⟨m, hm⟩ := k0; exact DataW.trod_lt m _ _ _ hm
  obtain ⟨A0, m0, c0, l0, rfl, r0, wc0, w0⟩ := in_nsteps (hval 0 22 v0 rfl rfl) k0
  clear hA0 hval0
  refine (walk A0 m0 c0 l0 W r0 wc0 w0).mono fun e W' ⟨he, bel⟩ => ?_
  subst he
  exact ⟨_, rfl, _, _, _, [], _, [], hW', trodAll_mk1 (shut_bool Try.underlying4 _), (trodAll_cons_mk (Below.trod laidOut (by kernel_rfl) (of_decide_eq_true (by kernel_rfl)) k0 bel lt0) trodAll_mk0), rfl, bel.frame _, fun h => by cases h⟩
theorem over : Rows.netRunsRow.holds Try.pinned (OpenSpec.ofChange Rows.netRunsSpec) :=
  OpenClaim.holds_of_wide 3 Try.f3 rfl rfl rfl rfl rfl rfl rfl ⟨rfl, rfl, rfl, rfl, rfl⟩ rfl rfl rfl rfl rfl (by kernel_rfl) Try.func3 (by kernel_rfl)
    (of_decide_eq_true (by kernel_rfl)) (by unfold Func.isWrapper; first | (rw [if_pos (by decide +kernel)]; kernel_rfl) | (rw [if_neg (by decide +kernel)]; exact ⟨rfl, rfl⟩))
    (fun os started H enc _ => lifted os started H enc)
theorem proved : Rows.NetRunsSaid := over
end Go.Proofs.Ythganbbiclmgpaa.netRuns
