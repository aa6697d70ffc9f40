/- slices.EqualFunc of logs. slices.EqualFunc of tables. edit.Same. -/
import Derived.Test.YthfcjlndaajkfaaGreatG04
namespace Go.Proofs.YthfcjlndaajkfaaGreat
open Go.RowKit
set_option linter.unusedVariables false
set_option maxRecDepth 100000 in
set_option maxHeartbeats 8000000 in
theorem eqlogs_any (A B : Option Addr) (n c m d : Nat) (L M : List (Ed.Lg × List (Int × Int))) (w : World) (h1 : RdLs w A n L) (h2 : RdLs w B m M) (hn : n ≤ 9223372036854775807) (hm : m ≤ 9223372036854775807) :
    Calls Tryz.prog 43 #[.slice A n c, .slice B m d, .func (.func 44) #[] #[]] w fun e w' => e = .returned (.bool (Ed.eqAll Ed.Lo.eq (L.map Ed.loOf) (M.map Ed.loOf))) ∧ Below w.heap.size w w' := by
  have H1 := Lib.hid h1
  have H2 := Lib.hid h2
  have L1 := Lib.hid h1.len
  have L2 := Lib.hid h2.len
  clear h1 h2
  generalize hans : Ed.eqAll Ed.Lo.eq (L.map Ed.loOf) (M.map Ed.loOf) = ans
  have HA := Lib.hid hans
  clear hans
  by_cases hnm : n = m
  · subst hnm
    have ee : ((n : Int) == (n : Int)) = true := by simp
    go_enter Tryz.func43, Tryz.ntmps43
    go_wp2
    go_loopw [17] (fun ii wr => ∃ (k : Nat), k ≤ n ∧ ii = .int .i64 (k : Int) ∧ Hid (∀ i, i < k → ∀ x y, (L.map Ed.loOf)[i]? = some x → (M.map Ed.loOf)[i]? = some y → Ed.Lo.eq x y = true) ∧ Hid (Below w.heap.size w wr)) (fun ii _ => n - (intOf ii).toNat)
    case atStart => exact ⟨0, by omega, rfl, Lib.hid (fun i hi => by omega), Lib.hid (Below.refl _ _)⟩
    case round =>
      obtain ⟨k, hk, rfl, HT, HB⟩ := hrel
      by_cases hlt : k < n
      · have hki : (k : Int) < (n : Int) := by omega
        have hk0 : (0 : Int) ≤ (k : Int) := by omega
        obtain ⟨x, hx⟩ : ∃ x, L[k]? = some x := ⟨_, List.getElem?_eq_getElem (by rw [L1.out]; exact hlt)⟩
        obtain ⟨y, hy⟩ : ∃ y, M[k]? = some y := ⟨_, List.getElem?_eq_getElem (by rw [L2.out]; exact hlt)⟩
        obtain ⟨b, o, rfl, _, hp, hc⟩ := H1.out.four hx
        obtain ⟨b2, o2, rfl, _, hp2, hc2⟩ := H2.out.four hy
        have HX := Lib.hid (And.intro (Ed.map_at (f := Ed.loOf) hx) (Ed.map_at (f := Ed.loOf) hy))
        have HQ := Lib.hid (And.intro hp hp2)
        clear hx hy hp hp2
        obtain ⟨⟨id, ep, P, pn, pc, se⟩, ps⟩ := x
        obtain ⟨⟨id2, ep2, P2, pn2, pc2, se2⟩, qs⟩ := y
        dsimp only at hc hc2 HX HQ
        obtain ⟨e0, e1, e2, e3⟩ := hc wr HB.out
        have HB1 := Lib.hid (HB.out.alloc HB.out.size (.cells #[.int .i64 id, .int .i64 ep, .slice P pn pc, .int .i64 se] 62))
        obtain ⟨f0, f1, f2, f3⟩ := hc2 _ HB1.out
        have HB2 := Lib.hid (HB1.out.alloc HB1.out.size (.cells #[.int .i64 id2, .int .i64 ep2, .slice P2 pn2 pc2, .int .i64 se2] 62))
        have HS := Lib.hid (samelog_any id ep P pn pc se ps id2 ep2 P2 pn2 pc2 se2 qs _ (HQ.out.1.below HB2.out).1 (HQ.out.2.below HB2.out).1 HQ.out.1.2.2 HQ.out.2.2.2)
        have HXc := Lib.hid ((Holds.new wr #[.int .i64 id, .int .i64 ep, .slice P pn pc, .int .i64 se] 62).alloc (.cells #[.int .i64 id2, .int .i64 ep2, .slice P2 pn2 pc2, .int .i64 se2] 62))
        have HYc := Lib.hid (Holds.new (wr.alloc (.cells #[.int .i64 id, .int .i64 ep, .slice P pn pc, .int .i64 se] 62)) #[.int .i64 id2, .int .i64 ep2, .slice P2 pn2 pc2, .int .i64 se2] 62)
        have xx0 := HXc.out.at_ 0 rfl
        have yy0 := HYc.out.at_ 0 rfl
        have xx1 := HXc.out.at_ 1 rfl
        have yy1 := HYc.out.at_ 1 rfl
        have xx2 := HXc.out.at_ 2 rfl
        have yy2 := HYc.out.at_ 2 rfl
        have xx3 := HXc.out.at_ 3 rfl
        have yy3 := HYc.out.at_ 3 rfl
        clear hc hc2
        replace HX : Hid ((L.map Ed.loOf)[k]? = some ⟨⟨id, ep, ps⟩, se⟩ ∧ (M.map Ed.loOf)[k]? = some ⟨⟨id2, ep2, qs⟩, se2⟩) := HX
        generalize hqt : Ed.Lo.eq ⟨⟨id, ep, ps⟩, se⟩ ⟨⟨id2, ep2, qs⟩, se2⟩ = t at HS
        go_wp2_with fail
        refine HS.out.mono ?_
        rintro e v ⟨rfl, hbv⟩
        have HV := Lib.hid (below_next HB2.out hbv)
        clear hbv HB1 HB2 HXc HYc e0 e1 e2 e3 f0 f1 f2 f3 xx0 yy0 xx1 yy1 xx2 yy2 xx3 yy3
        cases t with
        | false =>
          have HF := Lib.hid (show false = ans by rw [← HA.out]; exact (Ed.eqAll_no HX.out.1 HX.out.2 hqt).symm)
          clear hqt
          go_wp2
          go_ret
          exact ⟨by rw [← HF.out]; rfl, HV.out⟩
        | true =>
          have HTn := Lib.hid (show ∀ i, i < k + 1 → ∀ x y, (L.map Ed.loOf)[i]? = some x → (M.map Ed.loOf)[i]? = some y → Ed.Lo.eq x y = true by
            intro i hi x y h1 h2
            by_cases hik : i = k
            · subst hik
              rw [HX.out.1] at h1
              rw [HX.out.2] at h2
              injection h1 with h1
              injection h2 with h2
              rw [← h1, ← h2]; exact hqt
            · exact HT.out i (by omega) x y h1 h2)
          clear hqt
          go_wp2
          go_roundw
          case rel => exact ⟨k + 1, by omega, by go_num, HTn, HV⟩
          case measure => simp [intOf]; omega
      · have hki : ¬ (k : Int) < (n : Int) := by omega
        have HF := Lib.hid (show true = ans by
          rw [← HA.out]
          exact (Ed.eqAll_yes (by rw [List.length_map, List.length_map, L1.out, L2.out]) (fun i hi => HT.out i (by rw [List.length_map, L1.out] at hi; omega))).symm)
        clear hlt
        go_wp2
        go_ret
        exact ⟨by rw [← HF.out]; rfl, HB.out⟩
  · have ee : ((n : Int) == (m : Int)) = false := by rw [beq_eq_false_iff_ne]; omega
    have HF := Lib.hid (show false = ans by rw [← HA.out]; exact (Ed.eqAll_len (by rw [List.length_map, List.length_map, L1.out, L2.out]; exact hnm)).symm)
    clear hnm
    go_enter Tryz.func43, Tryz.ntmps43
    go_wp2
    go_ret
    exact ⟨by rw [← HF.out]; rfl, Below.refl _ _⟩
end Go.Proofs.YthfcjlndaajkfaaGreat
namespace Go.Proofs.YthfcjlndaajkfaaGreat
open Go.RowKit
set_option linter.unusedVariables false
set_option maxRecDepth 100000 in
set_option maxHeartbeats 8000000 in
theorem eqtables_any (A B : Option Addr) (n c m d : Nat) (L M : List (Pk.Tb × List (Int × Int))) (w : World) (h1 : RdTs w A n L) (h2 : RdTs w B m M) (hn : n ≤ 9223372036854775807) (hm : m ≤ 9223372036854775807) :
    Calls Tryz.prog 45 #[.slice A n c, .slice B m d, .func (.func 46) #[] #[]] w fun e w' => e = .returned (.bool (Ed.eqAll Ed.Ta.eq (L.map Ed.taOf) (M.map Ed.taOf))) ∧ Below w.heap.size w w' := by
  have H1 := Lib.hid h1
  have H2 := Lib.hid h2
  have L1 := Lib.hid h1.len
  have L2 := Lib.hid h2.len
  clear h1 h2
  generalize hans : Ed.eqAll Ed.Ta.eq (L.map Ed.taOf) (M.map Ed.taOf) = ans
  have HA := Lib.hid hans
  clear hans
  by_cases hnm : n = m
  · subst hnm
    have ee : ((n : Int) == (n : Int)) = true := by simp
    go_enter Tryz.func45, Tryz.ntmps45
    go_wp2
    go_loopw [17] (fun ii wr => ∃ (k : Nat), k ≤ n ∧ ii = .int .i64 (k : Int) ∧ Hid (∀ i, i < k → ∀ x y, (L.map Ed.taOf)[i]? = some x → (M.map Ed.taOf)[i]? = some y → Ed.Ta.eq x y = true) ∧ Hid (Below w.heap.size w wr)) (fun ii _ => n - (intOf ii).toNat)
    case atStart => exact ⟨0, by omega, rfl, Lib.hid (fun i hi => by omega), Lib.hid (Below.refl _ _)⟩
    case round =>
      obtain ⟨k, hk, rfl, HT, HB⟩ := hrel
      by_cases hlt : k < n
      · have hki : (k : Int) < (n : Int) := by omega
        have hk0 : (0 : Int) ≤ (k : Int) := by omega
        obtain ⟨x, hx⟩ : ∃ x, L[k]? = some x := ⟨_, List.getElem?_eq_getElem (by rw [L1.out]; exact hlt)⟩
        obtain ⟨y, hy⟩ : ∃ y, M[k]? = some y := ⟨_, List.getElem?_eq_getElem (by rw [L2.out]; exact hlt)⟩
        obtain ⟨b, o, rfl, _, hp, hc⟩ := H1.out.nine hx
        obtain ⟨b2, o2, rfl, _, hp2, hc2⟩ := H2.out.nine hy
        have HX := Lib.hid (And.intro (Ed.map_at (f := Ed.taOf) hx) (Ed.map_at (f := Ed.taOf) hy))
        have HQ := Lib.hid (And.intro hp hp2)
        clear hx hy hp hp2
        obtain ⟨⟨id, ep, P, pn, pc, sz, lv, ct, lo, hi, tp⟩, ps⟩ := x
        obtain ⟨⟨id2, ep2, P2, pn2, pc2, sz2, lv2, ct2, lo2, hi2, tp2⟩, qs⟩ := y
        dsimp only at hc hc2 HX HQ
        obtain ⟨e0, e1, e2, e3, e4, e5, e6, e7, e8⟩ := hc wr HB.out
        have HB1 := Lib.hid (HB.out.alloc HB.out.size (.cells #[.int .i64 id, .int .i64 ep, .slice P pn pc, .int .i64 sz, .int .i64 lv, .int .i64 ct, .string lo, .string hi, .int .i64 tp] 35))
        obtain ⟨f0, f1, f2, f3, f4, f5, f6, f7, f8⟩ := hc2 _ HB1.out
        have HB2 := Lib.hid (HB1.out.alloc HB1.out.size (.cells #[.int .i64 id2, .int .i64 ep2, .slice P2 pn2 pc2, .int .i64 sz2, .int .i64 lv2, .int .i64 ct2, .string lo2, .string hi2, .int .i64 tp2] 35))
        have HS := Lib.hid (sametable_any id ep P pn pc sz lv ct lo hi tp ps id2 ep2 P2 pn2 pc2 sz2 lv2 ct2 lo2 hi2 tp2 qs _ (HQ.out.1.below HB2.out).1 (HQ.out.2.below HB2.out).1 HQ.out.1.2.2 HQ.out.2.2.2)
        have HXc := Lib.hid ((Holds.new wr #[.int .i64 id, .int .i64 ep, .slice P pn pc, .int .i64 sz, .int .i64 lv, .int .i64 ct, .string lo, .string hi, .int .i64 tp] 35).alloc (.cells #[.int .i64 id2, .int .i64 ep2, .slice P2 pn2 pc2, .int .i64 sz2, .int .i64 lv2, .int .i64 ct2, .string lo2, .string hi2, .int .i64 tp2] 35))
        have HYc := Lib.hid (Holds.new (wr.alloc (.cells #[.int .i64 id, .int .i64 ep, .slice P pn pc, .int .i64 sz, .int .i64 lv, .int .i64 ct, .string lo, .string hi, .int .i64 tp] 35)) #[.int .i64 id2, .int .i64 ep2, .slice P2 pn2 pc2, .int .i64 sz2, .int .i64 lv2, .int .i64 ct2, .string lo2, .string hi2, .int .i64 tp2] 35)
        have xx0 := HXc.out.at_ 0 rfl
        have yy0 := HYc.out.at_ 0 rfl
        have xx1 := HXc.out.at_ 1 rfl
        have yy1 := HYc.out.at_ 1 rfl
        have xx2 := HXc.out.at_ 2 rfl
        have yy2 := HYc.out.at_ 2 rfl
        have xx3 := HXc.out.at_ 3 rfl
        have yy3 := HYc.out.at_ 3 rfl
        have xx4 := HXc.out.at_ 4 rfl
        have yy4 := HYc.out.at_ 4 rfl
        have xx5 := HXc.out.at_ 5 rfl
        have yy5 := HYc.out.at_ 5 rfl
        have xx6 := HXc.out.at_ 6 rfl
        have yy6 := HYc.out.at_ 6 rfl
        have xx7 := HXc.out.at_ 7 rfl
        have yy7 := HYc.out.at_ 7 rfl
        have xx8 := HXc.out.at_ 8 rfl
        have yy8 := HYc.out.at_ 8 rfl
        clear hc hc2
        replace HX : Hid ((L.map Ed.taOf)[k]? = some ⟨⟨id, ep, ps⟩, sz, lv, ct, lo, hi, tp⟩ ∧ (M.map Ed.taOf)[k]? = some ⟨⟨id2, ep2, qs⟩, sz2, lv2, ct2, lo2, hi2, tp2⟩) := HX
        generalize hqt : Ed.Ta.eq ⟨⟨id, ep, ps⟩, sz, lv, ct, lo, hi, tp⟩ ⟨⟨id2, ep2, qs⟩, sz2, lv2, ct2, lo2, hi2, tp2⟩ = t at HS
        go_wp2_with fail
        refine HS.out.mono ?_
        rintro e v ⟨rfl, hbv⟩
        have HV := Lib.hid (below_next HB2.out hbv)
        clear hbv HB1 HB2 HXc HYc e0 e1 e2 e3 e4 e5 e6 e7 e8 f0 f1 f2 f3 f4 f5 f6 f7 f8 xx0 yy0 xx1 yy1 xx2 yy2 xx3 yy3 xx4 yy4 xx5 yy5 xx6 yy6 xx7 yy7 xx8 yy8
        cases t with
        | false =>
          have HF := Lib.hid (show false = ans by rw [← HA.out]; exact (Ed.eqAll_no HX.out.1 HX.out.2 hqt).symm)
          clear hqt
          go_wp2
          go_ret
          exact ⟨by rw [← HF.out]; rfl, HV.out⟩
        | true =>
          have HTn := Lib.hid (show ∀ i, i < k + 1 → ∀ x y, (L.map Ed.taOf)[i]? = some x → (M.map Ed.taOf)[i]? = some y → Ed.Ta.eq x y = true by
            intro i hi x y h1 h2
            by_cases hik : i = k
            · subst hik
              rw [HX.out.1] at h1
              rw [HX.out.2] at h2
              injection h1 with h1
              injection h2 with h2
              rw [← h1, ← h2]; exact hqt
            · exact HT.out i (by omega) x y h1 h2)
          clear hqt
          go_wp2
          go_roundw
          case rel => exact ⟨k + 1, by omega, by go_num, HTn, HV⟩
          case measure => simp [intOf]; omega
      · have hki : ¬ (k : Int) < (n : Int) := by omega
        have HF := Lib.hid (show true = ans by
          rw [← HA.out]
          exact (Ed.eqAll_yes (by rw [List.length_map, List.length_map, L1.out, L2.out]) (fun i hi => HT.out i (by rw [List.length_map, L1.out] at hi; omega))).symm)
        clear hlt
        go_wp2
        go_ret
        exact ⟨by rw [← HF.out]; rfl, HB.out⟩
  · have ee : ((n : Int) == (m : Int)) = false := by rw [beq_eq_false_iff_ne]; omega
    have HF := Lib.hid (show false = ans by rw [← HA.out]; exact (Ed.eqAll_len (by rw [List.length_map, List.length_map, L1.out, L2.out]; exact hnm)).symm)
    clear hnm
    go_enter Tryz.func45, Tryz.ntmps45
    go_wp2
    go_ret
    exact ⟨by rw [← HF.out]; rfl, Below.refl _ _⟩
end Go.Proofs.YthfcjlndaajkfaaGreat
namespace Go.Proofs.YthfcjlndaajkfaaGreat
open Go.RowKit
set_option linter.unusedVariables false
set_option maxRecDepth 100000 in
set_option maxHeartbeats 8000000 in
theorem same_any (nx sq : Int) (A : Option Addr) (n c : Nat) (B : Option Addr) (m d : Nat) (L : List (Ed.Lg × List (Int × Int))) (M : List (Pk.Tb × List (Int × Int))) (nx2 sq2 : Int) (A2 : Option Addr) (n2 c2 : Nat) (B2 : Option Addr) (m2 d2 : Nat) (L2 : List (Ed.Lg × List (Int × Int))) (M2 : List (Pk.Tb × List (Int × Int))) (w : World)
    (h1 : RdLs w A n L) (h2 : RdTs w B m M) (h3 : RdLs w A2 n2 L2) (h4 : RdTs w B2 m2 M2) (hn : n ≤ 9223372036854775807) (hm : m ≤ 9223372036854775807) (hn2 : n2 ≤ 9223372036854775807) (hm2 : m2 ≤ 9223372036854775807) :
    Calls Tryz.prog 15 #[.agg #[.int .i64 nx, .int .i64 sq, .slice A n c, .slice B m d], .agg #[.int .i64 nx2, .int .i64 sq2, .slice A2 n2 c2, .slice B2 m2 d2]] w fun e w' => e = .returned (.bool ((⟨nx, sq, L.map Ed.loOf, M.map Ed.taOf⟩ : Ed.Ve).eq ⟨nx2, sq2, L2.map Ed.loOf, M2.map Ed.taOf⟩)) ∧ Below w.heap.size w w' := by
  have hb2 : Below w.heap.size w ((w.alloc (.cells #[.int .i64 nx, .int .i64 sq, .slice A n c, .slice B m d] 25)).alloc (.cells #[.int .i64 nx2, .int .i64 sq2, .slice A2 n2 c2, .slice B2 m2 d2] 25)) := ((Below.refl _ _).alloc (Nat.le_refl _) _).alloc (by simp) _
  have HP := Lib.hid (eqlogs_any A A2 n c n2 c2 L L2 ((w.alloc (.cells #[.int .i64 nx, .int .i64 sq, .slice A n c, .slice B m d] 25)).alloc (.cells #[.int .i64 nx2, .int .i64 sq2, .slice A2 n2 c2, .slice B2 m2 d2] 25)) (h1.below hb2) (h3.below hb2) hn hn2)
  have HQ := Lib.hid (fun (v : World) (hv : Below w.heap.size w v) => eqtables_any B B2 m d m2 d2 M M2 v (h2.below hv) (h4.below hv) hm hm2)
  have HX := Lib.hid ((Holds.new w #[.int .i64 nx, .int .i64 sq, .slice A n c, .slice B m d] 25).alloc (.cells #[.int .i64 nx2, .int .i64 sq2, .slice A2 n2 c2, .slice B2 m2 d2] 25))
  have HY := Lib.hid (Holds.new (w.alloc (.cells #[.int .i64 nx, .int .i64 sq, .slice A n c, .slice B m d] 25)) #[.int .i64 nx2, .int .i64 sq2, .slice A2 n2 c2, .slice B2 m2 d2] 25)
  have HB := Lib.hid hb2
  clear h1 h2 h3 h4 hb2 hn hm hn2 hm2
  have HA := Lib.hid (show (decide (nx = nx2) && decide (sq = sq2) && Ed.eqAll Ed.Lo.eq (L.map Ed.loOf) (L2.map Ed.loOf) && Ed.eqAll Ed.Ta.eq (M.map Ed.taOf) (M2.map Ed.taOf)) = (⟨nx, sq, L.map Ed.loOf, M.map Ed.taOf⟩ : Ed.Ve).eq ⟨nx2, sq2, L2.map Ed.loOf, M2.map Ed.taOf⟩ from rfl)
  generalize (⟨nx, sq, L.map Ed.loOf, M.map Ed.taOf⟩ : Ed.Ve).eq ⟨nx2, sq2, L2.map Ed.loOf, M2.map Ed.taOf⟩ = ans at *
  generalize Ed.eqAll Ed.Lo.eq (L.map Ed.loOf) (L2.map Ed.loOf) = t at *
  generalize Ed.eqAll Ed.Ta.eq (M.map Ed.taOf) (M2.map Ed.taOf) = s at *
  go_enter Tryz.func15, Tryz.ntmps15
  go_upto_region 1 with fail
  generalize ((w.alloc (.cells #[.int .i64 nx, .int .i64 sq, .slice A n c, .slice B m d] 25)).alloc (.cells #[.int .i64 nx2, .int .i64 sq2, .slice A2 n2 c2, .slice B2 m2 d2] 25)) = u at *
  replace HX : Hid (Holds u w.heap.size [.int .i64 nx, .int .i64 sq, .slice A n c, .slice B m d]) := HX
  replace HY : Hid (Holds u (w.heap.size + 1) [.int .i64 nx2, .int .i64 sq2, .slice A2 n2 c2, .slice B2 m2 d2]) := Lib.hid (by have := HY.out; simpa using this)
  have x0 := HX.out.at_ 0 rfl
  have x1 := HX.out.at_ 1 rfl
  have x2 := HX.out.at_ 2 rfl
  have y0 := HY.out.at_ 0 rfl
  have y1 := HY.out.at_ 1 rfl
  have y2 := HY.out.at_ 2 rfl
  by_cases q1 : nx = nx2
  · have g1 : (nx == nx2) = true := by simp [q1]
    by_cases q2 : sq = sq2
    · have g2 : (sq == sq2) = true := by simp [q2]
      replace HA := Lib.hid (show (t && s) = ans by rw [← HA.out, decide_eq_true q1, decide_eq_true q2]; simp)
      clear q1 q2
      go_wp2_with fail
      refine HP.out.mono ?_
      rintro e v ⟨rfl, hbv⟩
      have HV := Lib.hid (below_next HB.out hbv)
      have x3 := (HX.out.below hbv).at_ 3 rfl
      have y3 := (HY.out.below hbv).at_ 3 rfl
      clear hbv x0 x1 x2 y0 y1 y2
      cases t with
      | false =>
        have HF := Lib.hid (show false = ans by rw [← HA.out]; rfl)
        go_wp2
        go_ret
        exact ⟨by rw [← HF.out]; rfl, HV.out⟩
      | true =>
        have HF := Lib.hid (show s = ans by rw [← HA.out]; simp)
        have HQ1 := Lib.hid (HQ.out v HV.out)
        go_wp2_with fail
        refine HQ1.out.mono ?_
        rintro e v2 ⟨rfl, hbv2⟩
        have HV2 := Lib.hid (below_next HV.out hbv2)
        clear hbv2
        go_wp2
        go_ret
        exact ⟨by rw [← HF.out]; rfl, HV2.out⟩
    · have g2 : (sq == sq2) = false := beq_eq_false_iff_ne.2 q2
      have HF := Lib.hid (show false = ans by rw [← HA.out, decide_eq_true q1, decide_eq_false q2]; rfl)
      clear q1 q2
      go_wp2
      go_ret
      exact ⟨by rw [← HF.out]; rfl, HB.out⟩
  · have g1 : (nx == nx2) = false := beq_eq_false_iff_ne.2 q1
    have HF := Lib.hid (show false = ans by rw [← HA.out, decide_eq_false q1]; rfl)
    clear q1
    go_wp2
    go_ret
    exact ⟨by rw [← HF.out]; rfl, HB.out⟩
end Go.Proofs.YthfcjlndaajkfaaGreat
