/- edit.mayBePlace. Which tables may be: edit.mayBeTable. slices.Equal of pairs; edit.samePlace, sameLog. edit.sameTable. edit.ownPlace: a place in memory of its own. The cells of one log, of one table; which calls are entered. -/
import Derived.Test.YthfcjlndaajkfaaGreatG03
import Derived.BigQuiet
import Derived.Laws.StructEq
namespace Go.Proofs.YthfcjlndaajkfaaGreat
open Go.RowKit
set_option linter.unusedVariables false
set_option maxRecDepth 100000 in
set_option maxHeartbeats 8000000 in
theorem mbplace_any (id ep : Int) (A : Option Addr) (n c : Nat) (ps : List (Int × Int)) (w : World) (hr : RdPs w A n ps) (hn : n ≤ 9223372036854775807) :
    Calls Tryz.prog 32 #[.agg #[.int .i64 id, .int .i64 ep, .slice A n c]] w fun e w' => e = .returned (.bool (Ed.okP id ep ps)) ∧ Below w.heap.size w w' := by
  have HR := Lib.hid hr
  have HL := Lib.hid hr.1
  clear hr
  have HZ := Lib.hid (Holds.new w #[.int .i64 id, .int .i64 ep, .slice A n c] 32)
  have HB0 := Lib.hid (show Below w.heap.size w (w.alloc (.cells #[.int .i64 id, .int .i64 ep, .slice A n c] 32)) from (Below.refl _ _).alloc (Nat.le_refl _) _)
  generalize hans : Ed.okP id ep ps = ans
  unfold Ed.okP at hans
  rw [HL.out] at hans
  go_enter Tryz.func32, Tryz.ntmps32
  go_upto_region 1 with fail
  generalize (w.alloc (.cells #[.int .i64 id, .int .i64 ep, .slice A n c] 32)) = u at *
  replace HZ : Hid (Holds u w.heap.size [.int .i64 id, .int .i64 ep, .slice A n c]) := HZ
  have z0 := HZ.out.at_ 0 rfl
  have z1 := HZ.out.at_ 1 rfl
  have z2 := HZ.out.at_ 2 rfl
  have F1 := Lib.hid (within_any id 1 2147483647 u)
  have F2 := Lib.hid (within_any ep 1 2147483647 u)
  have F3 := Lib.hid (within_any (n : Int) 1 64 u)
  cases h1 : Ed.from_ id 1 2147483647 with
  | false =>
    have HF := Lib.hid (show false = ans by rw [← hans, h1]; rfl)
    rw [h1] at F1
    clear hans h1
    go_wp2_with fail
    refine F1.out.mono ?_
    rintro e v1 ⟨rfl, rfl⟩
    go_wp2
    go_ret
    exact ⟨by rw [← HF.out]; rfl, HB0.out⟩
  | true =>
  rw [h1] at F1
  cases h2 : Ed.from_ ep 1 2147483647 with
  | false =>
    have HF := Lib.hid (show false = ans by rw [← hans, h1, h2]; rfl)
    rw [h2] at F2
    clear hans h1 h2
    go_wp2_with fail
    refine F1.out.mono ?_
    rintro e v1 ⟨rfl, rfl⟩
    go_wp2_with fail
    refine F2.out.mono ?_
    rintro e v1 ⟨rfl, rfl⟩
    go_wp2
    go_ret
    exact ⟨by rw [← HF.out]; rfl, HB0.out⟩
  | true =>
  rw [h2] at F2
  cases h3 : Ed.from_ (n : Int) 1 64 with
  | false =>
    have HF := Lib.hid (show false = ans by rw [← hans, h1, h2, h3]; rfl)
    rw [h3] at F3
    clear hans h1 h2 h3
    go_wp2_with fail
    refine F1.out.mono ?_
    rintro e v1 ⟨rfl, rfl⟩
    go_wp2_with fail
    refine F2.out.mono ?_
    rintro e v1 ⟨rfl, rfl⟩
    go_wp2_with fail
    refine F3.out.mono ?_
    rintro e v1 ⟨rfl, rfl⟩
    go_wp2
    go_ret
    exact ⟨by rw [← HF.out]; rfl, HB0.out⟩
  | true =>
  rw [h3] at F3
  have HA := Lib.hid (show ((Ed.fl ps).all (fun x => Ed.from_ x 0 510) && decide (Ed.fl ps).Nodup) = ans by
    rw [← hans, h1, h2, h3]
    rfl)
  have hn64 : n ≤ 64 := by have := (Ed.from_iff.1 h3).2; omega
  clear hans h1 h2 h3
  have HM0 := Lib.hid (Km.new u)
  have hmk := run_mk u
  have HB1 := Lib.hid (HB0.out.alloc HB0.out.size (.map #[] 0))
  go_wp2_with fail
  refine F1.out.mono ?_
  rintro e v1 ⟨rfl, rfl⟩
  go_wp2_with fail
  refine F2.out.mono ?_
  rintro e v2 ⟨rfl, rfl⟩
  go_wp2_with fail
  refine F3.out.mono ?_
  rintro e v3 ⟨rfl, rfl⟩
  have z2m := (HZ.out.alloc (.map #[] 0)).at_ 2 rfl
  go_wp2_with fail
  clear z0 z1 z2 z2m F1 F2 F3 hmk
  have hmb : w.heap.size ≤ v3.heap.size := HB0.out.size
  generalize (v3.alloc (.map #[] 0)) = vm at *
  generalize v3.heap.size = mb at *
  clear HZ HB0
  go_loopw [29] (fun ii wr => ∃ (k : Nat), k ≤ n ∧ ii = .int .i64 (k : Int) ∧ Hid (∀ y ∈ (Ed.fl ps).take (k * 2), Ed.from_ y 0 510 = true) ∧ Hid (((Ed.fl ps).take (k * 2)).Nodup) ∧ Hid (Km wr mb (k * 2) (((Ed.fl ps).take (k * 2)).map fun x => ((1 : Int), x))) ∧ Hid (Below w.heap.size w wr)) (fun ii _ => n - (intOf ii).toNat)
  case atStart => exact ⟨0, by omega, rfl, Lib.hid (fun y hy => nomatch hy), Lib.hid (by simp), HM0, HB1⟩
  case round =>
    clear HM0 HB1
    obtain ⟨k, hk, rfl, HP, HN, HK, HB⟩ := hrel
    by_cases hkn : k < n
    · have hki : (k : Int) < (n : Int) := by omega
      obtain ⟨p, hp⟩ : ∃ p, ps[k]? = some p := ⟨_, List.getElem?_eq_getElem (by rw [HL.out]; exact hkn)⟩
      obtain ⟨g, o, rfl, _, hc⟩ := HR.out.at_ hp
      obtain ⟨e0, e1⟩ := hc wr HB.out
      have HE := Lib.hid (Ed.fl_at hp)
      clear hp hc
      obtain ⟨x, y⟩ := p
      dsimp only at e0 e1
      have HBw := Lib.hid (HB.out.alloc HB.out.size (.cells #[.int .i64 x, .int .i64 y] 64))
      have HKw := Lib.hid (HK.out.below ((Below.refl _ _).alloc (Nat.le_refl _) (.cells #[.int .i64 x, .int .i64 y] 64)))
      have b0 := (Holds.new wr #[.int .i64 x, .int .i64 y] 64).at_ 0 rfl
      have b1 := (Holds.new wr #[.int .i64 x, .int .i64 y] 64).at_ 1 rfl
      clear HB HK
      go_wp2_with fail
      clear e0 e1 b0 b1
      generalize (wr.alloc (.cells #[.int .i64 x, .int .i64 y] 64)) = wa at *
      go_loopw [38] (fun jj wz => ∃ (i : Nat), i ≤ 2 ∧ jj = .int .i64 (i : Int) ∧ Hid (∀ y ∈ (Ed.fl ps).take (k * 2 + i), Ed.from_ y 0 510 = true) ∧ Hid (((Ed.fl ps).take (k * 2 + i)).Nodup) ∧ Hid (Km wz mb (k * 2 + i) (((Ed.fl ps).take (k * 2 + i)).map fun x => ((1 : Int), x))) ∧ Hid (Below w.heap.size w wz)) (fun jj _ => 2 - (intOf jj).toNat)
      case atStart => exact ⟨0, by omega, rfl, HP, HN, HKw, HBw⟩
      case round =>
        clear HP HN HKw HBw
        obtain ⟨i, hi, rfl, HP, HN, HK, HB⟩ := hrel
        by_cases hi2 : i < 2
        · have hii : (i : Int) < 2 := by omega
          obtain ⟨z, hz1, hz2⟩ : ∃ z, (Ed.fl ps)[k * 2 + i]? = some z ∧ ∀ v, (Instr.index 100 (.agg #[.int .i64 x, .int .i64 y]) (.int .i64 (i : Int))).run Tryz.prog v = .ok (.int .i64 z) v := by
            match i, hi2 with
            | 0, _ => exact ⟨x, HE.out.1, fun _ => by kernel_rfl⟩
            | 1, _ => exact ⟨y, HE.out.2, fun _ => by kernel_rfl⟩
          have HZ := Lib.hid hz1
          have Fz := Lib.hid (within_any z 0 510 wr)
          clear hz1
          cases hf : Ed.from_ z 0 510 with
          | false =>
            rw [hf] at Fz
            have HF := Lib.hid (show false = ans by
              rw [← HA.out]
              have : (Ed.fl ps).all (fun x => Ed.from_ x 0 510) = false := by
                rw [List.all_eq_false]
                exact ⟨z, List.mem_of_getElem? HZ.out, by rw [hf]; decide⟩
              rw [this]; rfl)
            clear hf
            go_wp2_with fail
            refine Fz.out.mono ?_
            rintro e v5 ⟨rfl, rfl⟩
            go_wp2
            go_ret
            exact ⟨by rw [← HF.out]; rfl, HB.out⟩
          | true =>
            rw [hf] at Fz
            have hq : Q64 z := by have := Ed.from_iff.1 hf; unfold Q64; omega
            have h1q : Q64 1 := by unfold Q64; omega
            have hlk := HK.out.look h1q hq
            have HPn := Lib.hid (show ∀ y ∈ (Ed.fl ps).take (k * 2 + (i + 1)), Ed.from_ y 0 510 = true by
              intro t ht
              rw [show k * 2 + (i + 1) = k * 2 + i + 1 by omega, List.take_add_one, HZ.out] at ht
              rcases List.mem_append.1 ht with ht | ht
              · exact HP.out t ht
              · rcases List.mem_singleton.1 ht with rfl
                exact hf)
            have HQ := Lib.hid (And.intro hq h1q)
            clear hf hq h1q
            by_cases hin : z ∈ (Ed.fl ps).take (k * 2 + i)
            · have hct : 0 < (((Ed.fl ps).take (k * 2 + i)).map fun x => ((1 : Int), x)).count (1, z) := List.count_pos_iff.2 (List.mem_map.2 ⟨z, hin, rfl⟩)
              have HF := Lib.hid (show false = ans by
                rw [← HA.out]
                have : ¬ (Ed.fl ps).Nodup := by
                  obtain ⟨j, hj⟩ := List.getElem?_of_mem hin
                  rw [List.getElem?_take] at hj
                  split at hj
                  · exact Ed.not_nodup HZ.out hj (by omega)
                  · cases hj
                rw [decide_eq_false this, Bool.and_false])
              generalize (((Ed.fl ps).take (k * 2 + i)).map fun x => ((1 : Int), x)).count (1, z) = cn at hlk hct
              have hcn : (0 : Int) < (cn : Int) := by omega
              clear hin hct
              go_wp2_with fail
              refine Fz.out.mono ?_
              rintro e v5 ⟨rfl, rfl⟩
              go_wp2
              go_ret
              exact ⟨by rw [← HF.out]; rfl, HB.out⟩
            · have hct : (((Ed.fl ps).take (k * 2 + i)).map fun x => ((1 : Int), x)).count (1, z) = 0 := List.count_eq_zero.2 (fun h => by
                obtain ⟨t, ht, he⟩ := List.mem_map.1 h
                injection he with _ he
                exact hin (he ▸ ht))
              rw [hct] at hlk
              obtain ⟨st, w1, w2, m1, m2, m3, hK2, hT2⟩ := HK.out.drew.entry0 (by have : n ≤ 64 := hn64; omega) HQ.out.2 HQ.out.1 hct
              have hlk2 := HK.out.drew.look HQ.out.2 HQ.out.1
              rw [hct] at hlk2
              have HNn := Lib.hid (show ((Ed.fl ps).take (k * 2 + (i + 1))).Nodup from Ed.nodup_snoc HZ.out HN.out hin)
              have HKn := Lib.hid (show Km w2 mb (k * 2 + (i + 1)) (((Ed.fl ps).take (k * 2 + (i + 1))).map fun x => ((1 : Int), x)) by
                rw [show k * 2 + (i + 1) = k * 2 + i + 1 by omega, List.take_add_one, HZ.out, List.map_append]
                exact hK2)
              have HBn := Lib.hid (turned_below hT2 HB.out.drew hmb)
              clear hin hct hK2 hT2
              go_wp2_with fail
              refine Fz.out.mono ?_
              rintro e v5 ⟨rfl, rfl⟩
              go_wp2_with fail
              go_region
              all_goals
                go_wp2
                go_roundw
                case rel => exact ⟨i + 1, by omega, by go_num, HPn, HNn, HKn, HBn⟩
                case measure => simp [intOf]; omega
        · have hii : ¬ (i : Int) < 2 := by omega
          have hi0 : i = 2 := by omega
          subst hi0
          go_wp2
          go_roundw
          case rel => exact ⟨k + 1, by omega, by go_num, by rw [show (k + 1) * 2 = k * 2 + 2 by omega]; exact HP, by rw [show (k + 1) * 2 = k * 2 + 2 by omega]; exact HN, by rw [show (k + 1) * 2 = k * 2 + 2 by omega]; exact HK, HB⟩
          case measure => simp [intOf]; omega
    · have hkm2 : ¬ (k : Int) < (n : Int) := by omega
      have HF := Lib.hid (show true = ans by
        have hfl : (Ed.fl ps).take (k * 2) = Ed.fl ps := List.take_of_length_le (by rw [Ed.fl_len, HL.out]; omega)
        have h1 := HP.out
        have h2 := HN.out
        rw [hfl] at h1 h2
        rw [← HA.out, decide_eq_true h2, Bool.and_true, eq_comm, List.all_eq_true]
        exact h1)
      clear hkn
      go_wp2
      go_ret
      exact ⟨by rw [← HF.out]; rfl, HB.out⟩
end Go.Proofs.YthfcjlndaajkfaaGreat
namespace Go.Proofs.YthfcjlndaajkfaaGreat
open Go.RowKit
set_option maxRecDepth 100000 in
set_option maxHeartbeats 8000000 in
theorem mbtable_any (t : Pk.Tb) (ps : List (Int × Int)) (w : World) (hr : RdPs w t.P t.pn ps) (hf : t.fits) (hn : t.pn ≤ 9223372036854775807) :
    Calls Tryz.prog 33 #[.agg t.cells.toArray] w fun e w' => e = .returned (.bool (Ed.okT t ps)) ∧ Below w.heap.size w w' := by
  obtain ⟨id, ep, P, pn, pc, sz, lv, ct, lo, hi, tp⟩ := t
  have hls : lo.size ≤ 9223372036854775807 := hf.1
  have hhs : hi.size ≤ 9223372036854775807 := hf.2.1
  have hr : RdPs w P pn ps := hr
  have hn : pn ≤ 9223372036854775807 := hn
  have HL := Lib.hid hr.1
  show Calls _ _ #[.agg #[.int .i64 id, .int .i64 ep, .slice P pn pc, .int .i64 sz, .int .i64 lv, .int .i64 ct, .string lo, .string hi, .int .i64 tp]] _ _
  have HB0 := Lib.hid (show Below w.heap.size w (w.alloc (.cells #[.int .i64 id, .int .i64 ep, .slice P pn pc, .int .i64 sz, .int .i64 lv, .int .i64 ct, .string lo, .string hi, .int .i64 tp] 35)) from (Below.refl _ _).alloc (Nat.le_refl _) _)
  have HZ := Lib.hid (Holds.new w #[.int .i64 id, .int .i64 ep, .slice P pn pc, .int .i64 sz, .int .i64 lv, .int .i64 ct, .string lo, .string hi, .int .i64 tp] 35)
  have HPl := Lib.hid (mbplace_any id ep P pn pc ps (w.alloc (.cells #[.int .i64 id, .int .i64 ep, .slice P pn pc, .int .i64 sz, .int .i64 lv, .int .i64 ct, .string lo, .string hi, .int .i64 tp] 35)) (hr.below HB0.out) hn)
  clear hr hf
  generalize hans : Ed.okT ⟨id, ep, P, pn, pc, sz, lv, ct, lo, hi, tp⟩ ps = ans
  have hans : (Ed.okP id ep ps && Ed.from_ sz 12 (864 * (ps.length : Int)) && Ed.from_ lv 0 3 && Ed.from_ ct 1 1048576 && Ed.from_ tp 1 1099511627776 && Ed.from_ (lo.size : Int) 1 64 && Ed.from_ (hi.size : Int) 1 64 && !Pk.lt hi lo) = ans := hans
  rw [HL.out] at hans
  have HA := Lib.hid hans
  clear hans
  go_enter Tryz.func33, Tryz.ntmps33
  go_upto_region 1 with fail
  generalize (w.alloc (.cells #[.int .i64 id, .int .i64 ep, .slice P pn pc, .int .i64 sz, .int .i64 lv, .int .i64 ct, .string lo, .string hi, .int .i64 tp] 35)) = u at *
  replace HZ : Hid (Holds u w.heap.size [.int .i64 id, .int .i64 ep, .slice P pn pc, .int .i64 sz, .int .i64 lv, .int .i64 ct, .string lo, .string hi, .int .i64 tp]) := HZ
  have z0 := HZ.out.at_ 0 rfl
  have z1 := HZ.out.at_ 1 rfl
  have z2 := HZ.out.at_ 2 rfl
  have hpn : Ed.okP id ep ps = true → pn ≤ 64 := fun h => by
    unfold Ed.okP at h
    rw [Bool.and_eq_true, Bool.and_eq_true, Bool.and_eq_true] at h
    have := (Ed.from_iff.1 h.1.1.2).2
    have := HL.out
    omega
  go_wp2_with fail
  refine HPl.out.mono ?_
  rintro e v1 ⟨rfl, hb1⟩
  have HB1 := Lib.hid (below_next HB0.out hb1)
  have HZ1 := Lib.hid (HZ.out.below hb1)
  clear z0 z1 z2 hb1 HPl HZ
  obtain ⟨z0, z1, z2, z3, z4, z5, z6, z7, z8⟩ := HZ1.out.all9
  clear HZ1
  generalize hk0 : Ed.okP id ep ps = k0 at *
  clear hk0
  have G1 := within_any sz 12 (864 * (pn : Int)) v1
  have G2 := within_any lv 0 3 v1
  have G3 := within_any ct 1 1048576 v1
  have G4 := within_any tp 1 1099511627776 v1
  have G5 := within_any (lo.size : Int) 1 64 v1
  have G6 := within_any (hi.size : Int) 1 64 v1
  have hlt : Pk.lt hi lo = Op.bytesLess hi.toList lo.toList := rfl
  rw [hlt] at HA
  clear hlt
  generalize Ed.from_ sz 12 (864 * (pn : Int)) = k1 at *
  generalize Ed.from_ lv 0 3 = k2 at *
  generalize Ed.from_ ct 1 1048576 = k3 at *
  generalize Ed.from_ tp 1 1099511627776 = k4 at *
  generalize Ed.from_ (lo.size : Int) 1 64 = k5 at *
  generalize Ed.from_ (hi.size : Int) 1 64 = k6 at *
  have F1 := Lib.hid G1
  have F2 := Lib.hid G2
  have F3 := Lib.hid G3
  have F4 := Lib.hid G4
  have F5 := Lib.hid G5
  have F6 := Lib.hid G6
  clear G1 G2 G3 G4 G5 G6 HL
  cases k0 with
  | false =>
    have HF := Lib.hid (show false = ans by rw [← HA.out]; rfl)
    clear hpn
    go_wp2
    go_ret
    exact ⟨by rw [← HF.out]; rfl, HB1.out⟩
  | true =>
  have hpn64 : pn ≤ 64 := hpn rfl
  clear hpn
  cases k1 with
  | false =>
    have HF := Lib.hid (show false = ans by rw [← HA.out]; rfl)
    go_wp2_with fail
    refine F1.out.mono ?_
    rintro e y1 ⟨rfl, rfl⟩
    go_wp2
    go_ret
    exact ⟨by rw [← HF.out]; rfl, HB1.out⟩
  | true =>
  cases k2 with
  | false =>
    have HF := Lib.hid (show false = ans by rw [← HA.out]; rfl)
    go_wp2_with fail
    refine F1.out.mono ?_
    rintro e y1 ⟨rfl, rfl⟩
    go_wp2_with fail
    refine F2.out.mono ?_
    rintro e y2 ⟨rfl, rfl⟩
    go_wp2
    go_ret
    exact ⟨by rw [← HF.out]; rfl, HB1.out⟩
  | true =>
  cases k3 with
  | false =>
    have HF := Lib.hid (show false = ans by rw [← HA.out]; rfl)
    go_wp2_with fail
    refine F1.out.mono ?_
    rintro e y1 ⟨rfl, rfl⟩
    go_wp2_with fail
    refine F2.out.mono ?_
    rintro e y2 ⟨rfl, rfl⟩
    go_wp2_with fail
    refine F3.out.mono ?_
    rintro e y3 ⟨rfl, rfl⟩
    go_wp2
    go_ret
    exact ⟨by rw [← HF.out]; rfl, HB1.out⟩
  | true =>
  cases k4 with
  | false =>
    have HF := Lib.hid (show false = ans by rw [← HA.out]; rfl)
    go_wp2_with fail
    refine F1.out.mono ?_
    rintro e y1 ⟨rfl, rfl⟩
    go_wp2_with fail
    refine F2.out.mono ?_
    rintro e y2 ⟨rfl, rfl⟩
    go_wp2_with fail
    refine F3.out.mono ?_
    rintro e y3 ⟨rfl, rfl⟩
    go_wp2_with fail
    refine F4.out.mono ?_
    rintro e y4 ⟨rfl, rfl⟩
    go_wp2
    go_ret
    exact ⟨by rw [← HF.out]; rfl, HB1.out⟩
  | true =>
  cases k5 with
  | false =>
    have HF := Lib.hid (show false = ans by rw [← HA.out]; rfl)
    go_wp2_with fail
    refine F1.out.mono ?_
    rintro e y1 ⟨rfl, rfl⟩
    go_wp2_with fail
    refine F2.out.mono ?_
    rintro e y2 ⟨rfl, rfl⟩
    go_wp2_with fail
    refine F3.out.mono ?_
    rintro e y3 ⟨rfl, rfl⟩
    go_wp2_with fail
    refine F4.out.mono ?_
    rintro e y4 ⟨rfl, rfl⟩
    go_wp2_with fail
    refine F5.out.mono ?_
    rintro e y5 ⟨rfl, rfl⟩
    go_wp2
    go_ret
    exact ⟨by rw [← HF.out]; rfl, HB1.out⟩
  | true =>
  cases k6 with
  | false =>
    have HF := Lib.hid (show false = ans by rw [← HA.out]; rfl)
    go_wp2_with fail
    refine F1.out.mono ?_
    rintro e y1 ⟨rfl, rfl⟩
    go_wp2_with fail
    refine F2.out.mono ?_
    rintro e y2 ⟨rfl, rfl⟩
    go_wp2_with fail
    refine F3.out.mono ?_
    rintro e y3 ⟨rfl, rfl⟩
    go_wp2_with fail
    refine F4.out.mono ?_
    rintro e y4 ⟨rfl, rfl⟩
    go_wp2_with fail
    refine F5.out.mono ?_
    rintro e y5 ⟨rfl, rfl⟩
    go_wp2_with fail
    refine F6.out.mono ?_
    rintro e y6 ⟨rfl, rfl⟩
    go_wp2
    go_ret
    exact ⟨by rw [← HF.out]; rfl, HB1.out⟩
  | true =>
  cases g0 : Op.bytesLess hi.toList lo.toList with
  | true =>
    have l1 : (Op.bytesLess lo.toList hi.toList || lo.toList == hi.toList) = false := by
      have := Pk.le_eq lo hi
      unfold Pk.lt at this
      rw [g0] at this
      exact this
    have HF := Lib.hid (show false = ans by rw [← HA.out, g0]; rfl)
    go_wp2_with fail
    refine F1.out.mono ?_
    rintro e y1 ⟨rfl, rfl⟩
    go_wp2_with fail
    refine F2.out.mono ?_
    rintro e y2 ⟨rfl, rfl⟩
    go_wp2_with fail
    refine F3.out.mono ?_
    rintro e y3 ⟨rfl, rfl⟩
    go_wp2_with fail
    refine F4.out.mono ?_
    rintro e y4 ⟨rfl, rfl⟩
    go_wp2_with fail
    refine F5.out.mono ?_
    rintro e y5 ⟨rfl, rfl⟩
    go_wp2_with fail
    refine F6.out.mono ?_
    rintro e y6 ⟨rfl, rfl⟩
    go_wp2
    go_ret
    exact ⟨by rw [← HF.out]; rfl, HB1.out⟩
  | false =>
    have l1 : (Op.bytesLess lo.toList hi.toList || lo.toList == hi.toList) = true := by
      have := Pk.le_eq lo hi
      unfold Pk.lt at this
      rw [g0] at this
      exact this
    have HF := Lib.hid (show true = ans by rw [← HA.out, g0]; rfl)
    go_wp2_with fail
    refine F1.out.mono ?_
    rintro e y1 ⟨rfl, rfl⟩
    go_wp2_with fail
    refine F2.out.mono ?_
    rintro e y2 ⟨rfl, rfl⟩
    go_wp2_with fail
    refine F3.out.mono ?_
    rintro e y3 ⟨rfl, rfl⟩
    go_wp2_with fail
    refine F4.out.mono ?_
    rintro e y4 ⟨rfl, rfl⟩
    go_wp2_with fail
    refine F5.out.mono ?_
    rintro e y5 ⟨rfl, rfl⟩
    go_wp2_with fail
    refine F6.out.mono ?_
    rintro e y6 ⟨rfl, rfl⟩
    go_wp2
    go_ret
    exact ⟨by rw [← HF.out]; rfl, HB1.out⟩
end Go.Proofs.YthfcjlndaajkfaaGreat
namespace Go.Proofs.YthfcjlndaajkfaaGreat
open Go.RowKit
set_option linter.unusedVariables false
theorem ne_at {l r : List (Int × Int)} {k : Nat} {x y : Int × Int} (h1 : l[k]? = some x) (h2 : r[k]? = some y) (hne : x ≠ y) : ¬ l = r := by
  intro e
  rw [e, h2] at h1
  injection h1 with h1
  exact hne h1.symm
set_option maxRecDepth 100000 in
set_option maxHeartbeats 4000000 in
theorem pequal_any (A B : Option Addr) (n c m d : Nat) (ps qs : List (Int × Int)) (w : World) (h1 : RdPs w A n ps) (h2 : RdPs w B m qs) (hn : n ≤ 9223372036854775807) (hm : m ≤ 9223372036854775807) :
    Calls Tryz.prog 94 #[.slice A n c, .slice B m d] w fun e w' => e = .returned (.bool (decide (ps = qs))) ∧ Below w.heap.size w w' := by
  have H1 := Lib.hid h1
  have H2 := Lib.hid h2
  have L1 := Lib.hid h1.1
  have L2 := Lib.hid h2.1
  clear h1 h2
  generalize hans : decide (ps = qs) = ans
  have HA := Lib.hid hans
  clear hans
  by_cases hnm : n = m
  · subst hnm
    have ee : ((n : Int) == (n : Int)) = true := by simp
    go_enter Tryz.func94, Tryz.ntmps94
    go_wp2
    go_loopw [13] (fun ii wr => ∃ (k : Nat), k ≤ n ∧ ii = .int .i64 (k : Int) ∧ Hid (ps.take k = qs.take k) ∧ Hid (Below w.heap.size w wr)) (fun ii _ => n - (intOf ii).toNat)
    case atStart => exact ⟨0, by omega, rfl, Lib.hid rfl, Lib.hid (Below.refl _ _)⟩
    case round =>
      obtain ⟨k, hk, rfl, HT, HB⟩ := hrel
      by_cases hlt : k < n
      · have hki : (k : Int) < (n : Int) := by omega
        have hk0 : (0 : Int) ≤ (k : Int) := by omega
        obtain ⟨x, hx⟩ : ∃ x, ps[k]? = some x := ⟨_, List.getElem?_eq_getElem (by rw [L1.out]; exact hlt)⟩
        obtain ⟨y, hy⟩ : ∃ y, qs[k]? = some y := ⟨_, List.getElem?_eq_getElem (by rw [L2.out]; exact hlt)⟩
        obtain ⟨b, o, rfl, hb, hc⟩ := H1.out.at_ hx
        obtain ⟨b2, o2, rfl, hb2, hc2⟩ := H2.out.at_ hy
        obtain ⟨e0, e1⟩ := hc wr HB.out
        obtain ⟨f0, f1⟩ := hc2 wr HB.out
        have HX := Lib.hid (And.intro hx hy)
        clear hx hy hb hb2 hc hc2
        obtain ⟨x1, x2⟩ := x
        obtain ⟨y1, y2⟩ := y
        dsimp only at e0 e1 f0 f1
        by_cases h1 : x1 = y1
        · subst h1
          have g0 : (x1 == x1) = true := by simp
          by_cases h2 : x2 = y2
          · subst h2
            have g1 : (x2 == x2) = true := by simp
            go_wp2
            go_region
            all_goals
              go_wp2
              go_roundw
              case rel => exact ⟨k + 1, by omega, by go_num, Lib.hid (by rw [List.take_add_one, List.take_add_one, HX.out.1, HX.out.2, HT.out]), Lib.hid HB.out.drew⟩
              case measure => simp [intOf]; omega
          · have g1 : (x2 == y2) = false := beq_eq_false_iff_ne.2 h2
            have HNo := Lib.hid (show false = ans by rw [← HA.out, decide_eq_false (ne_at HX.out.1 HX.out.2 (fun e => h2 (by injection e)))])
            clear h2
            go_wp2
            go_region
            all_goals
              go_wp2
              go_ret
              exact ⟨by rw [← HNo.out]; rfl, HB.out.drew⟩
        · have g0 : (x1 == y1) = false := beq_eq_false_iff_ne.2 h1
          have HNo := Lib.hid (show false = ans by rw [← HA.out, decide_eq_false (ne_at HX.out.1 HX.out.2 (fun e => h1 (by injection e)))])
          clear h1
          go_wp2
          go_region
          all_goals
            go_wp2
            go_ret
            exact ⟨by rw [← HNo.out]; rfl, HB.out.drew⟩
      · have hki : ¬ (k : Int) < (n : Int) := by omega
        have HYes := Lib.hid (show true = ans by
          have h := HT.out
          rw [List.take_of_length_le (by rw [L1.out]; omega), List.take_of_length_le (by rw [L2.out]; omega)] at h
          rw [← HA.out, decide_eq_true h])
        clear hlt
        go_wp2
        go_ret
        exact ⟨by rw [← HYes.out]; rfl, HB.out⟩
  · have ee : ((n : Int) == (m : Int)) = false := by rw [beq_eq_false_iff_ne]; omega
    have HNo := Lib.hid (show false = ans by rw [← HA.out, decide_eq_false (fun e => hnm (by rw [← L1.out, ← L2.out, e]))])
    clear hnm
    go_enter Tryz.func94, Tryz.ntmps94
    go_wp2
    go_ret
    exact ⟨by rw [← HNo.out]; rfl, Below.refl _ _⟩
set_option maxRecDepth 100000 in
set_option maxHeartbeats 4000000 in
theorem sameplace_any (id ep : Int) (A : Option Addr) (n c : Nat) (ps : List (Int × Int)) (id2 ep2 : Int) (B : Option Addr) (m d : Nat) (qs : List (Int × Int)) (w : World) (h1 : RdPs w A n ps) (h2 : RdPs w B m qs) (hn : n ≤ 9223372036854775807) (hm : m ≤ 9223372036854775807) :
    Calls Tryz.prog 67 #[.agg #[.int .i64 id, .int .i64 ep, .slice A n c], .agg #[.int .i64 id2, .int .i64 ep2, .slice B m d]] w fun e w' => e = .returned (.bool ((⟨id, ep, ps⟩ : Ed.Pl).eq ⟨id2, ep2, qs⟩)) ∧ Below w.heap.size w w' := by
  have hb2 : Below w.heap.size w ((w.alloc (.cells #[.int .i64 id, .int .i64 ep, .slice A n c] 32)).alloc (.cells #[.int .i64 id2, .int .i64 ep2, .slice B m d] 32)) := ((Below.refl _ _).alloc (Nat.le_refl _) _).alloc (by simp) _
  have HP := Lib.hid (pequal_any A B n c m d ps qs ((w.alloc (.cells #[.int .i64 id, .int .i64 ep, .slice A n c] 32)).alloc (.cells #[.int .i64 id2, .int .i64 ep2, .slice B m d] 32)) (h1.below hb2) (h2.below hb2) hn hm)
  have HX := Lib.hid ((Holds.new w #[.int .i64 id, .int .i64 ep, .slice A n c] 32).alloc (.cells #[.int .i64 id2, .int .i64 ep2, .slice B m d] 32))
  have HY := Lib.hid (Holds.new (w.alloc (.cells #[.int .i64 id, .int .i64 ep, .slice A n c] 32)) #[.int .i64 id2, .int .i64 ep2, .slice B m d] 32)
  have HB := Lib.hid hb2
  clear h1 h2 hb2 hn hm
  have HA := Lib.hid (show (decide (id = id2) && decide (ep = ep2) && decide (ps = qs)) = (⟨id, ep, ps⟩ : Ed.Pl).eq ⟨id2, ep2, qs⟩ from rfl)
  generalize (⟨id, ep, ps⟩ : Ed.Pl).eq ⟨id2, ep2, qs⟩ = ans at *
  generalize decide (ps = qs) = t at *
  go_enter Tryz.func67, Tryz.ntmps67
  go_upto_region 1 with fail
  generalize ((w.alloc (.cells #[.int .i64 id, .int .i64 ep, .slice A n c] 32)).alloc (.cells #[.int .i64 id2, .int .i64 ep2, .slice B m d] 32)) = u at *
  replace HX : Hid (Holds u w.heap.size [.int .i64 id, .int .i64 ep, .slice A n c]) := HX
  replace HY : Hid (Holds u (w.heap.size + 1) [.int .i64 id2, .int .i64 ep2, .slice B m d]) := Lib.hid (by have := HY.out; simpa using this)
  have x0 := HX.out.at_ 0 rfl
  have x1 := HX.out.at_ 1 rfl
  have x2 := HX.out.at_ 2 rfl
  have y0 := HY.out.at_ 0 rfl
  have y1 := HY.out.at_ 1 rfl
  have y2 := HY.out.at_ 2 rfl
  by_cases q1 : id = id2
  · have g1 : (id == id2) = true := by simp [q1]
    by_cases q2 : ep = ep2
    · have g2 : (ep == ep2) = true := by simp [q2]
      have HF := Lib.hid (show t = ans by rw [← HA.out, decide_eq_true q1, decide_eq_true q2]; rfl)
      clear q1 q2
      go_wp2_with fail
      refine HP.out.mono ?_
      rintro e v ⟨rfl, hbv⟩
      have HV := Lib.hid (below_next HB.out hbv)
      clear hbv
      go_wp2
      go_ret
      exact ⟨by rw [← HF.out]; rfl, HV.out⟩
    · have g2 : (ep == ep2) = false := beq_eq_false_iff_ne.2 q2
      have HF := Lib.hid (show false = ans by rw [← HA.out, decide_eq_true q1, decide_eq_false q2]; rfl)
      clear q1 q2
      go_wp2
      go_ret
      exact ⟨by rw [← HF.out]; rfl, HB.out⟩
  · have g1 : (id == id2) = false := beq_eq_false_iff_ne.2 q1
    have HF := Lib.hid (show false = ans by rw [← HA.out, decide_eq_false q1]; rfl)
    clear q1
    go_wp2
    go_ret
    exact ⟨by rw [← HF.out]; rfl, HB.out⟩
set_option maxRecDepth 100000 in
set_option maxHeartbeats 4000000 in
theorem samelog_any (id ep : Int) (A : Option Addr) (n c : Nat) (se : Int) (ps : List (Int × Int)) (id2 ep2 : Int) (B : Option Addr) (m d : Nat) (se2 : Int) (qs : List (Int × Int)) (w : World) (h1 : RdPs w A n ps) (h2 : RdPs w B m qs) (hn : n ≤ 9223372036854775807) (hm : m ≤ 9223372036854775807) :
    Calls Tryz.prog 44 #[.agg #[.int .i64 id, .int .i64 ep, .slice A n c, .int .i64 se], .agg #[.int .i64 id2, .int .i64 ep2, .slice B m d, .int .i64 se2]] w fun e w' => e = .returned (.bool ((⟨⟨id, ep, ps⟩, se⟩ : Ed.Lo).eq ⟨⟨id2, ep2, qs⟩, se2⟩)) ∧ Below w.heap.size w w' := by
  have hb2 : Below w.heap.size w ((w.alloc (.cells #[.int .i64 id, .int .i64 ep, .slice A n c, .int .i64 se] 62)).alloc (.cells #[.int .i64 id2, .int .i64 ep2, .slice B m d, .int .i64 se2] 62)) := ((Below.refl _ _).alloc (Nat.le_refl _) _).alloc (by simp) _
  have HP := Lib.hid (sameplace_any id ep A n c ps id2 ep2 B m d qs ((w.alloc (.cells #[.int .i64 id, .int .i64 ep, .slice A n c, .int .i64 se] 62)).alloc (.cells #[.int .i64 id2, .int .i64 ep2, .slice B m d, .int .i64 se2] 62)) (h1.below hb2) (h2.below hb2) hn hm)
  have HX := Lib.hid ((Holds.new w #[.int .i64 id, .int .i64 ep, .slice A n c, .int .i64 se] 62).alloc (.cells #[.int .i64 id2, .int .i64 ep2, .slice B m d, .int .i64 se2] 62))
  have HY := Lib.hid (Holds.new (w.alloc (.cells #[.int .i64 id, .int .i64 ep, .slice A n c, .int .i64 se] 62)) #[.int .i64 id2, .int .i64 ep2, .slice B m d, .int .i64 se2] 62)
  have HB := Lib.hid hb2
  clear h1 h2 hb2 hn hm
  have HA := Lib.hid (show (decide (se = se2) && (⟨id, ep, ps⟩ : Ed.Pl).eq ⟨id2, ep2, qs⟩) = (⟨⟨id, ep, ps⟩, se⟩ : Ed.Lo).eq ⟨⟨id2, ep2, qs⟩, se2⟩ from rfl)
  generalize (⟨⟨id, ep, ps⟩, se⟩ : Ed.Lo).eq ⟨⟨id2, ep2, qs⟩, se2⟩ = ans at *
  generalize (⟨id, ep, ps⟩ : Ed.Pl).eq ⟨id2, ep2, qs⟩ = t at *
  go_enter Tryz.func44, Tryz.ntmps44
  go_upto_region 1 with fail
  generalize ((w.alloc (.cells #[.int .i64 id, .int .i64 ep, .slice A n c, .int .i64 se] 62)).alloc (.cells #[.int .i64 id2, .int .i64 ep2, .slice B m d, .int .i64 se2] 62)) = u at *
  replace HX : Hid (Holds u w.heap.size [.int .i64 id, .int .i64 ep, .slice A n c, .int .i64 se]) := HX
  replace HY : Hid (Holds u (w.heap.size + 1) [.int .i64 id2, .int .i64 ep2, .slice B m d, .int .i64 se2]) := Lib.hid (by have := HY.out; simpa using this)
  obtain ⟨x0, x1, x2, x3⟩ := HX.out.all4
  obtain ⟨y0, y1, y2, y3⟩ := HY.out.all4
  by_cases q1 : se = se2
  · have g1 : (se == se2) = true := by simp [q1]
    have HF := Lib.hid (show t = ans by rw [← HA.out, decide_eq_true q1]; rfl)
    clear q1
    go_wp2_with fail
    refine HP.out.mono ?_
    rintro e v ⟨rfl, hbv⟩
    have HV := Lib.hid (below_next HB.out hbv)
    clear hbv
    go_wp2
    go_ret
    exact ⟨by rw [← HF.out]; rfl, HV.out⟩
  · have g1 : (se == se2) = false := beq_eq_false_iff_ne.2 q1
    have HF := Lib.hid (show false = ans by rw [← HA.out, decide_eq_false q1]; rfl)
    clear q1
    go_wp2
    go_ret
    exact ⟨by rw [← HF.out]; rfl, HB.out⟩
end Go.Proofs.YthfcjlndaajkfaaGreat
namespace Go.Proofs.YthfcjlndaajkfaaGreat
open Go.RowKit
set_option linter.unusedVariables false
set_option linter.unusedSimpArgs false
set_option maxRecDepth 100000 in
set_option maxHeartbeats 8000000 in
theorem sametable_any (id ep : Int) (A : Option Addr) (n c : Nat) (sz lv ct : Int) (lo hi : ByteArray) (tp : Int) (ps : List (Int × Int)) (id2 ep2 : Int) (B : Option Addr) (m d : Nat) (sz2 lv2 ct2 : Int) (lo2 hi2 : ByteArray) (tp2 : Int) (qs : List (Int × Int)) (w : World) (h1 : RdPs w A n ps) (h2 : RdPs w B m qs) (hn : n ≤ 9223372036854775807) (hm : m ≤ 9223372036854775807) :
    Calls Tryz.prog 46 #[.agg #[.int .i64 id, .int .i64 ep, .slice A n c, .int .i64 sz, .int .i64 lv, .int .i64 ct, .string lo, .string hi, .int .i64 tp], .agg #[.int .i64 id2, .int .i64 ep2, .slice B m d, .int .i64 sz2, .int .i64 lv2, .int .i64 ct2, .string lo2, .string hi2, .int .i64 tp2]] w fun e w' => e = .returned (.bool ((⟨⟨id, ep, ps⟩, sz, lv, ct, lo, hi, tp⟩ : Ed.Ta).eq ⟨⟨id2, ep2, qs⟩, sz2, lv2, ct2, lo2, hi2, tp2⟩)) ∧ Below w.heap.size w w' := by
  have hb2 : Below w.heap.size w ((w.alloc (.cells #[.int .i64 id, .int .i64 ep, .slice A n c, .int .i64 sz, .int .i64 lv, .int .i64 ct, .string lo, .string hi, .int .i64 tp] 35)).alloc (.cells #[.int .i64 id2, .int .i64 ep2, .slice B m d, .int .i64 sz2, .int .i64 lv2, .int .i64 ct2, .string lo2, .string hi2, .int .i64 tp2] 35)) := ((Below.refl _ _).alloc (Nat.le_refl _) _).alloc (by simp) _
  have HP := Lib.hid (sameplace_any id ep A n c ps id2 ep2 B m d qs ((w.alloc (.cells #[.int .i64 id, .int .i64 ep, .slice A n c, .int .i64 sz, .int .i64 lv, .int .i64 ct, .string lo, .string hi, .int .i64 tp] 35)).alloc (.cells #[.int .i64 id2, .int .i64 ep2, .slice B m d, .int .i64 sz2, .int .i64 lv2, .int .i64 ct2, .string lo2, .string hi2, .int .i64 tp2] 35)) (h1.below hb2) (h2.below hb2) hn hm)
  have HX := Lib.hid ((Holds.new w #[.int .i64 id, .int .i64 ep, .slice A n c, .int .i64 sz, .int .i64 lv, .int .i64 ct, .string lo, .string hi, .int .i64 tp] 35).alloc (.cells #[.int .i64 id2, .int .i64 ep2, .slice B m d, .int .i64 sz2, .int .i64 lv2, .int .i64 ct2, .string lo2, .string hi2, .int .i64 tp2] 35))
  have HY := Lib.hid (Holds.new (w.alloc (.cells #[.int .i64 id, .int .i64 ep, .slice A n c, .int .i64 sz, .int .i64 lv, .int .i64 ct, .string lo, .string hi, .int .i64 tp] 35)) #[.int .i64 id2, .int .i64 ep2, .slice B m d, .int .i64 sz2, .int .i64 lv2, .int .i64 ct2, .string lo2, .string hi2, .int .i64 tp2] 35)
  have HB := Lib.hid hb2
  clear h1 h2 hb2 hn hm
  have HA := Lib.hid (show ((⟨id, ep, ps⟩ : Ed.Pl).eq ⟨id2, ep2, qs⟩ && decide (sz = sz2) && decide (lv = lv2) && decide (ct = ct2) && Ed.seq lo lo2 && Ed.seq hi hi2 && decide (tp = tp2)) = (⟨⟨id, ep, ps⟩, sz, lv, ct, lo, hi, tp⟩ : Ed.Ta).eq ⟨⟨id2, ep2, qs⟩, sz2, lv2, ct2, lo2, hi2, tp2⟩ from rfl)
  generalize (⟨⟨id, ep, ps⟩, sz, lv, ct, lo, hi, tp⟩ : Ed.Ta).eq ⟨⟨id2, ep2, qs⟩, sz2, lv2, ct2, lo2, hi2, tp2⟩ = ans at *
  generalize (⟨id, ep, ps⟩ : Ed.Pl).eq ⟨id2, ep2, qs⟩ = t at *
  go_enter Tryz.func46, Tryz.ntmps46
  go_upto_region 1 with fail
  generalize ((w.alloc (.cells #[.int .i64 id, .int .i64 ep, .slice A n c, .int .i64 sz, .int .i64 lv, .int .i64 ct, .string lo, .string hi, .int .i64 tp] 35)).alloc (.cells #[.int .i64 id2, .int .i64 ep2, .slice B m d, .int .i64 sz2, .int .i64 lv2, .int .i64 ct2, .string lo2, .string hi2, .int .i64 tp2] 35)) = u at *
  replace HX : Hid (Holds u w.heap.size [.int .i64 id, .int .i64 ep, .slice A n c, .int .i64 sz, .int .i64 lv, .int .i64 ct, .string lo, .string hi, .int .i64 tp]) := HX
  replace HY : Hid (Holds u (w.heap.size + 1) [.int .i64 id2, .int .i64 ep2, .slice B m d, .int .i64 sz2, .int .i64 lv2, .int .i64 ct2, .string lo2, .string hi2, .int .i64 tp2]) := Lib.hid (by have := HY.out; simpa using this)
  have x0 := HX.out.at_ 0 rfl
  have x1 := HX.out.at_ 1 rfl
  have x2 := HX.out.at_ 2 rfl
  have y0 := HY.out.at_ 0 rfl
  have y1 := HY.out.at_ 1 rfl
  have y2 := HY.out.at_ 2 rfl
  go_wp2_with fail
  refine HP.out.mono ?_
  rintro e v ⟨rfl, hbv⟩
  have HB1 := Lib.hid (below_next HB.out hbv)
  have HX1 := Lib.hid (HX.out.below hbv)
  have HY1 := Lib.hid (HY.out.below hbv)
  clear hbv x0 x1 x2 y0 y1 y2 HX HY HB HP
  have x3 := HX1.out.at_ 3 rfl
  have y3 := HY1.out.at_ 3 rfl
  have x4 := HX1.out.at_ 4 rfl
  have y4 := HY1.out.at_ 4 rfl
  have x5 := HX1.out.at_ 5 rfl
  have y5 := HY1.out.at_ 5 rfl
  have x6 := HX1.out.at_ 6 rfl
  have y6 := HY1.out.at_ 6 rfl
  have x7 := HX1.out.at_ 7 rfl
  have y7 := HY1.out.at_ 7 rfl
  have x8 := HX1.out.at_ 8 rfl
  have y8 := HY1.out.at_ 8 rfl
  cases t with
  | false =>
    have HF := Lib.hid (show false = ans by rw [← HA.out]; try simp)
    clear HA
    go_wp2
    go_ret
    exact ⟨by rw [← HF.out]; rfl, HB1.out⟩
  | true =>
  replace HA := Lib.hid (show (((((decide (sz = sz2) && decide (lv = lv2)) && decide (ct = ct2)) && Ed.seq lo lo2) && Ed.seq hi hi2) && decide (tp = tp2)) = ans by rw [← HA.out]; try simp)
  cases g0 : (sz == sz2) with
  | false =>
    have HF := Lib.hid (show false = ans by rw [← HA.out, decide_eq_false (beq_eq_false_iff_ne.1 g0)]; try simp)
    clear HA
    go_wp2
    go_ret
    exact ⟨by rw [← HF.out]; rfl, HB1.out⟩
  | true =>
  replace HA := Lib.hid (show ((((decide (lv = lv2) && decide (ct = ct2)) && Ed.seq lo lo2) && Ed.seq hi hi2) && decide (tp = tp2)) = ans by rw [← HA.out, decide_eq_true (beq_iff_eq.1 g0)]; try simp)
  cases g1 : (lv == lv2) with
  | false =>
    have HF := Lib.hid (show false = ans by rw [← HA.out, decide_eq_false (beq_eq_false_iff_ne.1 g1)]; try simp)
    clear HA
    go_wp2
    go_ret
    exact ⟨by rw [← HF.out]; rfl, HB1.out⟩
  | true =>
  replace HA := Lib.hid (show (((decide (ct = ct2) && Ed.seq lo lo2) && Ed.seq hi hi2) && decide (tp = tp2)) = ans by rw [← HA.out, decide_eq_true (beq_iff_eq.1 g1)]; try simp)
  cases g2 : (ct == ct2) with
  | false =>
    have HF := Lib.hid (show false = ans by rw [← HA.out, decide_eq_false (beq_eq_false_iff_ne.1 g2)]; try simp)
    clear HA
    go_wp2
    go_ret
    exact ⟨by rw [← HF.out]; rfl, HB1.out⟩
  | true =>
  replace HA := Lib.hid (show ((Ed.seq lo lo2 && Ed.seq hi hi2) && decide (tp = tp2)) = ans by rw [← HA.out, decide_eq_true (beq_iff_eq.1 g2)]; try simp)
  cases g3 : (lo.toList == lo2.toList) with
  | false =>
    have HF := Lib.hid (show false = ans by rw [← HA.out, show Ed.seq lo lo2 = false from g3]; try simp)
    clear HA
    go_wp2
    go_ret
    exact ⟨by rw [← HF.out]; rfl, HB1.out⟩
  | true =>
  replace HA := Lib.hid (show (Ed.seq hi hi2 && decide (tp = tp2)) = ans by rw [← HA.out, show Ed.seq lo lo2 = true from g3]; try simp)
  cases g4 : (hi.toList == hi2.toList) with
  | false =>
    have HF := Lib.hid (show false = ans by rw [← HA.out, show Ed.seq hi hi2 = false from g4]; try simp)
    clear HA
    go_wp2
    go_ret
    exact ⟨by rw [← HF.out]; rfl, HB1.out⟩
  | true =>
  replace HA := Lib.hid (show decide (tp = tp2) = ans by rw [← HA.out, show Ed.seq hi hi2 = true from g4]; try simp)
  cases g5 : (tp == tp2) with
  | false =>
    have HF := Lib.hid (show false = ans by rw [← HA.out, decide_eq_false (beq_eq_false_iff_ne.1 g5)]; try simp)
    clear HA
    go_wp2
    go_ret
    exact ⟨by rw [← HF.out]; rfl, HB1.out⟩
  | true =>
  replace HA := Lib.hid (show true = ans by rw [← HA.out, decide_eq_true (beq_iff_eq.1 g5)]; try simp)
  have HF := Lib.hid (show true = ans from HA.out)
  clear HA
  go_wp2
  go_ret
  exact ⟨by rw [← HF.out]; rfl, HB1.out⟩
end Go.Proofs.YthfcjlndaajkfaaGreat
namespace Go.Proofs.YthfcjlndaajkfaaGreat
open Go.RowKit
/-- A place whose pairs lie in memory of the call's own. -/
def GivesPl (w : World) (id ep : Int) (ps : List (Int × Int)) (n : Nat) (e : Ending) (w' : World) : Prop :=
  ∃ B d, e = .returned (.agg #[.int .i64 id, .int .i64 ep, .slice B n d]) ∧ OwnC 2 w' w.heap.size 64 B n d (Pk.iv (Ed.fl ps)) ∧ Below w.heap.size w w'
set_option maxRecDepth 100000 in
set_option maxHeartbeats 4000000 in
theorem ownplace_any (id ep : Int) (A : Option Addr) (n c : Nat) (ps : List (Int × Int)) (w : World) (hr : RdPs w A n ps) (hn : n ≤ 100000) :
    Calls Tryz.prog 28 #[.agg #[.int .i64 id, .int .i64 ep, .slice A n c]] w (GivesPl w id ep ps n) := by
  have hb2 : Below w.heap.size w ((w.alloc (.cells #[.int .i64 id, .int .i64 ep, .slice A n c] 32)).alloc (.cells #[.int .i64 0, .int .i64 0, .slice none 0 0] 32)) := ((Below.refl _ _).alloc (Nat.le_refl _) _).alloc (by simp) _
  have HR := Lib.hid (hr.below hb2)
  have HX := Lib.hid ((Holds.new w #[.int .i64 id, .int .i64 ep, .slice A n c] 32).alloc (.cells #[.int .i64 0, .int .i64 0, .slice none 0 0] 32))
  have HY := Lib.hid (Holds.new (w.alloc (.cells #[.int .i64 id, .int .i64 ep, .slice A n c] 32)) #[.int .i64 0, .int .i64 0, .slice none 0 0] 32)
  have HS := Lib.hid (show ((w.alloc (.cells #[.int .i64 id, .int .i64 ep, .slice A n c] 32)).alloc (.cells #[.int .i64 0, .int .i64 0, .slice none 0 0] 32)).heap.size = w.heap.size + 2 by simp)
  have HB := Lib.hid hb2
  clear hb2 hr
  go_enter Tryz.func28, Tryz.ntmps28
  go_upto_region 1 with fail
  generalize ((w.alloc (.cells #[.int .i64 id, .int .i64 ep, .slice A n c] 32)).alloc (.cells #[.int .i64 0, .int .i64 0, .slice none 0 0] 32)) = u at *
  replace HX : Hid (Holds u w.heap.size [.int .i64 id, .int .i64 ep, .slice A n c]) := HX
  replace HY : Hid (Holds u (w.heap.size + 1) [.int .i64 0, .int .i64 0, .slice none 0 0]) := Lib.hid (by have := HY.out; simpa using this)
  have x0 := HX.out.at_ 0 rfl
  have x1 := HX.out.at_ 1 rfl
  have x2 := HX.out.at_ 2 rfl
  go_upto_region 2 with (at_builtin; refine wpList_appN manyPr rfl (.const (.slice none 0 0)) (.tmp 4) rfl rfl (OwnC.none_ 2 u w.heap.size 64) A n c (Pk.iv (Ed.fl ps)) (Pk.iv_one _) rfl HR.out.2 (by omega) HB.out.size ?_; intro B d v hg; have HG := Lib.hid hg; clear hg; have f2 := (HX.out.below (show Below u.heap.size u v from (Below.refl _ _).grown HG.out.grew (Nat.le_refl _) (fun g hg => by cases hg))).2.2 2; have y2 := (HX.out.below (show Below u.heap.size u v from (Below.refl _ _).grown HG.out.grew (Nat.le_refl _) (fun g hg => by cases hg))).at_ 2 rfl)
  clear x0 x1 x2 f2 y2
  have hbu : Below u.heap.size u v := (Below.refl _ _).grown HG.out.grew (Nat.le_refl _) (fun g hg => by cases hg)
  have HV := Lib.hid (below_next HB.out hbu)
  have HO := Lib.hid (show OwnC 2 v w.heap.size 64 B n d (Pk.iv (Ed.fl ps)) by have h := HG.out.own; rwa [Nat.zero_add, List.nil_append] at h)
  have HBl := Lib.hid (show ∀ g, (Value.slice B n d).ownBlock = some g → w.heap.size + 2 ≤ g by
    intro g hg
    have h := HG.out.blk
    rw [Nat.zero_add] at h
    rcases h with h | h
    · rw [h] at hg; cases hg
    · rw [h] at hg; injection hg with hg; have := HS.out; omega)
  have HX2 := Lib.hid ((HX.out.below hbu).set 2 (.slice B n d) (by simp))
  have HY2 := Lib.hid ((HY.out.below hbu).other (b := w.heap.size) (i := 2) (v := .slice B n d) (by omega))
  clear hbu HX HY HR HB HS HG
  have x0 := HX2.out.at_ 0 rfl
  have x1 := HX2.out.at_ 1 rfl
  have x2 := HX2.out.at_ 2 rfl
  have y0 := HY2.out.at_ 0 rfl
  have y1 := HY2.out.at_ 1 rfl
  have y2 := HY2.out.at_ 2 rfl
  have yf0 := HY2.out.2.2 0
  have yf1 := HY2.out.2.2 1
  have yf2 := HY2.out.2.2 2
  have HZ := Lib.hid (HY2.out.set3 (.int .i64 id) (.int .i64 ep) (.slice B n d))
  have HF := Lib.hid (show OwnC 2 ((((v.setCell ⟨w.heap.size, 2, none⟩ (.slice B n d)).setCell ⟨w.heap.size + 1, 0, none⟩ (.int .i64 id)).setCell ⟨w.heap.size + 1, 1, none⟩ (.int .i64 ep)).setCell ⟨w.heap.size + 1, 2, none⟩ (.slice B n d)) w.heap.size 64 B n d (Pk.iv (Ed.fl ps)) from
    (((HO.out.far_ (fun g hg => by have := HBl.out g hg; omega)).far_ (fun g hg => by have := HBl.out g hg; omega)).far_ (fun g hg => by have := HBl.out g hg; omega)).far_ (fun g hg => by have := HBl.out g hg; omega))
  have HBf := Lib.hid (show Below w.heap.size w ((((v.setCell ⟨w.heap.size, 2, none⟩ (.slice B n d)).setCell ⟨w.heap.size + 1, 0, none⟩ (.int .i64 id)).setCell ⟨w.heap.size + 1, 1, none⟩ (.int .i64 ep)).setCell ⟨w.heap.size + 1, 2, none⟩ (.slice B n d)) from
    (((HV.out.setCell (Nat.le_refl _) _).setCell (Nat.le_succ _) _).setCell (Nat.le_succ _) _).setCell (Nat.le_succ _) _)
  go_wp2_with fail
  clear x0 x1 x2 y0 y1 y2 yf0 yf1 yf2 HX2 HY2 HO
  generalize ((((v.setCell ⟨w.heap.size, 2, none⟩ (.slice B n d)).setCell ⟨w.heap.size + 1, 0, none⟩ (.int .i64 id)).setCell ⟨w.heap.size + 1, 1, none⟩ (.int .i64 ep)).setCell ⟨w.heap.size + 1, 2, none⟩ (.slice B n d)) = q at *
  have y0 := HZ.out.at_ 0 rfl
  have y1 := HZ.out.at_ 1 rfl
  have y2 := HZ.out.at_ 2 rfl
  refine bodyPost_ret (v := .agg #[.int .i64 id, .int .i64 ep, .slice B n d]) ?_ rfl ⟨B, d, rfl, HF.out, HBf.out⟩
  simp [results, Tryz.results28, go_sem, y0, y1, y2]
end Go.Proofs.YthfcjlndaajkfaaGreat
namespace Go.Proofs.YthfcjlndaajkfaaGreat
open Go.RowKit
theorem run_enter {F : FuncId} {fn : Func} (hf : Tryz.prog.funcs[F]? = some fn) (hname : (fn.name == "runtime.NumGoroutine") = false) (hb : fn.body.isNone = false) (args : Array Value) (w : World) : (callFunc F args).run Tryz.prog w = .ok (.enter F args) w := by
  unfold callFunc
  rw [Sem.run_bind]
  show (Result.ok Tryz.prog w).andThen _ = _
  rw [Result.andThen_ok]
  simp only [hf, hname, hb, Bool.false_eq_true, if_false]
  rfl
theorem RdLs.len {w : World} {A : Option Addr} {n : Nat} {L : List (Ed.Lg × List (Int × Int))} (h : RdLs w A n L) : L.length = n := h.1
theorem RdTs.len {w : World} {A : Option Addr} {n : Nat} {L : List (Pk.Tb × List (Int × Int))} (h : RdTs w A n L) : L.length = n := by have := h.1.1; rwa [List.length_map] at this
/-- What is known of one log, or table: its pairs. -/
def PairsOk (w : World) (P : Option Addr) (pn pc : Nat) (ps : List (Int × Int)) : Prop := RdPs w P pn ps ∧ pn ≤ pc ∧ pn ≤ 9223372036854775807
theorem RdLs.four {w : World} {A : Option Addr} {n k : Nat} {L : List (Ed.Lg × List (Int × Int))} {x : Ed.Lg × List (Int × Int)} (h : RdLs w A n L) (hx : L[k]? = some x) : ∃ b o, A = some ⟨b, o, none⟩ ∧ b < w.heap.size ∧ PairsOk w x.1.P x.1.pn x.1.pc x.2 ∧ ∀ w', Below w.heap.size w w' →
    w'.cell? ⟨b, o + k * 4, none⟩ = some (.int .i64 x.1.id) ∧ w'.cell? ⟨b, o + k * 4 + 1, none⟩ = some (.int .i64 x.1.ep) ∧ w'.cell? ⟨b, o + k * 4 + 2, none⟩ = some (.slice x.1.P x.1.pn x.1.pc) ∧ w'.cell? ⟨b, o + k * 4 + 3, none⟩ = some (.int .i64 x.1.se) := by
  have hk : k < n := by rw [← h.1]; exact (List.getElem?_eq_some_iff.1 hx).1
  obtain ⟨b, o, rfl, hb, hc⟩ := h.2.1.2 (by omega)
  have hm : (L.map (·.1))[k]? = some x.1 := by rw [List.getElem?_map, hx]; rfl
  have hz : ∀ j u, x.1.cells[j]? = some u → w.cell? ⟨b, o + (k * 4 + j), none⟩ = some u := fun j u hu => hc _ u (Pk.flatMap_at (f := Ed.Lg.cells) (s := 4) (fun _ => rfl) hm hu)
  refine ⟨b, o, rfl, hb, (h.2.2 x (List.mem_of_getElem? hx)).2, fun w' hw => ⟨(hw.cell hb).trans (hz 0 _ rfl), (hw.cell hb).trans (hz 1 _ rfl), (hw.cell hb).trans (hz 2 _ rfl), (hw.cell hb).trans (hz 3 _ rfl)⟩⟩
theorem RdTs.nine {w : World} {A : Option Addr} {n k : Nat} {L : List (Pk.Tb × List (Int × Int))} {x : Pk.Tb × List (Int × Int)} (h : RdTs w A n L) (hx : L[k]? = some x) : ∃ b o, A = some ⟨b, o, none⟩ ∧ b < w.heap.size ∧ PairsOk w x.1.P x.1.pn x.1.pc x.2 ∧ ∀ w', Below w.heap.size w w' →
    w'.cell? ⟨b, o + k * 9, none⟩ = some (.int .i64 x.1.id) ∧ w'.cell? ⟨b, o + k * 9 + 1, none⟩ = some (.int .i64 x.1.ep) ∧ w'.cell? ⟨b, o + k * 9 + 2, none⟩ = some (.slice x.1.P x.1.pn x.1.pc) ∧ w'.cell? ⟨b, o + k * 9 + 3, none⟩ = some (.int .i64 x.1.sz) ∧ w'.cell? ⟨b, o + k * 9 + 4, none⟩ = some (.int .i64 x.1.lv) ∧ w'.cell? ⟨b, o + k * 9 + 5, none⟩ = some (.int .i64 x.1.ct) ∧ w'.cell? ⟨b, o + k * 9 + 6, none⟩ = some (.string x.1.lo) ∧ w'.cell? ⟨b, o + k * 9 + 7, none⟩ = some (.string x.1.hi) ∧ w'.cell? ⟨b, o + k * 9 + 8, none⟩ = some (.int .i64 x.1.tp) := by
  have hm : (L.map (·.1))[k]? = some x.1 := by rw [List.getElem?_map, hx]; rfl
  obtain ⟨b, o, rfl, hb, hc⟩ := h.1.nine hm
  exact ⟨b, o, rfl, hb, h.2 x (List.mem_of_getElem? hx), hc⟩
theorem PairsOk.below {w w' : World} {P : Option Addr} {pn pc : Nat} {ps : List (Int × Int)} (h : PairsOk w P pn pc ps) (hb : Below w.heap.size w w') : PairsOk w' P pn pc ps := ⟨h.1.below hb, h.2⟩
/-- A call of a Go function of one argument, at a step of a drawn region. -/
theorem step_call1 {w : World} {ops : Array Oper} {o : Oper} {a : Act} {K : Act → World → Prop} {Q : Exit → Act → World → Prop} {E : Prop} {F : FuncId} {vx : Value} {T : TypeId} (hw : Region.wanted o (yielded ops a.tmps) = true) (d : Nat) (hd : o.dst = some d) (x : Operand)
    (ho : o.op = .call { callee := .value (.func F), args := #[x], argTypes := #[T] }) (hx : a.eval x = vx) (hcF : ∀ (args : Array Value) (wx : World), (callFunc F args).run Tryz.prog wx = .ok (.enter F args) wx)
    (h : Calls Tryz.prog F #[vx] w fun e w' => ∃ v, e = .returned v ∧ K (a.put (some d) v) w') :
    if Region.wanted o (yielded ops a.tmps) = true then Oper.wp Tryz.prog o a w K Q else E := by
  rw [if_pos hw]
  unfold Oper.wp execOp
  have e1 : a.eval (.func F) = .func (.func F) #[] #[] := rfl
  simp only [ho, resolve, invoke, Deferred.ofValue, e1, Sem.run_bind, Sem.run_pure, Result.andThen_ok, List.map_toArray, List.map_cons, List.map_nil, hx]
  simp only [Array.empty_append, Array.append_empty, hcF]
  refine h.mono ?_
  rintro e w' ⟨v, rfl, hk⟩
  rw [← hd] at hk
  exact hk
namespace Ed
theorem eqAll_no {α : Type} {eq : α → α → Bool} {a b : List α} {i : Nat} {x y : α} (h1 : a[i]? = some x) (h2 : b[i]? = some y) (h : eq x y = false) : eqAll eq a b = false := by
  rw [Bool.eq_false_iff]
  intro hh
  unfold eqAll at hh
  rw [Bool.and_eq_true, List.all_eq_true] at hh
  have := hh.2 i (List.mem_range.2 (List.getElem?_eq_some_iff.1 h1).1)
  rw [h1, h2] at this
  have this : eq x y = true := this
  rw [this] at h
  cases h
theorem eqAll_len {α : Type} {eq : α → α → Bool} {a b : List α} (h : a.length ≠ b.length) : eqAll eq a b = false := by
  unfold eqAll
  rw [decide_eq_false h, Bool.false_and]
theorem eqAll_yes {α : Type} {eq : α → α → Bool} {a b : List α} (hl : a.length = b.length) (h : ∀ i, i < a.length → ∀ x y, a[i]? = some x → b[i]? = some y → eq x y = true) : eqAll eq a b = true := by
  unfold eqAll
  rw [decide_eq_true hl, Bool.true_and, List.all_eq_true]
  intro i hi
  rw [List.mem_range] at hi
  rw [List.getElem?_eq_getElem hi, List.getElem?_eq_getElem (by omega)]
  exact h i hi _ _ (List.getElem?_eq_getElem hi) (List.getElem?_eq_getElem (by omega))
theorem map_at {α β : Type} {f : α → β} {l : List α} {i : Nat} {x : α} (h : l[i]? = some x) : (l.map f)[i]? = some (f x) := by rw [List.getElem?_map, h]; rfl
end Ed
end Go.Proofs.YthfcjlndaajkfaaGreat
