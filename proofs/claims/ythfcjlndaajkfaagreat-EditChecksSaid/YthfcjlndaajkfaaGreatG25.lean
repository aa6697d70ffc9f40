/- Which tables may be: the document's IsTable of layer 15. -/
import Derived.Test.YthfcjlndaajkfaaGreatG03
namespace Go.Proofs.YthfcjlndaajkfaaGreat
open Go.RowKit
set_option maxRecDepth 100000 in
set_option maxHeartbeats 8000000 in
theorem ristable_any (t : Pk.Tb) (ps : List (Int × Int)) (w : World) (hr : RdPs w t.P t.pn ps) (hf : t.fits) (hn : t.pn ≤ 9223372036854775807) :
    Calls Tryz.prog 39 #[.agg t.cells.toArray] w fun e w' => e = .returned (.bool (Ed.okT t ps)) ∧ Below w.heap.size w w' := by
  obtain ⟨id, ep, P, pn, pc, sz, lv, ct, lo, hi, tp⟩ := t
  have hls : lo.size ≤ 9223372036854775807 := hf.1
  have hhs : hi.size ≤ 9223372036854775807 := hf.2.1
  have hr : RdPs w P pn ps := hr
  have hn : pn ≤ 9223372036854775807 := hn
  have HL := Lib.hid hr.1
  show Calls _ _ #[.agg #[.int .i64 id, .int .i64 ep, .slice P pn pc, .int .i64 sz, .int .i64 lv, .int .i64 ct, .string lo, .string hi, .int .i64 tp]] _ _
  have HB0 := Lib.hid (show Below w.heap.size w (w.alloc (.cells #[.int .i64 id, .int .i64 ep, .slice P pn pc, .int .i64 sz, .int .i64 lv, .int .i64 ct, .string lo, .string hi, .int .i64 tp] 35)) from (Below.refl _ _).alloc (Nat.le_refl _) _)
  have HZ := Lib.hid (Holds.new w #[.int .i64 id, .int .i64 ep, .slice P pn pc, .int .i64 sz, .int .i64 lv, .int .i64 ct, .string lo, .string hi, .int .i64 tp] 35)
  have HPl := Lib.hid (isplace_any id ep P pn pc ps (w.alloc (.cells #[.int .i64 id, .int .i64 ep, .slice P pn pc, .int .i64 sz, .int .i64 lv, .int .i64 ct, .string lo, .string hi, .int .i64 tp] 35)) (hr.below HB0.out) hn)
  clear hr hf
  generalize hans : Ed.okT ⟨id, ep, P, pn, pc, sz, lv, ct, lo, hi, tp⟩ ps = ans
  have hans : (Ed.okP id ep ps && Ed.from_ sz 12 (864 * (ps.length : Int)) && Ed.from_ lv 0 3 && Ed.from_ ct 1 1048576 && Ed.from_ tp 1 1099511627776 && Ed.from_ (lo.size : Int) 1 64 && Ed.from_ (hi.size : Int) 1 64 && !Pk.lt hi lo) = ans := hans
  rw [HL.out] at hans
  have HA := Lib.hid hans
  clear hans
  go_enter Tryz.func39, Tryz.ntmps39
  go_upto_region 1 with fail
  generalize (w.alloc (.cells #[.int .i64 id, .int .i64 ep, .slice P pn pc, .int .i64 sz, .int .i64 lv, .int .i64 ct, .string lo, .string hi, .int .i64 tp] 35)) = u at *
  replace HZ : Hid (Holds u w.heap.size [.int .i64 id, .int .i64 ep, .slice P pn pc, .int .i64 sz, .int .i64 lv, .int .i64 ct, .string lo, .string hi, .int .i64 tp]) := HZ
  have z0 := HZ.out.at_ 0 rfl
  have z1 := HZ.out.at_ 1 rfl
  have z2 := HZ.out.at_ 2 rfl
  have hpn : Ed.okP id ep ps = true → pn ≤ 64 := fun h => by
    unfold Ed.okP at h
    rw [Bool.and_eq_true, Bool.and_eq_true, Bool.and_eq_true] at h
    have := (Ed.from_iff.1 h.1.1.2).2
    have := HL.out
    omega
  go_wp2_with fail
  refine HPl.out.mono ?_
  rintro e v1 ⟨rfl, hb1⟩
  have HB1 := Lib.hid (below_next HB0.out hb1)
  have HZ1 := Lib.hid (HZ.out.below hb1)
  clear z0 z1 z2 hb1 HPl HZ
  have z0 := HZ1.out.at_ 0 rfl
  have z1 := HZ1.out.at_ 1 rfl
  have z2 := HZ1.out.at_ 2 rfl
  have z3 := HZ1.out.at_ 3 rfl
  have z4 := HZ1.out.at_ 4 rfl
  have z5 := HZ1.out.at_ 5 rfl
  have z6 := HZ1.out.at_ 6 rfl
  have z7 := HZ1.out.at_ 7 rfl
  have z8 := HZ1.out.at_ 8 rfl
  clear HZ1
  generalize hk0 : Ed.okP id ep ps = k0 at *
  clear hk0
  have G1 := from_any sz 12 (864 * (pn : Int)) v1
  have G2 := from_any lv 0 3 v1
  have G3 := from_any ct 1 1048576 v1
  have G4 := from_any tp 1 1099511627776 v1
  have G5 := from_any (lo.size : Int) 1 64 v1
  have G6 := from_any (hi.size : Int) 1 64 v1
  have hlt : Pk.lt hi lo = Op.bytesLess hi.toList lo.toList := rfl
  rw [hlt] at HA
  clear hlt
  generalize Ed.from_ sz 12 (864 * (pn : Int)) = k1 at *
  generalize Ed.from_ lv 0 3 = k2 at *
  generalize Ed.from_ ct 1 1048576 = k3 at *
  generalize Ed.from_ tp 1 1099511627776 = k4 at *
  generalize Ed.from_ (lo.size : Int) 1 64 = k5 at *
  generalize Ed.from_ (hi.size : Int) 1 64 = k6 at *
  have F1 := Lib.hid G1
  have F2 := Lib.hid G2
  have F3 := Lib.hid G3
  have F4 := Lib.hid G4
  have F5 := Lib.hid G5
  have F6 := Lib.hid G6
  clear G1 G2 G3 G4 G5 G6 HL
  cases k0 with
  | false =>
    have HF := Lib.hid (show false = ans by rw [← HA.out]; rfl)
    clear hpn
    go_wp2
    go_ret
    exact ⟨by rw [← HF.out]; rfl, HB1.out⟩
  | true =>
  have hpn64 : pn ≤ 64 := hpn rfl
  clear hpn
  cases k1 with
  | false =>
    have HF := Lib.hid (show false = ans by rw [← HA.out]; rfl)
    go_wp2_with fail
    refine F1.out.mono ?_
    rintro e y1 ⟨rfl, rfl⟩
    go_wp2
    go_ret
    exact ⟨by rw [← HF.out]; rfl, HB1.out⟩
  | true =>
  cases k2 with
  | false =>
    have HF := Lib.hid (show false = ans by rw [← HA.out]; rfl)
    go_wp2_with fail
    refine F1.out.mono ?_
    rintro e y1 ⟨rfl, rfl⟩
    go_wp2_with fail
    refine F2.out.mono ?_
    rintro e y2 ⟨rfl, rfl⟩
    go_wp2
    go_ret
    exact ⟨by rw [← HF.out]; rfl, HB1.out⟩
  | true =>
  cases k3 with
  | false =>
    have HF := Lib.hid (show false = ans by rw [← HA.out]; rfl)
    go_wp2_with fail
    refine F1.out.mono ?_
    rintro e y1 ⟨rfl, rfl⟩
    go_wp2_with fail
    refine F2.out.mono ?_
    rintro e y2 ⟨rfl, rfl⟩
    go_wp2_with fail
    refine F3.out.mono ?_
    rintro e y3 ⟨rfl, rfl⟩
    go_wp2
    go_ret
    exact ⟨by rw [← HF.out]; rfl, HB1.out⟩
  | true =>
  cases k4 with
  | false =>
    have HF := Lib.hid (show false = ans by rw [← HA.out]; rfl)
    go_wp2_with fail
    refine F1.out.mono ?_
    rintro e y1 ⟨rfl, rfl⟩
    go_wp2_with fail
    refine F2.out.mono ?_
    rintro e y2 ⟨rfl, rfl⟩
    go_wp2_with fail
    refine F3.out.mono ?_
    rintro e y3 ⟨rfl, rfl⟩
    go_wp2_with fail
    refine F4.out.mono ?_
    rintro e y4 ⟨rfl, rfl⟩
    go_wp2
    go_ret
    exact ⟨by rw [← HF.out]; rfl, HB1.out⟩
  | true =>
  cases k5 with
  | false =>
    have HF := Lib.hid (show false = ans by rw [← HA.out]; rfl)
    go_wp2_with fail
    refine F1.out.mono ?_
    rintro e y1 ⟨rfl, rfl⟩
    go_wp2_with fail
    refine F2.out.mono ?_
    rintro e y2 ⟨rfl, rfl⟩
    go_wp2_with fail
    refine F3.out.mono ?_
    rintro e y3 ⟨rfl, rfl⟩
    go_wp2_with fail
    refine F4.out.mono ?_
    rintro e y4 ⟨rfl, rfl⟩
    go_wp2_with fail
    refine F5.out.mono ?_
    rintro e y5 ⟨rfl, rfl⟩
    go_wp2
    go_ret
    exact ⟨by rw [← HF.out]; rfl, HB1.out⟩
  | true =>
  cases k6 with
  | false =>
    have HF := Lib.hid (show false = ans by rw [← HA.out]; rfl)
    go_wp2_with fail
    refine F1.out.mono ?_
    rintro e y1 ⟨rfl, rfl⟩
    go_wp2_with fail
    refine F2.out.mono ?_
    rintro e y2 ⟨rfl, rfl⟩
    go_wp2_with fail
    refine F3.out.mono ?_
    rintro e y3 ⟨rfl, rfl⟩
    go_wp2_with fail
    refine F4.out.mono ?_
    rintro e y4 ⟨rfl, rfl⟩
    go_wp2_with fail
    refine F5.out.mono ?_
    rintro e y5 ⟨rfl, rfl⟩
    go_wp2_with fail
    refine F6.out.mono ?_
    rintro e y6 ⟨rfl, rfl⟩
    go_wp2
    go_ret
    exact ⟨by rw [← HF.out]; rfl, HB1.out⟩
  | true =>
  cases g0 : Op.bytesLess hi.toList lo.toList with
  | true =>
    have HF := Lib.hid (show false = ans by rw [← HA.out, g0]; rfl)
    go_wp2_with fail
    refine F1.out.mono ?_
    rintro e y1 ⟨rfl, rfl⟩
    go_wp2_with fail
    refine F2.out.mono ?_
    rintro e y2 ⟨rfl, rfl⟩
    go_wp2_with fail
    refine F3.out.mono ?_
    rintro e y3 ⟨rfl, rfl⟩
    go_wp2_with fail
    refine F4.out.mono ?_
    rintro e y4 ⟨rfl, rfl⟩
    go_wp2_with fail
    refine F5.out.mono ?_
    rintro e y5 ⟨rfl, rfl⟩
    go_wp2_with fail
    refine F6.out.mono ?_
    rintro e y6 ⟨rfl, rfl⟩
    go_wp2
    go_ret
    exact ⟨by rw [← HF.out]; rfl, HB1.out⟩
  | false =>
    have HF := Lib.hid (show true = ans by rw [← HA.out, g0]; rfl)
    go_wp2_with fail
    refine F1.out.mono ?_
    rintro e y1 ⟨rfl, rfl⟩
    go_wp2_with fail
    refine F2.out.mono ?_
    rintro e y2 ⟨rfl, rfl⟩
    go_wp2_with fail
    refine F3.out.mono ?_
    rintro e y3 ⟨rfl, rfl⟩
    go_wp2_with fail
    refine F4.out.mono ?_
    rintro e y4 ⟨rfl, rfl⟩
    go_wp2_with fail
    refine F5.out.mono ?_
    rintro e y5 ⟨rfl, rfl⟩
    go_wp2_with fail
    refine F6.out.mono ?_
    rintro e y6 ⟨rfl, rfl⟩
    go_wp2
    go_ret
    exact ⟨by rw [← HF.out]; rfl, HB1.out⟩
end Go.Proofs.YthfcjlndaajkfaaGreat
