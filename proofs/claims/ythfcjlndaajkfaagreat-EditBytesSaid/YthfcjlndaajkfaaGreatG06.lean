/- edit.mayBe: kinds 4, 5. edit.mayBe: kinds 6, 7. Parts of rows of logs, of tables; cells behind a row's last. -/
import Derived.Test.YthfcjlndaajkfaaGreatG05
import Derived.Deep.RegionLaw
import Derived.Lib.SliceRun
namespace Go.Proofs.YthfcjlndaajkfaaGreat
open Go.RowKit
set_option linter.unusedVariables false
set_option maxRecDepth 100000 in
set_option maxHeartbeats 16000000 in
theorem may4_any (id nn pid pep : Int) (P : Option Addr) (pn pc : Nat) (ps : List (Int × Int)) (tid tep : Int) (Q : Option Addr) (qn qc : Nat) (sz lv ct : Int) (lo hi : ByteArray) (tp : Int) (qs : List (Int × Int)) (w : World) (hP : PairsOk w P pn pc ps) (hQ : PairsOk w Q qn qc qs) (hls : lo.size ≤ 9223372036854775807 ∧ hi.size ≤ 9223372036854775807) (hfit : (⟨tid, tep, Q, qn, qc, sz, lv, ct, lo, hi, tp⟩ : Pk.Tb).fits) :
    Calls Tryz.prog 47 #[.agg #[.int .i64 4, .int .i64 id, .int .i64 nn, .int .i64 pid, .int .i64 pep, .slice P pn pc, .int .i64 tid, .int .i64 tep, .slice Q qn qc, .int .i64 sz, .int .i64 lv, .int .i64 ct, .string lo, .string hi, .int .i64 tp]] w fun e w' => e = .returned (.bool (⟨4, id, nn, ⟨pid, pep, ps⟩, ⟨⟨tid, tep, qs⟩, sz, lv, ct, lo, hi, tp⟩⟩ : Ed.Et).ok) ∧ Below w.heap.size w w' := by
  have hal : Below w.heap.size w (w.alloc (.cells #[.int .i64 4, .int .i64 id, .int .i64 nn, .int .i64 pid, .int .i64 pep, .slice P pn pc, .int .i64 tid, .int .i64 tep, .slice Q qn qc, .int .i64 sz, .int .i64 lv, .int .i64 ct, .string lo, .string hi, .int .i64 tp] 37)) := (Below.refl _ _).alloc (Nat.le_refl _) _
  have HX := Lib.hid (Holds.new w #[.int .i64 4, .int .i64 id, .int .i64 nn, .int .i64 pid, .int .i64 pep, .slice P pn pc, .int .i64 tid, .int .i64 tep, .slice Q qn qc, .int .i64 sz, .int .i64 lv, .int .i64 ct, .string lo, .string hi, .int .i64 tp] 37)
  have HB := Lib.hid hal
  have HPw := Lib.hid (show (∀ g o, P = some ⟨g, o, none⟩ → 0 < pn → g ≠ w.heap.size + 1) ∧ (∀ g o, Q = some ⟨g, o, none⟩ → 0 < qn → g ≠ w.heap.size + 1) from ⟨fun g o e h0 => by have := hP.blk e h0; omega, fun g o e h0 => by have := hQ.blk e h0; omega⟩)
  have HP := Lib.hid (hP.below hal)
  have HQ := Lib.hid (hQ.below hal)
  have HFit := Lib.hid (And.intro hls hfit)
  have HUs := Lib.hid (show (w.alloc (.cells #[.int .i64 4, .int .i64 id, .int .i64 nn, .int .i64 pid, .int .i64 pep, .slice P pn pc, .int .i64 tid, .int .i64 tep, .slice Q qn qc, .int .i64 sz, .int .i64 lv, .int .i64 ct, .string lo, .string hi, .int .i64 tp] 37)).heap.size = w.heap.size + 1 by simp)
  clear hal hP hQ hls hfit
  have HA := Lib.hid (show (Ed.from_ id 1 2147483647 && Ed.from_ nn 0 1099511627776 && (⟨pid, pep, ps⟩ : Ed.Pl).eq Ed.noP && (⟨⟨tid, tep, qs⟩, sz, lv, ct, lo, hi, tp⟩ : Ed.Ta).eq Ed.noT) = (⟨4, id, nn, ⟨pid, pep, ps⟩, ⟨⟨tid, tep, qs⟩, sz, lv, ct, lo, hi, tp⟩⟩ : Ed.Et).ok from rfl)
  generalize (⟨4, id, nn, ⟨pid, pep, ps⟩, ⟨⟨tid, tep, qs⟩, sz, lv, ct, lo, hi, tp⟩⟩ : Ed.Et).ok = ans at *
  go_enter Tryz.func47, Tryz.ntmps47
  go_upto_region 1 with fail
  generalize (w.alloc (.cells #[.int .i64 4, .int .i64 id, .int .i64 nn, .int .i64 pid, .int .i64 pep, .slice P pn pc, .int .i64 tid, .int .i64 tep, .slice Q qn qc, .int .i64 sz, .int .i64 lv, .int .i64 ct, .string lo, .string hi, .int .i64 tp] 37)) = u at *
  replace HX : Hid (Holds u w.heap.size [.int .i64 4, .int .i64 id, .int .i64 nn, .int .i64 pid, .int .i64 pep, .slice P pn pc, .int .i64 tid, .int .i64 tep, .slice Q qn qc, .int .i64 sz, .int .i64 lv, .int .i64 ct, .string lo, .string hi, .int .i64 tp]) := HX
  go_cut [3, 4] from 3 to 5 (fun s3 s4 wx => s3 = .bool true ∧ s4 = .pointer (some ⟨w.heap.size + 1, 0, none⟩) ∧ Hid (Holds wx w.heap.size [.int .i64 4, .int .i64 id, .int .i64 nn, .int .i64 pid, .int .i64 pep, .slice P pn pc, .int .i64 tid, .int .i64 tep, .slice Q qn qc, .int .i64 sz, .int .i64 lv, .int .i64 ct, .string lo, .string hi, .int .i64 tp] ∧ Holds wx (w.heap.size + 1) [.int .i64 4, .int .i64 id, .int .i64 nn, .int .i64 pid, .int .i64 pep, .slice P pn pc, .int .i64 tid, .int .i64 tep, .slice Q qn qc, .int .i64 sz, .int .i64 lv, .int .i64 ct, .string lo, .string hi, .int .i64 tp] ∧ Below u.heap.size u wx))
  case first =>
    have Hsh := Lib.hid (HX.out.below (show Below u.heap.size u u.drew from (Below.refl _ _).drew))
    obtain ⟨x0, x1, x2, x3, x4, x5, x6, x7, x8, x9, x10, x11, x12, x13, x14⟩ := Hsh.out.all15
    clear Hsh
    have Hsh := Lib.hid (HX.out.below (show Below u.heap.size u (u.alloc (.cells #[.int .i64 0, .int .i64 0, .int .i64 0, .int .i64 0, .int .i64 0, .slice none 0 0, .int .i64 0, .int .i64 0, .slice none 0 0, .int .i64 0, .int .i64 0, .int .i64 0, .string ⟨#[]⟩, .string ⟨#[]⟩, .int .i64 0] 37)) from (Below.refl _ _).alloc (Nat.le_refl _) _))
    obtain ⟨z0, z1, z2, z3, z4, z5, z6, z7, z8, z9, z10, z11, z12, z13, z14⟩ := Hsh.out.all15
    clear Hsh
    have hus := HUs.out
    go_region
    all_goals
      go_wp2_with fail
      go_meet
      case rel =>
        have hal : Below u.heap.size u (u.drew.alloc (.cells #[.int .i64 4, .int .i64 id, .int .i64 nn, .int .i64 pid, .int .i64 pep, .slice P pn pc, .int .i64 tid, .int .i64 tep, .slice Q qn qc, .int .i64 sz, .int .i64 lv, .int .i64 ct, .string lo, .string hi, .int .i64 tp] 37)) := ((Below.refl _ _).drew).alloc (Nat.le_refl _) _
        exact ⟨rfl, by rw [← hus], Lib.hid ⟨HX.out.below hal, by rw [← hus]; exact Holds.new u.drew #[.int .i64 4, .int .i64 id, .int .i64 nn, .int .i64 pid, .int .i64 pep, .slice P pn pc, .int .i64 tid, .int .i64 tep, .slice Q qn qc, .int .i64 sz, .int .i64 lv, .int .i64 ct, .string lo, .string hi, .int .i64 tp] 37, hal⟩⟩
  case rest =>
  obtain ⟨rfl, rfl, HC⟩ := hcut
  have HB2 := Lib.hid (below_next HB.out HC.out.2.2)
  have HP2 := Lib.hid (HP.out.below HC.out.2.2)
  have HQ2 := Lib.hid (HQ.out.below HC.out.2.2)
  have HX2 := Lib.hid HC.out.1
  have HY2 := Lib.hid HC.out.2.1
  clear HX HB HP HQ HC HUs
  have ne0 : w.heap.size ≠ w.heap.size + 1 := by omega
  have F1 := within_any nn 0 1099511627776 wc
  generalize Ed.from_ nn 0 1099511627776 = k0 at *
  have F1 := Lib.hid F1
  have x0 := HX2.out.at_ 0 rfl
  have x2 := HX2.out.at_ 2 rfl
  go_wp2_with fail
  refine F1.out.mono ?_
  rintro e v ⟨rfl, rfl⟩
  clear F1 x0 x2
  have HX3 := HX2
  have HY3 := HY2
  have HB3 := HB2
  have HP3 := HP2
  have HQ3 := HQ2
  clear HX2 HY2 HB2 HP2 HQ2
  have HPb := Lib.hid (show (∀ g o, P = some ⟨g, o, none⟩ → 0 < pn → g ≠ w.heap.size + 1) ∧ (∀ g o, Q = some ⟨g, o, none⟩ → 0 < qn → g ≠ w.heap.size + 1) from HPw.out)
  have y2 := HY3.out.at_ 2 rfl
  have yf2 := HY3.out.2.2 2
  have HY4 := Lib.hid (show Holds (v.setCell ⟨w.heap.size + 1, 2, none⟩ (.int .i64 0)) (w.heap.size + 1) [.int .i64 4, .int .i64 id, .int .i64 0, .int .i64 pid, .int .i64 pep, .slice P pn pc, .int .i64 tid, .int .i64 tep, .slice Q qn qc, .int .i64 sz, .int .i64 lv, .int .i64 ct, .string lo, .string hi, .int .i64 tp] from (HY3.out.set 2 (.int .i64 0) (by simp)))
  have HX4 := Lib.hid (show Holds (v.setCell ⟨w.heap.size + 1, 2, none⟩ (.int .i64 0)) w.heap.size [.int .i64 4, .int .i64 id, .int .i64 nn, .int .i64 pid, .int .i64 pep, .slice P pn pc, .int .i64 tid, .int .i64 tep, .slice Q qn qc, .int .i64 sz, .int .i64 lv, .int .i64 ct, .string lo, .string hi, .int .i64 tp] from (HX3.out.other ne0))
  have HB4 := Lib.hid (show Below w.heap.size w (v.setCell ⟨w.heap.size + 1, 2, none⟩ (.int .i64 0)) from (HB3.out.setCell (Nat.le_succ _) _))
  have hgr : v.grownBy (v.setCell ⟨w.heap.size + 1, 2, none⟩ (.int .i64 0)) (some (w.heap.size + 1)) := (World.grownBy.refl v (some (w.heap.size + 1))).trans (grown_cell _ _ _ _)
  have HP4 := Lib.hid (pairs_grown HP3.out HPb.out.1 hgr)
  have HQ4 := Lib.hid (pairs_grown HQ3.out HPb.out.2 hgr)
  clear hgr
  have F2 := within_any id 1 2147483647 (v.setCell ⟨w.heap.size + 1, 2, none⟩ (.int .i64 0))
  generalize Ed.from_ id 1 2147483647 = k1 at *
  have F2 := Lib.hid F2
  have x1 := HX4.out.at_ 1 rfl
  have z1 := HY4.out.at_ 1 rfl
  have zf1 := HY4.out.2.2 1
  have HY5 := Lib.hid (show Holds ((v.setCell ⟨w.heap.size + 1, 2, none⟩ (.int .i64 0)).setCell ⟨w.heap.size + 1, 1, none⟩ (.int .i64 0)) (w.heap.size + 1) [.int .i64 4, .int .i64 0, .int .i64 0, .int .i64 pid, .int .i64 pep, .slice P pn pc, .int .i64 tid, .int .i64 tep, .slice Q qn qc, .int .i64 sz, .int .i64 lv, .int .i64 ct, .string lo, .string hi, .int .i64 tp] from HY4.out.set 1 (.int .i64 0) (by simp))
  have HB5 := Lib.hid (show Below w.heap.size w ((v.setCell ⟨w.heap.size + 1, 2, none⟩ (.int .i64 0)).setCell ⟨w.heap.size + 1, 1, none⟩ (.int .i64 0)) from HB4.out.setCell (Nat.le_succ _) _)
  have HP5 := Lib.hid (pairs_grown HP4.out HPb.out.1 (grown_cell _ (w.heap.size + 1) 1 (.int .i64 0)))
  have HQ5 := Lib.hid (pairs_grown HQ4.out HPb.out.2 (grown_cell _ (w.heap.size + 1) 1 (.int .i64 0)))
  cases k0 with
  | false =>
    have HF := Lib.hid (show false = ans by rw [← HA.out]; simp)
    go_wp2
    go_ret
    exact ⟨by rw [← HF.out]; rfl, HB5.out⟩
  | true =>
  go_wp2_with fail
  refine F2.out.mono ?_
  rintro e v9 ⟨rfl, rfl⟩
  clear y2 yf2
  go_upto_region 17 with fail
  clear x1 z1 zf1 F2 HY4 HX4 HB4 HP4 HQ4 HY3 HX3 HB3 HP3 HQ3 HPb
  generalize ((v.setCell ⟨w.heap.size + 1, 2, none⟩ (.int .i64 0)).setCell ⟨w.heap.size + 1, 1, none⟩ (.int .i64 0)) = q at *
  generalize k1 = k0 at *
  have S1 : Calls Tryz.prog 67 #[.agg #[.int .i64 pid, .int .i64 pep, .slice P pn pc], .agg #[.int .i64 0, .int .i64 0, .slice none 0 0]] q fun e w' => e = .returned (.bool ((⟨pid, pep, ps⟩ : Ed.Pl).eq Ed.noP)) ∧ Below q.heap.size q w' := sameplace_any pid pep P pn pc ps 0 0 none 0 0 [] q HP5.out.1 ⟨rfl, RdC.nil _ _ _⟩ HP5.out.2.2 (by omega)
  generalize (⟨pid, pep, ps⟩ : Ed.Pl).eq Ed.noP = k2 at *
  have S1 := Lib.hid S1
  have S2 : ∀ v, Below q.heap.size q v → Calls Tryz.prog 46 #[.agg #[.int .i64 tid, .int .i64 tep, .slice Q qn qc, .int .i64 sz, .int .i64 lv, .int .i64 ct, .string lo, .string hi, .int .i64 tp], .agg #[.int .i64 0, .int .i64 0, .slice none 0 0, .int .i64 0, .int .i64 0, .int .i64 0, .string ⟨#[]⟩, .string ⟨#[]⟩, .int .i64 0]] v fun e w' => e = .returned (.bool ((⟨⟨tid, tep, qs⟩, sz, lv, ct, lo, hi, tp⟩ : Ed.Ta).eq Ed.noT)) ∧ Below v.heap.size v w' := fun v hv => sametable_any tid tep Q qn qc sz lv ct lo hi tp qs 0 0 none 0 0 0 0 0 ⟨#[]⟩ ⟨#[]⟩ 0 [] v (HQ5.out.1.below hv) ⟨rfl, RdC.nil _ _ _⟩ HQ5.out.2.2 (by omega)
  generalize (⟨⟨tid, tep, qs⟩, sz, lv, ct, lo, hi, tp⟩ : Ed.Ta).eq Ed.noT = k3 at *
  have S2 := Lib.hid S2
  have r1 := HY5.out.at_ 1 rfl
  have r2 := HY5.out.at_ 2 rfl
  have r3 := HY5.out.at_ 3 rfl
  have r4 := HY5.out.at_ 4 rfl
  have r5 := HY5.out.at_ 5 rfl
  cases k0 with
  | false =>
    have HF := Lib.hid (show false = ans by rw [← HA.out]; simp)
    go_wp2
    go_ret
    exact ⟨by rw [← HF.out]; rfl, HB5.out⟩
  | true =>
  go_wp2_with fail
  refine S1.out.mono ?_
  rintro e v1 ⟨rfl, hb1⟩
  have HV1 := Lib.hid (below_next HB5.out hb1)
  have HT1 := Lib.hid (S2.out v1 hb1)
  have s6 := (HY5.out.below hb1).at_ 6 rfl
  have s7 := (HY5.out.below hb1).at_ 7 rfl
  have s8 := (HY5.out.below hb1).at_ 8 rfl
  have s9 := (HY5.out.below hb1).at_ 9 rfl
  have s10 := (HY5.out.below hb1).at_ 10 rfl
  have s11 := (HY5.out.below hb1).at_ 11 rfl
  have s12 := (HY5.out.below hb1).at_ 12 rfl
  have s13 := (HY5.out.below hb1).at_ 13 rfl
  have s14 := (HY5.out.below hb1).at_ 14 rfl
  clear hb1 r1 r2 r3 r4 r5 S1 S2 HY5 HP5 HQ5 HB5
  cases k2 with
  | false =>
    have HF := Lib.hid (show false = ans by rw [← HA.out]; simp)
    go_wp2
    go_ret
    exact ⟨by rw [← HF.out]; rfl, HV1.out⟩
  | true =>
  go_wp2_with fail
  refine HT1.out.mono ?_
  rintro e v2 ⟨rfl, hb2⟩
  have HV2 := Lib.hid (below_next HV1.out hb2)
  clear hb2
  have HF := Lib.hid (show k3 = ans by rw [← HA.out]; simp)
  go_wp2
  go_ret
  exact ⟨by rw [← HF.out]; rfl, HV2.out⟩
set_option maxRecDepth 100000 in
set_option maxHeartbeats 16000000 in
theorem may5_any (id nn pid pep : Int) (P : Option Addr) (pn pc : Nat) (ps : List (Int × Int)) (tid tep : Int) (Q : Option Addr) (qn qc : Nat) (sz lv ct : Int) (lo hi : ByteArray) (tp : Int) (qs : List (Int × Int)) (w : World) (hP : PairsOk w P pn pc ps) (hQ : PairsOk w Q qn qc qs) (hls : lo.size ≤ 9223372036854775807 ∧ hi.size ≤ 9223372036854775807) (hfit : (⟨tid, tep, Q, qn, qc, sz, lv, ct, lo, hi, tp⟩ : Pk.Tb).fits) :
    Calls Tryz.prog 47 #[.agg #[.int .i64 5, .int .i64 id, .int .i64 nn, .int .i64 pid, .int .i64 pep, .slice P pn pc, .int .i64 tid, .int .i64 tep, .slice Q qn qc, .int .i64 sz, .int .i64 lv, .int .i64 ct, .string lo, .string hi, .int .i64 tp]] w fun e w' => e = .returned (.bool (⟨5, id, nn, ⟨pid, pep, ps⟩, ⟨⟨tid, tep, qs⟩, sz, lv, ct, lo, hi, tp⟩⟩ : Ed.Et).ok) ∧ Below w.heap.size w w' := by
  have hal : Below w.heap.size w (w.alloc (.cells #[.int .i64 5, .int .i64 id, .int .i64 nn, .int .i64 pid, .int .i64 pep, .slice P pn pc, .int .i64 tid, .int .i64 tep, .slice Q qn qc, .int .i64 sz, .int .i64 lv, .int .i64 ct, .string lo, .string hi, .int .i64 tp] 37)) := (Below.refl _ _).alloc (Nat.le_refl _) _
  have HX := Lib.hid (Holds.new w #[.int .i64 5, .int .i64 id, .int .i64 nn, .int .i64 pid, .int .i64 pep, .slice P pn pc, .int .i64 tid, .int .i64 tep, .slice Q qn qc, .int .i64 sz, .int .i64 lv, .int .i64 ct, .string lo, .string hi, .int .i64 tp] 37)
  have HB := Lib.hid hal
  have HPw := Lib.hid (show (∀ g o, P = some ⟨g, o, none⟩ → 0 < pn → g ≠ w.heap.size + 1) ∧ (∀ g o, Q = some ⟨g, o, none⟩ → 0 < qn → g ≠ w.heap.size + 1) from ⟨fun g o e h0 => by have := hP.blk e h0; omega, fun g o e h0 => by have := hQ.blk e h0; omega⟩)
  have HP := Lib.hid (hP.below hal)
  have HQ := Lib.hid (hQ.below hal)
  have HFit := Lib.hid (And.intro hls hfit)
  have HUs := Lib.hid (show (w.alloc (.cells #[.int .i64 5, .int .i64 id, .int .i64 nn, .int .i64 pid, .int .i64 pep, .slice P pn pc, .int .i64 tid, .int .i64 tep, .slice Q qn qc, .int .i64 sz, .int .i64 lv, .int .i64 ct, .string lo, .string hi, .int .i64 tp] 37)).heap.size = w.heap.size + 1 by simp)
  clear hal hP hQ hls hfit
  have HA := Lib.hid (show (Ed.from_ id 1 2147483647 && (nn == 0) && (⟨pid, pep, ps⟩ : Ed.Pl).eq Ed.noP && (⟨⟨tid, tep, qs⟩, sz, lv, ct, lo, hi, tp⟩ : Ed.Ta).eq Ed.noT) = (⟨5, id, nn, ⟨pid, pep, ps⟩, ⟨⟨tid, tep, qs⟩, sz, lv, ct, lo, hi, tp⟩⟩ : Ed.Et).ok from rfl)
  generalize (⟨5, id, nn, ⟨pid, pep, ps⟩, ⟨⟨tid, tep, qs⟩, sz, lv, ct, lo, hi, tp⟩⟩ : Ed.Et).ok = ans at *
  go_enter Tryz.func47, Tryz.ntmps47
  go_upto_region 1 with fail
  generalize (w.alloc (.cells #[.int .i64 5, .int .i64 id, .int .i64 nn, .int .i64 pid, .int .i64 pep, .slice P pn pc, .int .i64 tid, .int .i64 tep, .slice Q qn qc, .int .i64 sz, .int .i64 lv, .int .i64 ct, .string lo, .string hi, .int .i64 tp] 37)) = u at *
  replace HX : Hid (Holds u w.heap.size [.int .i64 5, .int .i64 id, .int .i64 nn, .int .i64 pid, .int .i64 pep, .slice P pn pc, .int .i64 tid, .int .i64 tep, .slice Q qn qc, .int .i64 sz, .int .i64 lv, .int .i64 ct, .string lo, .string hi, .int .i64 tp]) := HX
  go_cut [3, 4] from 3 to 5 (fun s3 s4 wx => s3 = .bool true ∧ s4 = .pointer (some ⟨w.heap.size + 1, 0, none⟩) ∧ Hid (Holds wx w.heap.size [.int .i64 5, .int .i64 id, .int .i64 nn, .int .i64 pid, .int .i64 pep, .slice P pn pc, .int .i64 tid, .int .i64 tep, .slice Q qn qc, .int .i64 sz, .int .i64 lv, .int .i64 ct, .string lo, .string hi, .int .i64 tp] ∧ Holds wx (w.heap.size + 1) [.int .i64 5, .int .i64 id, .int .i64 nn, .int .i64 pid, .int .i64 pep, .slice P pn pc, .int .i64 tid, .int .i64 tep, .slice Q qn qc, .int .i64 sz, .int .i64 lv, .int .i64 ct, .string lo, .string hi, .int .i64 tp] ∧ Below u.heap.size u wx))
  case first =>
    have Hsh := Lib.hid (HX.out.below (show Below u.heap.size u u.drew from (Below.refl _ _).drew))
    obtain ⟨x0, x1, x2, x3, x4, x5, x6, x7, x8, x9, x10, x11, x12, x13, x14⟩ := Hsh.out.all15
    clear Hsh
    have Hsh := Lib.hid (HX.out.below (show Below u.heap.size u (u.alloc (.cells #[.int .i64 0, .int .i64 0, .int .i64 0, .int .i64 0, .int .i64 0, .slice none 0 0, .int .i64 0, .int .i64 0, .slice none 0 0, .int .i64 0, .int .i64 0, .int .i64 0, .string ⟨#[]⟩, .string ⟨#[]⟩, .int .i64 0] 37)) from (Below.refl _ _).alloc (Nat.le_refl _) _))
    obtain ⟨z0, z1, z2, z3, z4, z5, z6, z7, z8, z9, z10, z11, z12, z13, z14⟩ := Hsh.out.all15
    clear Hsh
    have hus := HUs.out
    go_region
    all_goals
      go_wp2_with fail
      go_meet
      case rel =>
        have hal : Below u.heap.size u (u.drew.alloc (.cells #[.int .i64 5, .int .i64 id, .int .i64 nn, .int .i64 pid, .int .i64 pep, .slice P pn pc, .int .i64 tid, .int .i64 tep, .slice Q qn qc, .int .i64 sz, .int .i64 lv, .int .i64 ct, .string lo, .string hi, .int .i64 tp] 37)) := ((Below.refl _ _).drew).alloc (Nat.le_refl _) _
        exact ⟨rfl, by rw [← hus], Lib.hid ⟨HX.out.below hal, by rw [← hus]; exact Holds.new u.drew #[.int .i64 5, .int .i64 id, .int .i64 nn, .int .i64 pid, .int .i64 pep, .slice P pn pc, .int .i64 tid, .int .i64 tep, .slice Q qn qc, .int .i64 sz, .int .i64 lv, .int .i64 ct, .string lo, .string hi, .int .i64 tp] 37, hal⟩⟩
  case rest =>
  obtain ⟨rfl, rfl, HC⟩ := hcut
  have HB2 := Lib.hid (below_next HB.out HC.out.2.2)
  have HP2 := Lib.hid (HP.out.below HC.out.2.2)
  have HQ2 := Lib.hid (HQ.out.below HC.out.2.2)
  have HX2 := Lib.hid HC.out.1
  have HY2 := Lib.hid HC.out.2.1
  clear HX HB HP HQ HC HUs
  have ne0 : w.heap.size ≠ w.heap.size + 1 := by omega
  have F1 := within_any id 1 2147483647 wc
  generalize Ed.from_ id 1 2147483647 = k0 at *
  have F1 := Lib.hid F1
  have x0 := HX2.out.at_ 0 rfl
  have x1 := HX2.out.at_ 1 rfl
  go_wp2_with fail
  refine F1.out.mono ?_
  rintro e v ⟨rfl, rfl⟩
  clear F1 x0 x1
  have HX3 := HX2
  have HY3 := HY2
  have HB3 := HB2
  have HP3 := HP2
  have HQ3 := HQ2
  clear HX2 HY2 HB2 HP2 HQ2
  have HPb := Lib.hid (show (∀ g o, P = some ⟨g, o, none⟩ → 0 < pn → g ≠ w.heap.size + 1) ∧ (∀ g o, Q = some ⟨g, o, none⟩ → 0 < qn → g ≠ w.heap.size + 1) from HPw.out)
  have y1 := HY3.out.at_ 1 rfl
  have yf1 := HY3.out.2.2 1
  have HY4 := Lib.hid (show Holds (v.setCell ⟨w.heap.size + 1, 1, none⟩ (.int .i64 0)) (w.heap.size + 1) [.int .i64 5, .int .i64 0, .int .i64 nn, .int .i64 pid, .int .i64 pep, .slice P pn pc, .int .i64 tid, .int .i64 tep, .slice Q qn qc, .int .i64 sz, .int .i64 lv, .int .i64 ct, .string lo, .string hi, .int .i64 tp] from (HY3.out.set 1 (.int .i64 0) (by simp)))
  have HX4 := Lib.hid (show Holds (v.setCell ⟨w.heap.size + 1, 1, none⟩ (.int .i64 0)) w.heap.size [.int .i64 5, .int .i64 id, .int .i64 nn, .int .i64 pid, .int .i64 pep, .slice P pn pc, .int .i64 tid, .int .i64 tep, .slice Q qn qc, .int .i64 sz, .int .i64 lv, .int .i64 ct, .string lo, .string hi, .int .i64 tp] from (HX3.out.other ne0))
  have HB4 := Lib.hid (show Below w.heap.size w (v.setCell ⟨w.heap.size + 1, 1, none⟩ (.int .i64 0)) from (HB3.out.setCell (Nat.le_succ _) _))
  have hgr : v.grownBy (v.setCell ⟨w.heap.size + 1, 1, none⟩ (.int .i64 0)) (some (w.heap.size + 1)) := (World.grownBy.refl v (some (w.heap.size + 1))).trans (grown_cell _ _ _ _)
  have HP4 := Lib.hid (pairs_grown HP3.out HPb.out.1 hgr)
  have HQ4 := Lib.hid (pairs_grown HQ3.out HPb.out.2 hgr)
  go_upto_region 17 with fail
  clear y1 yf1 hgr HX4 HX3 HY3 HB3 HP3 HQ3 HPb
  generalize (v.setCell ⟨w.heap.size + 1, 1, none⟩ (.int .i64 0)) = q at *
  have S1 : Calls Tryz.prog 67 #[.agg #[.int .i64 pid, .int .i64 pep, .slice P pn pc], .agg #[.int .i64 0, .int .i64 0, .slice none 0 0]] q fun e w' => e = .returned (.bool ((⟨pid, pep, ps⟩ : Ed.Pl).eq Ed.noP)) ∧ Below q.heap.size q w' := sameplace_any pid pep P pn pc ps 0 0 none 0 0 [] q HP4.out.1 ⟨rfl, RdC.nil _ _ _⟩ HP4.out.2.2 (by omega)
  generalize (⟨pid, pep, ps⟩ : Ed.Pl).eq Ed.noP = k2 at *
  have S1 := Lib.hid S1
  have S2 : ∀ v, Below q.heap.size q v → Calls Tryz.prog 46 #[.agg #[.int .i64 tid, .int .i64 tep, .slice Q qn qc, .int .i64 sz, .int .i64 lv, .int .i64 ct, .string lo, .string hi, .int .i64 tp], .agg #[.int .i64 0, .int .i64 0, .slice none 0 0, .int .i64 0, .int .i64 0, .int .i64 0, .string ⟨#[]⟩, .string ⟨#[]⟩, .int .i64 0]] v fun e w' => e = .returned (.bool ((⟨⟨tid, tep, qs⟩, sz, lv, ct, lo, hi, tp⟩ : Ed.Ta).eq Ed.noT)) ∧ Below v.heap.size v w' := fun v hv => sametable_any tid tep Q qn qc sz lv ct lo hi tp qs 0 0 none 0 0 0 0 0 ⟨#[]⟩ ⟨#[]⟩ 0 [] v (HQ4.out.1.below hv) ⟨rfl, RdC.nil _ _ _⟩ HQ4.out.2.2 (by omega)
  generalize (⟨⟨tid, tep, qs⟩, sz, lv, ct, lo, hi, tp⟩ : Ed.Ta).eq Ed.noT = k3 at *
  have S2 := Lib.hid S2
  have r1 := HY4.out.at_ 1 rfl
  have r2 := HY4.out.at_ 2 rfl
  have r3 := HY4.out.at_ 3 rfl
  have r4 := HY4.out.at_ 4 rfl
  have r5 := HY4.out.at_ 5 rfl
  cases k0 with
  | false =>
    have HF := Lib.hid (show false = ans by rw [← HA.out]; simp)
    go_wp2
    go_ret
    exact ⟨by rw [← HF.out]; rfl, HB4.out⟩
  | true =>
  cases g2 : (nn == 0) with
  | false =>
    rw [g2] at HA
    have HF := Lib.hid (show false = ans by rw [← HA.out]; simp)
    go_wp2
    go_ret
    exact ⟨by rw [← HF.out]; rfl, HB4.out⟩
  | true =>
  rw [g2] at HA
  go_wp2_with fail
  refine S1.out.mono ?_
  rintro e v1 ⟨rfl, hb1⟩
  have HV1 := Lib.hid (below_next HB4.out hb1)
  have HT1 := Lib.hid (S2.out v1 hb1)
  have s6 := (HY4.out.below hb1).at_ 6 rfl
  have s7 := (HY4.out.below hb1).at_ 7 rfl
  have s8 := (HY4.out.below hb1).at_ 8 rfl
  have s9 := (HY4.out.below hb1).at_ 9 rfl
  have s10 := (HY4.out.below hb1).at_ 10 rfl
  have s11 := (HY4.out.below hb1).at_ 11 rfl
  have s12 := (HY4.out.below hb1).at_ 12 rfl
  have s13 := (HY4.out.below hb1).at_ 13 rfl
  have s14 := (HY4.out.below hb1).at_ 14 rfl
  clear hb1 r1 r2 r3 r4 r5 S1 S2 HY4 HP4 HQ4 HB4
  cases k2 with
  | false =>
    have HF := Lib.hid (show false = ans by rw [← HA.out]; simp)
    go_wp2
    go_ret
    exact ⟨by rw [← HF.out]; rfl, HV1.out⟩
  | true =>
  go_wp2_with fail
  refine HT1.out.mono ?_
  rintro e v2 ⟨rfl, hb2⟩
  have HV2 := Lib.hid (below_next HV1.out hb2)
  clear hb2
  have HF := Lib.hid (show k3 = ans by rw [← HA.out]; simp)
  go_wp2
  go_ret
  exact ⟨by rw [← HF.out]; rfl, HV2.out⟩
end Go.Proofs.YthfcjlndaajkfaaGreat
namespace Go.Proofs.YthfcjlndaajkfaaGreat
open Go.RowKit
set_option linter.unusedVariables false
set_option maxRecDepth 100000 in
set_option maxHeartbeats 16000000 in
theorem may6_any (id nn pid pep : Int) (P : Option Addr) (pn pc : Nat) (ps : List (Int × Int)) (tid tep : Int) (Q : Option Addr) (qn qc : Nat) (sz lv ct : Int) (lo hi : ByteArray) (tp : Int) (qs : List (Int × Int)) (w : World) (hP : PairsOk w P pn pc ps) (hQ : PairsOk w Q qn qc qs) (hls : lo.size ≤ 9223372036854775807 ∧ hi.size ≤ 9223372036854775807) (hfit : (⟨tid, tep, Q, qn, qc, sz, lv, ct, lo, hi, tp⟩ : Pk.Tb).fits) :
    Calls Tryz.prog 47 #[.agg #[.int .i64 6, .int .i64 id, .int .i64 nn, .int .i64 pid, .int .i64 pep, .slice P pn pc, .int .i64 tid, .int .i64 tep, .slice Q qn qc, .int .i64 sz, .int .i64 lv, .int .i64 ct, .string lo, .string hi, .int .i64 tp]] w fun e w' => e = .returned (.bool (⟨6, id, nn, ⟨pid, pep, ps⟩, ⟨⟨tid, tep, qs⟩, sz, lv, ct, lo, hi, tp⟩⟩ : Ed.Et).ok) ∧ Below w.heap.size w w' := by
  have hal : Below w.heap.size w (w.alloc (.cells #[.int .i64 6, .int .i64 id, .int .i64 nn, .int .i64 pid, .int .i64 pep, .slice P pn pc, .int .i64 tid, .int .i64 tep, .slice Q qn qc, .int .i64 sz, .int .i64 lv, .int .i64 ct, .string lo, .string hi, .int .i64 tp] 37)) := (Below.refl _ _).alloc (Nat.le_refl _) _
  have HX := Lib.hid (Holds.new w #[.int .i64 6, .int .i64 id, .int .i64 nn, .int .i64 pid, .int .i64 pep, .slice P pn pc, .int .i64 tid, .int .i64 tep, .slice Q qn qc, .int .i64 sz, .int .i64 lv, .int .i64 ct, .string lo, .string hi, .int .i64 tp] 37)
  have HB := Lib.hid hal
  have HPw := Lib.hid (show (∀ g o, P = some ⟨g, o, none⟩ → 0 < pn → g ≠ w.heap.size + 1) ∧ (∀ g o, Q = some ⟨g, o, none⟩ → 0 < qn → g ≠ w.heap.size + 1) from ⟨fun g o e h0 => by have := hP.blk e h0; omega, fun g o e h0 => by have := hQ.blk e h0; omega⟩)
  have HP := Lib.hid (hP.below hal)
  have HQ := Lib.hid (hQ.below hal)
  have HFit := Lib.hid (And.intro hls hfit)
  have HUs := Lib.hid (show (w.alloc (.cells #[.int .i64 6, .int .i64 id, .int .i64 nn, .int .i64 pid, .int .i64 pep, .slice P pn pc, .int .i64 tid, .int .i64 tep, .slice Q qn qc, .int .i64 sz, .int .i64 lv, .int .i64 ct, .string lo, .string hi, .int .i64 tp] 37)).heap.size = w.heap.size + 1 by simp)
  clear hal hP hQ hls hfit
  have HA := Lib.hid (show ((⟨⟨tid, tep, qs⟩, sz, lv, ct, lo, hi, tp⟩ : Ed.Ta).ok && (id == 0) && (nn == 0) && (⟨pid, pep, ps⟩ : Ed.Pl).eq Ed.noP) = (⟨6, id, nn, ⟨pid, pep, ps⟩, ⟨⟨tid, tep, qs⟩, sz, lv, ct, lo, hi, tp⟩⟩ : Ed.Et).ok from rfl)
  generalize (⟨6, id, nn, ⟨pid, pep, ps⟩, ⟨⟨tid, tep, qs⟩, sz, lv, ct, lo, hi, tp⟩⟩ : Ed.Et).ok = ans at *
  go_enter Tryz.func47, Tryz.ntmps47
  go_upto_region 1 with fail
  generalize (w.alloc (.cells #[.int .i64 6, .int .i64 id, .int .i64 nn, .int .i64 pid, .int .i64 pep, .slice P pn pc, .int .i64 tid, .int .i64 tep, .slice Q qn qc, .int .i64 sz, .int .i64 lv, .int .i64 ct, .string lo, .string hi, .int .i64 tp] 37)) = u at *
  replace HX : Hid (Holds u w.heap.size [.int .i64 6, .int .i64 id, .int .i64 nn, .int .i64 pid, .int .i64 pep, .slice P pn pc, .int .i64 tid, .int .i64 tep, .slice Q qn qc, .int .i64 sz, .int .i64 lv, .int .i64 ct, .string lo, .string hi, .int .i64 tp]) := HX
  go_cut [3, 4] from 3 to 5 (fun s3 s4 wx => s3 = .bool true ∧ s4 = .pointer (some ⟨w.heap.size + 1, 0, none⟩) ∧ Hid (Holds wx w.heap.size [.int .i64 6, .int .i64 id, .int .i64 nn, .int .i64 pid, .int .i64 pep, .slice P pn pc, .int .i64 tid, .int .i64 tep, .slice Q qn qc, .int .i64 sz, .int .i64 lv, .int .i64 ct, .string lo, .string hi, .int .i64 tp] ∧ Holds wx (w.heap.size + 1) [.int .i64 6, .int .i64 id, .int .i64 nn, .int .i64 pid, .int .i64 pep, .slice P pn pc, .int .i64 tid, .int .i64 tep, .slice Q qn qc, .int .i64 sz, .int .i64 lv, .int .i64 ct, .string lo, .string hi, .int .i64 tp] ∧ Below u.heap.size u wx))
  case first =>
    have Hsh := Lib.hid (HX.out.below (show Below u.heap.size u u.drew from (Below.refl _ _).drew))
    obtain ⟨x0, x1, x2, x3, x4, x5, x6, x7, x8, x9, x10, x11, x12, x13, x14⟩ := Hsh.out.all15
    clear Hsh
    have Hsh := Lib.hid (HX.out.below (show Below u.heap.size u (u.alloc (.cells #[.int .i64 0, .int .i64 0, .int .i64 0, .int .i64 0, .int .i64 0, .slice none 0 0, .int .i64 0, .int .i64 0, .slice none 0 0, .int .i64 0, .int .i64 0, .int .i64 0, .string ⟨#[]⟩, .string ⟨#[]⟩, .int .i64 0] 37)) from (Below.refl _ _).alloc (Nat.le_refl _) _))
    obtain ⟨z0, z1, z2, z3, z4, z5, z6, z7, z8, z9, z10, z11, z12, z13, z14⟩ := Hsh.out.all15
    clear Hsh
    have hus := HUs.out
    go_region
    all_goals
      go_wp2_with fail
      go_meet
      case rel =>
        have hal : Below u.heap.size u (u.drew.alloc (.cells #[.int .i64 6, .int .i64 id, .int .i64 nn, .int .i64 pid, .int .i64 pep, .slice P pn pc, .int .i64 tid, .int .i64 tep, .slice Q qn qc, .int .i64 sz, .int .i64 lv, .int .i64 ct, .string lo, .string hi, .int .i64 tp] 37)) := ((Below.refl _ _).drew).alloc (Nat.le_refl _) _
        exact ⟨rfl, by rw [← hus], Lib.hid ⟨HX.out.below hal, by rw [← hus]; exact Holds.new u.drew #[.int .i64 6, .int .i64 id, .int .i64 nn, .int .i64 pid, .int .i64 pep, .slice P pn pc, .int .i64 tid, .int .i64 tep, .slice Q qn qc, .int .i64 sz, .int .i64 lv, .int .i64 ct, .string lo, .string hi, .int .i64 tp] 37, hal⟩⟩
  case rest =>
  obtain ⟨rfl, rfl, HC⟩ := hcut
  have HB2 := Lib.hid (below_next HB.out HC.out.2.2)
  have HP2 := Lib.hid (HP.out.below HC.out.2.2)
  have HQ2 := Lib.hid (HQ.out.below HC.out.2.2)
  have HX2 := Lib.hid HC.out.1
  have HY2 := Lib.hid HC.out.2.1
  clear HX HB HP HQ HC HUs
  have ne0 : w.heap.size ≠ w.heap.size + 1 := by omega
  have F1 := mbtable_any ⟨tid, tep, Q, qn, qc, sz, lv, ct, lo, hi, tp⟩ qs wc HQ2.out.1 HFit.out.2 HQ2.out.2.2
  have F1 : Calls Tryz.prog 33 #[.agg #[.int .i64 tid, .int .i64 tep, .slice Q qn qc, .int .i64 sz, .int .i64 lv, .int .i64 ct, .string lo, .string hi, .int .i64 tp]] wc fun e w' => e = .returned (.bool (⟨⟨tid, tep, qs⟩, sz, lv, ct, lo, hi, tp⟩ : Ed.Ta).ok) ∧ Below wc.heap.size wc w' := F1
  generalize (⟨⟨tid, tep, qs⟩, sz, lv, ct, lo, hi, tp⟩ : Ed.Ta).ok = k0 at *
  have F1 := Lib.hid F1
  have x0 := HX2.out.at_ 0 rfl
  have x6 := HX2.out.at_ 6 rfl
  have x7 := HX2.out.at_ 7 rfl
  have x8 := HX2.out.at_ 8 rfl
  have x9 := HX2.out.at_ 9 rfl
  have x10 := HX2.out.at_ 10 rfl
  have x11 := HX2.out.at_ 11 rfl
  have x12 := HX2.out.at_ 12 rfl
  have x13 := HX2.out.at_ 13 rfl
  have x14 := HX2.out.at_ 14 rfl
  go_wp2_with fail
  refine F1.out.mono ?_
  rintro e v ⟨rfl, hbv⟩
  clear F1 x0 x6 x7 x8 x9 x10 x11 x12 x13 x14
  have HX3 := Lib.hid (HX2.out.below hbv)
  have HY3 := Lib.hid (HY2.out.below hbv)
  have HB3 := Lib.hid (below_next HB2.out hbv)
  have HP3 := Lib.hid (HP2.out.below hbv)
  have HQ3 := Lib.hid (HQ2.out.below hbv)
  clear hbv HX2 HY2 HB2 HP2 HQ2
  have HPb := Lib.hid (show (∀ g o, P = some ⟨g, o, none⟩ → 0 < pn → g ≠ w.heap.size + 1) ∧ (∀ g o, Q = some ⟨g, o, none⟩ → 0 < qn → g ≠ w.heap.size + 1) from HPw.out)
  have y6 := HY3.out.at_ 6 rfl
  have yf6 := HY3.out.2.2 6
  have y7 := HY3.out.at_ 7 rfl
  have yf7 := HY3.out.2.2 7
  have y8 := HY3.out.at_ 8 rfl
  have yf8 := HY3.out.2.2 8
  have y9 := HY3.out.at_ 9 rfl
  have yf9 := HY3.out.2.2 9
  have y10 := HY3.out.at_ 10 rfl
  have yf10 := HY3.out.2.2 10
  have y11 := HY3.out.at_ 11 rfl
  have yf11 := HY3.out.2.2 11
  have y12 := HY3.out.at_ 12 rfl
  have yf12 := HY3.out.2.2 12
  have y13 := HY3.out.at_ 13 rfl
  have yf13 := HY3.out.2.2 13
  have y14 := HY3.out.at_ 14 rfl
  have yf14 := HY3.out.2.2 14
  have HY4 := Lib.hid (show Holds (((((((((v.setCell ⟨w.heap.size + 1, 6, none⟩ (.int .i64 0)).setCell ⟨w.heap.size + 1, 7, none⟩ (.int .i64 0)).setCell ⟨w.heap.size + 1, 8, none⟩ (.slice none 0 0)).setCell ⟨w.heap.size + 1, 9, none⟩ (.int .i64 0)).setCell ⟨w.heap.size + 1, 10, none⟩ (.int .i64 0)).setCell ⟨w.heap.size + 1, 11, none⟩ (.int .i64 0)).setCell ⟨w.heap.size + 1, 12, none⟩ (.string ⟨#[]⟩)).setCell ⟨w.heap.size + 1, 13, none⟩ (.string ⟨#[]⟩)).setCell ⟨w.heap.size + 1, 14, none⟩ (.int .i64 0)) (w.heap.size + 1) [.int .i64 6, .int .i64 id, .int .i64 nn, .int .i64 pid, .int .i64 pep, .slice P pn pc, .int .i64 0, .int .i64 0, .slice none 0 0, .int .i64 0, .int .i64 0, .int .i64 0, .string ⟨#[]⟩, .string ⟨#[]⟩, .int .i64 0] from (((((((((HY3.out.set 6 (.int .i64 0) (by simp)).set 7 (.int .i64 0) (by simp)).set 8 (.slice none 0 0) (by simp)).set 9 (.int .i64 0) (by simp)).set 10 (.int .i64 0) (by simp)).set 11 (.int .i64 0) (by simp)).set 12 (.string ⟨#[]⟩) (by simp)).set 13 (.string ⟨#[]⟩) (by simp)).set 14 (.int .i64 0) (by simp)))
  have HX4 := Lib.hid (show Holds (((((((((v.setCell ⟨w.heap.size + 1, 6, none⟩ (.int .i64 0)).setCell ⟨w.heap.size + 1, 7, none⟩ (.int .i64 0)).setCell ⟨w.heap.size + 1, 8, none⟩ (.slice none 0 0)).setCell ⟨w.heap.size + 1, 9, none⟩ (.int .i64 0)).setCell ⟨w.heap.size + 1, 10, none⟩ (.int .i64 0)).setCell ⟨w.heap.size + 1, 11, none⟩ (.int .i64 0)).setCell ⟨w.heap.size + 1, 12, none⟩ (.string ⟨#[]⟩)).setCell ⟨w.heap.size + 1, 13, none⟩ (.string ⟨#[]⟩)).setCell ⟨w.heap.size + 1, 14, none⟩ (.int .i64 0)) w.heap.size [.int .i64 6, .int .i64 id, .int .i64 nn, .int .i64 pid, .int .i64 pep, .slice P pn pc, .int .i64 tid, .int .i64 tep, .slice Q qn qc, .int .i64 sz, .int .i64 lv, .int .i64 ct, .string lo, .string hi, .int .i64 tp] from (((((((((HX3.out.other ne0).other ne0).other ne0).other ne0).other ne0).other ne0).other ne0).other ne0).other ne0))
  have HB4 := Lib.hid (show Below w.heap.size w (((((((((v.setCell ⟨w.heap.size + 1, 6, none⟩ (.int .i64 0)).setCell ⟨w.heap.size + 1, 7, none⟩ (.int .i64 0)).setCell ⟨w.heap.size + 1, 8, none⟩ (.slice none 0 0)).setCell ⟨w.heap.size + 1, 9, none⟩ (.int .i64 0)).setCell ⟨w.heap.size + 1, 10, none⟩ (.int .i64 0)).setCell ⟨w.heap.size + 1, 11, none⟩ (.int .i64 0)).setCell ⟨w.heap.size + 1, 12, none⟩ (.string ⟨#[]⟩)).setCell ⟨w.heap.size + 1, 13, none⟩ (.string ⟨#[]⟩)).setCell ⟨w.heap.size + 1, 14, none⟩ (.int .i64 0)) from (((((((((HB3.out.setCell (Nat.le_succ _) _).setCell (Nat.le_succ _) _).setCell (Nat.le_succ _) _).setCell (Nat.le_succ _) _).setCell (Nat.le_succ _) _).setCell (Nat.le_succ _) _).setCell (Nat.le_succ _) _).setCell (Nat.le_succ _) _).setCell (Nat.le_succ _) _))
  have hgr : v.grownBy (((((((((v.setCell ⟨w.heap.size + 1, 6, none⟩ (.int .i64 0)).setCell ⟨w.heap.size + 1, 7, none⟩ (.int .i64 0)).setCell ⟨w.heap.size + 1, 8, none⟩ (.slice none 0 0)).setCell ⟨w.heap.size + 1, 9, none⟩ (.int .i64 0)).setCell ⟨w.heap.size + 1, 10, none⟩ (.int .i64 0)).setCell ⟨w.heap.size + 1, 11, none⟩ (.int .i64 0)).setCell ⟨w.heap.size + 1, 12, none⟩ (.string ⟨#[]⟩)).setCell ⟨w.heap.size + 1, 13, none⟩ (.string ⟨#[]⟩)).setCell ⟨w.heap.size + 1, 14, none⟩ (.int .i64 0)) (some (w.heap.size + 1)) := (((((((((World.grownBy.refl v (some (w.heap.size + 1))).trans (grown_cell _ _ _ _)).trans (grown_cell _ _ _ _)).trans (grown_cell _ _ _ _)).trans (grown_cell _ _ _ _)).trans (grown_cell _ _ _ _)).trans (grown_cell _ _ _ _)).trans (grown_cell _ _ _ _)).trans (grown_cell _ _ _ _)).trans (grown_cell _ _ _ _)
  have HP4 := Lib.hid (pairs_grown HP3.out HPb.out.1 hgr)
  have HQ4 := Lib.hid (pairs_grown HQ3.out HPb.out.2 hgr)
  go_upto_region 17 with fail
  clear y6 yf6 y7 yf7 y8 yf8 y9 yf9 y10 yf10 y11 yf11 y12 yf12 y13 yf13 y14 yf14 hgr HX4 HX3 HY3 HB3 HP3 HQ3 HPb
  generalize (((((((((v.setCell ⟨w.heap.size + 1, 6, none⟩ (.int .i64 0)).setCell ⟨w.heap.size + 1, 7, none⟩ (.int .i64 0)).setCell ⟨w.heap.size + 1, 8, none⟩ (.slice none 0 0)).setCell ⟨w.heap.size + 1, 9, none⟩ (.int .i64 0)).setCell ⟨w.heap.size + 1, 10, none⟩ (.int .i64 0)).setCell ⟨w.heap.size + 1, 11, none⟩ (.int .i64 0)).setCell ⟨w.heap.size + 1, 12, none⟩ (.string ⟨#[]⟩)).setCell ⟨w.heap.size + 1, 13, none⟩ (.string ⟨#[]⟩)).setCell ⟨w.heap.size + 1, 14, none⟩ (.int .i64 0)) = q at *
  have S1 : Calls Tryz.prog 67 #[.agg #[.int .i64 pid, .int .i64 pep, .slice P pn pc], .agg #[.int .i64 0, .int .i64 0, .slice none 0 0]] q fun e w' => e = .returned (.bool ((⟨pid, pep, ps⟩ : Ed.Pl).eq Ed.noP)) ∧ Below q.heap.size q w' := sameplace_any pid pep P pn pc ps 0 0 none 0 0 [] q HP4.out.1 ⟨rfl, RdC.nil _ _ _⟩ HP4.out.2.2 (by omega)
  generalize (⟨pid, pep, ps⟩ : Ed.Pl).eq Ed.noP = k2 at *
  have S1 := Lib.hid S1
  have S2 : ∀ v, Below q.heap.size q v → Calls Tryz.prog 46 #[.agg #[.int .i64 0, .int .i64 0, .slice none 0 0, .int .i64 0, .int .i64 0, .int .i64 0, .string ⟨#[]⟩, .string ⟨#[]⟩, .int .i64 0], .agg #[.int .i64 0, .int .i64 0, .slice none 0 0, .int .i64 0, .int .i64 0, .int .i64 0, .string ⟨#[]⟩, .string ⟨#[]⟩, .int .i64 0]] v fun e w' => e = .returned (.bool true) ∧ Below v.heap.size v w' := fun v hv => by
    have h := sametable_any 0 0 none 0 0 0 0 0 ⟨#[]⟩ ⟨#[]⟩ 0 [] 0 0 none 0 0 0 0 0 ⟨#[]⟩ ⟨#[]⟩ 0 [] v ⟨rfl, RdC.nil _ _ _⟩ ⟨rfl, RdC.nil _ _ _⟩ (by omega) (by omega)
    rwa [show (⟨⟨0, 0, []⟩, 0, 0, 0, ⟨#[]⟩, ⟨#[]⟩, 0⟩ : Ed.Ta).eq ⟨⟨0, 0, []⟩, 0, 0, 0, ⟨#[]⟩, ⟨#[]⟩, 0⟩ = true from Ed.Ta.eq_iff.2 rfl] at h
  have S2 := Lib.hid S2
  have r1 := HY4.out.at_ 1 rfl
  have r2 := HY4.out.at_ 2 rfl
  have r3 := HY4.out.at_ 3 rfl
  have r4 := HY4.out.at_ 4 rfl
  have r5 := HY4.out.at_ 5 rfl
  cases k0 with
  | false =>
    have HF := Lib.hid (show false = ans by rw [← HA.out]; simp)
    go_wp2
    go_ret
    exact ⟨by rw [← HF.out]; rfl, HB4.out⟩
  | true =>
  cases g1 : (id == 0) with
  | false =>
    rw [g1] at HA
    have HF := Lib.hid (show false = ans by rw [← HA.out]; simp)
    go_wp2
    go_ret
    exact ⟨by rw [← HF.out]; rfl, HB4.out⟩
  | true =>
  rw [g1] at HA
  cases g2 : (nn == 0) with
  | false =>
    rw [g2] at HA
    have HF := Lib.hid (show false = ans by rw [← HA.out]; simp)
    go_wp2
    go_ret
    exact ⟨by rw [← HF.out]; rfl, HB4.out⟩
  | true =>
  rw [g2] at HA
  go_wp2_with fail
  refine S1.out.mono ?_
  rintro e v1 ⟨rfl, hb1⟩
  have HV1 := Lib.hid (below_next HB4.out hb1)
  have HT1 := Lib.hid (S2.out v1 hb1)
  have s6 := (HY4.out.below hb1).at_ 6 rfl
  have s7 := (HY4.out.below hb1).at_ 7 rfl
  have s8 := (HY4.out.below hb1).at_ 8 rfl
  have s9 := (HY4.out.below hb1).at_ 9 rfl
  have s10 := (HY4.out.below hb1).at_ 10 rfl
  have s11 := (HY4.out.below hb1).at_ 11 rfl
  have s12 := (HY4.out.below hb1).at_ 12 rfl
  have s13 := (HY4.out.below hb1).at_ 13 rfl
  have s14 := (HY4.out.below hb1).at_ 14 rfl
  clear hb1 r1 r2 r3 r4 r5 S1 S2 HY4 HP4 HQ4 HB4
  cases k2 with
  | false =>
    have HF := Lib.hid (show false = ans by rw [← HA.out]; simp)
    go_wp2
    go_ret
    exact ⟨by rw [← HF.out]; rfl, HV1.out⟩
  | true =>
  go_wp2_with fail
  refine HT1.out.mono ?_
  rintro e v2 ⟨rfl, hb2⟩
  have HV2 := Lib.hid (below_next HV1.out hb2)
  clear hb2
  have HF := Lib.hid (show true = ans by rw [← HA.out]; simp)
  go_wp2
  go_ret
  exact ⟨by rw [← HF.out]; rfl, HV2.out⟩
set_option maxRecDepth 100000 in
set_option maxHeartbeats 16000000 in
theorem may7_any (id nn pid pep : Int) (P : Option Addr) (pn pc : Nat) (ps : List (Int × Int)) (tid tep : Int) (Q : Option Addr) (qn qc : Nat) (sz lv ct : Int) (lo hi : ByteArray) (tp : Int) (qs : List (Int × Int)) (w : World) (hP : PairsOk w P pn pc ps) (hQ : PairsOk w Q qn qc qs) (hls : lo.size ≤ 9223372036854775807 ∧ hi.size ≤ 9223372036854775807) (hfit : (⟨tid, tep, Q, qn, qc, sz, lv, ct, lo, hi, tp⟩ : Pk.Tb).fits) :
    Calls Tryz.prog 47 #[.agg #[.int .i64 7, .int .i64 id, .int .i64 nn, .int .i64 pid, .int .i64 pep, .slice P pn pc, .int .i64 tid, .int .i64 tep, .slice Q qn qc, .int .i64 sz, .int .i64 lv, .int .i64 ct, .string lo, .string hi, .int .i64 tp]] w fun e w' => e = .returned (.bool (⟨7, id, nn, ⟨pid, pep, ps⟩, ⟨⟨tid, tep, qs⟩, sz, lv, ct, lo, hi, tp⟩⟩ : Ed.Et).ok) ∧ Below w.heap.size w w' := by
  have hal : Below w.heap.size w (w.alloc (.cells #[.int .i64 7, .int .i64 id, .int .i64 nn, .int .i64 pid, .int .i64 pep, .slice P pn pc, .int .i64 tid, .int .i64 tep, .slice Q qn qc, .int .i64 sz, .int .i64 lv, .int .i64 ct, .string lo, .string hi, .int .i64 tp] 37)) := (Below.refl _ _).alloc (Nat.le_refl _) _
  have HX := Lib.hid (Holds.new w #[.int .i64 7, .int .i64 id, .int .i64 nn, .int .i64 pid, .int .i64 pep, .slice P pn pc, .int .i64 tid, .int .i64 tep, .slice Q qn qc, .int .i64 sz, .int .i64 lv, .int .i64 ct, .string lo, .string hi, .int .i64 tp] 37)
  have HB := Lib.hid hal
  have HPw := Lib.hid (show (∀ g o, P = some ⟨g, o, none⟩ → 0 < pn → g ≠ w.heap.size + 1) ∧ (∀ g o, Q = some ⟨g, o, none⟩ → 0 < qn → g ≠ w.heap.size + 1) from ⟨fun g o e h0 => by have := hP.blk e h0; omega, fun g o e h0 => by have := hQ.blk e h0; omega⟩)
  have HP := Lib.hid (hP.below hal)
  have HQ := Lib.hid (hQ.below hal)
  have HFit := Lib.hid (And.intro hls hfit)
  have HUs := Lib.hid (show (w.alloc (.cells #[.int .i64 7, .int .i64 id, .int .i64 nn, .int .i64 pid, .int .i64 pep, .slice P pn pc, .int .i64 tid, .int .i64 tep, .slice Q qn qc, .int .i64 sz, .int .i64 lv, .int .i64 ct, .string lo, .string hi, .int .i64 tp] 37)).heap.size = w.heap.size + 1 by simp)
  clear hal hP hQ hls hfit
  have HA := Lib.hid (show (Ed.from_ id 1 2147483647 && (nn == 0) && (⟨pid, pep, ps⟩ : Ed.Pl).eq Ed.noP && (⟨⟨tid, tep, qs⟩, sz, lv, ct, lo, hi, tp⟩ : Ed.Ta).eq Ed.noT) = (⟨7, id, nn, ⟨pid, pep, ps⟩, ⟨⟨tid, tep, qs⟩, sz, lv, ct, lo, hi, tp⟩⟩ : Ed.Et).ok from rfl)
  generalize (⟨7, id, nn, ⟨pid, pep, ps⟩, ⟨⟨tid, tep, qs⟩, sz, lv, ct, lo, hi, tp⟩⟩ : Ed.Et).ok = ans at *
  go_enter Tryz.func47, Tryz.ntmps47
  go_upto_region 1 with fail
  generalize (w.alloc (.cells #[.int .i64 7, .int .i64 id, .int .i64 nn, .int .i64 pid, .int .i64 pep, .slice P pn pc, .int .i64 tid, .int .i64 tep, .slice Q qn qc, .int .i64 sz, .int .i64 lv, .int .i64 ct, .string lo, .string hi, .int .i64 tp] 37)) = u at *
  replace HX : Hid (Holds u w.heap.size [.int .i64 7, .int .i64 id, .int .i64 nn, .int .i64 pid, .int .i64 pep, .slice P pn pc, .int .i64 tid, .int .i64 tep, .slice Q qn qc, .int .i64 sz, .int .i64 lv, .int .i64 ct, .string lo, .string hi, .int .i64 tp]) := HX
  go_cut [3, 4] from 3 to 5 (fun s3 s4 wx => s3 = .bool true ∧ s4 = .pointer (some ⟨w.heap.size + 1, 0, none⟩) ∧ Hid (Holds wx w.heap.size [.int .i64 7, .int .i64 id, .int .i64 nn, .int .i64 pid, .int .i64 pep, .slice P pn pc, .int .i64 tid, .int .i64 tep, .slice Q qn qc, .int .i64 sz, .int .i64 lv, .int .i64 ct, .string lo, .string hi, .int .i64 tp] ∧ Holds wx (w.heap.size + 1) [.int .i64 7, .int .i64 id, .int .i64 nn, .int .i64 pid, .int .i64 pep, .slice P pn pc, .int .i64 tid, .int .i64 tep, .slice Q qn qc, .int .i64 sz, .int .i64 lv, .int .i64 ct, .string lo, .string hi, .int .i64 tp] ∧ Below u.heap.size u wx))
  case first =>
    have Hsh := Lib.hid (HX.out.below (show Below u.heap.size u u.drew from (Below.refl _ _).drew))
    obtain ⟨x0, x1, x2, x3, x4, x5, x6, x7, x8, x9, x10, x11, x12, x13, x14⟩ := Hsh.out.all15
    clear Hsh
    have Hsh := Lib.hid (HX.out.below (show Below u.heap.size u (u.alloc (.cells #[.int .i64 0, .int .i64 0, .int .i64 0, .int .i64 0, .int .i64 0, .slice none 0 0, .int .i64 0, .int .i64 0, .slice none 0 0, .int .i64 0, .int .i64 0, .int .i64 0, .string ⟨#[]⟩, .string ⟨#[]⟩, .int .i64 0] 37)) from (Below.refl _ _).alloc (Nat.le_refl _) _))
    obtain ⟨z0, z1, z2, z3, z4, z5, z6, z7, z8, z9, z10, z11, z12, z13, z14⟩ := Hsh.out.all15
    clear Hsh
    have hus := HUs.out
    go_region
    all_goals
      go_wp2_with fail
      go_meet
      case rel =>
        have hal : Below u.heap.size u (u.drew.alloc (.cells #[.int .i64 7, .int .i64 id, .int .i64 nn, .int .i64 pid, .int .i64 pep, .slice P pn pc, .int .i64 tid, .int .i64 tep, .slice Q qn qc, .int .i64 sz, .int .i64 lv, .int .i64 ct, .string lo, .string hi, .int .i64 tp] 37)) := ((Below.refl _ _).drew).alloc (Nat.le_refl _) _
        exact ⟨rfl, by rw [← hus], Lib.hid ⟨HX.out.below hal, by rw [← hus]; exact Holds.new u.drew #[.int .i64 7, .int .i64 id, .int .i64 nn, .int .i64 pid, .int .i64 pep, .slice P pn pc, .int .i64 tid, .int .i64 tep, .slice Q qn qc, .int .i64 sz, .int .i64 lv, .int .i64 ct, .string lo, .string hi, .int .i64 tp] 37, hal⟩⟩
  case rest =>
  obtain ⟨rfl, rfl, HC⟩ := hcut
  have HB2 := Lib.hid (below_next HB.out HC.out.2.2)
  have HP2 := Lib.hid (HP.out.below HC.out.2.2)
  have HQ2 := Lib.hid (HQ.out.below HC.out.2.2)
  have HX2 := Lib.hid HC.out.1
  have HY2 := Lib.hid HC.out.2.1
  clear HX HB HP HQ HC HUs
  have ne0 : w.heap.size ≠ w.heap.size + 1 := by omega
  have F1 := within_any id 1 2147483647 wc
  generalize Ed.from_ id 1 2147483647 = k0 at *
  have F1 := Lib.hid F1
  have x0 := HX2.out.at_ 0 rfl
  have x1 := HX2.out.at_ 1 rfl
  go_wp2_with fail
  refine F1.out.mono ?_
  rintro e v ⟨rfl, rfl⟩
  clear F1 x0 x1
  have HX3 := HX2
  have HY3 := HY2
  have HB3 := HB2
  have HP3 := HP2
  have HQ3 := HQ2
  clear HX2 HY2 HB2 HP2 HQ2
  have HPb := Lib.hid (show (∀ g o, P = some ⟨g, o, none⟩ → 0 < pn → g ≠ w.heap.size + 1) ∧ (∀ g o, Q = some ⟨g, o, none⟩ → 0 < qn → g ≠ w.heap.size + 1) from HPw.out)
  have y1 := HY3.out.at_ 1 rfl
  have yf1 := HY3.out.2.2 1
  have HY4 := Lib.hid (show Holds (v.setCell ⟨w.heap.size + 1, 1, none⟩ (.int .i64 0)) (w.heap.size + 1) [.int .i64 7, .int .i64 0, .int .i64 nn, .int .i64 pid, .int .i64 pep, .slice P pn pc, .int .i64 tid, .int .i64 tep, .slice Q qn qc, .int .i64 sz, .int .i64 lv, .int .i64 ct, .string lo, .string hi, .int .i64 tp] from (HY3.out.set 1 (.int .i64 0) (by simp)))
  have HX4 := Lib.hid (show Holds (v.setCell ⟨w.heap.size + 1, 1, none⟩ (.int .i64 0)) w.heap.size [.int .i64 7, .int .i64 id, .int .i64 nn, .int .i64 pid, .int .i64 pep, .slice P pn pc, .int .i64 tid, .int .i64 tep, .slice Q qn qc, .int .i64 sz, .int .i64 lv, .int .i64 ct, .string lo, .string hi, .int .i64 tp] from (HX3.out.other ne0))
  have HB4 := Lib.hid (show Below w.heap.size w (v.setCell ⟨w.heap.size + 1, 1, none⟩ (.int .i64 0)) from (HB3.out.setCell (Nat.le_succ _) _))
  have hgr : v.grownBy (v.setCell ⟨w.heap.size + 1, 1, none⟩ (.int .i64 0)) (some (w.heap.size + 1)) := (World.grownBy.refl v (some (w.heap.size + 1))).trans (grown_cell _ _ _ _)
  have HP4 := Lib.hid (pairs_grown HP3.out HPb.out.1 hgr)
  have HQ4 := Lib.hid (pairs_grown HQ3.out HPb.out.2 hgr)
  go_upto_region 17 with fail
  clear y1 yf1 hgr HX4 HX3 HY3 HB3 HP3 HQ3 HPb
  generalize (v.setCell ⟨w.heap.size + 1, 1, none⟩ (.int .i64 0)) = q at *
  have S1 : Calls Tryz.prog 67 #[.agg #[.int .i64 pid, .int .i64 pep, .slice P pn pc], .agg #[.int .i64 0, .int .i64 0, .slice none 0 0]] q fun e w' => e = .returned (.bool ((⟨pid, pep, ps⟩ : Ed.Pl).eq Ed.noP)) ∧ Below q.heap.size q w' := sameplace_any pid pep P pn pc ps 0 0 none 0 0 [] q HP4.out.1 ⟨rfl, RdC.nil _ _ _⟩ HP4.out.2.2 (by omega)
  generalize (⟨pid, pep, ps⟩ : Ed.Pl).eq Ed.noP = k2 at *
  have S1 := Lib.hid S1
  have S2 : ∀ v, Below q.heap.size q v → Calls Tryz.prog 46 #[.agg #[.int .i64 tid, .int .i64 tep, .slice Q qn qc, .int .i64 sz, .int .i64 lv, .int .i64 ct, .string lo, .string hi, .int .i64 tp], .agg #[.int .i64 0, .int .i64 0, .slice none 0 0, .int .i64 0, .int .i64 0, .int .i64 0, .string ⟨#[]⟩, .string ⟨#[]⟩, .int .i64 0]] v fun e w' => e = .returned (.bool ((⟨⟨tid, tep, qs⟩, sz, lv, ct, lo, hi, tp⟩ : Ed.Ta).eq Ed.noT)) ∧ Below v.heap.size v w' := fun v hv => sametable_any tid tep Q qn qc sz lv ct lo hi tp qs 0 0 none 0 0 0 0 0 ⟨#[]⟩ ⟨#[]⟩ 0 [] v (HQ4.out.1.below hv) ⟨rfl, RdC.nil _ _ _⟩ HQ4.out.2.2 (by omega)
  generalize (⟨⟨tid, tep, qs⟩, sz, lv, ct, lo, hi, tp⟩ : Ed.Ta).eq Ed.noT = k3 at *
  have S2 := Lib.hid S2
  have r1 := HY4.out.at_ 1 rfl
  have r2 := HY4.out.at_ 2 rfl
  have r3 := HY4.out.at_ 3 rfl
  have r4 := HY4.out.at_ 4 rfl
  have r5 := HY4.out.at_ 5 rfl
  cases k0 with
  | false =>
    have HF := Lib.hid (show false = ans by rw [← HA.out]; simp)
    go_wp2
    go_ret
    exact ⟨by rw [← HF.out]; rfl, HB4.out⟩
  | true =>
  cases g2 : (nn == 0) with
  | false =>
    rw [g2] at HA
    have HF := Lib.hid (show false = ans by rw [← HA.out]; simp)
    go_wp2
    go_ret
    exact ⟨by rw [← HF.out]; rfl, HB4.out⟩
  | true =>
  rw [g2] at HA
  go_wp2_with fail
  refine S1.out.mono ?_
  rintro e v1 ⟨rfl, hb1⟩
  have HV1 := Lib.hid (below_next HB4.out hb1)
  have HT1 := Lib.hid (S2.out v1 hb1)
  have s6 := (HY4.out.below hb1).at_ 6 rfl
  have s7 := (HY4.out.below hb1).at_ 7 rfl
  have s8 := (HY4.out.below hb1).at_ 8 rfl
  have s9 := (HY4.out.below hb1).at_ 9 rfl
  have s10 := (HY4.out.below hb1).at_ 10 rfl
  have s11 := (HY4.out.below hb1).at_ 11 rfl
  have s12 := (HY4.out.below hb1).at_ 12 rfl
  have s13 := (HY4.out.below hb1).at_ 13 rfl
  have s14 := (HY4.out.below hb1).at_ 14 rfl
  clear hb1 r1 r2 r3 r4 r5 S1 S2 HY4 HP4 HQ4 HB4
  cases k2 with
  | false =>
    have HF := Lib.hid (show false = ans by rw [← HA.out]; simp)
    go_wp2
    go_ret
    exact ⟨by rw [← HF.out]; rfl, HV1.out⟩
  | true =>
  go_wp2_with fail
  refine HT1.out.mono ?_
  rintro e v2 ⟨rfl, hb2⟩
  have HV2 := Lib.hid (below_next HV1.out hb2)
  clear hb2
  have HF := Lib.hid (show k3 = ans by rw [← HA.out]; simp)
  go_wp2
  go_ret
  exact ⟨by rw [← HF.out]; rfl, HV2.out⟩
end Go.Proofs.YthfcjlndaajkfaaGreat
namespace Go.Proofs.YthfcjlndaajkfaaGreat
open Go.RowKit
theorem Ed.flat_take {α : Type} {f : α → List Value} {s : Nat} (hs : ∀ x, (f x).length = s) : ∀ (l : List α) (k : Nat), (l.flatMap f).take (k * s) = (l.take k).flatMap f
  | [], k => by simp
  | x :: xs, 0 => by simp
  | x :: xs, k + 1 => by
    rw [List.flatMap_cons, List.take_succ_cons, List.flatMap_cons, Nat.succ_mul, Nat.add_comm, ← hs x, List.take_length_add_append, hs x, Ed.flat_take hs xs k]
theorem Ed.flat_drop {α : Type} {f : α → List Value} {s : Nat} (hs : ∀ x, (f x).length = s) : ∀ (l : List α) (k : Nat), (l.flatMap f).drop (k * s) = (l.drop k).flatMap f
  | [], k => by simp
  | x :: xs, 0 => by simp
  | x :: xs, k + 1 => by
    rw [List.flatMap_cons, List.drop_succ_cons, Nat.succ_mul, Nat.add_comm, ← hs x, List.drop_length_add_append, hs x, Ed.flat_drop hs xs k]
theorem Ed.lcells_one (x : Ed.Lg) : ∀ u ∈ Ed.Lg.cells x, u.oneCell' = true := by
  intro u hu
  simp only [Ed.Lg.cells, List.mem_cons, List.not_mem_nil, or_false] at hu
  rcases hu with rfl | rfl | rfl | rfl <;> rfl
theorem Ed.cut_length {α : Type} {l : List α} {i : Nat} (h : i < l.length) : (Ed.cut l i).length = l.length - 1 := by
  unfold Ed.cut
  rw [List.length_append, List.length_take, List.length_drop]
  omega
theorem OwnC.behinds {s : Nat} {base n cap g : Nat} {E : TypeId} {vs : List Value} : ∀ (us : List Value) (o : Nat) (w : World), OwnC s w base E (some ⟨g, 0, none⟩) n cap vs → n * s ≤ o → OwnC s (w.setCells g o us) base E (some ⟨g, 0, none⟩) n cap vs
  | [], o, w, h, _ => h
  | u :: us, o, w, h, ho => by
    have h1 := (h.set1 o u).1
    rw [List.set_eq_of_length_le (by have : vs.length = n * s := h.1; omega)] at h1
    exact OwnC.behinds us (o + 1) _ h1 (by omega)
theorem grown_setCells (g : Nat) : ∀ (us : List Value) (o : Nat) (w : World), w.grownBy (w.setCells g o us) (some g)
  | [], _, w => World.grownBy.refl w _
  | u :: us, o, w => (grown_cell w g o u).trans (grown_setCells g us (o + 1) _)
theorem OwnC.takeN {s : Nat} {w : World} {base n cap : Nat} {E : TypeId} {A : Option Addr} {vs : List Value} (h : OwnC s w base E A n cap vs) (hA : A ≠ none) {k : Nat} (hk : k ≤ n) : OwnC s w base E A k cap (vs.take (k * s)) := by
  obtain ⟨g, hg⟩ : ∃ g, A = some ⟨g, 0, none⟩ := by
    rcases h.2 with ⟨hv, h0⟩ | ⟨g, c, cur, hv, _⟩
    · injection hv with e; exact absurd e hA
    · injection hv with e; exact ⟨g, e⟩
  subst hg
  exact h.first hk
theorem Ed.log_append (a b : List Ed.Lg) : Ed.lflat (a ++ b) = Ed.lflat a ++ Ed.lflat b := by unfold Ed.lflat; rw [List.flatMap_append]
theorem Ed.log_length (l : List Ed.Lg) : (Ed.lflat l).length = l.length * 4 := Pk.flatMap_length (f := Ed.Lg.cells) (fun _ => rfl) l
theorem Ed.log_take (l : List Ed.Lg) (k : Nat) : (Ed.lflat l).take (k * 4) = Ed.lflat (l.take k) := Ed.flat_take (f := Ed.Lg.cells) (fun _ => rfl) l k
theorem Ed.log_drop (l : List Ed.Lg) (k : Nat) : (Ed.lflat l).drop (k * 4) = Ed.lflat (l.drop k) := Ed.flat_drop (f := Ed.Lg.cells) (fun _ => rfl) l k
theorem Ed.table_append (a b : List Pk.Tb) : Pk.flat (a ++ b) = Pk.flat a ++ Pk.flat b := by unfold Pk.flat; rw [List.flatMap_append]
theorem Ed.table_length (l : List Pk.Tb) : (Pk.flat l).length = l.length * 9 := Pk.flatMap_length (f := Pk.Tb.cells) (fun _ => rfl) l
theorem Ed.table_take (l : List Pk.Tb) (k : Nat) : (Pk.flat l).take (k * 9) = Pk.flat (l.take k) := Ed.flat_take (f := Pk.Tb.cells) (fun _ => rfl) l k
theorem Ed.table_drop (l : List Pk.Tb) (k : Nat) : (Pk.flat l).drop (k * 9) = Pk.flat (l.drop k) := Ed.flat_drop (f := Pk.Tb.cells) (fun _ => rfl) l k
/-- append where there is room, at a step of a drawn region. -/
theorem step_fits {s : Nat} {w : World} {base n cap g : Nat} {vs : List Value} {S E : TypeId} {z : Value} {bytes : Nat} (O : Many s S E z bytes) {ops : Array Oper} {o : Oper} {a : Act} {K : Act → World → Prop} {Q : Exit → Act → World → Prop} {F : Prop} (hw : Region.wanted o (yielded ops a.tmps) = true) (d : Nat) (hd : o.dst = some d) (s1 x : Operand)
    (ho : o.op = .call { callee := .builtin .append, args := #[s1, x], argTypes := #[S, S] })
    (hs : a.eval s1 = .slice (some ⟨g, 0, none⟩) n cap) (hown : OwnC s w base E (some ⟨g, 0, none⟩) n cap vs) (ad : Addr) (m c : Nat) (news : List Value) (h1 : ∀ u ∈ news, u.oneCell' = true) (hx : a.eval x = .slice (some ad) m c) (hl : news.length = m * s) (hr : ∀ j u, news[j]? = some u → w.cell? (ad.add j) = some u) (hroom : n + m ≤ cap)
    (h : ∀ w', OwnC s w' base E (some ⟨g, 0, none⟩) (n + m) cap (vs ++ news) → w.grownBy w' (some g) → K (a.put (some d) (.slice (some ⟨g, 0, none⟩) (n + m) cap)) w') :
    if Region.wanted o (yielded ops a.tmps) = true then Oper.wp Tryz.prog o a w K Q else F := by
  rw [if_pos hw]
  obtain ⟨i, hi, hz0, hz1, hz2⟩ := info_parts O.info
  obtain ⟨w', hrun, ho2, hg2⟩ := run_append_fits (P := Tryz.prog) w base S o.type E i s O.under hi hz1 g n cap vs hown ad m c news hl hr h1 hroom
  unfold Oper.wp execOp
  simp only [ho, resolve, invoke, builtin, Sem.run_bind, Sem.run_pure, Result.andThen_ok, List.map_toArray, List.map_cons, List.map_nil, hs, hx, hrun]
  have h2 := h w' ho2 hg2
  rw [← hd] at h2
  exact h2
end Go.Proofs.YthfcjlndaajkfaaGreat
