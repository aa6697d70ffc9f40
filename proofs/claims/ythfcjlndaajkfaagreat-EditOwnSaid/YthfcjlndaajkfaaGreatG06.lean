/- edit.mayBe: kinds 1, 2. edit.mayBe: kinds 3. -/
import Derived.Test.YthfcjlndaajkfaaGreatG05
namespace Go.Proofs.YthfcjlndaajkfaaGreat
open Go.RowKit
set_option linter.unusedVariables false
set_option maxRecDepth 100000 in
set_option maxHeartbeats 16000000 in
theorem may1_any (id nn pid pep : Int) (P : Option Addr) (pn pc : Nat) (ps : List (Int × Int)) (tid tep : Int) (Q : Option Addr) (qn qc : Nat) (sz lv ct : Int) (lo hi : ByteArray) (tp : Int) (qs : List (Int × Int)) (w : World) (hP : PairsOk w P pn pc ps) (hQ : PairsOk w Q qn qc qs) (hls : lo.size ≤ 9223372036854775807 ∧ hi.size ≤ 9223372036854775807) (hfit : (⟨tid, tep, Q, qn, qc, sz, lv, ct, lo, hi, tp⟩ : Pk.Tb).fits) :
    Calls Tryz.prog 47 #[.agg #[.int .i64 1, .int .i64 id, .int .i64 nn, .int .i64 pid, .int .i64 pep, .slice P pn pc, .int .i64 tid, .int .i64 tep, .slice Q qn qc, .int .i64 sz, .int .i64 lv, .int .i64 ct, .string lo, .string hi, .int .i64 tp]] w fun e w' => e = .returned (.bool (⟨1, id, nn, ⟨pid, pep, ps⟩, ⟨⟨tid, tep, qs⟩, sz, lv, ct, lo, hi, tp⟩⟩ : Ed.Et).ok) ∧ Below w.heap.size w w' := by
  have hal : Below w.heap.size w (w.alloc (.cells #[.int .i64 1, .int .i64 id, .int .i64 nn, .int .i64 pid, .int .i64 pep, .slice P pn pc, .int .i64 tid, .int .i64 tep, .slice Q qn qc, .int .i64 sz, .int .i64 lv, .int .i64 ct, .string lo, .string hi, .int .i64 tp] 37)) := (Below.refl _ _).alloc (Nat.le_refl _) _
  have HX := hd_ (Holds.new w #[.int .i64 1, .int .i64 id, .int .i64 nn, .int .i64 pid, .int .i64 pep, .slice P pn pc, .int .i64 tid, .int .i64 tep, .slice Q qn qc, .int .i64 sz, .int .i64 lv, .int .i64 ct, .string lo, .string hi, .int .i64 tp] 37)
  have HB := hd_ hal
  have HPw := hd_ (show (∀ g o, P = some ⟨g, o, none⟩ → 0 < pn → g ≠ w.heap.size + 1) ∧ (∀ g o, Q = some ⟨g, o, none⟩ → 0 < qn → g ≠ w.heap.size + 1) from ⟨fun g o e h0 => by have := hP.blk e h0; omega, fun g o e h0 => by have := hQ.blk e h0; omega⟩)
  have HP := hd_ (hP.below hal)
  have HQ := hd_ (hQ.below hal)
  have HFit := hd_ (And.intro hls hfit)
  have HUs := hd_ (show (w.alloc (.cells #[.int .i64 1, .int .i64 id, .int .i64 nn, .int .i64 pid, .int .i64 pep, .slice P pn pc, .int .i64 tid, .int .i64 tep, .slice Q qn qc, .int .i64 sz, .int .i64 lv, .int .i64 ct, .string lo, .string hi, .int .i64 tp] 37)).heap.size = w.heap.size + 1 by simp)
  clear hal hP hQ hls hfit
  have HA := hd_ (show (Ed.from_ nn 1 2147483647 && (id == 0) && (⟨pid, pep, ps⟩ : Ed.Pl).eq Ed.noP && (⟨⟨tid, tep, qs⟩, sz, lv, ct, lo, hi, tp⟩ : Ed.Ta).eq Ed.noT) = (⟨1, id, nn, ⟨pid, pep, ps⟩, ⟨⟨tid, tep, qs⟩, sz, lv, ct, lo, hi, tp⟩⟩ : Ed.Et).ok from rfl)
  generalize (⟨1, id, nn, ⟨pid, pep, ps⟩, ⟨⟨tid, tep, qs⟩, sz, lv, ct, lo, hi, tp⟩⟩ : Ed.Et).ok = ans at *
  go_enter Tryz.func47, Tryz.ntmps47
  go_upto_region 1 with fail
  generalize (w.alloc (.cells #[.int .i64 1, .int .i64 id, .int .i64 nn, .int .i64 pid, .int .i64 pep, .slice P pn pc, .int .i64 tid, .int .i64 tep, .slice Q qn qc, .int .i64 sz, .int .i64 lv, .int .i64 ct, .string lo, .string hi, .int .i64 tp] 37)) = u at *
  replace HX : Hid (Holds u w.heap.size [.int .i64 1, .int .i64 id, .int .i64 nn, .int .i64 pid, .int .i64 pep, .slice P pn pc, .int .i64 tid, .int .i64 tep, .slice Q qn qc, .int .i64 sz, .int .i64 lv, .int .i64 ct, .string lo, .string hi, .int .i64 tp]) := HX
  go_cut [3, 4] from 3 to 5 (fun s3 s4 wx => s3 = .bool true ∧ s4 = .pointer (some ⟨w.heap.size + 1, 0, none⟩) ∧ Hid (Holds wx w.heap.size [.int .i64 1, .int .i64 id, .int .i64 nn, .int .i64 pid, .int .i64 pep, .slice P pn pc, .int .i64 tid, .int .i64 tep, .slice Q qn qc, .int .i64 sz, .int .i64 lv, .int .i64 ct, .string lo, .string hi, .int .i64 tp] ∧ Holds wx (w.heap.size + 1) [.int .i64 1, .int .i64 id, .int .i64 nn, .int .i64 pid, .int .i64 pep, .slice P pn pc, .int .i64 tid, .int .i64 tep, .slice Q qn qc, .int .i64 sz, .int .i64 lv, .int .i64 ct, .string lo, .string hi, .int .i64 tp] ∧ Below u.heap.size u wx))
  case first =>
    have Hsh := hd_ (HX.out.below (show Below u.heap.size u u.drew from (Below.refl _ _).drew))
    obtain ⟨x0, x1, x2, x3, x4, x5, x6, x7, x8, x9, x10, x11, x12, x13, x14⟩ := Hsh.out.all15
    clear Hsh
    have Hsh := hd_ (HX.out.below (show Below u.heap.size u (u.alloc (.cells #[.int .i64 0, .int .i64 0, .int .i64 0, .int .i64 0, .int .i64 0, .slice none 0 0, .int .i64 0, .int .i64 0, .slice none 0 0, .int .i64 0, .int .i64 0, .int .i64 0, .string ⟨#[]⟩, .string ⟨#[]⟩, .int .i64 0] 37)) from (Below.refl _ _).alloc (Nat.le_refl _) _))
    obtain ⟨z0, z1, z2, z3, z4, z5, z6, z7, z8, z9, z10, z11, z12, z13, z14⟩ := Hsh.out.all15
    clear Hsh
    have hus := HUs.out
    go_region
    all_goals
      go_wp2_with fail
      go_meet
      case rel =>
        have hal : Below u.heap.size u (u.drew.alloc (.cells #[.int .i64 1, .int .i64 id, .int .i64 nn, .int .i64 pid, .int .i64 pep, .slice P pn pc, .int .i64 tid, .int .i64 tep, .slice Q qn qc, .int .i64 sz, .int .i64 lv, .int .i64 ct, .string lo, .string hi, .int .i64 tp] 37)) := ((Below.refl _ _).drew).alloc (Nat.le_refl _) _
        exact ⟨rfl, by rw [← hus], hd_ ⟨HX.out.below hal, by rw [← hus]; exact Holds.new u.drew #[.int .i64 1, .int .i64 id, .int .i64 nn, .int .i64 pid, .int .i64 pep, .slice P pn pc, .int .i64 tid, .int .i64 tep, .slice Q qn qc, .int .i64 sz, .int .i64 lv, .int .i64 ct, .string lo, .string hi, .int .i64 tp] 37, hal⟩⟩
  case rest =>
  obtain ⟨rfl, rfl, HC⟩ := hcut
  have HB2 := hd_ (below_next HB.out HC.out.2.2)
  have HP2 := hd_ (HP.out.below HC.out.2.2)
  have HQ2 := hd_ (HQ.out.below HC.out.2.2)
  have HX2 := hd_ HC.out.1
  have HY2 := hd_ HC.out.2.1
  clear HX HB HP HQ HC HUs
  have ne0 : w.heap.size ≠ w.heap.size + 1 := by omega
  have F1 := within_any nn 1 2147483647 wc
  generalize Ed.from_ nn 1 2147483647 = k0 at *
  have F1 := hd_ F1
  have x0 := HX2.out.at_ 0 rfl
  have x2 := HX2.out.at_ 2 rfl
  go_wp2_with fail
  refine F1.out.mono ?_
  rintro e v ⟨rfl, rfl⟩
  clear F1 x0 x2
  have HX3 := HX2
  have HY3 := HY2
  have HB3 := HB2
  have HP3 := HP2
  have HQ3 := HQ2
  clear HX2 HY2 HB2 HP2 HQ2
  have HPb := hd_ (show (∀ g o, P = some ⟨g, o, none⟩ → 0 < pn → g ≠ w.heap.size + 1) ∧ (∀ g o, Q = some ⟨g, o, none⟩ → 0 < qn → g ≠ w.heap.size + 1) from HPw.out)
  have y2 := HY3.out.at_ 2 rfl
  have yf2 := HY3.out.2.2 2
  have HY4 := hd_ (show Holds (v.setCell ⟨w.heap.size + 1, 2, none⟩ (.int .i64 0)) (w.heap.size + 1) [.int .i64 1, .int .i64 id, .int .i64 0, .int .i64 pid, .int .i64 pep, .slice P pn pc, .int .i64 tid, .int .i64 tep, .slice Q qn qc, .int .i64 sz, .int .i64 lv, .int .i64 ct, .string lo, .string hi, .int .i64 tp] from (HY3.out.set 2 (.int .i64 0) (by simp)))
  have HX4 := hd_ (show Holds (v.setCell ⟨w.heap.size + 1, 2, none⟩ (.int .i64 0)) w.heap.size [.int .i64 1, .int .i64 id, .int .i64 nn, .int .i64 pid, .int .i64 pep, .slice P pn pc, .int .i64 tid, .int .i64 tep, .slice Q qn qc, .int .i64 sz, .int .i64 lv, .int .i64 ct, .string lo, .string hi, .int .i64 tp] from (HX3.out.other ne0))
  have HB4 := hd_ (show Below w.heap.size w (v.setCell ⟨w.heap.size + 1, 2, none⟩ (.int .i64 0)) from (HB3.out.setCell (Nat.le_succ _) _))
  have hgr : v.grownBy (v.setCell ⟨w.heap.size + 1, 2, none⟩ (.int .i64 0)) (some (w.heap.size + 1)) := (World.grownBy.refl v (some (w.heap.size + 1))).trans (grown_cell _ _ _ _)
  have HP4 := hd_ (pairs_grown HP3.out HPb.out.1 hgr)
  have HQ4 := hd_ (pairs_grown HQ3.out HPb.out.2 hgr)
  go_upto_region 17 with fail
  clear y2 yf2 hgr HX4 HX3 HY3 HB3 HP3 HQ3 HPb
  generalize (v.setCell ⟨w.heap.size + 1, 2, none⟩ (.int .i64 0)) = q at *
  have S1 : Calls Tryz.prog 67 #[.agg #[.int .i64 pid, .int .i64 pep, .slice P pn pc], .agg #[.int .i64 0, .int .i64 0, .slice none 0 0]] q fun e w' => e = .returned (.bool ((⟨pid, pep, ps⟩ : Ed.Pl).eq Ed.noP)) ∧ Below q.heap.size q w' := sameplace_any pid pep P pn pc ps 0 0 none 0 0 [] q HP4.out.1 ⟨rfl, RdC.nil _ _ _⟩ HP4.out.2.2 (by omega)
  generalize (⟨pid, pep, ps⟩ : Ed.Pl).eq Ed.noP = k2 at *
  have S1 := hd_ S1
  have S2 : ∀ v, Below q.heap.size q v → Calls Tryz.prog 46 #[.agg #[.int .i64 tid, .int .i64 tep, .slice Q qn qc, .int .i64 sz, .int .i64 lv, .int .i64 ct, .string lo, .string hi, .int .i64 tp], .agg #[.int .i64 0, .int .i64 0, .slice none 0 0, .int .i64 0, .int .i64 0, .int .i64 0, .string ⟨#[]⟩, .string ⟨#[]⟩, .int .i64 0]] v fun e w' => e = .returned (.bool ((⟨⟨tid, tep, qs⟩, sz, lv, ct, lo, hi, tp⟩ : Ed.Ta).eq Ed.noT)) ∧ Below v.heap.size v w' := fun v hv => sametable_any tid tep Q qn qc sz lv ct lo hi tp qs 0 0 none 0 0 0 0 0 ⟨#[]⟩ ⟨#[]⟩ 0 [] v (HQ4.out.1.below hv) ⟨rfl, RdC.nil _ _ _⟩ HQ4.out.2.2 (by omega)
  generalize (⟨⟨tid, tep, qs⟩, sz, lv, ct, lo, hi, tp⟩ : Ed.Ta).eq Ed.noT = k3 at *
  have S2 := hd_ S2
  have r1 := HY4.out.at_ 1 rfl
  have r2 := HY4.out.at_ 2 rfl
  have r3 := HY4.out.at_ 3 rfl
  have r4 := HY4.out.at_ 4 rfl
  have r5 := HY4.out.at_ 5 rfl
  cases k0 with
  | false =>
    have HF := hd_ (show false = ans by rw [← HA.out]; simp)
    go_wp2
    go_ret
    exact ⟨by rw [← HF.out]; rfl, HB4.out⟩
  | true =>
  cases g1 : (id == 0) with
  | false =>
    rw [g1] at HA
    have HF := hd_ (show false = ans by rw [← HA.out]; simp)
    go_wp2
    go_ret
    exact ⟨by rw [← HF.out]; rfl, HB4.out⟩
  | true =>
  rw [g1] at HA
  go_wp2_with fail
  refine S1.out.mono ?_
  rintro e v1 ⟨rfl, hb1⟩
  have HV1 := hd_ (below_next HB4.out hb1)
  have HT1 := hd_ (S2.out v1 hb1)
  have s6 := (HY4.out.below hb1).at_ 6 rfl
  have s7 := (HY4.out.below hb1).at_ 7 rfl
  have s8 := (HY4.out.below hb1).at_ 8 rfl
  have s9 := (HY4.out.below hb1).at_ 9 rfl
  have s10 := (HY4.out.below hb1).at_ 10 rfl
  have s11 := (HY4.out.below hb1).at_ 11 rfl
  have s12 := (HY4.out.below hb1).at_ 12 rfl
  have s13 := (HY4.out.below hb1).at_ 13 rfl
  have s14 := (HY4.out.below hb1).at_ 14 rfl
  clear hb1 r1 r2 r3 r4 r5 S1 S2 HY4 HP4 HQ4 HB4
  cases k2 with
  | false =>
    have HF := hd_ (show false = ans by rw [← HA.out]; simp)
    go_wp2
    go_ret
    exact ⟨by rw [← HF.out]; rfl, HV1.out⟩
  | true =>
  go_wp2_with fail
  refine HT1.out.mono ?_
  rintro e v2 ⟨rfl, hb2⟩
  have HV2 := hd_ (below_next HV1.out hb2)
  clear hb2
  have HF := hd_ (show k3 = ans by rw [← HA.out]; simp)
  go_wp2
  go_ret
  exact ⟨by rw [← HF.out]; rfl, HV2.out⟩
set_option maxRecDepth 100000 in
set_option maxHeartbeats 16000000 in
theorem may2_any (id nn pid pep : Int) (P : Option Addr) (pn pc : Nat) (ps : List (Int × Int)) (tid tep : Int) (Q : Option Addr) (qn qc : Nat) (sz lv ct : Int) (lo hi : ByteArray) (tp : Int) (qs : List (Int × Int)) (w : World) (hP : PairsOk w P pn pc ps) (hQ : PairsOk w Q qn qc qs) (hls : lo.size ≤ 9223372036854775807 ∧ hi.size ≤ 9223372036854775807) (hfit : (⟨tid, tep, Q, qn, qc, sz, lv, ct, lo, hi, tp⟩ : Pk.Tb).fits) :
    Calls Tryz.prog 47 #[.agg #[.int .i64 2, .int .i64 id, .int .i64 nn, .int .i64 pid, .int .i64 pep, .slice P pn pc, .int .i64 tid, .int .i64 tep, .slice Q qn qc, .int .i64 sz, .int .i64 lv, .int .i64 ct, .string lo, .string hi, .int .i64 tp]] w fun e w' => e = .returned (.bool (⟨2, id, nn, ⟨pid, pep, ps⟩, ⟨⟨tid, tep, qs⟩, sz, lv, ct, lo, hi, tp⟩⟩ : Ed.Et).ok) ∧ Below w.heap.size w w' := by
  have hal : Below w.heap.size w (w.alloc (.cells #[.int .i64 2, .int .i64 id, .int .i64 nn, .int .i64 pid, .int .i64 pep, .slice P pn pc, .int .i64 tid, .int .i64 tep, .slice Q qn qc, .int .i64 sz, .int .i64 lv, .int .i64 ct, .string lo, .string hi, .int .i64 tp] 37)) := (Below.refl _ _).alloc (Nat.le_refl _) _
  have HX := hd_ (Holds.new w #[.int .i64 2, .int .i64 id, .int .i64 nn, .int .i64 pid, .int .i64 pep, .slice P pn pc, .int .i64 tid, .int .i64 tep, .slice Q qn qc, .int .i64 sz, .int .i64 lv, .int .i64 ct, .string lo, .string hi, .int .i64 tp] 37)
  have HB := hd_ hal
  have HPw := hd_ (show (∀ g o, P = some ⟨g, o, none⟩ → 0 < pn → g ≠ w.heap.size + 1) ∧ (∀ g o, Q = some ⟨g, o, none⟩ → 0 < qn → g ≠ w.heap.size + 1) from ⟨fun g o e h0 => by have := hP.blk e h0; omega, fun g o e h0 => by have := hQ.blk e h0; omega⟩)
  have HP := hd_ (hP.below hal)
  have HQ := hd_ (hQ.below hal)
  have HFit := hd_ (And.intro hls hfit)
  have HUs := hd_ (show (w.alloc (.cells #[.int .i64 2, .int .i64 id, .int .i64 nn, .int .i64 pid, .int .i64 pep, .slice P pn pc, .int .i64 tid, .int .i64 tep, .slice Q qn qc, .int .i64 sz, .int .i64 lv, .int .i64 ct, .string lo, .string hi, .int .i64 tp] 37)).heap.size = w.heap.size + 1 by simp)
  clear hal hP hQ hls hfit
  have HA := hd_ (show (Ed.from_ nn 0 1099511627776 && (id == 0) && (⟨pid, pep, ps⟩ : Ed.Pl).eq Ed.noP && (⟨⟨tid, tep, qs⟩, sz, lv, ct, lo, hi, tp⟩ : Ed.Ta).eq Ed.noT) = (⟨2, id, nn, ⟨pid, pep, ps⟩, ⟨⟨tid, tep, qs⟩, sz, lv, ct, lo, hi, tp⟩⟩ : Ed.Et).ok from rfl)
  generalize (⟨2, id, nn, ⟨pid, pep, ps⟩, ⟨⟨tid, tep, qs⟩, sz, lv, ct, lo, hi, tp⟩⟩ : Ed.Et).ok = ans at *
  go_enter Tryz.func47, Tryz.ntmps47
  go_upto_region 1 with fail
  generalize (w.alloc (.cells #[.int .i64 2, .int .i64 id, .int .i64 nn, .int .i64 pid, .int .i64 pep, .slice P pn pc, .int .i64 tid, .int .i64 tep, .slice Q qn qc, .int .i64 sz, .int .i64 lv, .int .i64 ct, .string lo, .string hi, .int .i64 tp] 37)) = u at *
  replace HX : Hid (Holds u w.heap.size [.int .i64 2, .int .i64 id, .int .i64 nn, .int .i64 pid, .int .i64 pep, .slice P pn pc, .int .i64 tid, .int .i64 tep, .slice Q qn qc, .int .i64 sz, .int .i64 lv, .int .i64 ct, .string lo, .string hi, .int .i64 tp]) := HX
  go_cut [3, 4] from 3 to 5 (fun s3 s4 wx => s3 = .bool true ∧ s4 = .pointer (some ⟨w.heap.size + 1, 0, none⟩) ∧ Hid (Holds wx w.heap.size [.int .i64 2, .int .i64 id, .int .i64 nn, .int .i64 pid, .int .i64 pep, .slice P pn pc, .int .i64 tid, .int .i64 tep, .slice Q qn qc, .int .i64 sz, .int .i64 lv, .int .i64 ct, .string lo, .string hi, .int .i64 tp] ∧ Holds wx (w.heap.size + 1) [.int .i64 2, .int .i64 id, .int .i64 nn, .int .i64 pid, .int .i64 pep, .slice P pn pc, .int .i64 tid, .int .i64 tep, .slice Q qn qc, .int .i64 sz, .int .i64 lv, .int .i64 ct, .string lo, .string hi, .int .i64 tp] ∧ Below u.heap.size u wx))
  case first =>
    have Hsh := hd_ (HX.out.below (show Below u.heap.size u u.drew from (Below.refl _ _).drew))
    obtain ⟨x0, x1, x2, x3, x4, x5, x6, x7, x8, x9, x10, x11, x12, x13, x14⟩ := Hsh.out.all15
    clear Hsh
    have Hsh := hd_ (HX.out.below (show Below u.heap.size u (u.alloc (.cells #[.int .i64 0, .int .i64 0, .int .i64 0, .int .i64 0, .int .i64 0, .slice none 0 0, .int .i64 0, .int .i64 0, .slice none 0 0, .int .i64 0, .int .i64 0, .int .i64 0, .string ⟨#[]⟩, .string ⟨#[]⟩, .int .i64 0] 37)) from (Below.refl _ _).alloc (Nat.le_refl _) _))
    obtain ⟨z0, z1, z2, z3, z4, z5, z6, z7, z8, z9, z10, z11, z12, z13, z14⟩ := Hsh.out.all15
    clear Hsh
    have hus := HUs.out
    go_region
    all_goals
      go_wp2_with fail
      go_meet
      case rel =>
        have hal : Below u.heap.size u (u.drew.alloc (.cells #[.int .i64 2, .int .i64 id, .int .i64 nn, .int .i64 pid, .int .i64 pep, .slice P pn pc, .int .i64 tid, .int .i64 tep, .slice Q qn qc, .int .i64 sz, .int .i64 lv, .int .i64 ct, .string lo, .string hi, .int .i64 tp] 37)) := ((Below.refl _ _).drew).alloc (Nat.le_refl _) _
        exact ⟨rfl, by rw [← hus], hd_ ⟨HX.out.below hal, by rw [← hus]; exact Holds.new u.drew #[.int .i64 2, .int .i64 id, .int .i64 nn, .int .i64 pid, .int .i64 pep, .slice P pn pc, .int .i64 tid, .int .i64 tep, .slice Q qn qc, .int .i64 sz, .int .i64 lv, .int .i64 ct, .string lo, .string hi, .int .i64 tp] 37, hal⟩⟩
  case rest =>
  obtain ⟨rfl, rfl, HC⟩ := hcut
  have HB2 := hd_ (below_next HB.out HC.out.2.2)
  have HP2 := hd_ (HP.out.below HC.out.2.2)
  have HQ2 := hd_ (HQ.out.below HC.out.2.2)
  have HX2 := hd_ HC.out.1
  have HY2 := hd_ HC.out.2.1
  clear HX HB HP HQ HC HUs
  have ne0 : w.heap.size ≠ w.heap.size + 1 := by omega
  have F1 := within_any nn 0 1099511627776 wc
  generalize Ed.from_ nn 0 1099511627776 = k0 at *
  have F1 := hd_ F1
  have x0 := HX2.out.at_ 0 rfl
  have x2 := HX2.out.at_ 2 rfl
  go_wp2_with fail
  refine F1.out.mono ?_
  rintro e v ⟨rfl, rfl⟩
  clear F1 x0 x2
  have HX3 := HX2
  have HY3 := HY2
  have HB3 := HB2
  have HP3 := HP2
  have HQ3 := HQ2
  clear HX2 HY2 HB2 HP2 HQ2
  have HPb := hd_ (show (∀ g o, P = some ⟨g, o, none⟩ → 0 < pn → g ≠ w.heap.size + 1) ∧ (∀ g o, Q = some ⟨g, o, none⟩ → 0 < qn → g ≠ w.heap.size + 1) from HPw.out)
  have y2 := HY3.out.at_ 2 rfl
  have yf2 := HY3.out.2.2 2
  have HY4 := hd_ (show Holds (v.setCell ⟨w.heap.size + 1, 2, none⟩ (.int .i64 0)) (w.heap.size + 1) [.int .i64 2, .int .i64 id, .int .i64 0, .int .i64 pid, .int .i64 pep, .slice P pn pc, .int .i64 tid, .int .i64 tep, .slice Q qn qc, .int .i64 sz, .int .i64 lv, .int .i64 ct, .string lo, .string hi, .int .i64 tp] from (HY3.out.set 2 (.int .i64 0) (by simp)))
  have HX4 := hd_ (show Holds (v.setCell ⟨w.heap.size + 1, 2, none⟩ (.int .i64 0)) w.heap.size [.int .i64 2, .int .i64 id, .int .i64 nn, .int .i64 pid, .int .i64 pep, .slice P pn pc, .int .i64 tid, .int .i64 tep, .slice Q qn qc, .int .i64 sz, .int .i64 lv, .int .i64 ct, .string lo, .string hi, .int .i64 tp] from (HX3.out.other ne0))
  have HB4 := hd_ (show Below w.heap.size w (v.setCell ⟨w.heap.size + 1, 2, none⟩ (.int .i64 0)) from (HB3.out.setCell (Nat.le_succ _) _))
  have hgr : v.grownBy (v.setCell ⟨w.heap.size + 1, 2, none⟩ (.int .i64 0)) (some (w.heap.size + 1)) := (World.grownBy.refl v (some (w.heap.size + 1))).trans (grown_cell _ _ _ _)
  have HP4 := hd_ (pairs_grown HP3.out HPb.out.1 hgr)
  have HQ4 := hd_ (pairs_grown HQ3.out HPb.out.2 hgr)
  go_upto_region 17 with fail
  clear y2 yf2 hgr HX4 HX3 HY3 HB3 HP3 HQ3 HPb
  generalize (v.setCell ⟨w.heap.size + 1, 2, none⟩ (.int .i64 0)) = q at *
  have S1 : Calls Tryz.prog 67 #[.agg #[.int .i64 pid, .int .i64 pep, .slice P pn pc], .agg #[.int .i64 0, .int .i64 0, .slice none 0 0]] q fun e w' => e = .returned (.bool ((⟨pid, pep, ps⟩ : Ed.Pl).eq Ed.noP)) ∧ Below q.heap.size q w' := sameplace_any pid pep P pn pc ps 0 0 none 0 0 [] q HP4.out.1 ⟨rfl, RdC.nil _ _ _⟩ HP4.out.2.2 (by omega)
  generalize (⟨pid, pep, ps⟩ : Ed.Pl).eq Ed.noP = k2 at *
  have S1 := hd_ S1
  have S2 : ∀ v, Below q.heap.size q v → Calls Tryz.prog 46 #[.agg #[.int .i64 tid, .int .i64 tep, .slice Q qn qc, .int .i64 sz, .int .i64 lv, .int .i64 ct, .string lo, .string hi, .int .i64 tp], .agg #[.int .i64 0, .int .i64 0, .slice none 0 0, .int .i64 0, .int .i64 0, .int .i64 0, .string ⟨#[]⟩, .string ⟨#[]⟩, .int .i64 0]] v fun e w' => e = .returned (.bool ((⟨⟨tid, tep, qs⟩, sz, lv, ct, lo, hi, tp⟩ : Ed.Ta).eq Ed.noT)) ∧ Below v.heap.size v w' := fun v hv => sametable_any tid tep Q qn qc sz lv ct lo hi tp qs 0 0 none 0 0 0 0 0 ⟨#[]⟩ ⟨#[]⟩ 0 [] v (HQ4.out.1.below hv) ⟨rfl, RdC.nil _ _ _⟩ HQ4.out.2.2 (by omega)
  generalize (⟨⟨tid, tep, qs⟩, sz, lv, ct, lo, hi, tp⟩ : Ed.Ta).eq Ed.noT = k3 at *
  have S2 := hd_ S2
  have r1 := HY4.out.at_ 1 rfl
  have r2 := HY4.out.at_ 2 rfl
  have r3 := HY4.out.at_ 3 rfl
  have r4 := HY4.out.at_ 4 rfl
  have r5 := HY4.out.at_ 5 rfl
  cases k0 with
  | false =>
    have HF := hd_ (show false = ans by rw [← HA.out]; simp)
    go_wp2
    go_ret
    exact ⟨by rw [← HF.out]; rfl, HB4.out⟩
  | true =>
  cases g1 : (id == 0) with
  | false =>
    rw [g1] at HA
    have HF := hd_ (show false = ans by rw [← HA.out]; simp)
    go_wp2
    go_ret
    exact ⟨by rw [← HF.out]; rfl, HB4.out⟩
  | true =>
  rw [g1] at HA
  go_wp2_with fail
  refine S1.out.mono ?_
  rintro e v1 ⟨rfl, hb1⟩
  have HV1 := hd_ (below_next HB4.out hb1)
  have HT1 := hd_ (S2.out v1 hb1)
  have s6 := (HY4.out.below hb1).at_ 6 rfl
  have s7 := (HY4.out.below hb1).at_ 7 rfl
  have s8 := (HY4.out.below hb1).at_ 8 rfl
  have s9 := (HY4.out.below hb1).at_ 9 rfl
  have s10 := (HY4.out.below hb1).at_ 10 rfl
  have s11 := (HY4.out.below hb1).at_ 11 rfl
  have s12 := (HY4.out.below hb1).at_ 12 rfl
  have s13 := (HY4.out.below hb1).at_ 13 rfl
  have s14 := (HY4.out.below hb1).at_ 14 rfl
  clear hb1 r1 r2 r3 r4 r5 S1 S2 HY4 HP4 HQ4 HB4
  cases k2 with
  | false =>
    have HF := hd_ (show false = ans by rw [← HA.out]; simp)
    go_wp2
    go_ret
    exact ⟨by rw [← HF.out]; rfl, HV1.out⟩
  | true =>
  go_wp2_with fail
  refine HT1.out.mono ?_
  rintro e v2 ⟨rfl, hb2⟩
  have HV2 := hd_ (below_next HV1.out hb2)
  clear hb2
  have HF := hd_ (show k3 = ans by rw [← HA.out]; simp)
  go_wp2
  go_ret
  exact ⟨by rw [← HF.out]; rfl, HV2.out⟩
end Go.Proofs.YthfcjlndaajkfaaGreat
namespace Go.Proofs.YthfcjlndaajkfaaGreat
open Go.RowKit
set_option linter.unusedVariables false
set_option maxRecDepth 100000 in
set_option maxHeartbeats 16000000 in
theorem may3_any (id nn pid pep : Int) (P : Option Addr) (pn pc : Nat) (ps : List (Int × Int)) (tid tep : Int) (Q : Option Addr) (qn qc : Nat) (sz lv ct : Int) (lo hi : ByteArray) (tp : Int) (qs : List (Int × Int)) (w : World) (hP : PairsOk w P pn pc ps) (hQ : PairsOk w Q qn qc qs) (hls : lo.size ≤ 9223372036854775807 ∧ hi.size ≤ 9223372036854775807) (hfit : (⟨tid, tep, Q, qn, qc, sz, lv, ct, lo, hi, tp⟩ : Pk.Tb).fits) :
    Calls Tryz.prog 47 #[.agg #[.int .i64 3, .int .i64 id, .int .i64 nn, .int .i64 pid, .int .i64 pep, .slice P pn pc, .int .i64 tid, .int .i64 tep, .slice Q qn qc, .int .i64 sz, .int .i64 lv, .int .i64 ct, .string lo, .string hi, .int .i64 tp]] w fun e w' => e = .returned (.bool (⟨3, id, nn, ⟨pid, pep, ps⟩, ⟨⟨tid, tep, qs⟩, sz, lv, ct, lo, hi, tp⟩⟩ : Ed.Et).ok) ∧ Below w.heap.size w w' := by
  have hal : Below w.heap.size w (w.alloc (.cells #[.int .i64 3, .int .i64 id, .int .i64 nn, .int .i64 pid, .int .i64 pep, .slice P pn pc, .int .i64 tid, .int .i64 tep, .slice Q qn qc, .int .i64 sz, .int .i64 lv, .int .i64 ct, .string lo, .string hi, .int .i64 tp] 37)) := (Below.refl _ _).alloc (Nat.le_refl _) _
  have HX := hd_ (Holds.new w #[.int .i64 3, .int .i64 id, .int .i64 nn, .int .i64 pid, .int .i64 pep, .slice P pn pc, .int .i64 tid, .int .i64 tep, .slice Q qn qc, .int .i64 sz, .int .i64 lv, .int .i64 ct, .string lo, .string hi, .int .i64 tp] 37)
  have HB := hd_ hal
  have HPw := hd_ (show (∀ g o, P = some ⟨g, o, none⟩ → 0 < pn → g ≠ w.heap.size + 1) ∧ (∀ g o, Q = some ⟨g, o, none⟩ → 0 < qn → g ≠ w.heap.size + 1) from ⟨fun g o e h0 => by have := hP.blk e h0; omega, fun g o e h0 => by have := hQ.blk e h0; omega⟩)
  have HP := hd_ (hP.below hal)
  have HQ := hd_ (hQ.below hal)
  have HFit := hd_ (And.intro hls hfit)
  have HUs := hd_ (show (w.alloc (.cells #[.int .i64 3, .int .i64 id, .int .i64 nn, .int .i64 pid, .int .i64 pep, .slice P pn pc, .int .i64 tid, .int .i64 tep, .slice Q qn qc, .int .i64 sz, .int .i64 lv, .int .i64 ct, .string lo, .string hi, .int .i64 tp] 37)).heap.size = w.heap.size + 1 by simp)
  clear hal hP hQ hls hfit
  have HA := hd_ (show ((⟨pid, pep, ps⟩ : Ed.Pl).ok && (id == 0) && (nn == 0) && (⟨⟨tid, tep, qs⟩, sz, lv, ct, lo, hi, tp⟩ : Ed.Ta).eq Ed.noT) = (⟨3, id, nn, ⟨pid, pep, ps⟩, ⟨⟨tid, tep, qs⟩, sz, lv, ct, lo, hi, tp⟩⟩ : Ed.Et).ok from rfl)
  generalize (⟨3, id, nn, ⟨pid, pep, ps⟩, ⟨⟨tid, tep, qs⟩, sz, lv, ct, lo, hi, tp⟩⟩ : Ed.Et).ok = ans at *
  go_enter Tryz.func47, Tryz.ntmps47
  go_upto_region 1 with fail
  generalize (w.alloc (.cells #[.int .i64 3, .int .i64 id, .int .i64 nn, .int .i64 pid, .int .i64 pep, .slice P pn pc, .int .i64 tid, .int .i64 tep, .slice Q qn qc, .int .i64 sz, .int .i64 lv, .int .i64 ct, .string lo, .string hi, .int .i64 tp] 37)) = u at *
  replace HX : Hid (Holds u w.heap.size [.int .i64 3, .int .i64 id, .int .i64 nn, .int .i64 pid, .int .i64 pep, .slice P pn pc, .int .i64 tid, .int .i64 tep, .slice Q qn qc, .int .i64 sz, .int .i64 lv, .int .i64 ct, .string lo, .string hi, .int .i64 tp]) := HX
  go_cut [3, 4] from 3 to 5 (fun s3 s4 wx => s3 = .bool true ∧ s4 = .pointer (some ⟨w.heap.size + 1, 0, none⟩) ∧ Hid (Holds wx w.heap.size [.int .i64 3, .int .i64 id, .int .i64 nn, .int .i64 pid, .int .i64 pep, .slice P pn pc, .int .i64 tid, .int .i64 tep, .slice Q qn qc, .int .i64 sz, .int .i64 lv, .int .i64 ct, .string lo, .string hi, .int .i64 tp] ∧ Holds wx (w.heap.size + 1) [.int .i64 3, .int .i64 id, .int .i64 nn, .int .i64 pid, .int .i64 pep, .slice P pn pc, .int .i64 tid, .int .i64 tep, .slice Q qn qc, .int .i64 sz, .int .i64 lv, .int .i64 ct, .string lo, .string hi, .int .i64 tp] ∧ Below u.heap.size u wx))
  case first =>
    have Hsh := hd_ (HX.out.below (show Below u.heap.size u u.drew from (Below.refl _ _).drew))
    obtain ⟨x0, x1, x2, x3, x4, x5, x6, x7, x8, x9, x10, x11, x12, x13, x14⟩ := Hsh.out.all15
    clear Hsh
    have Hsh := hd_ (HX.out.below (show Below u.heap.size u (u.alloc (.cells #[.int .i64 0, .int .i64 0, .int .i64 0, .int .i64 0, .int .i64 0, .slice none 0 0, .int .i64 0, .int .i64 0, .slice none 0 0, .int .i64 0, .int .i64 0, .int .i64 0, .string ⟨#[]⟩, .string ⟨#[]⟩, .int .i64 0] 37)) from (Below.refl _ _).alloc (Nat.le_refl _) _))
    obtain ⟨z0, z1, z2, z3, z4, z5, z6, z7, z8, z9, z10, z11, z12, z13, z14⟩ := Hsh.out.all15
    clear Hsh
    have hus := HUs.out
    go_region
    all_goals
      go_wp2_with fail
      go_meet
      case rel =>
        have hal : Below u.heap.size u (u.drew.alloc (.cells #[.int .i64 3, .int .i64 id, .int .i64 nn, .int .i64 pid, .int .i64 pep, .slice P pn pc, .int .i64 tid, .int .i64 tep, .slice Q qn qc, .int .i64 sz, .int .i64 lv, .int .i64 ct, .string lo, .string hi, .int .i64 tp] 37)) := ((Below.refl _ _).drew).alloc (Nat.le_refl _) _
        exact ⟨rfl, by rw [← hus], hd_ ⟨HX.out.below hal, by rw [← hus]; exact Holds.new u.drew #[.int .i64 3, .int .i64 id, .int .i64 nn, .int .i64 pid, .int .i64 pep, .slice P pn pc, .int .i64 tid, .int .i64 tep, .slice Q qn qc, .int .i64 sz, .int .i64 lv, .int .i64 ct, .string lo, .string hi, .int .i64 tp] 37, hal⟩⟩
  case rest =>
  obtain ⟨rfl, rfl, HC⟩ := hcut
  have HB2 := hd_ (below_next HB.out HC.out.2.2)
  have HP2 := hd_ (HP.out.below HC.out.2.2)
  have HQ2 := hd_ (HQ.out.below HC.out.2.2)
  have HX2 := hd_ HC.out.1
  have HY2 := hd_ HC.out.2.1
  clear HX HB HP HQ HC HUs
  have ne0 : w.heap.size ≠ w.heap.size + 1 := by omega
  have F1 := mbplace_any pid pep P pn pc ps wc HP2.out.1 HP2.out.2.2
  have F1 : Calls Tryz.prog 32 #[.agg #[.int .i64 pid, .int .i64 pep, .slice P pn pc]] wc fun e w' => e = .returned (.bool (⟨pid, pep, ps⟩ : Ed.Pl).ok) ∧ Below wc.heap.size wc w' := F1
  generalize (⟨pid, pep, ps⟩ : Ed.Pl).ok = k0 at *
  have F1 := hd_ F1
  have x0 := HX2.out.at_ 0 rfl
  have x3 := HX2.out.at_ 3 rfl
  have x4 := HX2.out.at_ 4 rfl
  have x5 := HX2.out.at_ 5 rfl
  go_wp2_with fail
  refine F1.out.mono ?_
  rintro e v ⟨rfl, hbv⟩
  clear F1 x0 x3 x4 x5
  have HX3 := hd_ (HX2.out.below hbv)
  have HY3 := hd_ (HY2.out.below hbv)
  have HB3 := hd_ (below_next HB2.out hbv)
  have HP3 := hd_ (HP2.out.below hbv)
  have HQ3 := hd_ (HQ2.out.below hbv)
  clear hbv HX2 HY2 HB2 HP2 HQ2
  have HPb := hd_ (show (∀ g o, P = some ⟨g, o, none⟩ → 0 < pn → g ≠ w.heap.size + 1) ∧ (∀ g o, Q = some ⟨g, o, none⟩ → 0 < qn → g ≠ w.heap.size + 1) from HPw.out)
  have y3 := HY3.out.at_ 3 rfl
  have yf3 := HY3.out.2.2 3
  have y4 := HY3.out.at_ 4 rfl
  have yf4 := HY3.out.2.2 4
  have y5 := HY3.out.at_ 5 rfl
  have yf5 := HY3.out.2.2 5
  have HY4 := hd_ (show Holds (((v.setCell ⟨w.heap.size + 1, 3, none⟩ (.int .i64 0)).setCell ⟨w.heap.size + 1, 4, none⟩ (.int .i64 0)).setCell ⟨w.heap.size + 1, 5, none⟩ (.slice none 0 0)) (w.heap.size + 1) [.int .i64 3, .int .i64 id, .int .i64 nn, .int .i64 0, .int .i64 0, .slice none 0 0, .int .i64 tid, .int .i64 tep, .slice Q qn qc, .int .i64 sz, .int .i64 lv, .int .i64 ct, .string lo, .string hi, .int .i64 tp] from (((HY3.out.set 3 (.int .i64 0) (by simp)).set 4 (.int .i64 0) (by simp)).set 5 (.slice none 0 0) (by simp)))
  have HX4 := hd_ (show Holds (((v.setCell ⟨w.heap.size + 1, 3, none⟩ (.int .i64 0)).setCell ⟨w.heap.size + 1, 4, none⟩ (.int .i64 0)).setCell ⟨w.heap.size + 1, 5, none⟩ (.slice none 0 0)) w.heap.size [.int .i64 3, .int .i64 id, .int .i64 nn, .int .i64 pid, .int .i64 pep, .slice P pn pc, .int .i64 tid, .int .i64 tep, .slice Q qn qc, .int .i64 sz, .int .i64 lv, .int .i64 ct, .string lo, .string hi, .int .i64 tp] from (((HX3.out.other ne0).other ne0).other ne0))
  have HB4 := hd_ (show Below w.heap.size w (((v.setCell ⟨w.heap.size + 1, 3, none⟩ (.int .i64 0)).setCell ⟨w.heap.size + 1, 4, none⟩ (.int .i64 0)).setCell ⟨w.heap.size + 1, 5, none⟩ (.slice none 0 0)) from (((HB3.out.setCell (Nat.le_succ _) _).setCell (Nat.le_succ _) _).setCell (Nat.le_succ _) _))
  have hgr : v.grownBy (((v.setCell ⟨w.heap.size + 1, 3, none⟩ (.int .i64 0)).setCell ⟨w.heap.size + 1, 4, none⟩ (.int .i64 0)).setCell ⟨w.heap.size + 1, 5, none⟩ (.slice none 0 0)) (some (w.heap.size + 1)) := (((World.grownBy.refl v (some (w.heap.size + 1))).trans (grown_cell _ _ _ _)).trans (grown_cell _ _ _ _)).trans (grown_cell _ _ _ _)
  have HP4 := hd_ (pairs_grown HP3.out HPb.out.1 hgr)
  have HQ4 := hd_ (pairs_grown HQ3.out HPb.out.2 hgr)
  go_upto_region 17 with fail
  clear y3 yf3 y4 yf4 y5 yf5 hgr HX4 HX3 HY3 HB3 HP3 HQ3 HPb
  generalize (((v.setCell ⟨w.heap.size + 1, 3, none⟩ (.int .i64 0)).setCell ⟨w.heap.size + 1, 4, none⟩ (.int .i64 0)).setCell ⟨w.heap.size + 1, 5, none⟩ (.slice none 0 0)) = q at *
  have S1 : Calls Tryz.prog 67 #[.agg #[.int .i64 0, .int .i64 0, .slice none 0 0], .agg #[.int .i64 0, .int .i64 0, .slice none 0 0]] q fun e w' => e = .returned (.bool true) ∧ Below q.heap.size q w' := sameplace_any 0 0 none 0 0 [] 0 0 none 0 0 [] q ⟨rfl, RdC.nil _ _ _⟩ ⟨rfl, RdC.nil _ _ _⟩ (by omega) (by omega)
  have S1 := hd_ S1
  have S2 : ∀ v, Below q.heap.size q v → Calls Tryz.prog 46 #[.agg #[.int .i64 tid, .int .i64 tep, .slice Q qn qc, .int .i64 sz, .int .i64 lv, .int .i64 ct, .string lo, .string hi, .int .i64 tp], .agg #[.int .i64 0, .int .i64 0, .slice none 0 0, .int .i64 0, .int .i64 0, .int .i64 0, .string ⟨#[]⟩, .string ⟨#[]⟩, .int .i64 0]] v fun e w' => e = .returned (.bool ((⟨⟨tid, tep, qs⟩, sz, lv, ct, lo, hi, tp⟩ : Ed.Ta).eq Ed.noT)) ∧ Below v.heap.size v w' := fun v hv => sametable_any tid tep Q qn qc sz lv ct lo hi tp qs 0 0 none 0 0 0 0 0 ⟨#[]⟩ ⟨#[]⟩ 0 [] v (HQ4.out.1.below hv) ⟨rfl, RdC.nil _ _ _⟩ HQ4.out.2.2 (by omega)
  generalize (⟨⟨tid, tep, qs⟩, sz, lv, ct, lo, hi, tp⟩ : Ed.Ta).eq Ed.noT = k3 at *
  have S2 := hd_ S2
  have r1 := HY4.out.at_ 1 rfl
  have r2 := HY4.out.at_ 2 rfl
  have r3 := HY4.out.at_ 3 rfl
  have r4 := HY4.out.at_ 4 rfl
  have r5 := HY4.out.at_ 5 rfl
  cases k0 with
  | false =>
    have HF := hd_ (show false = ans by rw [← HA.out]; simp)
    go_wp2
    go_ret
    exact ⟨by rw [← HF.out]; rfl, HB4.out⟩
  | true =>
  cases g1 : (id == 0) with
  | false =>
    rw [g1] at HA
    have HF := hd_ (show false = ans by rw [← HA.out]; simp)
    go_wp2
    go_ret
    exact ⟨by rw [← HF.out]; rfl, HB4.out⟩
  | true =>
  rw [g1] at HA
  cases g2 : (nn == 0) with
  | false =>
    rw [g2] at HA
    have HF := hd_ (show false = ans by rw [← HA.out]; simp)
    go_wp2
    go_ret
    exact ⟨by rw [← HF.out]; rfl, HB4.out⟩
  | true =>
  rw [g2] at HA
  go_wp2_with fail
  refine S1.out.mono ?_
  rintro e v1 ⟨rfl, hb1⟩
  have HV1 := hd_ (below_next HB4.out hb1)
  have HT1 := hd_ (S2.out v1 hb1)
  have s6 := (HY4.out.below hb1).at_ 6 rfl
  have s7 := (HY4.out.below hb1).at_ 7 rfl
  have s8 := (HY4.out.below hb1).at_ 8 rfl
  have s9 := (HY4.out.below hb1).at_ 9 rfl
  have s10 := (HY4.out.below hb1).at_ 10 rfl
  have s11 := (HY4.out.below hb1).at_ 11 rfl
  have s12 := (HY4.out.below hb1).at_ 12 rfl
  have s13 := (HY4.out.below hb1).at_ 13 rfl
  have s14 := (HY4.out.below hb1).at_ 14 rfl
  clear hb1 r1 r2 r3 r4 r5 S1 S2 HY4 HP4 HQ4 HB4
  go_wp2_with fail
  refine HT1.out.mono ?_
  rintro e v2 ⟨rfl, hb2⟩
  have HV2 := hd_ (below_next HV1.out hb2)
  clear hb2
  have HF := hd_ (show k3 = ans by rw [← HA.out]; simp)
  go_wp2
  go_ret
  exact ⟨by rw [← HF.out]; rfl, HV2.out⟩
end Go.Proofs.YthfcjlndaajkfaaGreat
