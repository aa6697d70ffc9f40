/- edit.mayBe at a kind that is none. -/
import Derived.Test.YthfcjlndaajkfaaGreatG07
namespace Go.Proofs.YthfcjlndaajkfaaGreat
open Go.RowKit
set_option linter.unusedVariables false
set_option maxRecDepth 100000 in
set_option maxHeartbeats 16000000 in
theorem may0_any (kd : Int) (hk : kd ≠ 1 ∧ kd ≠ 2 ∧ kd ≠ 3 ∧ kd ≠ 4 ∧ kd ≠ 5 ∧ kd ≠ 6 ∧ kd ≠ 7) (id nn pid pep : Int) (P : Option Addr) (pn pc : Nat) (ps : List (Int × Int)) (tid tep : Int) (Q : Option Addr) (qn qc : Nat) (sz lv ct : Int) (lo hi : ByteArray) (tp : Int) (qs : List (Int × Int)) (w : World) (hP : PairsOk w P pn pc ps) (hQ : PairsOk w Q qn qc qs) (hls : lo.size ≤ 9223372036854775807 ∧ hi.size ≤ 9223372036854775807) (hfit : (⟨tid, tep, Q, qn, qc, sz, lv, ct, lo, hi, tp⟩ : Pk.Tb).fits) :
    Calls Tryz.prog 47 #[.agg #[.int .i64 kd, .int .i64 id, .int .i64 nn, .int .i64 pid, .int .i64 pep, .slice P pn pc, .int .i64 tid, .int .i64 tep, .slice Q qn qc, .int .i64 sz, .int .i64 lv, .int .i64 ct, .string lo, .string hi, .int .i64 tp]] w fun e w' => e = .returned (.bool (⟨kd, id, nn, ⟨pid, pep, ps⟩, ⟨⟨tid, tep, qs⟩, sz, lv, ct, lo, hi, tp⟩⟩ : Ed.Et).ok) ∧ Below w.heap.size w w' := by
  have hal : Below w.heap.size w (w.alloc (.cells #[.int .i64 kd, .int .i64 id, .int .i64 nn, .int .i64 pid, .int .i64 pep, .slice P pn pc, .int .i64 tid, .int .i64 tep, .slice Q qn qc, .int .i64 sz, .int .i64 lv, .int .i64 ct, .string lo, .string hi, .int .i64 tp] 37)) := (Below.refl _ _).alloc (Nat.le_refl _) _
  have HX := Lib.hid (Holds.new w #[.int .i64 kd, .int .i64 id, .int .i64 nn, .int .i64 pid, .int .i64 pep, .slice P pn pc, .int .i64 tid, .int .i64 tep, .slice Q qn qc, .int .i64 sz, .int .i64 lv, .int .i64 ct, .string lo, .string hi, .int .i64 tp] 37)
  have HB := Lib.hid hal
  have HP := Lib.hid (hP.below hal)
  have HQ := Lib.hid (hQ.below hal)
  have HFit := Lib.hid (And.intro hls hfit)
  have HUs := Lib.hid (show (w.alloc (.cells #[.int .i64 kd, .int .i64 id, .int .i64 nn, .int .i64 pid, .int .i64 pep, .slice P pn pc, .int .i64 tid, .int .i64 tep, .slice Q qn qc, .int .i64 sz, .int .i64 lv, .int .i64 ct, .string lo, .string hi, .int .i64 tp] 37)).heap.size = w.heap.size + 1 by simp)
  clear hal hP hQ hls hfit
  have HA := Lib.hid (show false = (⟨kd, id, nn, ⟨pid, pep, ps⟩, ⟨⟨tid, tep, qs⟩, sz, lv, ct, lo, hi, tp⟩⟩ : Ed.Et).ok from by obtain ⟨h1, h2, h3, h4, h5, h6, h7⟩ := hk; unfold Ed.Et.ok; dsimp only; rw [if_neg h1, if_neg h2, if_neg h3, if_neg h4, if_neg h5, if_neg h6, if_neg h7])
  generalize (⟨kd, id, nn, ⟨pid, pep, ps⟩, ⟨⟨tid, tep, qs⟩, sz, lv, ct, lo, hi, tp⟩⟩ : Ed.Et).ok = ans at *
  go_enter Tryz.func47, Tryz.ntmps47
  go_upto_region 1 with fail
  generalize (w.alloc (.cells #[.int .i64 kd, .int .i64 id, .int .i64 nn, .int .i64 pid, .int .i64 pep, .slice P pn pc, .int .i64 tid, .int .i64 tep, .slice Q qn qc, .int .i64 sz, .int .i64 lv, .int .i64 ct, .string lo, .string hi, .int .i64 tp] 37)) = u at *
  replace HX : Hid (Holds u w.heap.size [.int .i64 kd, .int .i64 id, .int .i64 nn, .int .i64 pid, .int .i64 pep, .slice P pn pc, .int .i64 tid, .int .i64 tep, .slice Q qn qc, .int .i64 sz, .int .i64 lv, .int .i64 ct, .string lo, .string hi, .int .i64 tp]) := HX
  go_cut [3, 4] from 3 to 5 (fun s3 s4 wx => s3 = .bool true ∧ s4 = .pointer (some ⟨w.heap.size + 1, 0, none⟩) ∧ Hid (Holds wx w.heap.size [.int .i64 kd, .int .i64 id, .int .i64 nn, .int .i64 pid, .int .i64 pep, .slice P pn pc, .int .i64 tid, .int .i64 tep, .slice Q qn qc, .int .i64 sz, .int .i64 lv, .int .i64 ct, .string lo, .string hi, .int .i64 tp] ∧ Holds wx (w.heap.size + 1) [.int .i64 kd, .int .i64 id, .int .i64 nn, .int .i64 pid, .int .i64 pep, .slice P pn pc, .int .i64 tid, .int .i64 tep, .slice Q qn qc, .int .i64 sz, .int .i64 lv, .int .i64 ct, .string lo, .string hi, .int .i64 tp] ∧ Below u.heap.size u wx))
  case first =>
    have x0 := (HX.out.below (show Below u.heap.size u u.drew from (Below.refl _ _).drew)).at_ 0 rfl
    have x1 := (HX.out.below (show Below u.heap.size u u.drew from (Below.refl _ _).drew)).at_ 1 rfl
    have x2 := (HX.out.below (show Below u.heap.size u u.drew from (Below.refl _ _).drew)).at_ 2 rfl
    have x3 := (HX.out.below (show Below u.heap.size u u.drew from (Below.refl _ _).drew)).at_ 3 rfl
    have x4 := (HX.out.below (show Below u.heap.size u u.drew from (Below.refl _ _).drew)).at_ 4 rfl
    have x5 := (HX.out.below (show Below u.heap.size u u.drew from (Below.refl _ _).drew)).at_ 5 rfl
    have x6 := (HX.out.below (show Below u.heap.size u u.drew from (Below.refl _ _).drew)).at_ 6 rfl
    have x7 := (HX.out.below (show Below u.heap.size u u.drew from (Below.refl _ _).drew)).at_ 7 rfl
    have x8 := (HX.out.below (show Below u.heap.size u u.drew from (Below.refl _ _).drew)).at_ 8 rfl
    have x9 := (HX.out.below (show Below u.heap.size u u.drew from (Below.refl _ _).drew)).at_ 9 rfl
    have x10 := (HX.out.below (show Below u.heap.size u u.drew from (Below.refl _ _).drew)).at_ 10 rfl
    have x11 := (HX.out.below (show Below u.heap.size u u.drew from (Below.refl _ _).drew)).at_ 11 rfl
    have x12 := (HX.out.below (show Below u.heap.size u u.drew from (Below.refl _ _).drew)).at_ 12 rfl
    have x13 := (HX.out.below (show Below u.heap.size u u.drew from (Below.refl _ _).drew)).at_ 13 rfl
    have x14 := (HX.out.below (show Below u.heap.size u u.drew from (Below.refl _ _).drew)).at_ 14 rfl
    have z0 := (HX.out.below (show Below u.heap.size u (u.alloc (.cells #[.int .i64 0, .int .i64 0, .int .i64 0, .int .i64 0, .int .i64 0, .slice none 0 0, .int .i64 0, .int .i64 0, .slice none 0 0, .int .i64 0, .int .i64 0, .int .i64 0, .string ⟨#[]⟩, .string ⟨#[]⟩, .int .i64 0] 37)) from (Below.refl _ _).alloc (Nat.le_refl _) _)).at_ 0 rfl
    have z1 := (HX.out.below (show Below u.heap.size u (u.alloc (.cells #[.int .i64 0, .int .i64 0, .int .i64 0, .int .i64 0, .int .i64 0, .slice none 0 0, .int .i64 0, .int .i64 0, .slice none 0 0, .int .i64 0, .int .i64 0, .int .i64 0, .string ⟨#[]⟩, .string ⟨#[]⟩, .int .i64 0] 37)) from (Below.refl _ _).alloc (Nat.le_refl _) _)).at_ 1 rfl
    have z2 := (HX.out.below (show Below u.heap.size u (u.alloc (.cells #[.int .i64 0, .int .i64 0, .int .i64 0, .int .i64 0, .int .i64 0, .slice none 0 0, .int .i64 0, .int .i64 0, .slice none 0 0, .int .i64 0, .int .i64 0, .int .i64 0, .string ⟨#[]⟩, .string ⟨#[]⟩, .int .i64 0] 37)) from (Below.refl _ _).alloc (Nat.le_refl _) _)).at_ 2 rfl
    have z3 := (HX.out.below (show Below u.heap.size u (u.alloc (.cells #[.int .i64 0, .int .i64 0, .int .i64 0, .int .i64 0, .int .i64 0, .slice none 0 0, .int .i64 0, .int .i64 0, .slice none 0 0, .int .i64 0, .int .i64 0, .int .i64 0, .string ⟨#[]⟩, .string ⟨#[]⟩, .int .i64 0] 37)) from (Below.refl _ _).alloc (Nat.le_refl _) _)).at_ 3 rfl
    have z4 := (HX.out.below (show Below u.heap.size u (u.alloc (.cells #[.int .i64 0, .int .i64 0, .int .i64 0, .int .i64 0, .int .i64 0, .slice none 0 0, .int .i64 0, .int .i64 0, .slice none 0 0, .int .i64 0, .int .i64 0, .int .i64 0, .string ⟨#[]⟩, .string ⟨#[]⟩, .int .i64 0] 37)) from (Below.refl _ _).alloc (Nat.le_refl _) _)).at_ 4 rfl
    have z5 := (HX.out.below (show Below u.heap.size u (u.alloc (.cells #[.int .i64 0, .int .i64 0, .int .i64 0, .int .i64 0, .int .i64 0, .slice none 0 0, .int .i64 0, .int .i64 0, .slice none 0 0, .int .i64 0, .int .i64 0, .int .i64 0, .string ⟨#[]⟩, .string ⟨#[]⟩, .int .i64 0] 37)) from (Below.refl _ _).alloc (Nat.le_refl _) _)).at_ 5 rfl
    have z6 := (HX.out.below (show Below u.heap.size u (u.alloc (.cells #[.int .i64 0, .int .i64 0, .int .i64 0, .int .i64 0, .int .i64 0, .slice none 0 0, .int .i64 0, .int .i64 0, .slice none 0 0, .int .i64 0, .int .i64 0, .int .i64 0, .string ⟨#[]⟩, .string ⟨#[]⟩, .int .i64 0] 37)) from (Below.refl _ _).alloc (Nat.le_refl _) _)).at_ 6 rfl
    have z7 := (HX.out.below (show Below u.heap.size u (u.alloc (.cells #[.int .i64 0, .int .i64 0, .int .i64 0, .int .i64 0, .int .i64 0, .slice none 0 0, .int .i64 0, .int .i64 0, .slice none 0 0, .int .i64 0, .int .i64 0, .int .i64 0, .string ⟨#[]⟩, .string ⟨#[]⟩, .int .i64 0] 37)) from (Below.refl _ _).alloc (Nat.le_refl _) _)).at_ 7 rfl
    have z8 := (HX.out.below (show Below u.heap.size u (u.alloc (.cells #[.int .i64 0, .int .i64 0, .int .i64 0, .int .i64 0, .int .i64 0, .slice none 0 0, .int .i64 0, .int .i64 0, .slice none 0 0, .int .i64 0, .int .i64 0, .int .i64 0, .string ⟨#[]⟩, .string ⟨#[]⟩, .int .i64 0] 37)) from (Below.refl _ _).alloc (Nat.le_refl _) _)).at_ 8 rfl
    have z9 := (HX.out.below (show Below u.heap.size u (u.alloc (.cells #[.int .i64 0, .int .i64 0, .int .i64 0, .int .i64 0, .int .i64 0, .slice none 0 0, .int .i64 0, .int .i64 0, .slice none 0 0, .int .i64 0, .int .i64 0, .int .i64 0, .string ⟨#[]⟩, .string ⟨#[]⟩, .int .i64 0] 37)) from (Below.refl _ _).alloc (Nat.le_refl _) _)).at_ 9 rfl
    have z10 := (HX.out.below (show Below u.heap.size u (u.alloc (.cells #[.int .i64 0, .int .i64 0, .int .i64 0, .int .i64 0, .int .i64 0, .slice none 0 0, .int .i64 0, .int .i64 0, .slice none 0 0, .int .i64 0, .int .i64 0, .int .i64 0, .string ⟨#[]⟩, .string ⟨#[]⟩, .int .i64 0] 37)) from (Below.refl _ _).alloc (Nat.le_refl _) _)).at_ 10 rfl
    have z11 := (HX.out.below (show Below u.heap.size u (u.alloc (.cells #[.int .i64 0, .int .i64 0, .int .i64 0, .int .i64 0, .int .i64 0, .slice none 0 0, .int .i64 0, .int .i64 0, .slice none 0 0, .int .i64 0, .int .i64 0, .int .i64 0, .string ⟨#[]⟩, .string ⟨#[]⟩, .int .i64 0] 37)) from (Below.refl _ _).alloc (Nat.le_refl _) _)).at_ 11 rfl
    have z12 := (HX.out.below (show Below u.heap.size u (u.alloc (.cells #[.int .i64 0, .int .i64 0, .int .i64 0, .int .i64 0, .int .i64 0, .slice none 0 0, .int .i64 0, .int .i64 0, .slice none 0 0, .int .i64 0, .int .i64 0, .int .i64 0, .string ⟨#[]⟩, .string ⟨#[]⟩, .int .i64 0] 37)) from (Below.refl _ _).alloc (Nat.le_refl _) _)).at_ 12 rfl
    have z13 := (HX.out.below (show Below u.heap.size u (u.alloc (.cells #[.int .i64 0, .int .i64 0, .int .i64 0, .int .i64 0, .int .i64 0, .slice none 0 0, .int .i64 0, .int .i64 0, .slice none 0 0, .int .i64 0, .int .i64 0, .int .i64 0, .string ⟨#[]⟩, .string ⟨#[]⟩, .int .i64 0] 37)) from (Below.refl _ _).alloc (Nat.le_refl _) _)).at_ 13 rfl
    have z14 := (HX.out.below (show Below u.heap.size u (u.alloc (.cells #[.int .i64 0, .int .i64 0, .int .i64 0, .int .i64 0, .int .i64 0, .slice none 0 0, .int .i64 0, .int .i64 0, .slice none 0 0, .int .i64 0, .int .i64 0, .int .i64 0, .string ⟨#[]⟩, .string ⟨#[]⟩, .int .i64 0] 37)) from (Below.refl _ _).alloc (Nat.le_refl _) _)).at_ 14 rfl
    have hus := HUs.out
    go_region
    all_goals
      go_wp2_with fail
      go_meet
      case rel =>
        have hal : Below u.heap.size u (u.drew.alloc (.cells #[.int .i64 kd, .int .i64 id, .int .i64 nn, .int .i64 pid, .int .i64 pep, .slice P pn pc, .int .i64 tid, .int .i64 tep, .slice Q qn qc, .int .i64 sz, .int .i64 lv, .int .i64 ct, .string lo, .string hi, .int .i64 tp] 37)) := ((Below.refl _ _).drew).alloc (Nat.le_refl _) _
        exact ⟨rfl, by rw [← hus], Lib.hid ⟨HX.out.below hal, by rw [← hus]; exact Holds.new u.drew #[.int .i64 kd, .int .i64 id, .int .i64 nn, .int .i64 pid, .int .i64 pep, .slice P pn pc, .int .i64 tid, .int .i64 tep, .slice Q qn qc, .int .i64 sz, .int .i64 lv, .int .i64 ct, .string lo, .string hi, .int .i64 tp] 37, hal⟩⟩
  case rest =>
  obtain ⟨rfl, rfl, HC⟩ := hcut
  have HB2 := Lib.hid (below_next HB.out HC.out.2.2)
  have HP2 := Lib.hid (HP.out.below HC.out.2.2)
  have HQ2 := Lib.hid (HQ.out.below HC.out.2.2)
  have HX2 := Lib.hid HC.out.1
  have HY2 := Lib.hid HC.out.2.1
  clear HX HB HP HQ HC HUs
  have ne0 : w.heap.size ≠ w.heap.size + 1 := by omega
  have x0 := HX2.out.at_ 0 rfl
  have q1 : (kd == 1) = false := beq_eq_false_iff_ne.2 hk.1
  have q2 : (kd == 2) = false := beq_eq_false_iff_ne.2 hk.2.1
  have q3 : (kd == 3) = false := beq_eq_false_iff_ne.2 hk.2.2.1
  have q4 : (kd == 4) = false := beq_eq_false_iff_ne.2 hk.2.2.2.1
  have q5 : (kd == 5) = false := beq_eq_false_iff_ne.2 hk.2.2.2.2.1
  have q6 : (kd == 6) = false := beq_eq_false_iff_ne.2 hk.2.2.2.2.2.1
  have q7 : (kd == 7) = false := beq_eq_false_iff_ne.2 hk.2.2.2.2.2.2
  go_wp2
  go_ret
  exact ⟨by rw [← HA.out]; rfl, HB2.out⟩
end Go.Proofs.YthfcjlndaajkfaaGreat
