/- The document's IsEdit: may an edit be? -/
import Derived.Test.YthfcjlndaajkfaaGreatTEdRFd
import Derived.Test.YthfcjlndaajkfaaGreatTEdLSaV
namespace Go.Proofs.YthfcjlndaajkfaaGreat
open Go.RowKit
set_option linter.unusedVariables false
set_option linter.unusedSimpArgs false
namespace Ed
theorem ok_k1 {kd id nn pid pep : Int} {ps qs : List (Int × Int)} {tid tep : Int} {Q : Option Addr} {qn qc : Nat} {sz lv ct : Int} {lo hi : ByteArray} {tp : Int} (h : kd = 1) : (⟨kd, id, nn, ⟨pid, pep, ps⟩, taOf (⟨tid, tep, Q, qn, qc, sz, lv, ct, lo, hi, tp⟩, qs)⟩ : Et).ok = ((from_ nn 1 2147483647) && (decide (id = 0)) && ((⟨pid, pep, ps⟩ : Pl).eq noP) && ((taOf (⟨tid, tep, Q, qn, qc, sz, lv, ct, lo, hi, tp⟩, qs)).eq noT)) := by subst h; rfl
theorem ok_k2 {kd id nn pid pep : Int} {ps qs : List (Int × Int)} {tid tep : Int} {Q : Option Addr} {qn qc : Nat} {sz lv ct : Int} {lo hi : ByteArray} {tp : Int} (h : kd = 2) : (⟨kd, id, nn, ⟨pid, pep, ps⟩, taOf (⟨tid, tep, Q, qn, qc, sz, lv, ct, lo, hi, tp⟩, qs)⟩ : Et).ok = ((from_ nn 0 1099511627776) && (decide (id = 0)) && ((⟨pid, pep, ps⟩ : Pl).eq noP) && ((taOf (⟨tid, tep, Q, qn, qc, sz, lv, ct, lo, hi, tp⟩, qs)).eq noT)) := by subst h; rfl
theorem ok_k3 {kd id nn pid pep : Int} {ps qs : List (Int × Int)} {tid tep : Int} {Q : Option Addr} {qn qc : Nat} {sz lv ct : Int} {lo hi : ByteArray} {tp : Int} (h : kd = 3) : (⟨kd, id, nn, ⟨pid, pep, ps⟩, taOf (⟨tid, tep, Q, qn, qc, sz, lv, ct, lo, hi, tp⟩, qs)⟩ : Et).ok = ((okP pid pep ps) && (decide (id = 0)) && (decide (nn = 0)) && ((taOf (⟨tid, tep, Q, qn, qc, sz, lv, ct, lo, hi, tp⟩, qs)).eq noT)) := by subst h; rfl
theorem ok_k4 {kd id nn pid pep : Int} {ps qs : List (Int × Int)} {tid tep : Int} {Q : Option Addr} {qn qc : Nat} {sz lv ct : Int} {lo hi : ByteArray} {tp : Int} (h : kd = 4) : (⟨kd, id, nn, ⟨pid, pep, ps⟩, taOf (⟨tid, tep, Q, qn, qc, sz, lv, ct, lo, hi, tp⟩, qs)⟩ : Et).ok = ((from_ id 1 2147483647) && (from_ nn 0 1099511627776) && ((⟨pid, pep, ps⟩ : Pl).eq noP) && ((taOf (⟨tid, tep, Q, qn, qc, sz, lv, ct, lo, hi, tp⟩, qs)).eq noT)) := by subst h; rfl
theorem ok_k5 {kd id nn pid pep : Int} {ps qs : List (Int × Int)} {tid tep : Int} {Q : Option Addr} {qn qc : Nat} {sz lv ct : Int} {lo hi : ByteArray} {tp : Int} (h : kd = 5) : (⟨kd, id, nn, ⟨pid, pep, ps⟩, taOf (⟨tid, tep, Q, qn, qc, sz, lv, ct, lo, hi, tp⟩, qs)⟩ : Et).ok = ((from_ id 1 2147483647) && (decide (nn = 0)) && ((⟨pid, pep, ps⟩ : Pl).eq noP) && ((taOf (⟨tid, tep, Q, qn, qc, sz, lv, ct, lo, hi, tp⟩, qs)).eq noT)) := by subst h; rfl
theorem ok_k7 {kd id nn pid pep : Int} {ps qs : List (Int × Int)} {tid tep : Int} {Q : Option Addr} {qn qc : Nat} {sz lv ct : Int} {lo hi : ByteArray} {tp : Int} (h : kd = 7) : (⟨kd, id, nn, ⟨pid, pep, ps⟩, taOf (⟨tid, tep, Q, qn, qc, sz, lv, ct, lo, hi, tp⟩, qs)⟩ : Et).ok = ((from_ id 1 2147483647) && (decide (nn = 0)) && ((⟨pid, pep, ps⟩ : Pl).eq noP) && ((taOf (⟨tid, tep, Q, qn, qc, sz, lv, ct, lo, hi, tp⟩, qs)).eq noT)) := by subst h; rfl
theorem ok_k6 {kd id nn pid pep : Int} {ps qs : List (Int × Int)} {tid tep : Int} {Q : Option Addr} {qn qc : Nat} {sz lv ct : Int} {lo hi : ByteArray} {tp : Int} (h : kd = 6) : (⟨kd, id, nn, ⟨pid, pep, ps⟩, taOf (⟨tid, tep, Q, qn, qc, sz, lv, ct, lo, hi, tp⟩, qs)⟩ : Et).ok = ((okT ⟨tid, tep, Q, qn, qc, sz, lv, ct, lo, hi, tp⟩ qs) && (decide (id = 0)) && (decide (nn = 0)) && ((⟨pid, pep, ps⟩ : Pl).eq noP)) := by subst h; rfl
theorem ok_else {e : Et} (h1 : ¬ e.kd = 1) (h2 : ¬ e.kd = 2) (h3 : ¬ e.kd = 3) (h4 : ¬ e.kd = 4) (h5 : ¬ e.kd = 5) (h6 : ¬ e.kd = 6) (h7 : ¬ e.kd = 7) : e.ok = false := by unfold Et.ok; rw [if_neg h1, if_neg h2, if_neg h3, if_neg h4, if_neg h5, if_neg h6, if_neg h7]
end Ed
set_option maxRecDepth 100000 in
set_option maxHeartbeats 32000000 in
theorem risedit_any (x : Ed.Ex) (w : World) (h : Ed.ExOk w x) : Calls Tryz.prog 49 #[.agg x.1.cells.toArray] w fun e w' => e = .returned (.bool (Ed.etOf x).ok) ∧ Below w.heap.size w w' := by
  obtain ⟨⟨kd, id, nn, pid, pep, P, pn, pc, ⟨tid, tep, Q, qn, qc, sz, lv, ct, lo, hi, tp⟩⟩, ps, qs⟩ := x
  obtain ⟨hP, hQ, hfit⟩ := h
  show Calls Tryz.prog 49 #[.agg #[.int .i64 kd, .int .i64 id, .int .i64 nn, .int .i64 pid, .int .i64 pep, .slice P pn pc, .int .i64 tid, .int .i64 tep, .slice Q qn qc, .int .i64 sz, .int .i64 lv, .int .i64 ct, .string lo, .string hi, .int .i64 tp]] w fun e w' => e = .returned (.bool (Ed.etOf (⟨kd, id, nn, pid, pep, P, pn, pc, ⟨tid, tep, Q, qn, qc, sz, lv, ct, lo, hi, tp⟩⟩, (ps, qs))).ok) ∧ Below w.heap.size w w'
  have hbu : Below w.heap.size w (w.alloc (.cells #[.int .i64 kd, .int .i64 id, .int .i64 nn, .int .i64 pid, .int .i64 pep, .slice P pn pc, .int .i64 tid, .int .i64 tep, .slice Q qn qc, .int .i64 sz, .int .i64 lv, .int .i64 ct, .string lo, .string hi, .int .i64 tp] 37)) := (Below.refl _ _).alloc (Nat.le_refl _) _
  have HBu := Lib.hid hbu
  have HP := Lib.hid (hP.below hbu)
  have HQ := Lib.hid (hQ.below hbu)
  have HFt := Lib.hid hfit
  have HXu := Lib.hid (Holds.new w #[.int .i64 kd, .int .i64 id, .int .i64 nn, .int .i64 pid, .int .i64 pep, .slice P pn pc, .int .i64 tid, .int .i64 tep, .slice Q qn qc, .int .i64 sz, .int .i64 lv, .int .i64 ct, .string lo, .string hi, .int .i64 tp] 37)
  clear hP hQ hbu hfit
  obtain ⟨ans, hans⟩ : ∃ a, a = (Ed.etOf (⟨kd, id, nn, pid, pep, P, pn, pc, ⟨tid, tep, Q, qn, qc, sz, lv, ct, lo, hi, tp⟩⟩, (ps, qs))).ok := ⟨_, rfl⟩
  have HR := Lib.hid hans
  rw [← hans]
  clear hans
  go_enter Tryz.func49, Tryz.ntmps49
  go_upto_region 1 with fail
  generalize (w.alloc (.cells #[.int .i64 kd, .int .i64 id, .int .i64 nn, .int .i64 pid, .int .i64 pep, .slice P pn pc, .int .i64 tid, .int .i64 tep, .slice Q qn qc, .int .i64 sz, .int .i64 lv, .int .i64 ct, .string lo, .string hi, .int .i64 tp] 37)) = u at *
  replace HXu : Hid (Holds u w.heap.size [.int .i64 kd, .int .i64 id, .int .i64 nn, .int .i64 pid, .int .i64 pep, .slice P pn pc, .int .i64 tid, .int .i64 tep, .slice Q qn qc, .int .i64 sz, .int .i64 lv, .int .i64 ct, .string lo, .string hi, .int .i64 tp]) := HXu
  have HXp := Lib.hid (fun (W : World) (hW : Below u.heap.size u W) => HXu.out.below hW)
  obtain ⟨pl, hpl⟩ : ∃ b, b = (⟨pid, pep, ps⟩ : Ed.Pl).eq Ed.noP := ⟨_, rfl⟩
  obtain ⟨tb, htb⟩ : ∃ b, b = (Ed.taOf (⟨tid, tep, Q, qn, qc, sz, lv, ct, lo, hi, tp⟩, qs)).eq Ed.noT := ⟨_, rfl⟩
  have C1 := Lib.hid (show Calls Tryz.prog 29 #[.agg #[.int .i64 pid, .int .i64 pep, .slice P pn pc], .agg #[.int .i64 0, .int .i64 0, .slice none 0 0]] u (fun e w' => e = .returned (.bool pl) ∧ Below u.heap.size u w') from by
    rw [hpl]
    exact rsameplace_any pid pep P pn pc ps 0 0 none 0 0 [] u HP.out.1 ⟨rfl, RdC.nil 2 u none⟩ HP.out.2.2 (by omega))
  have C2 := Lib.hid (fun (W : World) (hW : Below u.heap.size u W) => show Calls Tryz.prog 30 #[.agg #[.int .i64 tid, .int .i64 tep, .slice Q qn qc, .int .i64 sz, .int .i64 lv, .int .i64 ct, .string lo, .string hi, .int .i64 tp], .agg #[.int .i64 0, .int .i64 0, .slice none 0 0, .int .i64 0, .int .i64 0, .int .i64 0, .string ⟨#[]⟩, .string ⟨#[]⟩, .int .i64 0]] W (fun e w' => e = .returned (.bool tb) ∧ Below W.heap.size W w') from by
    rw [htb]
    exact rsametable_any tid tep Q qn qc sz lv ct lo hi tp qs 0 0 none 0 0 0 0 0 ⟨#[]⟩ ⟨#[]⟩ 0 [] W (HQ.out.below hW).1 ⟨rfl, RdC.nil 2 W none⟩ HQ.out.2.2 (by omega))
  have HPl := Lib.hid hpl
  have HTb := Lib.hid htb
  clear hpl htb
  have hb0 : Below u.heap.size u u := Below.refl _ _
  obtain ⟨x0, x1, x2, x3, x4, x5, x6, x7, x8, x9, x10, x11, x12, x13, x14⟩ := (HXp.out _ hb0).all15
  clear hb0
  go_wp2_with fail
  refine C1.out.mono ?_
  rintro e v2 ⟨rfl, hb2⟩
  clear C1
  clear x0 x1 x2 x3 x4 x5 x6 x7 x8 x9 x10 x11 x12 x13 x14
  have C3 := Lib.hid (C2.out v2 hb2)
  obtain ⟨x0, x1, x2, x3, x4, x5, x6, x7, x8, x9, x10, x11, x12, x13, x14⟩ := (HXp.out _ hb2).all15
  go_wp2_with fail
  refine C3.out.mono ?_
  rintro e v3 ⟨rfl, hb3⟩
  clear C2 C3
  clear x0 x1 x2 x3 x4 x5 x6 x7 x8 x9 x10 x11 x12 x13 x14
  have HB3 := Lib.hid (below_next hb2 hb3)
  clear hb2 hb3
  by_cases k1 : kd = 1
  · have g1 : (kd == 1) = true := by rw [beq_iff_eq]; exact k1
    have HO := Lib.hid (show (Ed.etOf (⟨kd, id, nn, pid, pep, P, pn, pc, ⟨tid, tep, Q, qn, qc, sz, lv, ct, lo, hi, tp⟩⟩, (ps, qs))).ok = ((Ed.from_ nn 1 2147483647) && (decide (id = 0)) && (pl) && (tb)) by (try rw [HPl.out]); (try rw [HTb.out]); exact Ed.ok_k1 k1)
    clear k1
    clear HPl HTb
    cases f0 : Ed.from_ nn 1 2147483647 with
    | false =>
      have E0 := Lib.hid f0
      clear f0
      have HF := Lib.hid (show false = ans by rw [HR.out, HO.out, E0.out]; simp)
      obtain ⟨x0, x1, x2, x3, x4, x5, x6, x7, x8, x9, x10, x11, x12, x13, x14⟩ := (HXp.out _ HB3.out).all15
      have C1 := Lib.hid (from_any nn 1 2147483647 v3)
      rw [show Ed.from_ nn 1 2147483647 = false from E0.out] at C1
      go_wp2_with fail
      refine C1.out.mono ?_
      rintro e z1 ⟨rfl, rfl⟩
      clear C1
      go_wp2
      go_ret
      exact ⟨by rw [← HF.out]; try rfl, below_next HBu.out HB3.out⟩
    | true =>
      have E0 := Lib.hid f0
      clear f0
      by_cases e1 : id = 0
      · have q1 : (id == 0) = true := by rw [beq_iff_eq]; exact e1
        cases pl with
        | false =>
          have HF := Lib.hid (show false = ans by rw [HR.out, HO.out, E0.out, decide_eq_true e1]; simp)
          obtain ⟨x0, x1, x2, x3, x4, x5, x6, x7, x8, x9, x10, x11, x12, x13, x14⟩ := (HXp.out _ HB3.out).all15
          have C1 := Lib.hid (from_any nn 1 2147483647 v3)
          rw [show Ed.from_ nn 1 2147483647 = true from E0.out] at C1
          go_wp2_with fail
          refine C1.out.mono ?_
          rintro e z1 ⟨rfl, rfl⟩
          clear C1
          go_wp2
          go_ret
          exact ⟨by rw [← HF.out]; try rfl, below_next HBu.out HB3.out⟩
        | true =>
          have HF := Lib.hid (show tb = ans by rw [HR.out, HO.out, E0.out, decide_eq_true e1]; simp)
          obtain ⟨x0, x1, x2, x3, x4, x5, x6, x7, x8, x9, x10, x11, x12, x13, x14⟩ := (HXp.out _ HB3.out).all15
          have C1 := Lib.hid (from_any nn 1 2147483647 v3)
          rw [show Ed.from_ nn 1 2147483647 = true from E0.out] at C1
          go_wp2_with fail
          refine C1.out.mono ?_
          rintro e z1 ⟨rfl, rfl⟩
          clear C1
          go_wp2
          go_ret
          exact ⟨by rw [← HF.out]; try rfl, below_next HBu.out HB3.out⟩
      · have HF := Lib.hid (show false = ans by rw [HR.out, HO.out, E0.out, decide_eq_false e1]; simp)
        have q1 : (id == 0) = false := by rw [beq_eq_false_iff_ne]; exact e1
        obtain ⟨x0, x1, x2, x3, x4, x5, x6, x7, x8, x9, x10, x11, x12, x13, x14⟩ := (HXp.out _ HB3.out).all15
        have C1 := Lib.hid (from_any nn 1 2147483647 v3)
        rw [show Ed.from_ nn 1 2147483647 = true from E0.out] at C1
        go_wp2_with fail
        refine C1.out.mono ?_
        rintro e z1 ⟨rfl, rfl⟩
        clear C1
        go_wp2
        go_ret
        exact ⟨by rw [← HF.out]; try rfl, below_next HBu.out HB3.out⟩
  have g1 : (kd == 1) = false := by rw [beq_eq_false_iff_ne]; exact k1
  by_cases k2 : kd = 2
  · have g2 : (kd == 2) = true := by rw [beq_iff_eq]; exact k2
    have HO := Lib.hid (show (Ed.etOf (⟨kd, id, nn, pid, pep, P, pn, pc, ⟨tid, tep, Q, qn, qc, sz, lv, ct, lo, hi, tp⟩⟩, (ps, qs))).ok = ((Ed.from_ nn 0 1099511627776) && (decide (id = 0)) && (pl) && (tb)) by (try rw [HPl.out]); (try rw [HTb.out]); exact Ed.ok_k2 k2)
    clear k2
    clear HPl HTb
    cases f0 : Ed.from_ nn 0 1099511627776 with
    | false =>
      have E0 := Lib.hid f0
      clear f0
      have HF := Lib.hid (show false = ans by rw [HR.out, HO.out, E0.out]; simp)
      obtain ⟨x0, x1, x2, x3, x4, x5, x6, x7, x8, x9, x10, x11, x12, x13, x14⟩ := (HXp.out _ HB3.out).all15
      have C1 := Lib.hid (from_any nn 0 1099511627776 v3)
      rw [show Ed.from_ nn 0 1099511627776 = false from E0.out] at C1
      go_wp2_with fail
      refine C1.out.mono ?_
      rintro e z1 ⟨rfl, rfl⟩
      clear C1
      go_wp2
      go_ret
      exact ⟨by rw [← HF.out]; try rfl, below_next HBu.out HB3.out⟩
    | true =>
      have E0 := Lib.hid f0
      clear f0
      by_cases e1 : id = 0
      · have q1 : (id == 0) = true := by rw [beq_iff_eq]; exact e1
        cases pl with
        | false =>
          have HF := Lib.hid (show false = ans by rw [HR.out, HO.out, E0.out, decide_eq_true e1]; simp)
          obtain ⟨x0, x1, x2, x3, x4, x5, x6, x7, x8, x9, x10, x11, x12, x13, x14⟩ := (HXp.out _ HB3.out).all15
          have C1 := Lib.hid (from_any nn 0 1099511627776 v3)
          rw [show Ed.from_ nn 0 1099511627776 = true from E0.out] at C1
          go_wp2_with fail
          refine C1.out.mono ?_
          rintro e z1 ⟨rfl, rfl⟩
          clear C1
          go_wp2
          go_ret
          exact ⟨by rw [← HF.out]; try rfl, below_next HBu.out HB3.out⟩
        | true =>
          have HF := Lib.hid (show tb = ans by rw [HR.out, HO.out, E0.out, decide_eq_true e1]; simp)
          obtain ⟨x0, x1, x2, x3, x4, x5, x6, x7, x8, x9, x10, x11, x12, x13, x14⟩ := (HXp.out _ HB3.out).all15
          have C1 := Lib.hid (from_any nn 0 1099511627776 v3)
          rw [show Ed.from_ nn 0 1099511627776 = true from E0.out] at C1
          go_wp2_with fail
          refine C1.out.mono ?_
          rintro e z1 ⟨rfl, rfl⟩
          clear C1
          go_wp2
          go_ret
          exact ⟨by rw [← HF.out]; try rfl, below_next HBu.out HB3.out⟩
      · have HF := Lib.hid (show false = ans by rw [HR.out, HO.out, E0.out, decide_eq_false e1]; simp)
        have q1 : (id == 0) = false := by rw [beq_eq_false_iff_ne]; exact e1
        obtain ⟨x0, x1, x2, x3, x4, x5, x6, x7, x8, x9, x10, x11, x12, x13, x14⟩ := (HXp.out _ HB3.out).all15
        have C1 := Lib.hid (from_any nn 0 1099511627776 v3)
        rw [show Ed.from_ nn 0 1099511627776 = true from E0.out] at C1
        go_wp2_with fail
        refine C1.out.mono ?_
        rintro e z1 ⟨rfl, rfl⟩
        clear C1
        go_wp2
        go_ret
        exact ⟨by rw [← HF.out]; try rfl, below_next HBu.out HB3.out⟩
  have g2 : (kd == 2) = false := by rw [beq_eq_false_iff_ne]; exact k2
  by_cases k3 : kd = 3
  · have g3 : (kd == 3) = true := by rw [beq_iff_eq]; exact k3
    have HO := Lib.hid (show (Ed.etOf (⟨kd, id, nn, pid, pep, P, pn, pc, ⟨tid, tep, Q, qn, qc, sz, lv, ct, lo, hi, tp⟩⟩, (ps, qs))).ok = ((Ed.okP pid pep ps) && (decide (id = 0)) && (decide (nn = 0)) && (tb)) by (try rw [HPl.out]); (try rw [HTb.out]); exact Ed.ok_k3 k3)
    clear k3
    clear HPl HTb
    cases f0 : Ed.okP pid pep ps with
    | false =>
      have E0 := Lib.hid f0
      clear f0
      have HF := Lib.hid (show false = ans by rw [HR.out, HO.out, E0.out]; simp)
      obtain ⟨x0, x1, x2, x3, x4, x5, x6, x7, x8, x9, x10, x11, x12, x13, x14⟩ := (HXp.out _ HB3.out).all15
      have C1 := Lib.hid (isplace_any pid pep P pn pc ps v3 (HP.out.below HB3.out).1 HP.out.2.2)
      rw [show Ed.okP pid pep ps = false from E0.out] at C1
      go_wp2_with fail
      refine C1.out.mono ?_
      rintro e z1 ⟨rfl, hz⟩
      have HB4 := Lib.hid (below_next HB3.out hz)
      clear hz C1
      clear x0 x1 x2 x3 x4 x5 x6 x7 x8 x9 x10 x11 x12 x13 x14
      obtain ⟨x0, x1, x2, x3, x4, x5, x6, x7, x8, x9, x10, x11, x12, x13, x14⟩ := (HXp.out _ HB4.out).all15
      go_wp2
      go_ret
      exact ⟨by rw [← HF.out]; try rfl, below_next HBu.out HB4.out⟩
    | true =>
      have E0 := Lib.hid f0
      clear f0
      by_cases e1 : id = 0
      · have q1 : (id == 0) = true := by rw [beq_iff_eq]; exact e1
        by_cases e2 : nn = 0
        · have q2 : (nn == 0) = true := by rw [beq_iff_eq]; exact e2
          have HF := Lib.hid (show tb = ans by rw [HR.out, HO.out, E0.out, decide_eq_true e1, decide_eq_true e2]; simp)
          obtain ⟨x0, x1, x2, x3, x4, x5, x6, x7, x8, x9, x10, x11, x12, x13, x14⟩ := (HXp.out _ HB3.out).all15
          have C1 := Lib.hid (isplace_any pid pep P pn pc ps v3 (HP.out.below HB3.out).1 HP.out.2.2)
          rw [show Ed.okP pid pep ps = true from E0.out] at C1
          go_wp2_with fail
          refine C1.out.mono ?_
          rintro e z1 ⟨rfl, hz⟩
          have HB4 := Lib.hid (below_next HB3.out hz)
          clear hz C1
          clear x0 x1 x2 x3 x4 x5 x6 x7 x8 x9 x10 x11 x12 x13 x14
          obtain ⟨x0, x1, x2, x3, x4, x5, x6, x7, x8, x9, x10, x11, x12, x13, x14⟩ := (HXp.out _ HB4.out).all15
          go_wp2
          go_ret
          exact ⟨by rw [← HF.out]; try rfl, below_next HBu.out HB4.out⟩
        · have HF := Lib.hid (show false = ans by rw [HR.out, HO.out, E0.out, decide_eq_true e1, decide_eq_false e2]; simp)
          have q2 : (nn == 0) = false := by rw [beq_eq_false_iff_ne]; exact e2
          obtain ⟨x0, x1, x2, x3, x4, x5, x6, x7, x8, x9, x10, x11, x12, x13, x14⟩ := (HXp.out _ HB3.out).all15
          have C1 := Lib.hid (isplace_any pid pep P pn pc ps v3 (HP.out.below HB3.out).1 HP.out.2.2)
          rw [show Ed.okP pid pep ps = true from E0.out] at C1
          go_wp2_with fail
          refine C1.out.mono ?_
          rintro e z1 ⟨rfl, hz⟩
          have HB4 := Lib.hid (below_next HB3.out hz)
          clear hz C1
          clear x0 x1 x2 x3 x4 x5 x6 x7 x8 x9 x10 x11 x12 x13 x14
          obtain ⟨x0, x1, x2, x3, x4, x5, x6, x7, x8, x9, x10, x11, x12, x13, x14⟩ := (HXp.out _ HB4.out).all15
          go_wp2
          go_ret
          exact ⟨by rw [← HF.out]; try rfl, below_next HBu.out HB4.out⟩
      · have HF := Lib.hid (show false = ans by rw [HR.out, HO.out, E0.out, decide_eq_false e1]; simp)
        have q1 : (id == 0) = false := by rw [beq_eq_false_iff_ne]; exact e1
        obtain ⟨x0, x1, x2, x3, x4, x5, x6, x7, x8, x9, x10, x11, x12, x13, x14⟩ := (HXp.out _ HB3.out).all15
        have C1 := Lib.hid (isplace_any pid pep P pn pc ps v3 (HP.out.below HB3.out).1 HP.out.2.2)
        rw [show Ed.okP pid pep ps = true from E0.out] at C1
        go_wp2_with fail
        refine C1.out.mono ?_
        rintro e z1 ⟨rfl, hz⟩
        have HB4 := Lib.hid (below_next HB3.out hz)
        clear hz C1
        clear x0 x1 x2 x3 x4 x5 x6 x7 x8 x9 x10 x11 x12 x13 x14
        obtain ⟨x0, x1, x2, x3, x4, x5, x6, x7, x8, x9, x10, x11, x12, x13, x14⟩ := (HXp.out _ HB4.out).all15
        go_wp2
        go_ret
        exact ⟨by rw [← HF.out]; try rfl, below_next HBu.out HB4.out⟩
  have g3 : (kd == 3) = false := by rw [beq_eq_false_iff_ne]; exact k3
  by_cases k4 : kd = 4
  · have g4 : (kd == 4) = true := by rw [beq_iff_eq]; exact k4
    have HO := Lib.hid (show (Ed.etOf (⟨kd, id, nn, pid, pep, P, pn, pc, ⟨tid, tep, Q, qn, qc, sz, lv, ct, lo, hi, tp⟩⟩, (ps, qs))).ok = ((Ed.from_ id 1 2147483647) && (Ed.from_ nn 0 1099511627776) && (pl) && (tb)) by (try rw [HPl.out]); (try rw [HTb.out]); exact Ed.ok_k4 k4)
    clear k4
    clear HPl HTb
    cases f0 : Ed.from_ id 1 2147483647 with
    | false =>
      have E0 := Lib.hid f0
      clear f0
      have HF := Lib.hid (show false = ans by rw [HR.out, HO.out, E0.out]; simp)
      obtain ⟨x0, x1, x2, x3, x4, x5, x6, x7, x8, x9, x10, x11, x12, x13, x14⟩ := (HXp.out _ HB3.out).all15
      have C1 := Lib.hid (from_any id 1 2147483647 v3)
      rw [show Ed.from_ id 1 2147483647 = false from E0.out] at C1
      go_wp2_with fail
      refine C1.out.mono ?_
      rintro e z1 ⟨rfl, rfl⟩
      clear C1
      go_wp2
      go_ret
      exact ⟨by rw [← HF.out]; try rfl, below_next HBu.out HB3.out⟩
    | true =>
      have E0 := Lib.hid f0
      clear f0
      cases f1 : Ed.from_ nn 0 1099511627776 with
      | false =>
        have E1 := Lib.hid f1
        clear f1
        have HF := Lib.hid (show false = ans by rw [HR.out, HO.out, E0.out, E1.out]; simp)
        obtain ⟨x0, x1, x2, x3, x4, x5, x6, x7, x8, x9, x10, x11, x12, x13, x14⟩ := (HXp.out _ HB3.out).all15
        have C1 := Lib.hid (from_any id 1 2147483647 v3)
        rw [show Ed.from_ id 1 2147483647 = true from E0.out] at C1
        go_wp2_with fail
        refine C1.out.mono ?_
        rintro e z1 ⟨rfl, rfl⟩
        clear C1
        have C2 := Lib.hid (from_any nn 0 1099511627776 z1)
        rw [show Ed.from_ nn 0 1099511627776 = false from E1.out] at C2
        go_wp2_with fail
        refine C2.out.mono ?_
        rintro e z2 ⟨rfl, rfl⟩
        clear C2
        go_wp2
        go_ret
        exact ⟨by rw [← HF.out]; try rfl, below_next HBu.out HB3.out⟩
      | true =>
        have E1 := Lib.hid f1
        clear f1
        cases pl with
        | false =>
          have HF := Lib.hid (show false = ans by rw [HR.out, HO.out, E0.out, E1.out]; simp)
          obtain ⟨x0, x1, x2, x3, x4, x5, x6, x7, x8, x9, x10, x11, x12, x13, x14⟩ := (HXp.out _ HB3.out).all15
          have C1 := Lib.hid (from_any id 1 2147483647 v3)
          rw [show Ed.from_ id 1 2147483647 = true from E0.out] at C1
          go_wp2_with fail
          refine C1.out.mono ?_
          rintro e z1 ⟨rfl, rfl⟩
          clear C1
          have C2 := Lib.hid (from_any nn 0 1099511627776 z1)
          rw [show Ed.from_ nn 0 1099511627776 = true from E1.out] at C2
          go_wp2_with fail
          refine C2.out.mono ?_
          rintro e z2 ⟨rfl, rfl⟩
          clear C2
          go_wp2
          go_ret
          exact ⟨by rw [← HF.out]; try rfl, below_next HBu.out HB3.out⟩
        | true =>
          have HF := Lib.hid (show tb = ans by rw [HR.out, HO.out, E0.out, E1.out]; simp)
          obtain ⟨x0, x1, x2, x3, x4, x5, x6, x7, x8, x9, x10, x11, x12, x13, x14⟩ := (HXp.out _ HB3.out).all15
          have C1 := Lib.hid (from_any id 1 2147483647 v3)
          rw [show Ed.from_ id 1 2147483647 = true from E0.out] at C1
          go_wp2_with fail
          refine C1.out.mono ?_
          rintro e z1 ⟨rfl, rfl⟩
          clear C1
          have C2 := Lib.hid (from_any nn 0 1099511627776 z1)
          rw [show Ed.from_ nn 0 1099511627776 = true from E1.out] at C2
          go_wp2_with fail
          refine C2.out.mono ?_
          rintro e z2 ⟨rfl, rfl⟩
          clear C2
          go_wp2
          go_ret
          exact ⟨by rw [← HF.out]; try rfl, below_next HBu.out HB3.out⟩
  have g4 : (kd == 4) = false := by rw [beq_eq_false_iff_ne]; exact k4
  by_cases k5 : kd = 5
  · have g5 : (kd == 5) = true := by rw [beq_iff_eq]; exact k5
    have HO := Lib.hid (show (Ed.etOf (⟨kd, id, nn, pid, pep, P, pn, pc, ⟨tid, tep, Q, qn, qc, sz, lv, ct, lo, hi, tp⟩⟩, (ps, qs))).ok = ((Ed.from_ id 1 2147483647) && (decide (nn = 0)) && (pl) && (tb)) by (try rw [HPl.out]); (try rw [HTb.out]); exact Ed.ok_k5 k5)
    clear k5
    clear HPl HTb
    cases f0 : Ed.from_ id 1 2147483647 with
    | false =>
      have E0 := Lib.hid f0
      clear f0
      have HF := Lib.hid (show false = ans by rw [HR.out, HO.out, E0.out]; simp)
      obtain ⟨x0, x1, x2, x3, x4, x5, x6, x7, x8, x9, x10, x11, x12, x13, x14⟩ := (HXp.out _ HB3.out).all15
      have C1 := Lib.hid (from_any id 1 2147483647 v3)
      rw [show Ed.from_ id 1 2147483647 = false from E0.out] at C1
      go_wp2_with fail
      refine C1.out.mono ?_
      rintro e z1 ⟨rfl, rfl⟩
      clear C1
      go_wp2
      go_ret
      exact ⟨by rw [← HF.out]; try rfl, below_next HBu.out HB3.out⟩
    | true =>
      have E0 := Lib.hid f0
      clear f0
      by_cases e1 : nn = 0
      · have q1 : (nn == 0) = true := by rw [beq_iff_eq]; exact e1
        cases pl with
        | false =>
          have HF := Lib.hid (show false = ans by rw [HR.out, HO.out, E0.out, decide_eq_true e1]; simp)
          obtain ⟨x0, x1, x2, x3, x4, x5, x6, x7, x8, x9, x10, x11, x12, x13, x14⟩ := (HXp.out _ HB3.out).all15
          have C1 := Lib.hid (from_any id 1 2147483647 v3)
          rw [show Ed.from_ id 1 2147483647 = true from E0.out] at C1
          go_wp2_with fail
          refine C1.out.mono ?_
          rintro e z1 ⟨rfl, rfl⟩
          clear C1
          go_wp2
          go_ret
          exact ⟨by rw [← HF.out]; try rfl, below_next HBu.out HB3.out⟩
        | true =>
          have HF := Lib.hid (show tb = ans by rw [HR.out, HO.out, E0.out, decide_eq_true e1]; simp)
          obtain ⟨x0, x1, x2, x3, x4, x5, x6, x7, x8, x9, x10, x11, x12, x13, x14⟩ := (HXp.out _ HB3.out).all15
          have C1 := Lib.hid (from_any id 1 2147483647 v3)
          rw [show Ed.from_ id 1 2147483647 = true from E0.out] at C1
          go_wp2_with fail
          refine C1.out.mono ?_
          rintro e z1 ⟨rfl, rfl⟩
          clear C1
          go_wp2
          go_ret
          exact ⟨by rw [← HF.out]; try rfl, below_next HBu.out HB3.out⟩
      · have HF := Lib.hid (show false = ans by rw [HR.out, HO.out, E0.out, decide_eq_false e1]; simp)
        have q1 : (nn == 0) = false := by rw [beq_eq_false_iff_ne]; exact e1
        obtain ⟨x0, x1, x2, x3, x4, x5, x6, x7, x8, x9, x10, x11, x12, x13, x14⟩ := (HXp.out _ HB3.out).all15
        have C1 := Lib.hid (from_any id 1 2147483647 v3)
        rw [show Ed.from_ id 1 2147483647 = true from E0.out] at C1
        go_wp2_with fail
        refine C1.out.mono ?_
        rintro e z1 ⟨rfl, rfl⟩
        clear C1
        go_wp2
        go_ret
        exact ⟨by rw [← HF.out]; try rfl, below_next HBu.out HB3.out⟩
  have g5 : (kd == 5) = false := by rw [beq_eq_false_iff_ne]; exact k5
  by_cases k7 : kd = 7
  · have g7 : (kd == 7) = true := by rw [beq_iff_eq]; exact k7
    have HO := Lib.hid (show (Ed.etOf (⟨kd, id, nn, pid, pep, P, pn, pc, ⟨tid, tep, Q, qn, qc, sz, lv, ct, lo, hi, tp⟩⟩, (ps, qs))).ok = ((Ed.from_ id 1 2147483647) && (decide (nn = 0)) && (pl) && (tb)) by (try rw [HPl.out]); (try rw [HTb.out]); exact Ed.ok_k7 k7)
    clear k7
    clear HPl HTb
    cases f0 : Ed.from_ id 1 2147483647 with
    | false =>
      have E0 := Lib.hid f0
      clear f0
      have HF := Lib.hid (show false = ans by rw [HR.out, HO.out, E0.out]; simp)
      obtain ⟨x0, x1, x2, x3, x4, x5, x6, x7, x8, x9, x10, x11, x12, x13, x14⟩ := (HXp.out _ HB3.out).all15
      have C1 := Lib.hid (from_any id 1 2147483647 v3)
      rw [show Ed.from_ id 1 2147483647 = false from E0.out] at C1
      go_wp2_with fail
      refine C1.out.mono ?_
      rintro e z1 ⟨rfl, rfl⟩
      clear C1
      go_wp2
      go_ret
      exact ⟨by rw [← HF.out]; try rfl, below_next HBu.out HB3.out⟩
    | true =>
      have E0 := Lib.hid f0
      clear f0
      by_cases e1 : nn = 0
      · have q1 : (nn == 0) = true := by rw [beq_iff_eq]; exact e1
        cases pl with
        | false =>
          have HF := Lib.hid (show false = ans by rw [HR.out, HO.out, E0.out, decide_eq_true e1]; simp)
          obtain ⟨x0, x1, x2, x3, x4, x5, x6, x7, x8, x9, x10, x11, x12, x13, x14⟩ := (HXp.out _ HB3.out).all15
          have C1 := Lib.hid (from_any id 1 2147483647 v3)
          rw [show Ed.from_ id 1 2147483647 = true from E0.out] at C1
          go_wp2_with fail
          refine C1.out.mono ?_
          rintro e z1 ⟨rfl, rfl⟩
          clear C1
          go_wp2
          go_ret
          exact ⟨by rw [← HF.out]; try rfl, below_next HBu.out HB3.out⟩
        | true =>
          have HF := Lib.hid (show tb = ans by rw [HR.out, HO.out, E0.out, decide_eq_true e1]; simp)
          obtain ⟨x0, x1, x2, x3, x4, x5, x6, x7, x8, x9, x10, x11, x12, x13, x14⟩ := (HXp.out _ HB3.out).all15
          have C1 := Lib.hid (from_any id 1 2147483647 v3)
          rw [show Ed.from_ id 1 2147483647 = true from E0.out] at C1
          go_wp2_with fail
          refine C1.out.mono ?_
          rintro e z1 ⟨rfl, rfl⟩
          clear C1
          go_wp2
          go_ret
          exact ⟨by rw [← HF.out]; try rfl, below_next HBu.out HB3.out⟩
      · have HF := Lib.hid (show false = ans by rw [HR.out, HO.out, E0.out, decide_eq_false e1]; simp)
        have q1 : (nn == 0) = false := by rw [beq_eq_false_iff_ne]; exact e1
        obtain ⟨x0, x1, x2, x3, x4, x5, x6, x7, x8, x9, x10, x11, x12, x13, x14⟩ := (HXp.out _ HB3.out).all15
        have C1 := Lib.hid (from_any id 1 2147483647 v3)
        rw [show Ed.from_ id 1 2147483647 = true from E0.out] at C1
        go_wp2_with fail
        refine C1.out.mono ?_
        rintro e z1 ⟨rfl, rfl⟩
        clear C1
        go_wp2
        go_ret
        exact ⟨by rw [← HF.out]; try rfl, below_next HBu.out HB3.out⟩
  have g7 : (kd == 7) = false := by rw [beq_eq_false_iff_ne]; exact k7
  by_cases k6 : kd = 6
  · have g6 : (kd == 6) = true := by rw [beq_iff_eq]; exact k6
    have HO := Lib.hid (show (Ed.etOf (⟨kd, id, nn, pid, pep, P, pn, pc, ⟨tid, tep, Q, qn, qc, sz, lv, ct, lo, hi, tp⟩⟩, (ps, qs))).ok = ((Ed.okT ⟨tid, tep, Q, qn, qc, sz, lv, ct, lo, hi, tp⟩ qs) && (decide (id = 0)) && (decide (nn = 0)) && (pl)) by (try rw [HPl.out]); (try rw [HTb.out]); exact Ed.ok_k6 k6)
    clear k6
    clear HPl HTb
    cases f0 : Ed.okT ⟨tid, tep, Q, qn, qc, sz, lv, ct, lo, hi, tp⟩ qs with
    | false =>
      have E0 := Lib.hid f0
      clear f0
      have HF := Lib.hid (show false = ans by rw [HR.out, HO.out, E0.out]; simp)
      obtain ⟨x0, x1, x2, x3, x4, x5, x6, x7, x8, x9, x10, x11, x12, x13, x14⟩ := (HXp.out _ HB3.out).all15
      have C1 := Lib.hid (ristable_any ⟨tid, tep, Q, qn, qc, sz, lv, ct, lo, hi, tp⟩ qs v3 (HQ.out.below HB3.out).1 HFt.out HQ.out.2.2)
      rw [show Ed.okT ⟨tid, tep, Q, qn, qc, sz, lv, ct, lo, hi, tp⟩ qs = false from E0.out] at C1
      go_wp2_with fail
      refine C1.out.mono ?_
      rintro e z1 ⟨rfl, hz⟩
      have HB4 := Lib.hid (below_next HB3.out hz)
      clear hz C1
      clear x0 x1 x2 x3 x4 x5 x6 x7 x8 x9 x10 x11 x12 x13 x14
      obtain ⟨x0, x1, x2, x3, x4, x5, x6, x7, x8, x9, x10, x11, x12, x13, x14⟩ := (HXp.out _ HB4.out).all15
      go_wp2
      go_ret
      exact ⟨by rw [← HF.out]; try rfl, below_next HBu.out HB4.out⟩
    | true =>
      have E0 := Lib.hid f0
      clear f0
      by_cases e1 : id = 0
      · have q1 : (id == 0) = true := by rw [beq_iff_eq]; exact e1
        by_cases e2 : nn = 0
        · have q2 : (nn == 0) = true := by rw [beq_iff_eq]; exact e2
          have HF := Lib.hid (show pl = ans by rw [HR.out, HO.out, E0.out, decide_eq_true e1, decide_eq_true e2]; simp)
          obtain ⟨x0, x1, x2, x3, x4, x5, x6, x7, x8, x9, x10, x11, x12, x13, x14⟩ := (HXp.out _ HB3.out).all15
          have C1 := Lib.hid (ristable_any ⟨tid, tep, Q, qn, qc, sz, lv, ct, lo, hi, tp⟩ qs v3 (HQ.out.below HB3.out).1 HFt.out HQ.out.2.2)
          rw [show Ed.okT ⟨tid, tep, Q, qn, qc, sz, lv, ct, lo, hi, tp⟩ qs = true from E0.out] at C1
          go_wp2_with fail
          refine C1.out.mono ?_
          rintro e z1 ⟨rfl, hz⟩
          have HB4 := Lib.hid (below_next HB3.out hz)
          clear hz C1
          clear x0 x1 x2 x3 x4 x5 x6 x7 x8 x9 x10 x11 x12 x13 x14
          obtain ⟨x0, x1, x2, x3, x4, x5, x6, x7, x8, x9, x10, x11, x12, x13, x14⟩ := (HXp.out _ HB4.out).all15
          go_wp2
          go_ret
          exact ⟨by rw [← HF.out]; try rfl, below_next HBu.out HB4.out⟩
        · have HF := Lib.hid (show false = ans by rw [HR.out, HO.out, E0.out, decide_eq_true e1, decide_eq_false e2]; simp)
          have q2 : (nn == 0) = false := by rw [beq_eq_false_iff_ne]; exact e2
          obtain ⟨x0, x1, x2, x3, x4, x5, x6, x7, x8, x9, x10, x11, x12, x13, x14⟩ := (HXp.out _ HB3.out).all15
          have C1 := Lib.hid (ristable_any ⟨tid, tep, Q, qn, qc, sz, lv, ct, lo, hi, tp⟩ qs v3 (HQ.out.below HB3.out).1 HFt.out HQ.out.2.2)
          rw [show Ed.okT ⟨tid, tep, Q, qn, qc, sz, lv, ct, lo, hi, tp⟩ qs = true from E0.out] at C1
          go_wp2_with fail
          refine C1.out.mono ?_
          rintro e z1 ⟨rfl, hz⟩
          have HB4 := Lib.hid (below_next HB3.out hz)
          clear hz C1
          clear x0 x1 x2 x3 x4 x5 x6 x7 x8 x9 x10 x11 x12 x13 x14
          obtain ⟨x0, x1, x2, x3, x4, x5, x6, x7, x8, x9, x10, x11, x12, x13, x14⟩ := (HXp.out _ HB4.out).all15
          go_wp2
          go_ret
          exact ⟨by rw [← HF.out]; try rfl, below_next HBu.out HB4.out⟩
      · have HF := Lib.hid (show false = ans by rw [HR.out, HO.out, E0.out, decide_eq_false e1]; simp)
        have q1 : (id == 0) = false := by rw [beq_eq_false_iff_ne]; exact e1
        obtain ⟨x0, x1, x2, x3, x4, x5, x6, x7, x8, x9, x10, x11, x12, x13, x14⟩ := (HXp.out _ HB3.out).all15
        have C1 := Lib.hid (ristable_any ⟨tid, tep, Q, qn, qc, sz, lv, ct, lo, hi, tp⟩ qs v3 (HQ.out.below HB3.out).1 HFt.out HQ.out.2.2)
        rw [show Ed.okT ⟨tid, tep, Q, qn, qc, sz, lv, ct, lo, hi, tp⟩ qs = true from E0.out] at C1
        go_wp2_with fail
        refine C1.out.mono ?_
        rintro e z1 ⟨rfl, hz⟩
        have HB4 := Lib.hid (below_next HB3.out hz)
        clear hz C1
        clear x0 x1 x2 x3 x4 x5 x6 x7 x8 x9 x10 x11 x12 x13 x14
        obtain ⟨x0, x1, x2, x3, x4, x5, x6, x7, x8, x9, x10, x11, x12, x13, x14⟩ := (HXp.out _ HB4.out).all15
        go_wp2
        go_ret
        exact ⟨by rw [← HF.out]; try rfl, below_next HBu.out HB4.out⟩
  have g6 : (kd == 6) = false := by rw [beq_eq_false_iff_ne]; exact k6
  have HF := Lib.hid (show false = ans by rw [HR.out, Ed.ok_else k1 k2 k3 k4 k5 k6 k7])
  clear k1 k2 k3 k4 k5 k6 k7
  obtain ⟨x0, x1, x2, x3, x4, x5, x6, x7, x8, x9, x10, x11, x12, x13, x14⟩ := (HXp.out _ HB3.out).all15
  go_wp2
  go_ret
  exact ⟨by rw [← HF.out]; try rfl, below_next HBu.out HB3.out⟩
end Go.Proofs.YthfcjlndaajkfaaGreat
