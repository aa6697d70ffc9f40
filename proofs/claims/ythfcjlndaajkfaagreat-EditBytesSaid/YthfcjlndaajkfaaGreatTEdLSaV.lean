/- The document's SameTable. The document's samePlace and Same. -/
import Derived.Test.YthfcjlndaajkfaaGreatG04
import Derived.Laws.StructEq
import Derived.Deep.RegionHeld3
import Derived.Test.YthfcjlndaajkfaaGreatTHeldS
namespace Go.Proofs.YthfcjlndaajkfaaGreat
open Go.RowKit
set_option linter.unusedVariables false
set_option linter.unusedSimpArgs false
set_option maxRecDepth 100000 in
set_option maxHeartbeats 8000000 in
theorem rsametable_any (id ep : Int) (A : Option Addr) (n c : Nat) (sz lv ct : Int) (lo hi : ByteArray) (tp : Int) (ps : List (Int × Int)) (id2 ep2 : Int) (B : Option Addr) (m d : Nat) (sz2 lv2 ct2 : Int) (lo2 hi2 : ByteArray) (tp2 : Int) (qs : List (Int × Int)) (w : World) (h1 : RdPs w A n ps) (h2 : RdPs w B m qs) (hn : n ≤ 9223372036854775807) (hm : m ≤ 9223372036854775807) :
    Calls Tryz.prog 30 #[.agg #[.int .i64 id, .int .i64 ep, .slice A n c, .int .i64 sz, .int .i64 lv, .int .i64 ct, .string lo, .string hi, .int .i64 tp], .agg #[.int .i64 id2, .int .i64 ep2, .slice B m d, .int .i64 sz2, .int .i64 lv2, .int .i64 ct2, .string lo2, .string hi2, .int .i64 tp2]] w fun e w' => e = .returned (.bool ((⟨⟨id, ep, ps⟩, sz, lv, ct, lo, hi, tp⟩ : Ed.Ta).eq ⟨⟨id2, ep2, qs⟩, sz2, lv2, ct2, lo2, hi2, tp2⟩)) ∧ Below w.heap.size w w' := by
  have hb2 : Below w.heap.size w ((w.alloc (.cells #[.int .i64 id, .int .i64 ep, .slice A n c, .int .i64 sz, .int .i64 lv, .int .i64 ct, .string lo, .string hi, .int .i64 tp] 35)).alloc (.cells #[.int .i64 id2, .int .i64 ep2, .slice B m d, .int .i64 sz2, .int .i64 lv2, .int .i64 ct2, .string lo2, .string hi2, .int .i64 tp2] 35)) := ((Below.refl _ _).alloc (Nat.le_refl _) _).alloc (by simp) _
  have H1 := Lib.hid (h1.below hb2)
  have H2 := Lib.hid (h2.below hb2)
  have L1 := Lib.hid h1.1
  have L2 := Lib.hid h2.1
  have HX := Lib.hid ((Holds.new w #[.int .i64 id, .int .i64 ep, .slice A n c, .int .i64 sz, .int .i64 lv, .int .i64 ct, .string lo, .string hi, .int .i64 tp] 35).alloc (.cells #[.int .i64 id2, .int .i64 ep2, .slice B m d, .int .i64 sz2, .int .i64 lv2, .int .i64 ct2, .string lo2, .string hi2, .int .i64 tp2] 35))
  have HY := Lib.hid (show Holds ((w.alloc (.cells #[.int .i64 id, .int .i64 ep, .slice A n c, .int .i64 sz, .int .i64 lv, .int .i64 ct, .string lo, .string hi, .int .i64 tp] 35)).alloc (.cells #[.int .i64 id2, .int .i64 ep2, .slice B m d, .int .i64 sz2, .int .i64 lv2, .int .i64 ct2, .string lo2, .string hi2, .int .i64 tp2] 35)) (w.heap.size + 1) [.int .i64 id2, .int .i64 ep2, .slice B m d, .int .i64 sz2, .int .i64 lv2, .int .i64 ct2, .string lo2, .string hi2, .int .i64 tp2] from by
    have h := Holds.new (w.alloc (.cells #[.int .i64 id, .int .i64 ep, .slice A n c, .int .i64 sz, .int .i64 lv, .int .i64 ct, .string lo, .string hi, .int .i64 tp] 35)) #[.int .i64 id2, .int .i64 ep2, .slice B m d, .int .i64 sz2, .int .i64 lv2, .int .i64 ct2, .string lo2, .string hi2, .int .i64 tp2] 35
    rwa [show (w.alloc (.cells #[.int .i64 id, .int .i64 ep, .slice A n c, .int .i64 sz, .int .i64 lv, .int .i64 ct, .string lo, .string hi, .int .i64 tp] 35)).heap.size = w.heap.size + 1 by simp] at h)
  have HB := Lib.hid hb2
  clear h1 h2 hb2
  have HA := Lib.hid (show (((((((decide (id = id2) && decide (ep = ep2) && decide (ps = qs)) && decide (sz = sz2)) && decide (lv = lv2)) && decide (ct = ct2)) && Ed.seq lo lo2) && Ed.seq hi hi2) && decide (tp = tp2)) = (⟨⟨id, ep, ps⟩, sz, lv, ct, lo, hi, tp⟩ : Ed.Ta).eq ⟨⟨id2, ep2, qs⟩, sz2, lv2, ct2, lo2, hi2, tp2⟩ from rfl)
  generalize (⟨⟨id, ep, ps⟩, sz, lv, ct, lo, hi, tp⟩ : Ed.Ta).eq ⟨⟨id2, ep2, qs⟩, sz2, lv2, ct2, lo2, hi2, tp2⟩ = ans at *
  have x0 := HX.out.at_ 0 rfl
  have y0 := HY.out.at_ 0 rfl
  have x1 := HX.out.at_ 1 rfl
  have y1 := HY.out.at_ 1 rfl
  have x2 := HX.out.at_ 2 rfl
  have y2 := HY.out.at_ 2 rfl
  have x3 := HX.out.at_ 3 rfl
  have y3 := HY.out.at_ 3 rfl
  have x4 := HX.out.at_ 4 rfl
  have y4 := HY.out.at_ 4 rfl
  have x5 := HX.out.at_ 5 rfl
  have y5 := HY.out.at_ 5 rfl
  have x6 := HX.out.at_ 6 rfl
  have y6 := HY.out.at_ 6 rfl
  have x7 := HX.out.at_ 7 rfl
  have y7 := HY.out.at_ 7 rfl
  have x8 := HX.out.at_ 8 rfl
  have y8 := HY.out.at_ 8 rfl
  by_cases hnm : n = m
  case neg =>
    have ee : ((n : Int) != (m : Int)) = true := by rw [bne_iff_ne]; omega
    have HNo := Lib.hid (show decide (ps = qs) = false from decide_eq_false (fun e => hnm (by rw [← L1.out, ← L2.out, e])))
    clear hnm
    cases g0 : (id == id2) with
    | false =>
      have q0 : (id != id2) = true := by simp only [bne, g0, Bool.not_false]
      have HF := Lib.hid (show false = ans by rw [← HA.out, decide_eq_false (beq_eq_false_iff_ne.1 g0)]; simp)
      clear HA
      go_enter Tryz.func30, Tryz.ntmps30
      go_upto_region 1 with fail
      simp only [List.append_eq, List.cons_append, List.nil_append]
      go_wp2
      go_ret
      exact ⟨by rw [← HF.out]; rfl, HB.out⟩
    | true =>
    have q0 : (id != id2) = false := by simp only [bne, g0, Bool.not_true]
    cases g1 : (ep == ep2) with
    | false =>
      have q1 : (ep != ep2) = true := by simp only [bne, g1, Bool.not_false]
      have HF := Lib.hid (show false = ans by rw [← HA.out, decide_eq_false (beq_eq_false_iff_ne.1 g1)]; simp)
      clear HA
      go_enter Tryz.func30, Tryz.ntmps30
      go_upto_region 1 with fail
      simp only [List.append_eq, List.cons_append, List.nil_append]
      go_wp2
      go_ret
      exact ⟨by rw [← HF.out]; rfl, HB.out⟩
    | true =>
    have q1 : (ep != ep2) = false := by simp only [bne, g1, Bool.not_true]
    have HF := Lib.hid (show false = ans by rw [← HA.out, HNo.out]; simp)
    clear HA
    go_enter Tryz.func30, Tryz.ntmps30
    go_upto_region 1 with fail
    simp only [List.append_eq, List.cons_append, List.nil_append]
    go_wp2
    go_ret
    exact ⟨by rw [← HF.out]; rfl, HB.out⟩
  subst hnm
  have ee : ((n : Int) != (n : Int)) = false := by simp
  cases g0 : (id == id2) with
  | false =>
    have q0 : (id != id2) = true := by simp only [bne, g0, Bool.not_false]
    have HF := Lib.hid (show false = ans by rw [← HA.out, decide_eq_false (beq_eq_false_iff_ne.1 g0)]; simp)
    clear HA
    go_enter Tryz.func30, Tryz.ntmps30
    go_upto_region 1 with fail
    simp only [List.append_eq, List.cons_append, List.nil_append]
    go_wp2
    go_ret
    exact ⟨by rw [← HF.out]; rfl, HB.out⟩
  | true =>
  have q0 : (id != id2) = false := by simp only [bne, g0, Bool.not_true]
  cases g1 : (ep == ep2) with
  | false =>
    have q1 : (ep != ep2) = true := by simp only [bne, g1, Bool.not_false]
    have HF := Lib.hid (show false = ans by rw [← HA.out, decide_eq_false (beq_eq_false_iff_ne.1 g1)]; simp)
    clear HA
    go_enter Tryz.func30, Tryz.ntmps30
    go_upto_region 1 with fail
    simp only [List.append_eq, List.cons_append, List.nil_append]
    go_wp2
    go_ret
    exact ⟨by rw [← HF.out]; rfl, HB.out⟩
  | true =>
  have q1 : (ep != ep2) = false := by simp only [bne, g1, Bool.not_true]
  cases g3 : (sz == sz2) with
  | false =>
    have q3 : (sz != sz2) = true := by simp only [bne, g3, Bool.not_false]
    have HF := Lib.hid (show false = ans by rw [← HA.out, decide_eq_false (beq_eq_false_iff_ne.1 g3)]; simp)
    clear HA
    go_enter Tryz.func30, Tryz.ntmps30
    go_upto_region 1 with fail
    simp only [List.append_eq, List.cons_append, List.nil_append]
    go_wp2
    go_ret
    exact ⟨by rw [← HF.out]; rfl, HB.out⟩
  | true =>
  have q3 : (sz != sz2) = false := by simp only [bne, g3, Bool.not_true]
  cases g4 : (lv == lv2) with
  | false =>
    have q4 : (lv != lv2) = true := by simp only [bne, g4, Bool.not_false]
    have HF := Lib.hid (show false = ans by rw [← HA.out, decide_eq_false (beq_eq_false_iff_ne.1 g4)]; simp)
    clear HA
    go_enter Tryz.func30, Tryz.ntmps30
    go_upto_region 1 with fail
    simp only [List.append_eq, List.cons_append, List.nil_append]
    go_wp2
    go_ret
    exact ⟨by rw [← HF.out]; rfl, HB.out⟩
  | true =>
  have q4 : (lv != lv2) = false := by simp only [bne, g4, Bool.not_true]
  cases g5 : (ct == ct2) with
  | false =>
    have q5 : (ct != ct2) = true := by simp only [bne, g5, Bool.not_false]
    have HF := Lib.hid (show false = ans by rw [← HA.out, decide_eq_false (beq_eq_false_iff_ne.1 g5)]; simp)
    clear HA
    go_enter Tryz.func30, Tryz.ntmps30
    go_upto_region 1 with fail
    simp only [List.append_eq, List.cons_append, List.nil_append]
    go_wp2
    go_ret
    exact ⟨by rw [← HF.out]; rfl, HB.out⟩
  | true =>
  have q5 : (ct != ct2) = false := by simp only [bne, g5, Bool.not_true]
  cases g6 : (lo.toList == lo2.toList) with
  | false =>
    have q6 : (lo.toList != lo2.toList) = true := by simp only [bne, g6, Bool.not_false]
    have HF := Lib.hid (show false = ans by rw [← HA.out, show Ed.seq lo lo2 = false from g6]; simp)
    clear HA
    go_enter Tryz.func30, Tryz.ntmps30
    go_upto_region 1 with fail
    simp only [List.append_eq, List.cons_append, List.nil_append]
    go_wp2
    go_ret
    exact ⟨by rw [← HF.out]; rfl, HB.out⟩
  | true =>
  have q6 : (lo.toList != lo2.toList) = false := by simp only [bne, g6, Bool.not_true]
  cases g7 : (hi.toList == hi2.toList) with
  | false =>
    have q7 : (hi.toList != hi2.toList) = true := by simp only [bne, g7, Bool.not_false]
    have HF := Lib.hid (show false = ans by rw [← HA.out, show Ed.seq hi hi2 = false from g7]; simp)
    clear HA
    go_enter Tryz.func30, Tryz.ntmps30
    go_upto_region 1 with fail
    simp only [List.append_eq, List.cons_append, List.nil_append]
    go_wp2
    go_ret
    exact ⟨by rw [← HF.out]; rfl, HB.out⟩
  | true =>
  have q7 : (hi.toList != hi2.toList) = false := by simp only [bne, g7, Bool.not_true]
  cases g8 : (tp == tp2) with
  | false =>
    have q8 : (tp != tp2) = true := by simp only [bne, g8, Bool.not_false]
    have HF := Lib.hid (show false = ans by rw [← HA.out, decide_eq_false (beq_eq_false_iff_ne.1 g8)]; simp)
    clear HA
    go_enter Tryz.func30, Tryz.ntmps30
    go_upto_region 1 with fail
    simp only [List.append_eq, List.cons_append, List.nil_append]
    go_wp2
    go_ret
    exact ⟨by rw [← HF.out]; rfl, HB.out⟩
  | true =>
  have q8 : (tp != tp2) = false := by simp only [bne, g8, Bool.not_true]
  replace HA := Lib.hid (show decide (ps = qs) = ans by rw [← HA.out, decide_eq_true (beq_iff_eq.1 g0), decide_eq_true (beq_iff_eq.1 g1), decide_eq_true (beq_iff_eq.1 g3), decide_eq_true (beq_iff_eq.1 g4), decide_eq_true (beq_iff_eq.1 g5), show Ed.seq lo lo2 = true from g6, show Ed.seq hi hi2 = true from g7, decide_eq_true (beq_iff_eq.1 g8)]; simp)
  go_enter Tryz.func30, Tryz.ntmps30
  go_upto_region 1 with fail
  simp only [List.append_eq, List.cons_append, List.nil_append]
  go_wp2
  generalize ((w.alloc (.cells #[.int .i64 id, .int .i64 ep, .slice A n c, .int .i64 sz, .int .i64 lv, .int .i64 ct, .string lo, .string hi, .int .i64 tp] 35)).alloc (.cells #[.int .i64 id2, .int .i64 ep2, .slice B n d, .int .i64 sz2, .int .i64 lv2, .int .i64 ct2, .string lo2, .string hi2, .int .i64 tp2] 35)) = u at *
  replace HX : Hid (Holds u w.heap.size [.int .i64 id, .int .i64 ep, .slice A n c, .int .i64 sz, .int .i64 lv, .int .i64 ct, .string lo, .string hi, .int .i64 tp]) := HX
  go_loopw [5] (fun ii wr => ∃ (k : Nat), k ≤ n ∧ ii = .int .i64 (k : Int) ∧ Hid (ps.take k = qs.take k) ∧ Hid (Below u.heap.size u wr)) (fun ii _ => n - (intOf ii).toNat)
  case atStart => exact ⟨0, by omega, rfl, Lib.hid rfl, Lib.hid (Below.refl _ _)⟩
  case round =>
    clear x0 x1 x2 x3 x4 x5 x6 x7 x8 y0 y1 y2 y3 y4 y5 y6 y7 y8
    obtain ⟨k, hk, rfl, HT, HB3⟩ := hrel
    have HB4 := Lib.hid (below_next HB.out HB3.out)
    have hd : Below wr.heap.size wr wr.drew := (Below.refl _ _).drew
    have x2 := (HX.out.below HB3.out).at_ 2 rfl
    have y2 := (HY.out.below HB3.out).at_ 2 rfl
    have z2 := ((HX.out.below HB3.out).below hd).at_ 2 rfl
    have t2 := ((HY.out.below HB3.out).below hd).at_ 2 rfl
    clear hd
    by_cases hlt : k < n
    · have hki : (k : Int) < (n : Int) := by omega
      have hk0 : (0 : Int) ≤ (k : Int) := by omega
      obtain ⟨x, hx⟩ : ∃ x, ps[k]? = some x := ⟨_, List.getElem?_eq_getElem (by rw [L1.out]; exact hlt)⟩
      obtain ⟨y, hy⟩ : ∃ y, qs[k]? = some y := ⟨_, List.getElem?_eq_getElem (by rw [L2.out]; exact hlt)⟩
      obtain ⟨b, o, rfl, hb, hc⟩ := H1.out.at_ hx
      obtain ⟨b2, o2, rfl, hb2, hc2⟩ := H2.out.at_ hy
      obtain ⟨e0, e1⟩ := hc wr.drew HB3.out.drew
      obtain ⟨f0, f1⟩ := hc2 wr.drew HB3.out.drew
      have HXY := Lib.hid (And.intro hx hy)
      clear hx hy hb hb2 hc hc2
      obtain ⟨x1, x2'⟩ := x
      obtain ⟨y1, y2'⟩ := y
      dsimp only at e0 e1 f0 f1
      by_cases h1 : x1 = y1
      · subst h1
        have g0' : (x1 == x1) = true := by simp
        by_cases h2 : x2' = y2'
        · subst h2
          have g1' : (x2' == x2') = true := by simp
          go_wp2
          go_region
          all_goals
            go_wp2
            go_roundw
            case rel => exact ⟨k + 1, by omega, by go_num, Lib.hid (by rw [List.take_add_one, List.take_add_one, HXY.out.1, HXY.out.2, HT.out]), Lib.hid HB3.out.drew⟩
            case measure => simp [intOf]; omega
        · have g1' : (x2' == y2') = false := beq_eq_false_iff_ne.2 h2
          have HNo := Lib.hid (show false = ans by rw [← HA.out, decide_eq_false (ne_at HXY.out.1 HXY.out.2 (fun e => h2 (by injection e)))])
          clear h2
          go_wp2
          go_region
          all_goals
            go_wp2
            go_ret
            exact ⟨by rw [← HNo.out]; rfl, HB4.out.drew⟩
      · have g0' : (x1 == y1) = false := beq_eq_false_iff_ne.2 h1
        have HNo := Lib.hid (show false = ans by rw [← HA.out, decide_eq_false (ne_at HXY.out.1 HXY.out.2 (fun e => h1 (by injection e)))])
        clear h1
        go_wp2
        go_region
        all_goals
          go_wp2
          go_ret
          exact ⟨by rw [← HNo.out]; rfl, HB4.out.drew⟩
    · have hki : ¬ (k : Int) < (n : Int) := by omega
      have HYes := Lib.hid (show true = ans by
        have h := HT.out
        rw [List.take_of_length_le (by rw [L1.out]; omega), List.take_of_length_le (by rw [L2.out]; omega)] at h
        rw [← HA.out, decide_eq_true h])
      clear hlt
      go_wp2
      go_ret
      exact ⟨by rw [← HYes.out]; rfl, HB4.out⟩
end Go.Proofs.YthfcjlndaajkfaaGreat
namespace Go.Proofs.YthfcjlndaajkfaaGreat
open Go.RowKit
set_option linter.unusedVariables false
set_option linter.unusedSimpArgs false
theorem Ed.ta_only (p q : Ed.Pl) : Ed.Ta.eq ⟨p, 0, 0, 0, ⟨#[]⟩, ⟨#[]⟩, 0⟩ ⟨q, 0, 0, 0, ⟨#[]⟩, ⟨#[]⟩, 0⟩ = p.eq q := by simp [Ed.Ta.eq, Ed.seq]
set_option maxRecDepth 100000 in
set_option maxHeartbeats 4000000 in
theorem rsameplace_any (id ep : Int) (A : Option Addr) (n c : Nat) (ps : List (Int × Int)) (id2 ep2 : Int) (B : Option Addr) (m d : Nat) (qs : List (Int × Int)) (w : World) (h1 : RdPs w A n ps) (h2 : RdPs w B m qs) (hn : n ≤ 9223372036854775807) (hm : m ≤ 9223372036854775807) :
    Calls Tryz.prog 29 #[.agg #[.int .i64 id, .int .i64 ep, .slice A n c], .agg #[.int .i64 id2, .int .i64 ep2, .slice B m d]] w fun e w' => e = .returned (.bool ((⟨id, ep, ps⟩ : Ed.Pl).eq ⟨id2, ep2, qs⟩)) ∧ Below w.heap.size w w' := by
  have hb2 : Below w.heap.size w ((w.alloc (.cells #[.int .i64 id, .int .i64 ep, .slice A n c] 32)).alloc (.cells #[.int .i64 id2, .int .i64 ep2, .slice B m d] 32)) := ((Below.refl _ _).alloc (Nat.le_refl _) _).alloc (by simp) _
  have HP := Lib.hid (rsametable_any id ep A n c 0 0 0 ⟨#[]⟩ ⟨#[]⟩ 0 ps id2 ep2 B m d 0 0 0 ⟨#[]⟩ ⟨#[]⟩ 0 qs ((w.alloc (.cells #[.int .i64 id, .int .i64 ep, .slice A n c] 32)).alloc (.cells #[.int .i64 id2, .int .i64 ep2, .slice B m d] 32)) (h1.below hb2) (h2.below hb2) hn hm)
  have HX := Lib.hid ((Holds.new w #[.int .i64 id, .int .i64 ep, .slice A n c] 32).alloc (.cells #[.int .i64 id2, .int .i64 ep2, .slice B m d] 32))
  have HY := Lib.hid (show Holds ((w.alloc (.cells #[.int .i64 id, .int .i64 ep, .slice A n c] 32)).alloc (.cells #[.int .i64 id2, .int .i64 ep2, .slice B m d] 32)) (w.heap.size + 1) [.int .i64 id2, .int .i64 ep2, .slice B m d] from by
    have h := Holds.new (w.alloc (.cells #[.int .i64 id, .int .i64 ep, .slice A n c] 32)) #[.int .i64 id2, .int .i64 ep2, .slice B m d] 32
    rwa [show (w.alloc (.cells #[.int .i64 id, .int .i64 ep, .slice A n c] 32)).heap.size = w.heap.size + 1 by simp] at h)
  have HB := Lib.hid hb2
  clear h1 h2 hb2
  rw [Ed.ta_only] at HP
  generalize (⟨id, ep, ps⟩ : Ed.Pl).eq ⟨id2, ep2, qs⟩ = ans at *
  go_enter Tryz.func29, Tryz.ntmps29
  go_upto_region 1 with fail
  generalize ((w.alloc (.cells #[.int .i64 id, .int .i64 ep, .slice A n c] 32)).alloc (.cells #[.int .i64 id2, .int .i64 ep2, .slice B m d] 32)) = u at *
  replace HX : Hid (Holds u w.heap.size [.int .i64 id, .int .i64 ep, .slice A n c]) := HX
  have x0 := HX.out.at_ 0 rfl
  have x1 := HX.out.at_ 1 rfl
  have x2 := HX.out.at_ 2 rfl
  have y0 := HY.out.at_ 0 rfl
  have y1 := HY.out.at_ 1 rfl
  have y2 := HY.out.at_ 2 rfl
  go_wp2_with fail
  refine HP.out.mono ?_
  rintro e v ⟨rfl, hbv⟩
  have HV := Lib.hid (below_next HB.out hbv)
  clear hbv
  go_wp2
  go_ret
  exact ⟨rfl, HV.out⟩
end Go.Proofs.YthfcjlndaajkfaaGreat
