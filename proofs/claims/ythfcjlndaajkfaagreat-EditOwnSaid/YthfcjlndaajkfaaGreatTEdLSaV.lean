/- The document's SameTable. The document's samePlace and Same. -/
import Derived.Test.YthfcjlndaajkfaaGreatG04
import Derived.Laws.StructEq
import Derived.Test.YthfcjlndaajkfaaGreatG05
import Derived.Deep.RegionHeld3
import Derived.Test.YthfcjlndaajkfaaGreatTHeldS
namespace Go.Proofs.YthfcjlndaajkfaaGreat
open Go.RowKit
set_option linter.unusedVariables false
set_option linter.unusedSimpArgs false
set_option maxRecDepth 100000 in
set_option maxHeartbeats 8000000 in
theorem rsametable_any (id ep : Int) (A : Option Addr) (n c : Nat) (sz lv ct : Int) (lo hi : ByteArray) (tp : Int) (ps : List (Int × Int)) (id2 ep2 : Int) (B : Option Addr) (m d : Nat) (sz2 lv2 ct2 : Int) (lo2 hi2 : ByteArray) (tp2 : Int) (qs : List (Int × Int)) (w : World) (h1 : RdPs w A n ps) (h2 : RdPs w B m qs) (hn : n ≤ 9223372036854775807) (hm : m ≤ 9223372036854775807) :
    Calls Tryz.prog 30 #[.agg #[.int .i64 id, .int .i64 ep, .slice A n c, .int .i64 sz, .int .i64 lv, .int .i64 ct, .string lo, .string hi, .int .i64 tp], .agg #[.int .i64 id2, .int .i64 ep2, .slice B m d, .int .i64 sz2, .int .i64 lv2, .int .i64 ct2, .string lo2, .string hi2, .int .i64 tp2]] w fun e w' => e = .returned (.bool ((⟨⟨id, ep, ps⟩, sz, lv, ct, lo, hi, tp⟩ : Ed.Ta).eq ⟨⟨id2, ep2, qs⟩, sz2, lv2, ct2, lo2, hi2, tp2⟩)) ∧ Below w.heap.size w w' := by
  have hb2 : Below w.heap.size w ((w.alloc (.cells #[.int .i64 id, .int .i64 ep, .slice A n c, .int .i64 sz, .int .i64 lv, .int .i64 ct, .string lo, .string hi, .int .i64 tp] 35)).alloc (.cells #[.int .i64 id2, .int .i64 ep2, .slice B m d, .int .i64 sz2, .int .i64 lv2, .int .i64 ct2, .string lo2, .string hi2, .int .i64 tp2] 35)) := ((Below.refl _ _).alloc (Nat.le_refl _) _).alloc (by simp) _
  have H1 := hd_ (h1.below hb2)
  have H2 := hd_ (h2.below hb2)
  have L1 := hd_ h1.1
  have L2 := hd_ h2.1
  have HX := hd_ ((Holds.new w #[.int .i64 id, .int .i64 ep, .slice A n c, .int .i64 sz, .int .i64 lv, .int .i64 ct, .string lo, .string hi, .int .i64 tp] 35).alloc (.cells #[.int .i64 id2, .int .i64 ep2, .slice B m d, .int .i64 sz2, .int .i64 lv2, .int .i64 ct2, .string lo2, .string hi2, .int .i64 tp2] 35))
  have HY := hd_ (show Holds ((w.alloc (.cells #[.int .i64 id, .int .i64 ep, .slice A n c, .int .i64 sz, .int .i64 lv, .int .i64 ct, .string lo, .string hi, .int .i64 tp] 35)).alloc (.cells #[.int .i64 id2, .int .i64 ep2, .slice B m d, .int .i64 sz2, .int .i64 lv2, .int .i64 ct2, .string lo2, .string hi2, .int .i64 tp2] 35)) (w.heap.size + 1) [.int .i64 id2, .int .i64 ep2, .slice B m d, .int .i64 sz2, .int .i64 lv2, .int .i64 ct2, .string lo2, .string hi2, .int .i64 tp2] from by
    have h := Holds.new (w.alloc (.cells #[.int .i64 id, .int .i64 ep, .slice A n c, .int .i64 sz, .int .i64 lv, .int .i64 ct, .string lo, .string hi, .int .i64 tp] 35)) #[.int .i64 id2, .int .i64 ep2, .slice B m d, .int .i64 sz2, .int .i64 lv2, .int .i64 ct2, .string lo2, .string hi2, .int .i64 tp2] 35
    rwa [show (w.alloc (.cells #[.int .i64 id, .int .i64 ep, .slice A n c, .int .i64 sz, .int .i64 lv, .int .i64 ct, .string lo, .string hi, .int .i64 tp] 35)).heap.size = w.heap.size + 1 by simp] at h)
  have HB := hd_ hb2
  clear h1 h2 hb2
  have HA := hd_ (show (((((((decide (id = id2) && decide (ep = ep2) && decide (ps = qs)) && decide (sz = sz2)) && decide (lv = lv2)) && decide (ct = ct2)) && Ed.seq lo lo2) && Ed.seq hi hi2) && decide (tp = tp2)) = (⟨⟨id, ep, ps⟩, sz, lv, ct, lo, hi, tp⟩ : Ed.Ta).eq ⟨⟨id2, ep2, qs⟩, sz2, lv2, ct2, lo2, hi2, tp2⟩ from rfl)
  generalize (⟨⟨id, ep, ps⟩, sz, lv, ct, lo, hi, tp⟩ : Ed.Ta).eq ⟨⟨id2, ep2, qs⟩, sz2, lv2, ct2, lo2, hi2, tp2⟩ = ans at *
  have x0 := HX.out.at_ 0 rfl
  have y0 := HY.out.at_ 0 rfl
  have x1 := HX.out.at_ 1 rfl
  have y1 := HY.out.at_ 1 rfl
  have x2 := HX.out.at_ 2 rfl
  have y2 := HY.out.at_ 2 rfl
  have x3 := HX.out.at_ 3 rfl
  have y3 := HY.out.at_ 3 rfl
  have x4 := HX.out.at_ 4 rfl
  have y4 := HY.out.at_ 4 rfl
  have x5 := HX.out.at_ 5 rfl
  have y5 := HY.out.at_ 5 rfl
  have x6 := HX.out.at_ 6 rfl
  have y6 := HY.out.at_ 6 rfl
  have x7 := HX.out.at_ 7 rfl
  have y7 := HY.out.at_ 7 rfl
  have x8 := HX.out.at_ 8 rfl
  have y8 := HY.out.at_ 8 rfl
  by_cases hnm : n = m
  case neg =>
    have ee : ((n : Int) != (m : Int)) = true := by rw [bne_iff_ne]; omega
    have HNo := hd_ (show decide (ps = qs) = false from decide_eq_false (fun e => hnm (by rw [← L1.out, ← L2.out, e])))
    clear hnm
    cases g0 : (id == id2) with
    | false =>
      have q0 : (id != id2) = true := by simp only [bne, g0, Bool.not_false]
      have HF := hd_ (show false = ans by rw [← HA.out, decide_eq_false (beq_eq_false_iff_ne.1 g0)]; simp)
      clear HA
      go_enter Tryz.func30, Tryz.ntmps30
      go_upto_region 1 with fail
      simp only [List.append_eq, List.cons_append, List.nil_append]
      go_wp2
      go_ret
      exact ⟨by rw [← HF.out]; rfl, HB.out⟩
    | true =>
    have q0 : (id != id2) = false := by simp only [bne, g0, Bool.not_true]
    cases g1 : (ep == ep2) with
    | false =>
      have q1 : (ep != ep2) = true := by simp only [bne, g1, Bool.not_false]
      have HF := hd_ (show false = ans by rw [← HA.out, decide_eq_false (beq_eq_false_iff_ne.1 g1)]; simp)
      clear HA
      go_enter Tryz.func30, Tryz.ntmps30
      go_upto_region 1 with fail
      simp only [List.append_eq, List.cons_append, List.nil_append]
      go_wp2
      go_ret
      exact ⟨by rw [← HF.out]; rfl, HB.out⟩
    | true =>
    have q1 : (ep != ep2) = false := by simp only [bne, g1, Bool.not_true]
    have HF := hd_ (show false = ans by rw [← HA.out, HNo.out]; simp)
    clear HA
    go_enter Tryz.func30, Tryz.ntmps30
    go_upto_region 1 with fail
    simp only [List.append_eq, List.cons_append, List.nil_append]
    go_wp2
    go_ret
    exact ⟨by rw [← HF.out]; rfl, HB.out⟩
  subst hnm
  have ee : ((n : Int) != (n : Int)) = false := by simp
  cases g0 : (id == id2) with
  | false =>
    have q0 : (id != id2) = true := by simp only [bne, g0, Bool.not_false]
    have HF := hd_ (show false = ans by rw [← HA.out, decide_eq_false (beq_eq_false_iff_ne.1 g0)]; simp)
    clear HA
    go_enter Tryz.func30, Tryz.ntmps30
    go_upto_region 1 with fail
    simp only [List.append_eq, List.cons_append, List.nil_append]
    go_wp2
    go_ret
    exact ⟨by rw [← HF.out]; rfl, HB.out⟩
  | true =>
  have q0 : (id != id2) = false := by simp only [bne, g0, Bool.not_true]
  cases g1 : (ep == ep2) with
  | false =>
    have q1 : (ep != ep2) = true := by simp only [bne, g1, Bool.not_false]
    have HF := hd_ (show false = ans by rw [← HA.out, decide_eq_false (beq_eq_false_iff_ne.1 g1)]; simp)
    clear HA
    go_enter Tryz.func30, Tryz.ntmps30
    go_upto_region 1 with fail
    simp only [List.append_eq, List.cons_append, List.nil_append]
    go_wp2
    go_ret
    exact ⟨by rw [← HF.out]; rfl, HB.out⟩
  | true =>
  have q1 : (ep != ep2) = false := by simp only [bne, g1, Bool.not_true]
  cases g3 : (sz == sz2) with
  | false =>
    have q3 : (sz != sz2) = true := by simp only [bne, g3, Bool.not_false]
    have HF := hd_ (show false = ans by rw [← HA.out, decide_eq_false (beq_eq_false_iff_ne.1 g3)]; simp)
    clear HA
    go_enter Tryz.func30, Tryz.ntmps30
    go_upto_region 1 with fail
    simp only [List.append_eq, List.cons_append, List.nil_append]
    go_wp2
    go_ret
    exact ⟨by rw [← HF.out]; rfl, HB.out⟩
  | true =>
  have q3 : (sz != sz2) = false := by simp only [bne, g3, Bool.not_true]
  cases g4 : (lv == lv2) with
  | false =>
    have q4 : (lv != lv2) = true := by simp only [bne, g4, Bool.not_false]
    have HF := hd_ (show false = ans by rw [← HA.out, decide_eq_false (beq_eq_false_iff_ne.1 g4)]; simp)
    clear HA
    go_enter Tryz.func30, Tryz.ntmps30
    go_upto_region 1 with fail
    simp only [List.append_eq, List.cons_append, List.nil_append]
    go_wp2
    go_ret
    exact ⟨by rw [← HF.out]; rfl, HB.out⟩
  | true =>
  have q4 : (lv != lv2) = false := by simp only [bne, g4, Bool.not_true]
  cases g5 : (ct == ct2) with
  | false =>
    have q5 : (ct != ct2) = true := by simp only [bne, g5, Bool.not_false]
    have HF := hd_ (show false = ans by rw [← HA.out, decide_eq_false (beq_eq_false_iff_ne.1 g5)]; simp)
    clear HA
    go_enter Tryz.func30, Tryz.ntmps30
    go_upto_region 1 with fail
    simp only [List.append_eq, List.cons_append, List.nil_append]
    go_wp2
    go_ret
    exact ⟨by rw [← HF.out]; rfl, HB.out⟩
  | true =>
  have q5 : (ct != ct2) = false := by simp only [bne, g5, Bool.not_true]
  cases g6 : (lo.toList == lo2.toList) with
  | false =>
    have q6 : (lo.toList != lo2.toList) = true := by simp only [bne, g6, Bool.not_false]
    have HF := hd_ (show false = ans by rw [← HA.out, show Ed.seq lo lo2 = false from g6]; simp)
    clear HA
    go_enter Tryz.func30, Tryz.ntmps30
    go_upto_region 1 with fail
    simp only [List.append_eq, List.cons_append, List.nil_append]
    go_wp2
    go_ret
    exact ⟨by rw [← HF.out]; rfl, HB.out⟩
  | true =>
  have q6 : (lo.toList != lo2.toList) = false := by simp only [bne, g6, Bool.not_true]
  cases g7 : (hi.toList == hi2.toList) with
  | false =>
    have q7 : (hi.toList != hi2.toList) = true := by simp only [bne, g7, Bool.not_false]
    have HF := hd_ (show false = ans by rw [← HA.out, show Ed.seq hi hi2 = false from g7]; simp)
    clear HA
    go_enter Tryz.func30, Tryz.ntmps30
    go_upto_region 1 with fail
    simp only [List.append_eq, List.cons_append, List.nil_append]
    go_wp2
    go_ret
    exact ⟨by rw [← HF.out]; rfl, HB.out⟩
  | true =>
  have q7 : (hi.toList != hi2.toList) = false := by simp only [bne, g7, Bool.not_true]
  cases g8 : (tp == tp2) with
  | false =>
    have q8 : (tp != tp2) = true := by simp only [bne, g8, Bool.not_false]
    have HF := hd_ (show false = ans by rw [← HA.out, decide_eq_false (beq_eq_false_iff_ne.1 g8)]; simp)
    clear HA
    go_enter Tryz.func30, Tryz.ntmps30
    go_upto_region 1 with fail
    simp only [List.append_eq, List.cons_append, List.nil_append]
    go_wp2
    go_ret
    exact ⟨by rw [← HF.out]; rfl, HB.out⟩
  | true =>
  have q8 : (tp != tp2) = false := by simp only [bne, g8, Bool.not_true]
  replace HA := hd_ (show decide (ps = qs) = ans by rw [← HA.out, decide_eq_true (beq_iff_eq.1 g0), decide_eq_true (beq_iff_eq.1 g1), decide_eq_true (beq_iff_eq.1 g3), decide_eq_true (beq_iff_eq.1 g4), decide_eq_true (beq_iff_eq.1 g5), show Ed.seq lo lo2 = true from g6, show Ed.seq hi hi2 = true from g7, decide_eq_true (beq_iff_eq.1 g8)]; simp)
  go_enter Tryz.func30, Tryz.ntmps30
  go_upto_region 1 with fail
  simp only [List.append_eq, List.cons_append, List.nil_append]
  go_wp2
  generalize ((w.alloc (.cells #[.int .i64 id, .int .i64 ep, .slice A n c, .int .i64 sz, .int .i64 lv, .int .i64 ct, .string lo, .string hi, .int .i64 tp] 35)).alloc (.cells #[.int .i64 id2, .int .i64 ep2, .slice B n d, .int .i64 sz2, .int .i64 lv2, .int .i64 ct2, .string lo2, .string hi2, .int .i64 tp2] 35)) = u at *
  replace HX : Hid (Holds u w.heap.size [.int .i64 id, .int .i64 ep, .slice A n c, .int .i64 sz, .int .i64 lv, .int .i64 ct, .string lo, .string hi, .int .i64 tp]) := HX
  go_loopw [5] (fun ii wr => ∃ (k : Nat), k ≤ n ∧ ii = .int .i64 (k : Int) ∧ Hid (ps.take k = qs.take k) ∧ Hid (Below u.heap.size u wr)) (fun ii _ => n - (intOf ii).toNat)
  case atStart => exact ⟨0, by omega, rfl, hd_ rfl, hd_ (Below.refl _ _)⟩
  case round =>
    clear x0 x1 x2 x3 x4 x5 x6 x7 x8 y0 y1 y2 y3 y4 y5 y6 y7 y8
    obtain ⟨k, hk, rfl, HT, HB3⟩ := hrel
    have HB4 := hd_ (below_next HB.out HB3.out)
    have hd : Below wr.heap.size wr wr.drew := (Below.refl _ _).drew
    have x2 := (HX.out.below HB3.out).at_ 2 rfl
    have y2 := (HY.out.below HB3.out).at_ 2 rfl
    have z2 := ((HX.out.below HB3.out).below hd).at_ 2 rfl
    have t2 := ((HY.out.below HB3.out).below hd).at_ 2 rfl
    clear hd
    by_cases hlt : k < n
    · have hki : (k : Int) < (n : Int) := by omega
      have hk0 : (0 : Int) ≤ (k : Int) := by omega
      obtain ⟨x, hx⟩ : ∃ x, ps[k]? = some x := ⟨_, List.getElem?_eq_getElem (by rw [L1.out]; exact hlt)⟩
      obtain ⟨y, hy⟩ : ∃ y, qs[k]? = some y := ⟨_, List.getElem?_eq_getElem (by rw [L2.out]; exact hlt)⟩
      obtain ⟨b, o, rfl, hb, hc⟩ := H1.out.at_ hx
      obtain ⟨b2, o2, rfl, hb2, hc2⟩ := H2.out.at_ hy
      obtain ⟨e0, e1⟩ := hc wr.drew HB3.out.drew
      obtain ⟨f0, f1⟩ := hc2 wr.drew HB3.out.drew
      have HXY := hd_ (And.intro hx hy)
      clear hx hy hb hb2 hc hc2
      obtain ⟨x1, x2'⟩ := x
      obtain ⟨y1, y2'⟩ := y
      dsimp only at e0 e1 f0 f1
      by_cases h1 : x1 = y1
      · subst h1
        have g0' : (x1 == x1) = true := by simp
        by_cases h2 : x2' = y2'
        · subst h2
          have g1' : (x2' == x2') = true := by simp
          go_wp2
          go_region
          all_goals
            go_wp2
            go_roundw
            case rel => exact ⟨k + 1, by omega, by go_num, hd_ (by rw [List.take_add_one, List.take_add_one, HXY.out.1, HXY.out.2, HT.out]), hd_ HB3.out.drew⟩
            case measure => simp [intOf]; omega
        · have g1' : (x2' == y2') = false := beq_eq_false_iff_ne.2 h2
          have HNo := hd_ (show false = ans by rw [← HA.out, decide_eq_false (ne_at HXY.out.1 HXY.out.2 (fun e => h2 (by injection e)))])
          clear h2
          go_wp2
          go_region
          all_goals
            go_wp2
            go_ret
            exact ⟨by rw [← HNo.out]; rfl, HB4.out.drew⟩
      · have g0' : (x1 == y1) = false := beq_eq_false_iff_ne.2 h1
        have HNo := hd_ (show false = ans by rw [← HA.out, decide_eq_false (ne_at HXY.out.1 HXY.out.2 (fun e => h1 (by injection e)))])
        clear h1
        go_wp2
        go_region
        all_goals
          go_wp2
          go_ret
          exact ⟨by rw [← HNo.out]; rfl, HB4.out.drew⟩
    · have hki : ¬ (k : Int) < (n : Int) := by omega
      have HYes := hd_ (show true = ans by
        have h := HT.out
        rw [List.take_of_length_le (by rw [L1.out]; omega), List.take_of_length_le (by rw [L2.out]; omega)] at h
        rw [← HA.out, decide_eq_true h])
      clear hlt
      go_wp2
      go_ret
      exact ⟨by rw [← HYes.out]; rfl, HB4.out⟩
end Go.Proofs.YthfcjlndaajkfaaGreat
namespace Go.Proofs.YthfcjlndaajkfaaGreat
open Go.RowKit
set_option linter.unusedVariables false
set_option linter.unusedSimpArgs false
theorem Ed.ta_only (p q : Ed.Pl) : Ed.Ta.eq ⟨p, 0, 0, 0, ⟨#[]⟩, ⟨#[]⟩, 0⟩ ⟨q, 0, 0, 0, ⟨#[]⟩, ⟨#[]⟩, 0⟩ = p.eq q := by simp [Ed.Ta.eq, Ed.seq]
set_option maxRecDepth 100000 in
set_option maxHeartbeats 4000000 in
theorem rsameplace_any (id ep : Int) (A : Option Addr) (n c : Nat) (ps : List (Int × Int)) (id2 ep2 : Int) (B : Option Addr) (m d : Nat) (qs : List (Int × Int)) (w : World) (h1 : RdPs w A n ps) (h2 : RdPs w B m qs) (hn : n ≤ 9223372036854775807) (hm : m ≤ 9223372036854775807) :
    Calls Tryz.prog 29 #[.agg #[.int .i64 id, .int .i64 ep, .slice A n c], .agg #[.int .i64 id2, .int .i64 ep2, .slice B m d]] w fun e w' => e = .returned (.bool ((⟨id, ep, ps⟩ : Ed.Pl).eq ⟨id2, ep2, qs⟩)) ∧ Below w.heap.size w w' := by
  have hb2 : Below w.heap.size w ((w.alloc (.cells #[.int .i64 id, .int .i64 ep, .slice A n c] 32)).alloc (.cells #[.int .i64 id2, .int .i64 ep2, .slice B m d] 32)) := ((Below.refl _ _).alloc (Nat.le_refl _) _).alloc (by simp) _
  have HP := hd_ (rsametable_any id ep A n c 0 0 0 ⟨#[]⟩ ⟨#[]⟩ 0 ps id2 ep2 B m d 0 0 0 ⟨#[]⟩ ⟨#[]⟩ 0 qs ((w.alloc (.cells #[.int .i64 id, .int .i64 ep, .slice A n c] 32)).alloc (.cells #[.int .i64 id2, .int .i64 ep2, .slice B m d] 32)) (h1.below hb2) (h2.below hb2) hn hm)
  have HX := hd_ ((Holds.new w #[.int .i64 id, .int .i64 ep, .slice A n c] 32).alloc (.cells #[.int .i64 id2, .int .i64 ep2, .slice B m d] 32))
  have HY := hd_ (show Holds ((w.alloc (.cells #[.int .i64 id, .int .i64 ep, .slice A n c] 32)).alloc (.cells #[.int .i64 id2, .int .i64 ep2, .slice B m d] 32)) (w.heap.size + 1) [.int .i64 id2, .int .i64 ep2, .slice B m d] from by
    have h := Holds.new (w.alloc (.cells #[.int .i64 id, .int .i64 ep, .slice A n c] 32)) #[.int .i64 id2, .int .i64 ep2, .slice B m d] 32
    rwa [show (w.alloc (.cells #[.int .i64 id, .int .i64 ep, .slice A n c] 32)).heap.size = w.heap.size + 1 by simp] at h)
  have HB := hd_ hb2
  clear h1 h2 hb2
  rw [Ed.ta_only] at HP
  generalize (⟨id, ep, ps⟩ : Ed.Pl).eq ⟨id2, ep2, qs⟩ = ans at *
  go_enter Tryz.func29, Tryz.ntmps29
  go_upto_region 1 with fail
  generalize ((w.alloc (.cells #[.int .i64 id, .int .i64 ep, .slice A n c] 32)).alloc (.cells #[.int .i64 id2, .int .i64 ep2, .slice B m d] 32)) = u at *
  replace HX : Hid (Holds u w.heap.size [.int .i64 id, .int .i64 ep, .slice A n c]) := HX
  have x0 := HX.out.at_ 0 rfl
  have x1 := HX.out.at_ 1 rfl
  have x2 := HX.out.at_ 2 rfl
  have y0 := HY.out.at_ 0 rfl
  have y1 := HY.out.at_ 1 rfl
  have y2 := HY.out.at_ 2 rfl
  go_wp2_with fail
  refine HP.out.mono ?_
  rintro e v ⟨rfl, hbv⟩
  have HV := hd_ (below_next HB.out hbv)
  clear hbv
  go_wp2
  go_ret
  exact ⟨rfl, HV.out⟩
set_option maxRecDepth 100000 in
set_option maxHeartbeats 16000000 in
theorem rsame_any (nx sq : Int) (A : Option Addr) (n c : Nat) (B : Option Addr) (m d : Nat) (L : List (Ed.Lg × List (Int × Int))) (M : List (Pk.Tb × List (Int × Int))) (nx2 sq2 : Int) (A2 : Option Addr) (n2 c2 : Nat) (B2 : Option Addr) (m2 d2 : Nat) (L2 : List (Ed.Lg × List (Int × Int))) (M2 : List (Pk.Tb × List (Int × Int))) (w : World)
    (h1 : RdLs w A n L) (h2 : RdTs w B m M) (h3 : RdLs w A2 n2 L2) (h4 : RdTs w B2 m2 M2) (hn : n ≤ 9223372036854775807) (hm : m ≤ 9223372036854775807) (hn2 : n2 ≤ 9223372036854775807) (hm2 : m2 ≤ 9223372036854775807) :
    Calls Tryz.prog 16 #[.agg #[.int .i64 nx, .int .i64 sq, .slice A n c, .slice B m d], .agg #[.int .i64 nx2, .int .i64 sq2, .slice A2 n2 c2, .slice B2 m2 d2]] w fun e w' => e = .returned (.bool ((⟨nx, sq, L.map Ed.loOf, M.map Ed.taOf⟩ : Ed.Ve).eq ⟨nx2, sq2, L2.map Ed.loOf, M2.map Ed.taOf⟩)) ∧ Below w.heap.size w w' := by
  have hb2 : Below w.heap.size w ((w.alloc (.cells #[.int .i64 nx, .int .i64 sq, .slice A n c, .slice B m d] 25)).alloc (.cells #[.int .i64 nx2, .int .i64 sq2, .slice A2 n2 c2, .slice B2 m2 d2] 25)) := ((Below.refl _ _).alloc (Nat.le_refl _) _).alloc (by simp) _
  have H1 := hd_ (h1.below hb2)
  have H2 := hd_ (h3.below hb2)
  have H3 := hd_ (h2.below hb2)
  have H4 := hd_ (h4.below hb2)
  have L1 := hd_ h1.len
  have L2' := hd_ h3.len
  have L3 := hd_ h2.len
  have L4 := hd_ h4.len
  have HX := hd_ ((Holds.new w #[.int .i64 nx, .int .i64 sq, .slice A n c, .slice B m d] 25).alloc (.cells #[.int .i64 nx2, .int .i64 sq2, .slice A2 n2 c2, .slice B2 m2 d2] 25))
  have HY := hd_ (show Holds ((w.alloc (.cells #[.int .i64 nx, .int .i64 sq, .slice A n c, .slice B m d] 25)).alloc (.cells #[.int .i64 nx2, .int .i64 sq2, .slice A2 n2 c2, .slice B2 m2 d2] 25)) (w.heap.size + 1) [.int .i64 nx2, .int .i64 sq2, .slice A2 n2 c2, .slice B2 m2 d2] from by
    have h := Holds.new (w.alloc (.cells #[.int .i64 nx, .int .i64 sq, .slice A n c, .slice B m d] 25)) #[.int .i64 nx2, .int .i64 sq2, .slice A2 n2 c2, .slice B2 m2 d2] 25
    rwa [show (w.alloc (.cells #[.int .i64 nx, .int .i64 sq, .slice A n c, .slice B m d] 25)).heap.size = w.heap.size + 1 by simp] at h)
  have HB := hd_ hb2
  clear h1 h2 h3 h4 hb2
  have HA := hd_ (show (decide (nx = nx2) && decide (sq = sq2) && Ed.eqAll Ed.Lo.eq (L.map Ed.loOf) (L2.map Ed.loOf) && Ed.eqAll Ed.Ta.eq (M.map Ed.taOf) (M2.map Ed.taOf)) = (⟨nx, sq, L.map Ed.loOf, M.map Ed.taOf⟩ : Ed.Ve).eq ⟨nx2, sq2, L2.map Ed.loOf, M2.map Ed.taOf⟩ from rfl)
  generalize (⟨nx, sq, L.map Ed.loOf, M.map Ed.taOf⟩ : Ed.Ve).eq ⟨nx2, sq2, L2.map Ed.loOf, M2.map Ed.taOf⟩ = ans at *
  go_enter Tryz.func16, Tryz.ntmps16
  go_upto_region 1 with fail
  generalize ((w.alloc (.cells #[.int .i64 nx, .int .i64 sq, .slice A n c, .slice B m d] 25)).alloc (.cells #[.int .i64 nx2, .int .i64 sq2, .slice A2 n2 c2, .slice B2 m2 d2] 25)) = u at *
  replace HX : Hid (Holds u w.heap.size [.int .i64 nx, .int .i64 sq, .slice A n c, .slice B m d]) := HX
  obtain ⟨x0, x1, x2, x3⟩ := HX.out.all4
  obtain ⟨y0, y1, y2, y3⟩ := HY.out.all4
  cases g0 : (nx == nx2) with
  | false =>
    have q0 : (nx != nx2) = true := by simp only [bne, g0, Bool.not_false]
    have HF := hd_ (show false = ans by rw [← HA.out, decide_eq_false (beq_eq_false_iff_ne.1 g0)]; simp)
    go_wp2
    go_ret
    exact ⟨by rw [← HF.out]; rfl, HB.out⟩
  | true =>
  have q0 : (nx != nx2) = false := by simp only [bne, g0, Bool.not_true]
  cases g1 : (sq == sq2) with
  | false =>
    have q1 : (sq != sq2) = true := by simp only [bne, g1, Bool.not_false]
    have HF := hd_ (show false = ans by rw [← HA.out, decide_eq_false (beq_eq_false_iff_ne.1 g1)]; simp)
    go_wp2
    go_ret
    exact ⟨by rw [← HF.out]; rfl, HB.out⟩
  | true =>
  have q1 : (sq != sq2) = false := by simp only [bne, g1, Bool.not_true]
  by_cases hnn : n = n2
  case neg =>
    have ee : ((n : Int) != (n2 : Int)) = true := by rw [bne_iff_ne]; omega
    have HF := hd_ (show false = ans by rw [← HA.out, Ed.eqAll_len (by rw [List.length_map, List.length_map, L1.out, L2'.out]; exact hnn)]; simp)
    clear hnn
    go_wp2
    go_ret
    exact ⟨by rw [← HF.out]; rfl, HB.out⟩
  subst hnn
  have ee : ((n : Int) != (n : Int)) = false := by simp
  by_cases hmm : m = m2
  case neg =>
    have em : ((m : Int) != (m2 : Int)) = true := by rw [bne_iff_ne]; omega
    have HF := hd_ (show false = ans by rw [← HA.out, Ed.eqAll_len (a := M.map Ed.taOf) (by rw [List.length_map, List.length_map, L3.out, L4.out]; exact hmm)]; simp)
    clear hmm
    go_wp2
    go_ret
    exact ⟨by rw [← HF.out]; rfl, HB.out⟩
  subst hmm
  have em : ((m : Int) != (m : Int)) = false := by simp
  replace HA := hd_ (show (Ed.eqAll Ed.Lo.eq (L.map Ed.loOf) (L2.map Ed.loOf) && Ed.eqAll Ed.Ta.eq (M.map Ed.taOf) (M2.map Ed.taOf)) = ans by rw [← HA.out, decide_eq_true (beq_iff_eq.1 g0), decide_eq_true (beq_iff_eq.1 g1)]; simp)
  go_wp2_with fail
  clear x0 x1 x2 x3 y0 y1 y2 y3 g0 g1 q0 q1 ee em
  go_loopw [5] (fun ii wr => ∃ (k : Nat), k ≤ n ∧ ii = .int .i64 (k : Int) ∧ Hid (∀ i, i < k → ∀ x y, (L.map Ed.loOf)[i]? = some x → (L2.map Ed.loOf)[i]? = some y → Ed.Lo.eq x y = true) ∧ Hid (Below u.heap.size u wr)) (fun ii _ => n - (intOf ii).toNat)
  case atStart => exact ⟨0, by omega, rfl, hd_ (fun i hi => by omega), hd_ (Below.refl _ _)⟩
  case round =>
    obtain ⟨k, hk, rfl, HT, HU⟩ := hrel
    have hbd : Below wr.heap.size wr wr.drew := (Below.refl _ _).drew
    have HUd := hd_ (below_next HU.out hbd)
    have x2w := (HX.out.below HU.out).at_ 2 rfl
    have x2 := (HX.out.below HUd.out).at_ 2 rfl
    have y2 := (HY.out.below HUd.out).at_ 2 rfl
    clear hbd
    by_cases hlt : k < n
    · have hki : (k : Int) < (n : Int) := by omega
      have hk0 : (0 : Int) ≤ (k : Int) := by omega
      obtain ⟨x, hx⟩ : ∃ x, L[k]? = some x := ⟨_, List.getElem?_eq_getElem (by rw [L1.out]; exact hlt)⟩
      obtain ⟨y, hy⟩ : ∃ y, L2[k]? = some y := ⟨_, List.getElem?_eq_getElem (by rw [L2'.out]; exact hlt)⟩
      obtain ⟨b, o, rfl, _, hp, hc⟩ := H1.out.four hx
      obtain ⟨b2, o2, rfl, _, hp2, hc2⟩ := H2.out.four hy
      have HXY := hd_ (And.intro (Ed.map_at (f := Ed.loOf) hx) (Ed.map_at (f := Ed.loOf) hy))
      clear hx hy
      obtain ⟨⟨id, ep, P, pn, pc, se⟩, ps⟩ := x
      obtain ⟨⟨id2, ep2, P2, pn2, pc2, se2⟩, qs⟩ := y
      dsimp only at hc hc2 HXY hp hp2
      obtain ⟨e0, e1, e2, e3⟩ := hc _ HUd.out
      obtain ⟨f0, f1, f2, f3⟩ := hc2 _ HUd.out
      have HC := hd_ (And.intro hc hc2)
      have HPq := hd_ (And.intro (hp.below HUd.out) (hp2.below HUd.out))
      clear hc hc2 hp hp2
      replace HXY : Hid ((L.map Ed.loOf)[k]? = some ⟨⟨id, ep, ps⟩, se⟩ ∧ (L2.map Ed.loOf)[k]? = some ⟨⟨id2, ep2, qs⟩, se2⟩) := HXY
      cases g : (se == se2) with
      | false =>
        have q : (se != se2) = true := by simp only [bne, g, Bool.not_false]
        have HF := hd_ (show false = ans by rw [← HA.out, Ed.eqAll_no HXY.out.1 HXY.out.2 (by unfold Ed.Lo.eq; rw [decide_eq_false (beq_eq_false_iff_ne.1 g)]; rfl)]; rfl)
        go_wp2_with fail
        go_region
        all_goals
          go_wp2
          go_ret
          exact ⟨by rw [← HF.out]; rfl, below_next HB.out HUd.out⟩
      | true =>
        have q : (se != se2) = false := by simp only [bne, g, Bool.not_true]
        have HQ := hd_ (rsameplace_any id ep P pn pc ps id2 ep2 P2 pn2 pc2 qs wr.drew HPq.out.1.1 HPq.out.2.1 HPq.out.1.2.2 HPq.out.2.2.2)
        have HL := hd_ (show (⟨id, ep, ps⟩ : Ed.Pl).eq ⟨id2, ep2, qs⟩ = Ed.Lo.eq ⟨⟨id, ep, ps⟩, se⟩ ⟨⟨id2, ep2, qs⟩, se2⟩ by unfold Ed.Lo.eq; rw [decide_eq_true (beq_iff_eq.1 g)]; rfl)
        generalize (⟨id, ep, ps⟩ : Ed.Pl).eq ⟨id2, ep2, qs⟩ = t at HQ HL
        go_wp2_with fail
        go_region_held3 (fun W => W.cell? ⟨w.heap.size, 2, none⟩ = some (.slice (some ⟨b, o, none⟩) n c) ∧ W.cell? ⟨w.heap.size + 1, 2, none⟩ = some (.slice (some ⟨b2, o2, none⟩) n c2) ∧ W.cell? ⟨b, o + k * 4, none⟩ = some (.int .i64 id) ∧ W.cell? ⟨b, o + k * 4 + 1, none⟩ = some (.int .i64 ep) ∧ W.cell? ⟨b, o + k * 4 + 2, none⟩ = some (.slice P pn pc) ∧ W.cell? ⟨b, o + k * 4 + 3, none⟩ = some (.int .i64 se) ∧ W.cell? ⟨b2, o2 + k * 4, none⟩ = some (.int .i64 id2) ∧ W.cell? ⟨b2, o2 + k * 4 + 1, none⟩ = some (.int .i64 ep2) ∧ W.cell? ⟨b2, o2 + k * 4 + 2, none⟩ = some (.slice P2 pn2 pc2) ∧ W.cell? ⟨b2, o2 + k * 4 + 3, none⟩ = some (.int .i64 se2)) (first | (exact ⟨by assumption, by assumption, by assumption, by assumption, by assumption, by assumption, by assumption, by assumption, by assumption, by assumption⟩) | go_keep) (first
          | (refine HQ.out.mono ?_; rintro e v7 ⟨rfl, hb7⟩; have HU7 := hd_ (below_next HUd.out hb7); have x2v := (HX.out.below HU7.out).at_ 2 rfl; have y2v := (HY.out.below HU7.out).at_ 2 rfl; obtain ⟨i0, i1, i2, i3⟩ := HC.out.1 _ HU7.out; obtain ⟨j0, j1, j2, j3⟩ := HC.out.2 _ HU7.out)
          | fail)
        clear x2w x2 y2 e0 e1 e2 e3 f0 f1 f2 f3 x2v y2v i0 i1 i2 i3 j0 j1 j2 j3 hb7
        cases t with
        | false =>
          have HF := hd_ (show false = ans by rw [← HA.out, Ed.eqAll_no HXY.out.1 HXY.out.2 HL.out.symm]; rfl)
          go_wp2
          go_ret
          exact ⟨by rw [← HF.out]; rfl, below_next HB.out HU7.out⟩
        | true =>
          have HTn := hd_ (show ∀ i, i < k + 1 → ∀ x y, (L.map Ed.loOf)[i]? = some x → (L2.map Ed.loOf)[i]? = some y → Ed.Lo.eq x y = true by
            intro i hi x y h1 h2
            by_cases hik : i = k
            · subst hik
              rw [HXY.out.1] at h1
              rw [HXY.out.2] at h2
              injection h1 with h1
              injection h2 with h2
              rw [← h1, ← h2]
              exact HL.out.symm
            · exact HT.out i (by omega) x y h1 h2)
          go_wp2
          go_roundw
          case rel => exact ⟨k + 1, by omega, by go_num, HTn, HU7⟩
          case measure => simp [intOf]; omega
    · have hki : ¬ (k : Int) < (n : Int) := by omega
      have hkn : n = k := by omega
      have HYes := hd_ (show Ed.eqAll Ed.Lo.eq (L.map Ed.loOf) (L2.map Ed.loOf) = true from Ed.eqAll_yes (by rw [List.length_map, List.length_map, L1.out, L2'.out]) (fun i hi => HT.out i (by rw [List.length_map, L1.out] at hi; omega)))
      replace HA := hd_ (show Ed.eqAll Ed.Ta.eq (M.map Ed.taOf) (M2.map Ed.taOf) = ans by rw [← HA.out, HYes.out]; rfl)
      have HB0 := hd_ (below_next HB.out HU.out)
      have HU0 := HU
      have x3 := (HX.out.below HU.out).at_ 3 rfl
      clear HT HYes hkn hlt x2 y2 HUd HU
      go_wp2_with fail
      clear x3 x2w hki hk
      go_loopw [6] (fun ii wq => ∃ (k : Nat), k ≤ m ∧ ii = .int .i64 (k : Int) ∧ Hid (∀ i, i < k → ∀ x y, (M.map Ed.taOf)[i]? = some x → (M2.map Ed.taOf)[i]? = some y → Ed.Ta.eq x y = true) ∧ Hid (Below u.heap.size u wq)) (fun ii _ => m - (intOf ii).toNat)
      case atStart => exact ⟨0, by omega, rfl, hd_ (fun i hi => by omega), HU0⟩
      case round =>
        clear HU0 HB0
        obtain ⟨k, hk, rfl, HT, HU⟩ := hrel
        have hbd : Below wr.heap.size wr wr.drew := (Below.refl _ _).drew
        have HUd := hd_ (below_next HU.out hbd)
        have x3w := (HX.out.below HU.out).at_ 3 rfl
        have x3 := (HX.out.below HUd.out).at_ 3 rfl
        have y3 := (HY.out.below HUd.out).at_ 3 rfl
        clear hbd
        by_cases hlt : k < m
        · have hki : (k : Int) < (m : Int) := by omega
          have hk0 : (0 : Int) ≤ (k : Int) := by omega
          obtain ⟨x, hx⟩ : ∃ x, M[k]? = some x := ⟨_, List.getElem?_eq_getElem (by rw [L3.out]; exact hlt)⟩
          obtain ⟨y, hy⟩ : ∃ y, M2[k]? = some y := ⟨_, List.getElem?_eq_getElem (by rw [L4.out]; exact hlt)⟩
          obtain ⟨b, o, rfl, _, hp, hc⟩ := H3.out.nine hx
          obtain ⟨b2, o2, rfl, _, hp2, hc2⟩ := H4.out.nine hy
          have HXY := hd_ (And.intro (Ed.map_at (f := Ed.taOf) hx) (Ed.map_at (f := Ed.taOf) hy))
          clear hx hy
          obtain ⟨⟨id, ep, P, pn, pc, sz, lv, ct, lo, hi, tp⟩, ps⟩ := x
          obtain ⟨⟨id2, ep2, P2, pn2, pc2, sz2, lv2, ct2, lo2, hi2, tp2⟩, qs⟩ := y
          dsimp only at hc hc2 HXY hp hp2
          obtain ⟨e0, e1, e2, e3, e4, e5, e6, e7, e8⟩ := hc _ HUd.out
          obtain ⟨f0, f1, f2, f3, f4, f5, f6, f7, f8⟩ := hc2 _ HUd.out
          have HC := hd_ (And.intro hc hc2)
          have HPq := hd_ (And.intro (hp.below HUd.out) (hp2.below HUd.out))
          clear hc hc2 hp hp2
          replace HXY : Hid ((M.map Ed.taOf)[k]? = some ⟨⟨id, ep, ps⟩, sz, lv, ct, lo, hi, tp⟩ ∧ (M2.map Ed.taOf)[k]? = some ⟨⟨id2, ep2, qs⟩, sz2, lv2, ct2, lo2, hi2, tp2⟩) := HXY
          have HQ := hd_ (rsametable_any id ep P pn pc sz lv ct lo hi tp ps id2 ep2 P2 pn2 pc2 sz2 lv2 ct2 lo2 hi2 tp2 qs wr.drew HPq.out.1.1 HPq.out.2.1 HPq.out.1.2.2 HPq.out.2.2.2)
          generalize hqt : Ed.Ta.eq ⟨⟨id, ep, ps⟩, sz, lv, ct, lo, hi, tp⟩ ⟨⟨id2, ep2, qs⟩, sz2, lv2, ct2, lo2, hi2, tp2⟩ = t at HQ
          have HL := hd_ hqt
          clear hqt
          go_wp2_with fail
          refine wp_region_T (fun W => W.cell? ⟨w.heap.size, 3, none⟩ = some (.slice (some ⟨b, o, none⟩) m d) ∧ W.cell? ⟨w.heap.size + 1, 3, none⟩ = some (.slice (some ⟨b2, o2, none⟩) m d2) ∧ W.cell? ⟨b, o + k * 9, none⟩ = some (.int .i64 id) ∧ W.cell? ⟨b, o + k * 9 + 1, none⟩ = some (.int .i64 ep) ∧ W.cell? ⟨b, o + k * 9 + 2, none⟩ = some (.slice P pn pc) ∧ W.cell? ⟨b, o + k * 9 + 3, none⟩ = some (.int .i64 sz) ∧ W.cell? ⟨b, o + k * 9 + 4, none⟩ = some (.int .i64 lv) ∧ W.cell? ⟨b, o + k * 9 + 5, none⟩ = some (.int .i64 ct) ∧ W.cell? ⟨b, o + k * 9 + 6, none⟩ = some (.string lo) ∧ W.cell? ⟨b, o + k * 9 + 7, none⟩ = some (.string hi) ∧ W.cell? ⟨b, o + k * 9 + 8, none⟩ = some (.int .i64 tp) ∧ W.cell? ⟨b2, o2 + k * 9, none⟩ = some (.int .i64 id2) ∧ W.cell? ⟨b2, o2 + k * 9 + 1, none⟩ = some (.int .i64 ep2) ∧ W.cell? ⟨b2, o2 + k * 9 + 2, none⟩ = some (.slice P2 pn2 pc2) ∧ W.cell? ⟨b2, o2 + k * 9 + 3, none⟩ = some (.int .i64 sz2) ∧ W.cell? ⟨b2, o2 + k * 9 + 4, none⟩ = some (.int .i64 lv2) ∧ W.cell? ⟨b2, o2 + k * 9 + 5, none⟩ = some (.int .i64 ct2) ∧ W.cell? ⟨b2, o2 + k * 9 + 6, none⟩ = some (.string lo2) ∧ W.cell? ⟨b2, o2 + k * 9 + 7, none⟩ = some (.string hi2) ∧ W.cell? ⟨b2, o2 + k * 9 + 8, none⟩ = some (.int .i64 tp2)) (fun W => True) 10 (by kernel_rfl) ?_
          have hS0 := hd_ (show wr.drew.cell? ⟨w.heap.size, 3, none⟩ = some (.slice (some ⟨b, o, none⟩) m d) ∧ wr.drew.cell? ⟨w.heap.size + 1, 3, none⟩ = some (.slice (some ⟨b2, o2, none⟩) m d2) ∧ wr.drew.cell? ⟨b, o + k * 9, none⟩ = some (.int .i64 id) ∧ wr.drew.cell? ⟨b, o + k * 9 + 1, none⟩ = some (.int .i64 ep) ∧ wr.drew.cell? ⟨b, o + k * 9 + 2, none⟩ = some (.slice P pn pc) ∧ wr.drew.cell? ⟨b, o + k * 9 + 3, none⟩ = some (.int .i64 sz) ∧ wr.drew.cell? ⟨b, o + k * 9 + 4, none⟩ = some (.int .i64 lv) ∧ wr.drew.cell? ⟨b, o + k * 9 + 5, none⟩ = some (.int .i64 ct) ∧ wr.drew.cell? ⟨b, o + k * 9 + 6, none⟩ = some (.string lo) ∧ wr.drew.cell? ⟨b, o + k * 9 + 7, none⟩ = some (.string hi) ∧ wr.drew.cell? ⟨b, o + k * 9 + 8, none⟩ = some (.int .i64 tp) ∧ wr.drew.cell? ⟨b2, o2 + k * 9, none⟩ = some (.int .i64 id2) ∧ wr.drew.cell? ⟨b2, o2 + k * 9 + 1, none⟩ = some (.int .i64 ep2) ∧ wr.drew.cell? ⟨b2, o2 + k * 9 + 2, none⟩ = some (.slice P2 pn2 pc2) ∧ wr.drew.cell? ⟨b2, o2 + k * 9 + 3, none⟩ = some (.int .i64 sz2) ∧ wr.drew.cell? ⟨b2, o2 + k * 9 + 4, none⟩ = some (.int .i64 lv2) ∧ wr.drew.cell? ⟨b2, o2 + k * 9 + 5, none⟩ = some (.int .i64 ct2) ∧ wr.drew.cell? ⟨b2, o2 + k * 9 + 6, none⟩ = some (.string lo2) ∧ wr.drew.cell? ⟨b2, o2 + k * 9 + 7, none⟩ = some (.string hi2) ∧ wr.drew.cell? ⟨b2, o2 + k * 9 + 8, none⟩ = some (.int .i64 tp2) from ⟨x3, y3, e0, e1, e2, e3, e4, e5, e6, e7, e8, f0, f1, f2, f3, f4, f5, f6, f7, f8⟩)
          refine tkS (i := 0) hS0.out ?_; try walk_nrm
          refine tkS (i := 1) hS0.out ?_; try walk_nrm
          refine tkS (i := 2) hS0.out ?_; try walk_nrm
          refine tkS (i := 3) hS0.out ?_; try walk_nrm
          refine tkS (i := 4) hS0.out ?_; try walk_nrm
          refine tkS (i := 5) hS0.out ?_; try walk_nrm
          refine tkS (i := 6) hS0.out ?_; try walk_nrm
          refine tkS (i := 7) hS0.out ?_; try walk_nrm
          refine tkS (i := 8) hS0.out ?_; try walk_nrm
          refine tkS (i := 9) hS0.out ?_; try walk_nrm
          refine wpAnyT_one (i := 10) (by kernel_rfl) rfl (fun K hK => ?_)
          try walk_nrm
          rw [if_pos (by rfl)]
          go_simp
          refine HQ.out.mono ?_
          rintro e v7 ⟨rfl, hb7⟩
          have HU7 := hd_ (below_next HUd.out hb7)
          have x3v := (HX.out.below HU7.out).at_ 3 rfl
          have y3v := (HY.out.below HU7.out).at_ 3 rfl
          obtain ⟨i0, i1, i2, i3, i4, i5, i6, i7, i8⟩ := HC.out.1 _ HU7.out
          obtain ⟨j0, j1, j2, j3, j4, j5, j6, j7, j8⟩ := HC.out.2 _ HU7.out
          have hS7 := hd_ (show v7.cell? ⟨w.heap.size, 3, none⟩ = some (.slice (some ⟨b, o, none⟩) m d) ∧ v7.cell? ⟨w.heap.size + 1, 3, none⟩ = some (.slice (some ⟨b2, o2, none⟩) m d2) ∧ v7.cell? ⟨b, o + k * 9, none⟩ = some (.int .i64 id) ∧ v7.cell? ⟨b, o + k * 9 + 1, none⟩ = some (.int .i64 ep) ∧ v7.cell? ⟨b, o + k * 9 + 2, none⟩ = some (.slice P pn pc) ∧ v7.cell? ⟨b, o + k * 9 + 3, none⟩ = some (.int .i64 sz) ∧ v7.cell? ⟨b, o + k * 9 + 4, none⟩ = some (.int .i64 lv) ∧ v7.cell? ⟨b, o + k * 9 + 5, none⟩ = some (.int .i64 ct) ∧ v7.cell? ⟨b, o + k * 9 + 6, none⟩ = some (.string lo) ∧ v7.cell? ⟨b, o + k * 9 + 7, none⟩ = some (.string hi) ∧ v7.cell? ⟨b, o + k * 9 + 8, none⟩ = some (.int .i64 tp) ∧ v7.cell? ⟨b2, o2 + k * 9, none⟩ = some (.int .i64 id2) ∧ v7.cell? ⟨b2, o2 + k * 9 + 1, none⟩ = some (.int .i64 ep2) ∧ v7.cell? ⟨b2, o2 + k * 9 + 2, none⟩ = some (.slice P2 pn2 pc2) ∧ v7.cell? ⟨b2, o2 + k * 9 + 3, none⟩ = some (.int .i64 sz2) ∧ v7.cell? ⟨b2, o2 + k * 9 + 4, none⟩ = some (.int .i64 lv2) ∧ v7.cell? ⟨b2, o2 + k * 9 + 5, none⟩ = some (.int .i64 ct2) ∧ v7.cell? ⟨b2, o2 + k * 9 + 6, none⟩ = some (.string lo2) ∧ v7.cell? ⟨b2, o2 + k * 9 + 7, none⟩ = some (.string hi2) ∧ v7.cell? ⟨b2, o2 + k * 9 + 8, none⟩ = some (.int .i64 tp2) from ⟨x3v, y3v, i0, i1, i2, i3, i4, i5, i6, i7, i8, j0, j1, j2, j3, j4, j5, j6, j7, j8⟩)
          refine hK.out _ _ hS7.out (fun _ => trivial) ?_
          clear hK
          try walk_nrm
          refine tkS (i := 11) hS7.out ?_; try walk_nrm
          refine wpAnyT_done (by kernel_rfl) ?_ _
          clear x3w x3 y3 e0 e1 e2 e3 e4 e5 e6 e7 e8 f0 f1 f2 f3 f4 f5 f6 f7 f8 x3v y3v i0 i1 i2 i3 i4 i5 i6 i7 i8 j0 j1 j2 j3 j4 j5 j6 j7 j8 hb7
          cases t with
          | false =>
            have HF := hd_ (show false = ans by rw [← HA.out, Ed.eqAll_no HXY.out.1 HXY.out.2 HL.out])
            go_wp2
            go_ret
            exact ⟨by rw [← HF.out]; rfl, below_next HB.out HU7.out⟩
          | true =>
            have HTn := hd_ (show ∀ i, i < k + 1 → ∀ x y, (M.map Ed.taOf)[i]? = some x → (M2.map Ed.taOf)[i]? = some y → Ed.Ta.eq x y = true by
              intro i hi x y h1 h2
              by_cases hik : i = k
              · subst hik
                rw [HXY.out.1] at h1
                rw [HXY.out.2] at h2
                injection h1 with h1
                injection h2 with h2
                rw [← h1, ← h2]
                exact HL.out
              · exact HT.out i (by omega) x y h1 h2)
            go_wp2
            go_roundw
            case rel => exact ⟨k + 1, by omega, by go_num, HTn, HU7⟩
            case measure => simp [intOf]; omega
        · have hki : ¬ (k : Int) < (m : Int) := by omega
          have hkn : m = k := by omega
          have HYes := hd_ (show true = ans by rw [← HA.out]; exact (Ed.eqAll_yes (by rw [List.length_map, List.length_map, L3.out, L4.out]) (fun i hi => HT.out i (by rw [List.length_map, L3.out] at hi; omega))).symm)
          clear HT hkn hlt x3 y3 HUd
          go_wp2
          go_ret
          exact ⟨by rw [← HYes.out]; rfl, below_next HB.out HU.out⟩
end Go.Proofs.YthfcjlndaajkfaaGreat
