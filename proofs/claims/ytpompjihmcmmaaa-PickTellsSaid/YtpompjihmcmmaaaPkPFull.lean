/- Which levels have more than they may: package pick's Full. -/
import Derived.Test.YtpompjihmcmmaaaPkRFull
namespace Go.Proofs.Ytpompjihmcmmaaa
open Go.RowKit
namespace Pk
def cnts (l : List Tb) : List Value := [.int .i64 (count l 0 : Int), .int .i64 (count l 1 : Int), .int .i64 (count l 2 : Int), .int .i64 (count l 3 : Int)]
theorem cnts_other {l : List Tb} {i : Nat} {x : Tb} (h : l[i]? = some x) (hx : ¬ (0 ≤ x.lv ∧ x.lv ≤ 3)) : cnts (l.take (i + 1)) = cnts (l.take i) := by
  unfold cnts
  rw [count_snoc h, count_snoc h, count_snoc h, count_snoc h, if_neg (by omega), if_neg (by omega), if_neg (by omega), if_neg (by omega)]
  rfl
end Pk
set_option maxRecDepth 100000 in
theorem index4 (a b c d : Int) (u : World) : (Instr.index 53 (.agg #[.int .i64 a, .int .i64 b, .int .i64 c, .int .i64 d]) (.int .i64 0)).run Try.prog u = .ok (.int .i64 a) u ∧ (Instr.index 53 (.agg #[.int .i64 a, .int .i64 b, .int .i64 c, .int .i64 d]) (.int .i64 1)).run Try.prog u = .ok (.int .i64 b) u ∧ (Instr.index 53 (.agg #[.int .i64 a, .int .i64 b, .int .i64 c, .int .i64 d]) (.int .i64 2)).run Try.prog u = .ok (.int .i64 c) u ∧ (Instr.index 53 (.agg #[.int .i64 a, .int .i64 b, .int .i64 c, .int .i64 d]) (.int .i64 3)).run Try.prog u = .ok (.int .i64 d) u := ⟨by kernel_rfl, by kernel_rfl, by kernel_rfl, by kernel_rfl⟩
set_option maxRecDepth 100000 in
set_option maxHeartbeats 8000000 in
theorem pfull_any (a b : Int) (L : Option Addr) (ln lc : Nat) (A : Option Addr) (n c : Nat) (l : List Pk.Tb) (w : World) (hr : RdTb w A n l) (hn : n ≤ 1000000) :
    Calls Try.prog 10 #[.agg (Pk.ver a b L ln lc A n c)] w (GivesInts w (Pk.full l)) := by
  have HR := Lib.hid hr
  have HL := Lib.hid hr.1
  clear hr
  have HB0 := Lib.hid (show Below w.heap.size w ((w.alloc (.cells #[.int .i64 a, .int .i64 b, .slice L ln lc, .slice A n c] 25)).alloc (.cells #[.int .i64 0, .int .i64 0, .int .i64 0, .int .i64 0] 53)) from ((Below.refl _ _).alloc (Nat.le_refl _) _).alloc (by simp) _)
  have HZ := Lib.hid (Holds.new (w.alloc (.cells #[.int .i64 a, .int .i64 b, .slice L ln lc, .slice A n c] 25)) #[.int .i64 0, .int .i64 0, .int .i64 0, .int .i64 0] 53)
  rw [World.size_alloc] at HZ
  show Calls _ _ #[.agg #[.int .i64 a, .int .i64 b, .slice L ln lc, .slice A n c]] _ _
  go_enter Try.func10, Try.ntmps10
  go_wp2
  generalize ((w.alloc (.cells #[.int .i64 a, .int .i64 b, .slice L ln lc, .slice A n c] 25)).alloc (.cells #[.int .i64 0, .int .i64 0, .int .i64 0, .int .i64 0] 53)) = u at *
  go_loopw [13] (fun ii wr => ∃ (k : Nat), k ≤ n ∧ ii = .int .i64 (k : Int) ∧ Hid (Holds wr (w.heap.size + 1) (Pk.cnts (l.take k))) ∧ Hid (Below w.heap.size w wr)) (fun ii _ => n - (intOf ii).toNat)
  case atStart => exact ⟨0, by omega, rfl, Lib.hid HZ.out, HB0⟩
  case round =>
    obtain ⟨k, hk, rfl, HM, HB⟩ := hrel
    by_cases hkn : k < n
    · have hki : (k : Int) < (n : Int) := by omega
      obtain ⟨x, hx⟩ : ∃ x, l[k]? = some x := ⟨_, List.getElem?_eq_getElem (by rw [HL.out]; exact hkn)⟩
      obtain ⟨g, o, rfl, hgl, h9⟩ := HR.out.nine hx
      have HX := Lib.hid hx
      have HC := Lib.hid (fun (v : Int) => Pk.count_snoc hx v)
      have HCl := Lib.hid (fun (v : Int) => Pk.count_le l k v)
      obtain ⟨q0, q1, q2, q3, q4, q5, q6, q7, q8⟩ := h9 wr HB.out
      have HO := Lib.hid (fun (h : ¬ (0 ≤ x.lv ∧ x.lv ≤ 3)) => Pk.cnts_other hx h)
      obtain ⟨id, ep, P, pn, pc, sz, lv, ct, lo, hi, tp⟩ := x
      dsimp only at q0 q1 q2 q3 q4 q5 q6 q7 q8 HC HO
      have HMa := Lib.hid (HM.out.alloc (.cells #[.int .i64 id, .int .i64 ep, .slice P pn pc, .int .i64 sz, .int .i64 lv, .int .i64 ct, .string lo, .string hi, .int .i64 tp] 51))
      have HBa := Lib.hid (HB.out.alloc HB.out.size (.cells #[.int .i64 id, .int .i64 ep, .slice P pn pc, .int .i64 sz, .int .i64 lv, .int .i64 ct, .string lo, .string hi, .int .i64 tp] 51))
      clear h9 hgl hx
      by_cases h0 : lv < 0
      · have h0' : ¬ 0 ≤ lv := by omega
        have HN := Lib.hid (HO.out (by omega))
        clear HO HC
        go_wp2
        go_roundw
        case rel => exact ⟨k + 1, by omega, by go_num, Lib.hid (by rw [HN.out]; exact HMa.out), HBa⟩
        case measure => simp [intOf]; omega
      by_cases h3 : 3 < lv
      · have h0' : 0 ≤ lv := by omega
        have h3' : ¬ lv ≤ 3 := by omega
        have HN := Lib.hid (HO.out (by omega))
        clear HO HC
        go_wp2
        go_roundw
        case rel => exact ⟨k + 1, by omega, by go_num, Lib.hid (by rw [HN.out]; exact HMa.out), HBa⟩
        case measure => simp [intOf]; omega
      have hall : lv = 0 ∨ lv = 1 ∨ lv = 2 ∨ lv = 3 := by omega
      have c0 := HMa.out.at_ 0 rfl
      have c1 := HMa.out.at_ 1 rfl
      have c2 := HMa.out.at_ 2 rfl
      have c3 := HMa.out.at_ 3 rfl
      have f0 := HMa.out.2.2 0
      have f1 := HMa.out.2.2 1
      have f2 := HMa.out.2.2 2
      have f3 := HMa.out.2.2 3
      clear HO h0 h3
      have g0 := HCl.out 0
      have g1 := HCl.out 1
      have g2 := HCl.out 2
      have g3 := HCl.out 3
      rcases hall with rfl | rfl | rfl | rfl
      · have HSet := Lib.hid (HMa.out.set 0 (.int .i64 ((Pk.count (l.take k) 0 : Int) + 1)) (by simp [Pk.cnts]))
        have HN := Lib.hid (show Pk.cnts (l.take (k + 1)) = (Pk.cnts (l.take k)).set 0 (.int .i64 ((Pk.count (l.take k) 0 : Int) + 1)) by
          unfold Pk.cnts
          rw [HC.out 0, HC.out 1, HC.out 2, HC.out 3]
          simp)
        have HBs := Lib.hid (HBa.out.setCell (p := ⟨w.heap.size + 1, 0, none⟩) (by simp) (.int .i64 ((Pk.count (l.take k) 0 : Int) + 1)))
        clear HC
        generalize Pk.count (l.take k) 0 = n0 at *
        generalize Pk.count (l.take k) 1 = n1 at *
        generalize Pk.count (l.take k) 2 = n2 at *
        generalize Pk.count (l.take k) 3 = n3 at *
        go_wp2
        go_roundw
        case rel => exact ⟨k + 1, by omega, by go_num, Lib.hid (by rw [HN.out]; exact HSet.out), HBs⟩
        case measure => simp [intOf]; omega
      · have HSet := Lib.hid (HMa.out.set 1 (.int .i64 ((Pk.count (l.take k) 1 : Int) + 1)) (by simp [Pk.cnts]))
        have HN := Lib.hid (show Pk.cnts (l.take (k + 1)) = (Pk.cnts (l.take k)).set 1 (.int .i64 ((Pk.count (l.take k) 1 : Int) + 1)) by
          unfold Pk.cnts
          rw [HC.out 0, HC.out 1, HC.out 2, HC.out 3]
          simp)
        have HBs := Lib.hid (HBa.out.setCell (p := ⟨w.heap.size + 1, 1, none⟩) (by simp) (.int .i64 ((Pk.count (l.take k) 1 : Int) + 1)))
        clear HC
        generalize Pk.count (l.take k) 0 = n0 at *
        generalize Pk.count (l.take k) 1 = n1 at *
        generalize Pk.count (l.take k) 2 = n2 at *
        generalize Pk.count (l.take k) 3 = n3 at *
        go_wp2
        go_roundw
        case rel => exact ⟨k + 1, by omega, by go_num, Lib.hid (by rw [HN.out]; exact HSet.out), HBs⟩
        case measure => simp [intOf]; omega
      · have HSet := Lib.hid (HMa.out.set 2 (.int .i64 ((Pk.count (l.take k) 2 : Int) + 1)) (by simp [Pk.cnts]))
        have HN := Lib.hid (show Pk.cnts (l.take (k + 1)) = (Pk.cnts (l.take k)).set 2 (.int .i64 ((Pk.count (l.take k) 2 : Int) + 1)) by
          unfold Pk.cnts
          rw [HC.out 0, HC.out 1, HC.out 2, HC.out 3]
          simp)
        have HBs := Lib.hid (HBa.out.setCell (p := ⟨w.heap.size + 1, 2, none⟩) (by simp) (.int .i64 ((Pk.count (l.take k) 2 : Int) + 1)))
        clear HC
        generalize Pk.count (l.take k) 0 = n0 at *
        generalize Pk.count (l.take k) 1 = n1 at *
        generalize Pk.count (l.take k) 2 = n2 at *
        generalize Pk.count (l.take k) 3 = n3 at *
        go_wp2
        go_roundw
        case rel => exact ⟨k + 1, by omega, by go_num, Lib.hid (by rw [HN.out]; exact HSet.out), HBs⟩
        case measure => simp [intOf]; omega
      · have HSet := Lib.hid (HMa.out.set 3 (.int .i64 ((Pk.count (l.take k) 3 : Int) + 1)) (by simp [Pk.cnts]))
        have HN := Lib.hid (show Pk.cnts (l.take (k + 1)) = (Pk.cnts (l.take k)).set 3 (.int .i64 ((Pk.count (l.take k) 3 : Int) + 1)) by
          unfold Pk.cnts
          rw [HC.out 0, HC.out 1, HC.out 2, HC.out 3]
          simp)
        have HBs := Lib.hid (HBa.out.setCell (p := ⟨w.heap.size + 1, 3, none⟩) (by simp) (.int .i64 ((Pk.count (l.take k) 3 : Int) + 1)))
        clear HC
        generalize Pk.count (l.take k) 0 = n0 at *
        generalize Pk.count (l.take k) 1 = n1 at *
        generalize Pk.count (l.take k) 2 = n2 at *
        generalize Pk.count (l.take k) 3 = n3 at *
        go_wp2
        go_roundw
        case rel => exact ⟨k + 1, by omega, by go_num, Lib.hid (by rw [HN.out]; exact HSet.out), HBs⟩
        case measure => simp [intOf]; omega
    · have hke : k = n := by omega
      obtain rfl : n = k := hke.symm
      have hnk : ¬ (n : Int) < (n : Int) := by omega
      clear hkn
      have HM2 : Hid (Holds wr (w.heap.size + 1) (Pk.cnts l)) := Lib.hid (by have h := HM.out; rw [List.take_of_length_le (Nat.le_of_eq HL.out)] at h; exact h)
      have c0 := HM2.out.at_ 0 rfl
      have c1 := HM2.out.at_ 1 rfl
      have c2 := HM2.out.at_ 2 rfl
      have c3 := HM2.out.at_ 3 rfl
      have HMo := Lib.hid (fun (k : Nat) => (show Pk.more l k = decide (Pk.lim k < (Pk.count l k : Int)) from rfl))
      have HS := Lib.hid (fun (k : Nat) => Pk.range_step l k)
      have HFl := Lib.hid (show Pk.full l = ((List.range 3).filter (Pk.more l)).map (fun (k : Nat) => (k : Int)) from rfl)
      obtain ⟨wo, hwo⟩ : ∃ wo, wo = wr := ⟨wr, rfl⟩
      subst hwo
      generalize hn0 : Pk.count l 0 = n0 at *
      generalize hn1 : Pk.count l 1 = n1 at *
      generalize hn2 : Pk.count l 2 = n2 at *
      generalize hn3 : Pk.count l 3 = n3 at *
      have Hn := Lib.hid (show Pk.count l 0 = n0 ∧ Pk.count l 1 = n1 ∧ Pk.count l 2 = n2 from ⟨hn0, hn1, hn2⟩)
      clear hn0 hn1 hn2 hn3 HM HM2
      go_wp2_with fail
      go_loopw [6, 33] (fun s ii wr => ∃ (k : Nat) (B : Option Addr) (m d : Nat), k ≤ 4 ∧ m ≤ k ∧ ii = .int .i64 (k : Int) ∧ s = .slice B m d ∧ Hid (m = (((List.range (min k 3)).filter (Pk.more l)).map (fun (k : Nat) => (k : Int))).length) ∧ Hid (OwnC 1 wr wo.heap.size 3 B m d (Pk.iv (((List.range (min k 3)).filter (Pk.more l)).map (fun (k : Nat) => (k : Int))))) ∧ Hid (Below wo.heap.size wo wr)) (fun _ ii _ => 4 - (intOf ii).toNat)
      case atStart => exact ⟨0, none, 0, 0, by omega, by omega, rfl, rfl, Lib.hid rfl, Lib.hid (OwnC.none_ _ _ _ _), Lib.hid (Below.refl _ _)⟩
      case round =>
        obtain ⟨k, B, m, d, hk4, hm, rfl, rfl, HMl, HO, HBr⟩ := hrel
        have hall : k = 0 ∨ k = 1 ∨ k = 2 ∨ k = 3 ∨ k = 4 := by omega
        rcases hall with rfl | rfl | rfl | rfl | rfl
        · obtain ⟨i0, i1, i2, i3⟩ := index4 (n0 : Int) n1 n2 n3 wr
          go_wp2_with fail
          clear i0 i1 i2 i3
          refine (limit_any 0 _).mono ?_
          rintro e w4 ⟨rfl, rfl⟩
          have hl : Pk.lim 0 = 3 := by decide
          rw [hl]
          have HSj := Lib.hid (show ((List.range (min (0 + 1) 3)).filter (Pk.more l)).map (fun (k : Nat) => (k : Int)) = ((List.range (min 0 3)).filter (Pk.more l)).map (fun (k : Nat) => (k : Int)) ++ (if Pk.more l 0 then [((0 : Nat) : Int)] else []) from HS.out 0)
          by_cases hmo : 3 < (n0 : Int)
          · have Hy := Lib.hid (show Pk.more l 0 = true by rw [HMo.out 0, show (((0 : Nat)) : Int) = 0 from rfl, hl]; exact decide_eq_true (by rw [show Pk.count l (0 : Int) = n0 from Hn.out.1]; exact hmo))
            rw [Hy.out, if_pos rfl] at HSj
            have hmp : 3 < n0 := by omega
            have hal : wo.heap.size ≤ (w4.alloc (.cells #[Value.int .i64 0] 3)).heap.size := by have := HBr.out.size; simp; omega
            have HRc := Lib.hid (rdc_new 1 w4 3 (Pk.iv [0]) 1 rfl (0, 0))
            clear hl
            go_wp2_with (at_builtin; refine wpList_appC manyI rfl (.tmp 46) (.tmp 48) rfl rfl (HO.out.alloc _) ⟨w4.heap.size, 0, none⟩ 1 1 (Pk.iv [0]) (Pk.iv_one _) rfl HRc.out (by omega) hal ?_; intro B6 cap6 w6 hg6)
            have HF := Lib.hid (show OwnC 1 w6 wo.heap.size 3 B6 (m + 1) cap6 (Pk.iv (((List.range (min (0 + 1) 3)).filter (Pk.more l)).map (fun (k : Nat) => (k : Int)))) ∧ m + 1 = (((List.range (min (0 + 1) 3)).filter (Pk.more l)).map (fun (k : Nat) => (k : Int))).length ∧ Below wo.heap.size wo w6 from ⟨by rw [HSj.out, Pk.iv_append]; exact hg6.own, by rw [HSj.out, List.length_append, ← HMl.out]; rfl, hg6.below (HBr.out.alloc HBr.out.size _) hal fun g hg => (HO.out.blk g hg).1⟩)
            clear hg6
            go_roundw
            case rel => exact ⟨0 + 1, B6, m + 1, cap6, by omega, by omega, by go_num, rfl, Lib.hid HF.out.2.1, Lib.hid HF.out.1, Lib.hid HF.out.2.2⟩
            case measure => simp [intOf]
          · have Hy := Lib.hid (show Pk.more l 0 = false by rw [HMo.out 0, show (((0 : Nat)) : Int) = 0 from rfl, hl]; exact decide_eq_false (by rw [show Pk.count l (0 : Int) = n0 from Hn.out.1]; exact hmo))
            rw [Hy.out, if_neg (by decide), List.append_nil] at HSj
            have hmp : ¬ 3 < n0 := by omega
            clear hl
            go_wp2
            go_roundw
            case rel => exact ⟨0 + 1, B, m, d, by omega, by omega, by go_num, rfl, Lib.hid (by rw [HSj.out]; exact HMl.out), Lib.hid (by rw [HSj.out]; exact HO.out), HBr⟩
            case measure => simp [intOf]
        · obtain ⟨i0, i1, i2, i3⟩ := index4 (n0 : Int) n1 n2 n3 wr
          go_wp2_with fail
          clear i0 i1 i2 i3
          refine (limit_any 1 _).mono ?_
          rintro e w4 ⟨rfl, rfl⟩
          have hl : Pk.lim 1 = 4 := by decide
          rw [hl]
          have HSj := Lib.hid (show ((List.range (min (1 + 1) 3)).filter (Pk.more l)).map (fun (k : Nat) => (k : Int)) = ((List.range (min 1 3)).filter (Pk.more l)).map (fun (k : Nat) => (k : Int)) ++ (if Pk.more l 1 then [((1 : Nat) : Int)] else []) from HS.out 1)
          by_cases hmo : 4 < (n1 : Int)
          · have Hy := Lib.hid (show Pk.more l 1 = true by rw [HMo.out 1, show (((1 : Nat)) : Int) = 1 from rfl, hl]; exact decide_eq_true (by rw [show Pk.count l (1 : Int) = n1 from Hn.out.2.1]; exact hmo))
            rw [Hy.out, if_pos rfl] at HSj
            have hmp : 4 < n1 := by omega
            have hal : wo.heap.size ≤ (w4.alloc (.cells #[Value.int .i64 1] 3)).heap.size := by have := HBr.out.size; simp; omega
            have HRc := Lib.hid (rdc_new 1 w4 3 (Pk.iv [1]) 1 rfl (0, 0))
            clear hl
            go_wp2_with (at_builtin; refine wpList_appC manyI rfl (.tmp 46) (.tmp 48) rfl rfl (HO.out.alloc _) ⟨w4.heap.size, 0, none⟩ 1 1 (Pk.iv [1]) (Pk.iv_one _) rfl HRc.out (by omega) hal ?_; intro B6 cap6 w6 hg6)
            have HF := Lib.hid (show OwnC 1 w6 wo.heap.size 3 B6 (m + 1) cap6 (Pk.iv (((List.range (min (1 + 1) 3)).filter (Pk.more l)).map (fun (k : Nat) => (k : Int)))) ∧ m + 1 = (((List.range (min (1 + 1) 3)).filter (Pk.more l)).map (fun (k : Nat) => (k : Int))).length ∧ Below wo.heap.size wo w6 from ⟨by rw [HSj.out, Pk.iv_append]; exact hg6.own, by rw [HSj.out, List.length_append, ← HMl.out]; rfl, hg6.below (HBr.out.alloc HBr.out.size _) hal fun g hg => (HO.out.blk g hg).1⟩)
            clear hg6
            go_roundw
            case rel => exact ⟨1 + 1, B6, m + 1, cap6, by omega, by omega, by go_num, rfl, Lib.hid HF.out.2.1, Lib.hid HF.out.1, Lib.hid HF.out.2.2⟩
            case measure => simp [intOf]
          · have Hy := Lib.hid (show Pk.more l 1 = false by rw [HMo.out 1, show (((1 : Nat)) : Int) = 1 from rfl, hl]; exact decide_eq_false (by rw [show Pk.count l (1 : Int) = n1 from Hn.out.2.1]; exact hmo))
            rw [Hy.out, if_neg (by decide), List.append_nil] at HSj
            have hmp : ¬ 4 < n1 := by omega
            clear hl
            go_wp2
            go_roundw
            case rel => exact ⟨1 + 1, B, m, d, by omega, by omega, by go_num, rfl, Lib.hid (by rw [HSj.out]; exact HMl.out), Lib.hid (by rw [HSj.out]; exact HO.out), HBr⟩
            case measure => simp [intOf]
        · obtain ⟨i0, i1, i2, i3⟩ := index4 (n0 : Int) n1 n2 n3 wr
          go_wp2_with fail
          clear i0 i1 i2 i3
          refine (limit_any 2 _).mono ?_
          rintro e w4 ⟨rfl, rfl⟩
          have hl : Pk.lim 2 = 8 := by decide
          rw [hl]
          have HSj := Lib.hid (show ((List.range (min (2 + 1) 3)).filter (Pk.more l)).map (fun (k : Nat) => (k : Int)) = ((List.range (min 2 3)).filter (Pk.more l)).map (fun (k : Nat) => (k : Int)) ++ (if Pk.more l 2 then [((2 : Nat) : Int)] else []) from HS.out 2)
          by_cases hmo : 8 < (n2 : Int)
          · have Hy := Lib.hid (show Pk.more l 2 = true by rw [HMo.out 2, show (((2 : Nat)) : Int) = 2 from rfl, hl]; exact decide_eq_true (by rw [show Pk.count l (2 : Int) = n2 from Hn.out.2.2]; exact hmo))
            rw [Hy.out, if_pos rfl] at HSj
            have hmp : 8 < n2 := by omega
            have hal : wo.heap.size ≤ (w4.alloc (.cells #[Value.int .i64 2] 3)).heap.size := by have := HBr.out.size; simp; omega
            have HRc := Lib.hid (rdc_new 1 w4 3 (Pk.iv [2]) 1 rfl (0, 0))
            clear hl
            go_wp2_with (at_builtin; refine wpList_appC manyI rfl (.tmp 46) (.tmp 48) rfl rfl (HO.out.alloc _) ⟨w4.heap.size, 0, none⟩ 1 1 (Pk.iv [2]) (Pk.iv_one _) rfl HRc.out (by omega) hal ?_; intro B6 cap6 w6 hg6)
            have HF := Lib.hid (show OwnC 1 w6 wo.heap.size 3 B6 (m + 1) cap6 (Pk.iv (((List.range (min (2 + 1) 3)).filter (Pk.more l)).map (fun (k : Nat) => (k : Int)))) ∧ m + 1 = (((List.range (min (2 + 1) 3)).filter (Pk.more l)).map (fun (k : Nat) => (k : Int))).length ∧ Below wo.heap.size wo w6 from ⟨by rw [HSj.out, Pk.iv_append]; exact hg6.own, by rw [HSj.out, List.length_append, ← HMl.out]; rfl, hg6.below (HBr.out.alloc HBr.out.size _) hal fun g hg => (HO.out.blk g hg).1⟩)
            clear hg6
            go_roundw
            case rel => exact ⟨2 + 1, B6, m + 1, cap6, by omega, by omega, by go_num, rfl, Lib.hid HF.out.2.1, Lib.hid HF.out.1, Lib.hid HF.out.2.2⟩
            case measure => simp [intOf]
          · have Hy := Lib.hid (show Pk.more l 2 = false by rw [HMo.out 2, show (((2 : Nat)) : Int) = 2 from rfl, hl]; exact decide_eq_false (by rw [show Pk.count l (2 : Int) = n2 from Hn.out.2.2]; exact hmo))
            rw [Hy.out, if_neg (by decide), List.append_nil] at HSj
            have hmp : ¬ 8 < n2 := by omega
            clear hl
            go_wp2
            go_roundw
            case rel => exact ⟨2 + 1, B, m, d, by omega, by omega, by go_num, rfl, Lib.hid (by rw [HSj.out]; exact HMl.out), Lib.hid (by rw [HSj.out]; exact HO.out), HBr⟩
            case measure => simp [intOf]
        · obtain ⟨i0, i1, i2, i3⟩ := index4 (n0 : Int) n1 n2 n3 wr
          go_wp2_with fail
          clear i0 i1 i2 i3
          refine (limit_any 3 _).mono ?_
          rintro e w4 ⟨rfl, rfl⟩
          have hl : Pk.lim 3 = -1 := by decide
          rw [hl]
          go_wp2
          go_roundw
          case rel => exact ⟨3 + 1, B, m, d, by omega, by omega, by go_num, rfl, HMl, HO, HBr⟩
          case measure => simp [intOf]
        · have HF := Lib.hid (show GivesInts w (Pk.full l) (.returned (.slice B m d)) wr by
            have hO := HO.out
            have hM := HMl.out
            subst hM
            rw [HFl.out]
            exact ⟨B, d, rfl, hO.base_ HB.out.size, below_next HB.out HBr.out⟩)
          clear HO HMl
          go_wp2
          go_ret
          exact HF.out
end Go.Proofs.Ytpompjihmcmmaaa
