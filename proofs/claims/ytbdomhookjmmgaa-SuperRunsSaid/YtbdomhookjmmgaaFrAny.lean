/- open, Decode and Is of any bytes; the document's Is. -/
import Derived.Test.YtbdomhookjmmgaaFrNoA
import Derived.Test.YtbdomhookjmmgaaFrNoB
import Derived.Test.YtbdomhookjmmgaaFrNoC
import Derived.Test.YtbdomhookjmmgaaFrRDec
namespace Go.Proofs.Ytbdomhookjmmgaa
open Go.RowKit Fr
set_option linter.unusedVariables false
theorem open_len (A : Option Addr) (n c : Nat) (w : World) (hn : ¬ n = 128) (hbig : n ≤ 9223372036854775807) : Calls Try.prog 79 #[.slice A n c] w (GivesOpen w 0 0 0 0 0 false) := by
  have hne : ((n : Int) != 128) = true := by rw [bne_iff_ne]; omega
  have hB := ((Below.refl w.heap.size w).alloc (Nat.le_refl _) (.cells #[.slice A n c] 28)).alloc (by simp) (.cells #[.int .i64 0, .int .i64 0, .int .i64 0] 96)
  go_enter Try.func79, Try.ntmps79
  go_wp2_with fail
  refine bodyPost_ret (v := .tuple #[.agg #[.int .i64 0, .int .i64 0, .int .i64 0], .int .i64 0, .int .i64 0, .bool false]) (by simp [results, Try.results79, go_sem]) rfl ?_
  exact ⟨rfl, hB⟩
theorem open_no (A : Option Addr) (n c : Nat) (l : List Nat) (w : World) (h : Rd w A n l) (hc : n ≤ c) (hbig : n ≤ 9223372036854775807) (hno : isF l = false) : Calls Try.prog 79 #[.slice A n c] w (GivesOpen w 0 0 0 0 0 false) := by
  by_cases hn : n = 128
  · subst hn
    have hno' : ¬ isF l = true := by rw [hno]; exact Bool.false_ne_true
    rw [isF_iff] at hno'
    by_cases h1 : F l 0 1 = 76
    · cases h2 : okK (F l 1 1 : Int) with
      | false => exact open_no2 A c l w h hc h1 h2
      | true =>
        by_cases h3 : F l 2 2 ≤ 108
        · cases h4 : okS (F l 4 4 : Int) (F l 8 4 : Int) (F l 12 4 : Int) with
          | false => exact open_no4 A c l w h hc h1 h2 h3 h4
          | true =>
            cases h5 : zerosB ((l.drop (16 + F l 2 2)).take (108 - F l 2 2)) with
            | false => exact open_no5 A c l w h hc h1 h2 h3 h4 h5
            | true => exact open_no6 A c l w h hc h1 h2 h3 h4 h5 (fun h6 => hno' ⟨h.1, h1, h2, h3, h4, h5, h6⟩)
        · exact open_no3 A c l w h hc h1 h2 (by omega)
    · exact open_no1 A c l w h hc h1
  · exact open_len A n c w hn hbig
theorem open_any (A : Option Addr) (n c : Nat) (l : List Nat) (w : World) (h : Rd w A n l) (hc : n ≤ c) (hyes : isF l = true) : Calls Try.prog 79 #[.slice A n c] w (GivesOpen w (F l 4 4) (F l 8 4) (F l 12 4) (F l 1 1) (F l 2 2) true) := by
  obtain ⟨hl, h1, h2, h3, h4, h5, h6⟩ := isF_iff.1 hyes
  have hn : n = 128 := by rw [← h.1]; exact hl
  subst hn
  exact open_yes A c l w h hc h1 h2 h3 h4 h5 h6
set_option maxRecDepth 100000 in
set_option maxHeartbeats 2000000 in
theorem decode_no (A : Option Addr) (n c : Nat) (l : List Nat) (w : World) (h : Rd w A n l) (hc : n ≤ c) (hbig : n ≤ 9223372036854775807) (hno : isF l = false) : Calls Try.prog 53 #[.slice A n c] w (GivesDec w 0 0 0 0 [] 40) := by
  have hop := fun (v : World) (hv : Below w.heap.size w v) => open_no A n c l v (h.below hv) hc hbig hno
  unfold GivesOpen at hop
  have HO := Lib.hid hop
  clear hop h hno
  have k2 := Holds.new w #[.int .i64 0, .int .i64 0, .int .i64 0] 96
  have hB0 : Below w.heap.size w (w.alloc (.cells #[.int .i64 0, .int .i64 0, .int .i64 0] 96)) := (Below.refl _ _).alloc (Nat.le_refl _) _
  go_enter Try.func53, Try.ntmps53
  go_wp2_with fail
  refine (HO.out _ hB0).mono ?_
  rintro x v1 ⟨rfl, hb1⟩
  have hB1 := below_next hB0 hb1
  have hB2 := hB1.alloc hB1.size (.cells #[.int .i64 0, .int .i64 0, .int .i64 0] 96)
  have k2b := (k2.below hb1).alloc (.cells #[.int .i64 0, .int .i64 0, .int .i64 0] 96)
  go_upto_region 2 with fail
  generalize (v1.alloc (.cells #[.int .i64 0, .int .i64 0, .int .i64 0] 96)) = W at *
  have z0 := k2b.at_ 0 rfl
  have z1 := k2b.at_ 1 rfl
  have z2 := k2b.at_ 2 rfl
  have zf0 := k2b.2.2 0
  have zf1 := k2b.2.2 1
  have zf2 := k2b.2.2 2
  have z3 := k2b.set3 (.int .i64 0) (.int .i64 0) (.int .i64 0)
  have R0 := Lib.hid (z3.at_ 0 rfl)
  have R1 := Lib.hid (z3.at_ 1 rfl)
  have R2 := Lib.hid (z3.at_ 2 rfl)
  have HBf := Lib.hid (show Below w.heap.size w (((W.setCell ⟨w.heap.size, 0, none⟩ (.int .i64 0)).setCell ⟨w.heap.size, 1, none⟩ (.int .i64 0)).setCell ⟨w.heap.size, 2, none⟩ (.int .i64 0)) from ((hB2.setCell (by simp) _).setCell (by simp) _).setCell (by simp) _)
  clear z3 k2b k2 hb1 hB0 hB1 hB2
  go_wp2_with fail
  refine bodyPost_ret (v := .tuple #[.agg #[.int .i64 0, .int .i64 0, .int .i64 0], .int .i64 0, .slice none 0 0, .int .i64 40]) (by simp [results, Try.results53, go_sem, R0.out, R1.out, R2.out]) rfl ?_
  exact ⟨none, 0, rfl, Rd.nil _ _, HBf.out⟩
theorem decode_any (A : Option Addr) (n c : Nat) (l : List Nat) (w : World) (h : Rd w A n l) (hc : n ≤ c) (hyes : isF l = true) : Calls Try.prog 53 #[.slice A n c] w (GivesDec w (F l 4 4) (F l 8 4) (F l 12 4) (F l 1 1) ((l.drop 16).take (F l 2 2)) 0) := by
  obtain ⟨hl, h1, h2, h3, h4, h5, h6⟩ := isF_iff.1 hyes
  have hn : n = 128 := by rw [← h.1]; exact hl
  subst hn
  exact decode_yes A c l w h hc h1 h2 h3 h4 h5 h6
theorem rdecode_cap (A : Option Addr) (n c : Nat) (l : List Nat) (w : World) (h : Rd w A n l) (hc : n ≤ c) (hyes : isF l = true) : Calls Try.prog 55 #[.slice A n c] w (GivesDecC w (F l 4 4) (F l 8 4) (F l 12 4) (F l 1 1) ((l.drop 16).take (F l 2 2)) 0) := by
  have hl := (isF_iff.1 hyes).1
  have hn : n = 128 := by rw [← h.1]; exact hl
  subst hn
  exact (rdecode_128 A c l w h hc).mono fun x w' hd => hd.1 hyes
theorem rdecode_yes (A : Option Addr) (n c : Nat) (l : List Nat) (w : World) (h : Rd w A n l) (hc : n ≤ c) (hyes : isF l = true) : Calls Try.prog 55 #[.slice A n c] w (GivesDec w (F l 4 4) (F l 8 4) (F l 12 4) (F l 1 1) ((l.drop 16).take (F l 2 2)) 0) := by
  have hl := (isF_iff.1 hyes).1
  have hn : n = 128 := by rw [← h.1]; exact hl
  subst hn
  exact (rdecode_128 A c l w h hc).mono fun x w' hd => (hd.1 hyes).dec
theorem rdecode_no (A : Option Addr) (n c : Nat) (l : List Nat) (w : World) (h : Rd w A n l) (hc : n ≤ c) (hbig : n ≤ 9223372036854775807) (hno : isF l = false) : Calls Try.prog 55 #[.slice A n c] w (GivesDec w 0 0 0 0 [] 40) := by
  by_cases hn : n = 128
  · subst hn
    exact (rdecode_128 A c l w h hc).mono fun x w' hd => hd.2 hno
  · exact rdecode_len A n c w hn hbig
namespace Fr
/-- Is it the frame asked for? -/
def isB (l : List Nat) (f e i k : Int) : Bool := isF l && decide ((F l 1 1 : Int) = k) && decide ((F l 4 4 : Int) = f) && decide ((F l 12 4 : Int) = i) && decide (e ≤ (F l 8 4 : Int))
theorem isB_none {l : List Nat} {f e i k : Int} (h : isF l = false) : isB l f e i k = false := by unfold isB; rw [h]; rfl
theorem isB_k {l : List Nat} {f e i k : Int} (h : ¬ (F l 1 1 : Int) = k) : isB l f e i k = false := by unfold isB; rw [decide_eq_false h]; simp
theorem isB_f {l : List Nat} {f e i k : Int} (h : ¬ (F l 4 4 : Int) = f) : isB l f e i k = false := by unfold isB; rw [decide_eq_false h]; simp
theorem isB_i {l : List Nat} {f e i k : Int} (h : ¬ (F l 12 4 : Int) = i) : isB l f e i k = false := by unfold isB; rw [decide_eq_false h]; simp
theorem isB_e {l : List Nat} {f e i k : Int} (h : ¬ e ≤ (F l 8 4 : Int)) : isB l f e i k = false := by unfold isB; rw [decide_eq_false h]; simp
theorem isB_yes {l : List Nat} {f e i k : Int} (h : isF l = true) (h1 : (F l 1 1 : Int) = k) (h2 : (F l 4 4 : Int) = f) (h3 : (F l 12 4 : Int) = i) (h4 : e ≤ (F l 8 4 : Int)) : isB l f e i k = true := by
  unfold isB; rw [h, decide_eq_true h1, decide_eq_true h2, decide_eq_true h3, decide_eq_true h4]; rfl
end Fr
end Go.Proofs.Ytbdomhookjmmgaa
