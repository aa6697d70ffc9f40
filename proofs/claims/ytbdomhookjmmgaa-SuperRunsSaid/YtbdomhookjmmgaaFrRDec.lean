/- The document's Decode. -/
import Derived.Test.YtbdomhookjmmgaaSuLowB
import Derived.Test.YtbdomhookjmmgaaFrF
import Derived.Test.YtbdomhookjmmgaaFrDec
import Derived.Outline
namespace Go.Proofs.Ytbdomhookjmmgaa
open Go.RowKit Fr
set_option linter.unusedVariables false
theorem run_2_4 (g q c : Nat) (hc : 128 ≤ c) (w : World) : (Instr.slice 28 (.slice (some ⟨g, q, none⟩) 128 c) (some (.int .i64 2)) (some (.int .i64 4)) none).run Try.prog w = .ok (.slice (some ⟨g, q + 2, none⟩) 2 (c - 2)) w := by
  have h2 : (4 : Int) ≤ (c : Int) := by omega
  have h7 : ¬ c = 2 := by omega
  simp [Instr.slice, run_underlying Try.underlying28, Instr.sliceBounds, Instr.sliceBound, asIntOf, go_sem, h2, h7]
theorem run_4_8 (g q c : Nat) (hc : 128 ≤ c) (w : World) : (Instr.slice 28 (.slice (some ⟨g, q, none⟩) 128 c) (some (.int .i64 4)) (some (.int .i64 8)) none).run Try.prog w = .ok (.slice (some ⟨g, q + 4, none⟩) 4 (c - 4)) w := by
  have h2 : (8 : Int) ≤ (c : Int) := by omega
  have h7 : ¬ c = 4 := by omega
  simp [Instr.slice, run_underlying Try.underlying28, Instr.sliceBounds, Instr.sliceBound, asIntOf, go_sem, h2, h7]
theorem run_8_12 (g q c : Nat) (hc : 128 ≤ c) (w : World) : (Instr.slice 28 (.slice (some ⟨g, q, none⟩) 128 c) (some (.int .i64 8)) (some (.int .i64 12)) none).run Try.prog w = .ok (.slice (some ⟨g, q + 8, none⟩) 4 (c - 8)) w := by
  have h2 : (12 : Int) ≤ (c : Int) := by omega
  have h7 : ¬ c = 8 := by omega
  simp [Instr.slice, run_underlying Try.underlying28, Instr.sliceBounds, Instr.sliceBound, asIntOf, go_sem, h2, h7]
theorem run_12_16 (g q c : Nat) (hc : 128 ≤ c) (w : World) : (Instr.slice 28 (.slice (some ⟨g, q, none⟩) 128 c) (some (.int .i64 12)) (some (.int .i64 16)) none).run Try.prog w = .ok (.slice (some ⟨g, q + 12, none⟩) 4 (c - 12)) w := by
  have h2 : (16 : Int) ≤ (c : Int) := by omega
  have h7 : ¬ c = 12 := by omega
  simp [Instr.slice, run_underlying Try.underlying28, Instr.sliceBounds, Instr.sliceBound, asIntOf, go_sem, h2, h7]
theorem F_one {l : List Nat} {j x : Nat} (h : l[j]? = some x) : F l j 1 = x := by
  have := F_succ (l := l) (o := j) (s := 0) (x := x) h
  rw [F_zero] at this
  simpa using this
/-- What is no frame's length. -/
theorem rdecode_len (A : Option Addr) (n c : Nat) (w : World) (hn : ¬ n = 128) (hbig : n ≤ 9223372036854775807) : Calls Try.prog 55 #[.slice A n c] w (GivesDec w 0 0 0 0 [] 40) := by
  have hne : ((n : Int) != 128) = true := by rw [bne_iff_ne]; omega
  have k2 := Holds.new w #[.int .i64 0, .int .i64 0, .int .i64 0] 96
  have hB := (Below.refl w.heap.size w).alloc (Nat.le_refl _) (.cells #[.int .i64 0, .int .i64 0, .int .i64 0] 96)
  go_enter Try.func55, Try.ntmps55
  go_wp2_with fail
  refine bodyPost_ret (v := .tuple #[.agg #[.int .i64 0, .int .i64 0, .int .i64 0], .int .i64 0, .slice none 0 0, .int .i64 40]) (by simp [results, Try.results55, go_sem]) rfl ?_
  exact ⟨none, 0, rfl, Rd.nil _ _, hB⟩
/-- GivesDec, and that the payload's bytes fit. -/
def GivesDecC (w : World) (f e i k : Int) (p : List Nat) (r : Int) (x : Ending) (w' : World) : Prop :=
  ∃ (A : Option Addr) (c : Nat), x = .returned (.tuple #[.agg #[.int .i64 f, .int .i64 e, .int .i64 i], .int .i64 k, .slice A p.length c, .int .i64 r]) ∧ Rd w' A p.length p ∧ p.length ≤ c ∧ Below w.heap.size w w'
theorem GivesDecC.dec {w w' : World} {f e i k : Int} {p : List Nat} {r : Int} {x : Ending} (h : GivesDecC w f e i k p r x w') : GivesDec w f e i k p r x w' := by
  obtain ⟨A, c, h1, h2, _, h4⟩ := h
  exact ⟨A, c, h1, h2, h4⟩
/-- What Decode gives of 128 bytes. -/
def DecIs (l : List Nat) (w : World) (x : Ending) (w' : World) : Prop :=
  (isF l = true → GivesDecC w (F l 4 4) (F l 8 4) (F l 12 4) (F l 1 1) ((l.drop 16).take (F l 2 2)) 0 x w') ∧ (isF l = false → GivesDec w 0 0 0 0 [] 40 x w')
theorem DecIs.no {l : List Nat} {w w' : World} {x : Ending} (hl : isF l = false) (h : GivesDec w 0 0 0 0 [] 40 x w') : DecIs l w x w' := ⟨fun e => (by rw [hl] at e; cases e), fun _ => h⟩
theorem DecIs.yes {l : List Nat} {w w' : World} {x : Ending} (hl : isF l = true) (h : GivesDecC w (F l 4 4) (F l 8 4) (F l 12 4) (F l 1 1) ((l.drop 16).take (F l 2 2)) 0 x w') : DecIs l w x w' := ⟨fun _ => h, fun e => (by rw [hl] at e; cases e)⟩
set_option maxRecDepth 100000 in
set_option maxHeartbeats 4000000 in
theorem rdecode_128 (A : Option Addr) (c : Nat) (l : List Nat) (w : World) (h : Rd w A 128 l) (hc : 128 ≤ c) :
    Calls Try.prog 55 #[.slice A 128 c] w (DecIs l w) := by
  obtain ⟨g, q, rfl, hg, _⟩ := h.2.2 (by omega)
  obtain ⟨x1, hx1, hx256⟩ := byte_at h (show 1 < 128 by omega)
  have hk1 := F_one hx1
  have hN := fun (o s : Nat) (v : World) (hv : Below w.heap.size w v) (ho : o + s ≤ 128) (hs : s ≤ 4) (d : Nat) => number_any (some ⟨g, q + o, none⟩) s d ((l.drop o).take s) v (rd_part (h.below hv) ho) hs
  change ∀ (o s : Nat) (v : World), Below w.heap.size w v → o + s ≤ 128 → s ≤ 4 → ∀ d, Calls Try.prog 80 #[.slice (some ⟨g, q + o, none⟩) s d] v fun e w' => e = .returned (.int .i64 (F l o s : Int)) ∧ v = w' at hN
  have hcell : ∀ v, Below w.heap.size w v → v.cell? ⟨g, q + 1, none⟩ = some (.int .u8 (x1 : Int)) := by
    intro v hv
    obtain ⟨b, o, he, _, hcc⟩ := (h.below hv).2.2 (by omega)
    injection he with he
    injection he with e1 e2
    subst e1 e2
    exact hcc 1 x1 hx1
  have k2 := Holds.new w #[.int .i64 0, .int .i64 0, .int .i64 0] 96
  have hB0 := (Below.refl w.heap.size w).alloc (Nat.le_refl _) (.cells #[.int .i64 0, .int .i64 0, .int .i64 0] 96)
  have H := Lib.hid h
  have HN := Lib.hid hN
  have HC := Lib.hid hcell
  have HK1 := Lib.hid hk1
  have s2 := run_2_4 g q c hc
  have s4 := run_4_8 g q c hc
  have s8 := run_8_12 g q c hc
  have s12 := run_12_16 g q c hc
  clear h hN hcell hk1 hx1
  go_enter Try.func55, Try.ntmps55
  go_wp2_with fail
  refine (HN.out 2 2 _ hB0 (by omega) (by omega) _).mono ?_
  rintro x v1 ⟨rfl, rfl⟩
  go_upto_region 4 with fail
  generalize (w.alloc (.cells #[.int .i64 0, .int .i64 0, .int .i64 0] 96)) = W0 at *
  have hd : Below w.heap.size w W0.drew := hB0.drew
  have hd2 : Below w.heap.size w (W0.alloc (.cells #[.int .i64 0, .int .i64 0, .int .i64 0] 96)).drew := (hB0.alloc hB0.size _).drew
  have H4 := Lib.hid (fun (v : World) (hv : Below w.heap.size w v) d => HN.out 4 4 v hv (by omega) (by omega) d)
  have H8 := Lib.hid (fun (v : World) (hv : Below w.heap.size w v) d => HN.out 8 4 v hv (by omega) (by omega) d)
  have H12 := Lib.hid (fun (v : World) (hv : Below w.heap.size w v) d => HN.out 12 4 v hv (by omega) (by omega) d)
  go_cut [7] from 7 to 28 (fun s7 wx => s7 = .pointer (some ⟨W0.heap.size, 0, none⟩) ∧ wx = (W0.alloc (.cells #[.int .i64 (F l 4 4 : Int), .int .i64 (F l 8 4 : Int), .int .i64 (F l 12 4 : Int)] 96)).drew)
  case first =>
    go_region_held3 (fun w' => True) (trivial) (((go_at_call 80; first | (with_reducible refine (H4.out _ (by first | exact hd | exact hd2) _).mono ?_) | (with_reducible refine (H8.out _ (by first | exact hd | exact hd2) _).mono ?_) | (with_reducible refine (H12.out _ (by first | exact hd | exact hd2) _).mono ?_)); (rintro e w' ⟨rfl, rfl⟩)))
    all_goals (go_wp2_with fail; go_meet; case rel => exact ⟨rfl, rfl⟩)
  case rest =>
    obtain ⟨rfl, rfl⟩ := hcut
    clear H4 H8 H12 hd hd2 HN s2 s4 s8 s12
    have hwW : w.heap.size < W0.heap.size := k2.1
    have k7 := Holds.new W0 #[.int .i64 (F l 4 4 : Int), .int .i64 (F l 8 4 : Int), .int .i64 (F l 12 4 : Int)] 96
    have k2b := k2.alloc (.cells #[.int .i64 (F l 4 4 : Int), .int .i64 (F l 8 4 : Int), .int .i64 (F l 12 4 : Int)] 96)
    have hB1 := (hB0.alloc hB0.size (.cells #[.int .i64 (F l 4 4 : Int), .int .i64 (F l 8 4 : Int), .int .i64 (F l 12 4 : Int)] 96)).drew
    change Holds (W0.alloc (.cells #[.int .i64 (F l 4 4 : Int), .int .i64 (F l 8 4 : Int), .int .i64 (F l 12 4 : Int)] 96)).drew _ _ at k7
    change Holds (W0.alloc (.cells #[.int .i64 (F l 4 4 : Int), .int .i64 (F l 8 4 : Int), .int .i64 (F l 12 4 : Int)] 96)).drew _ _ at k2b
    generalize (W0.alloc (.cells #[.int .i64 (F l 4 4 : Int), .int .i64 (F l 8 4 : Int), .int .i64 (F l 12 4 : Int)] 96)).drew = W1 at *
    have c1 := HC.out W1 hB1
    have z0 := k2b.at_ 0 rfl
    have z1 := k2b.at_ 1 rfl
    have z2 := k2b.at_ 2 rfl
    have zf0 := k2b.2.2 0
    have zf1 := k2b.2.2 1
    have zf2 := k2b.2.2 2
    have hx1 : IntKind.i64.wrap (x1 : Int) = (x1 : Int) := by rw [IntKind.wrap_i64]; omega
    have hw1 : w.heap.size < W1.heap.size := k2b.1
    clear k2 hB0 HC
    by_cases hn : 108 < F l 2 2
    · have hno : isF l = false := by
        rw [Bool.eq_false_iff]; intro hh
        have := (isF_iff.1 hh).2.2.2.1
        omega
      have HNo := Lib.hid hno
      have hni : (108 : Int) < (F l 2 2 : Int) := by omega
      have z3 := k2b.set3 (.int .i64 0) (.int .i64 0) (.int .i64 0)
      have R0 := Lib.hid (z3.at_ 0 rfl)
      have R1 := Lib.hid (z3.at_ 1 rfl)
      have R2 := Lib.hid (z3.at_ 2 rfl)
      have HBf := Lib.hid (show Below w.heap.size w (((W1.setCell ⟨w.heap.size, 0, none⟩ (.int .i64 0)).setCell ⟨w.heap.size, 1, none⟩ (.int .i64 0)).setCell ⟨w.heap.size, 2, none⟩ (.int .i64 0)) from ((hB1.setCell (by simp) _).setCell (by simp) _).setCell (by simp) _)
      clear hno hB1 z3 k2b k7 H HK1
      go_wp2_with fail
      refine bodyPost_ret (v := .tuple #[.agg #[.int .i64 0, .int .i64 0, .int .i64 0], .int .i64 0, .slice none 0 0, .int .i64 40]) (by simp [results, Try.results55, go_sem, R0.out, R1.out, R2.out]) rfl ?_
      exact DecIs.no HNo.out ⟨none, 0, rfl, Rd.nil _ _, HBf.out⟩
    · have hni : ¬ (108 : Int) < (F l 2 2 : Int) := by omega
      have hn2 : F l 2 2 ≤ 108 := by omega
      have hsl := fun (v : World) => run_head g q c (F l 2 2) hn2 hc v
      have hw16 : IntKind.i64.wrap (16 + (F l 2 2 : Int)) = 16 + (F l 2 2 : Int) := by rw [IntKind.wrap_i64]; omega
      have hrp : Rd (W1.alloc (.cells #[] 5)) (some ⟨g, q + 16, none⟩) (F l 2 2) ((l.drop 16).take (F l 2 2)) := (rd_part (H.out.below hB1) (by omega)).alloc _
      have hl9 : 0 + F l 2 2 ≤ 100000000 := by omega
      clear hn hn2
      go_wp2_with (first | (at_builtin; refine wpList_appB rfl (.tmp 36) (.tmp 40) rfl rfl (Own.empty W1) (some ⟨g, q + 16, none⟩) (F l 2 2) (c - 16) ((l.drop 16).take (F l 2 2)) rfl hrp hl9 (size_alloc_le _ _) ?_; intro A3 c3 v3 hg3; obtain ⟨hb3, ho3⟩ := hg3.fresh; have k7b := k7.below hb3; have c70 := k7b.at_ 0 rfl; have c71 := k7b.at_ 1 rfl; have c72 := k7b.at_ 2 rfl; clear hg3))
      have hB3 := hB1.trans (hb3.mono hB1.size)
      have k2c := k2b.below hb3
      have hpl : ((l.drop 16).take (F l 2 2)).length = F l 2 2 := by rw [List.length_take, List.length_drop, H.out.1]; omega
      have hrl := H.out.below hB3
      clear k2b k7 hB1 z0 z1 z2 zf0 zf1 zf2 hsl c70 c71 c72 hb3
      by_cases hok : okS (F l 4 4 : Int) (F l 8 4 : Int) (F l 12 4 : Int) = true ∧ okK (x1 : Int) = true
      · obtain ⟨hs, hk⟩ := hok
        have henc := rencode_ok (F l 4 4) (F l 8 4) (F l 12 4) x1 A3 c3 ((l.drop 16).take (F l 2 2)) v3 hs hk (by rw [hpl]; exact ho3.rd) (by omega)
        rw [hpl] at henc
        have hfl := frame_len (k := x1) (f := F l 4 4) (e := F l 8 4) (i := F l 12 4) (p := (l.drop 16).take (F l 2 2)) (by omega)
        have hflt := frame_lt (k := x1) (f := F l 4 4) (e := F l 8 4) (i := F l 12 4) (p := (l.drop 16).take (F l 2 2)) hx256 (fun y hy => ho3.2.1 y hy)
        have hiff : (frame x1 (F l 4 4) (F l 8 4) (F l 12 4) ((l.drop 16).take (F l 2 2)) = l) ↔ isF l = true := by
          constructor
          · intro e
            have := (frame_is (F l 4 4) (F l 8 4) (F l 12 4) x1 (p := (l.drop 16).take (F l 2 2)) hs hk (fun y hy => ho3.2.1 y hy) (by omega)).1
            rw [e] at this
            exact this
          · intro e
            have := frame_of H.out.2.1 e
            rw [HK1.out] at this
            exact this
        generalize frame x1 (F l 4 4) (F l 8 4) (F l 12 4) ((l.drop 16).take (F l 2 2)) = L at henc hfl hflt hiff
        refine henc.mono ?_
        rintro x v4 ⟨B, d, rfl, hr4, hd4, hb4⟩
        have hB4 := below_next hB3 hb4
        have hs1 := run_str (cap := d) hr4
        have hs2 := run_str (cap := c) (hrl.below hb4)
        have k2d := k2c.below hb4
        have k7d := k7b.below hb4
        have ho4 := ho3.below hb4
        have HCap := Lib.hid ho4.cap
        have z0 := k2d.at_ 0 rfl
        have z1 := k2d.at_ 1 rfl
        have z2 := k2d.at_ 2 rfl
        have zf0 := k2d.2.2 0
        have zf1 := k2d.2.2 1
        have zf2 := k2d.2.2 2
        clear hr4 hrl k2c k7b ho3 hb4 hB3 henc hs hk
        by_cases hL : L = l
        · have hyes := hiff.1 hL
          have HYes := Lib.hid hyes
          have HPl := Lib.hid hpl
          clear hiff hfl hflt hyes hpl
          subst hL
          have hss : (!(str L).toList == (str L).toList) = false := by simp
          have c70 := k7d.at_ 0 rfl
          have c71 := k7d.at_ 1 rfl
          have c72 := k7d.at_ 2 rfl
          have z3 := k2d.set3 (.int .i64 (F L 4 4 : Int)) (.int .i64 (F L 8 4 : Int)) (.int .i64 (F L 12 4 : Int))
          have R0 := Lib.hid (z3.at_ 0 rfl)
          have R1 := Lib.hid (z3.at_ 1 rfl)
          have R2 := Lib.hid (z3.at_ 2 rfl)
          have HBf := Lib.hid (show Below w.heap.size w (((v4.setCell ⟨w.heap.size, 0, none⟩ (.int .i64 (F L 4 4 : Int))).setCell ⟨w.heap.size, 1, none⟩ (.int .i64 (F L 8 4 : Int))).setCell ⟨w.heap.size, 2, none⟩ (.int .i64 (F L 12 4 : Int))) from ((hB4.setCell (by simp) _).setCell (by simp) _).setCell (by simp) _)
          have HRf := Lib.hid (own_far (own_far (own_far (u := .int .i64 (F L 4 4 : Int)) (j := 0) ho4 hw1) hw1 (j := 1) (.int .i64 (F L 8 4 : Int))) hw1 (j := 2) (.int .i64 (F L 12 4 : Int))).rd
          clear z3 k2d k7d hB4 ho4 H
          go_wp2_with fail
          refine bodyPost_ret (v := .tuple #[.agg #[.int .i64 (F L 4 4 : Int), .int .i64 (F L 8 4 : Int), .int .i64 (F L 12 4 : Int)], .int .i64 (x1 : Int), .slice A3 (F L 2 2) c3, .int .i64 0]) (by simp [results, Try.results55, go_sem, R0.out, R1.out, R2.out]) rfl ?_
          refine DecIs.yes HYes.out ⟨A3, c3, ?_, ?_, ?_, HBf.out⟩
          · rw [HPl.out, HK1.out]
          · rw [HPl.out]; exact HRf.out
          · rw [HPl.out]; exact HCap.out
        · have hno : isF l = false := by
            rw [Bool.eq_false_iff]; intro hh; exact hL (hiff.2 hh)
          have HNo := Lib.hid hno
          have hss := str_other hflt H.out.2.1 hL
          have hss2 : (!((str L).toList == (str l).toList)) = true := by rw [hss]; rfl
          have z3 := k2d.set3 (.int .i64 0) (.int .i64 0) (.int .i64 0)
          have R0 := Lib.hid (z3.at_ 0 rfl)
          have R1 := Lib.hid (z3.at_ 1 rfl)
          have R2 := Lib.hid (z3.at_ 2 rfl)
          have HBf := Lib.hid (show Below w.heap.size w (((v4.setCell ⟨w.heap.size, 0, none⟩ (.int .i64 0)).setCell ⟨w.heap.size, 1, none⟩ (.int .i64 0)).setCell ⟨w.heap.size, 2, none⟩ (.int .i64 0)) from ((hB4.setCell (by simp) _).setCell (by simp) _).setCell (by simp) _)
          clear hno z3 k2d k7d hB4 hiff hL hpl hflt hfl H HK1 ho4
          go_wp2_with fail
          refine bodyPost_ret (v := .tuple #[.agg #[.int .i64 0, .int .i64 0, .int .i64 0], .int .i64 0, .slice none 0 0, .int .i64 40]) (by simp [results, Try.results55, go_sem, R0.out, R1.out, R2.out]) rfl ?_
          exact DecIs.no HNo.out ⟨none, 0, rfl, Rd.nil _ _, HBf.out⟩
      · have henc := rencode_arg (F l 4 4) (F l 8 4) (F l 12 4) x1 A3 (F l 2 2) c3 v3 hok
        have hno : isF l = false := by
          rw [Bool.eq_false_iff]; intro hh
          have h2 := isF_iff.1 hh
          rw [HK1.out] at h2
          exact hok ⟨h2.2.2.2.2.1, h2.2.2.1⟩
        have HNo := Lib.hid hno
        refine henc.mono ?_
        rintro x v4 ⟨B, d, rfl, _, _, hb4⟩
        have hB4 := below_next hB3 hb4
        have k2d := k2c.below hb4
        have z0 := k2d.at_ 0 rfl
        have z1 := k2d.at_ 1 rfl
        have z2 := k2d.at_ 2 rfl
        have zf0 := k2d.2.2 0
        have zf1 := k2d.2.2 1
        have zf2 := k2d.2.2 2
        have z3 := k2d.set3 (.int .i64 0) (.int .i64 0) (.int .i64 0)
        have R0 := Lib.hid (z3.at_ 0 rfl)
        have R1 := Lib.hid (z3.at_ 1 rfl)
        have R2 := Lib.hid (z3.at_ 2 rfl)
        have HBf := Lib.hid (show Below w.heap.size w (((v4.setCell ⟨w.heap.size, 0, none⟩ (.int .i64 0)).setCell ⟨w.heap.size, 1, none⟩ (.int .i64 0)).setCell ⟨w.heap.size, 2, none⟩ (.int .i64 0)) from ((hB4.setCell (by simp) _).setCell (by simp) _).setCell (by simp) _)
        clear hno z3 k2d k2c k7b ho3 hB4 hpl henc hok hrl H HK1 hb4 hB3
        go_wp2_with fail
        refine bodyPost_ret (v := .tuple #[.agg #[.int .i64 0, .int .i64 0, .int .i64 0], .int .i64 0, .slice none 0 0, .int .i64 40]) (by simp [results, Try.results55, go_sem, R0.out, R1.out, R2.out]) rfl ?_
        exact DecIs.no HNo.out ⟨none, 0, rfl, Rd.nil _ _, HBf.out⟩
end Go.Proofs.Ytbdomhookjmmgaa
