/- What frame's open returns for bytes that are no frame: case 5. What frame's open returns for bytes that are no frame: case 6. -/
import Derived.Test.YtbdomhookjmmgaaFrOpen
namespace Go.Proofs.Ytbdomhookjmmgaa
open Go.RowKit Fr
set_option linter.unusedVariables false
theorem calls_same5 {P : Program} {f : FuncId} {args : Array Value} {W w : World} {v : Value} (hq : Below W.heap.size W w) (h : Calls P f args w fun e w' => e = .returned v ∧ w = w') :
    Calls P f args w fun e w' => e = .returned v ∧ Below W.heap.size W w' := h.mono fun _ _ ⟨he, hb⟩ => ⟨he, hb ▸ hq⟩
set_option maxRecDepth 100000 in
set_option maxHeartbeats 8000000 in
theorem open_no5 (A : Option Addr) (c : Nat) (l : List Nat) (w : World) (h : Rd w A 128 l) (hc : 128 ≤ c) (h76 : F l 0 1 = 76) (hk : okK (F l 1 1 : Int) = true) (hn : F l 2 2 ≤ 108) (hs : okS (F l 4 4 : Int) (F l 8 4 : Int) (F l 12 4 : Int) = true) (hz : zerosB ((l.drop (16 + F l 2 2)).take (108 - F l 2 2)) = false) :
    Calls Try.prog 79 #[.slice A 128 c] w (GivesOpen w 0 0 0 0 0 false) := by
  obtain ⟨hB0, k1, k2, k6⟩ := three_blocks w #[.slice A 128 c] #[.int .i64 0, .int .i64 0, .int .i64 0] #[.int .i64 0] 28 96 3
  obtain ⟨g, q, rfl, hg, _⟩ := h.2.2 (by omega)
  have hT := fun (s o : Nat) (v : World) (hv : Holds v w.heap.size [.slice (some ⟨g, q, none⟩) 128 c]) (hr : Rd v (some ⟨g, q, none⟩) 128 l) (ha : Holds v (w.heap.size + 1 + 1) [.int .i64 (o : Int)]) (h4 : s ≤ 4) (h128 : o + s ≤ 128) => take_num s o w.heap.size (w.heap.size + 1 + 1) (some ⟨g, q, none⟩) c l v (hv.at_ 0 rfl) hv.1 hr ha h4 h128 (by omega) (fun g' q' e => by injection e with e; injection e with e1 _; omega)
  have HT := Lib.hid hT
  have H := Lib.hid h
  have hmf : ∀ (fn : Fn) (first cap : Array Value) (w : World), (Instr.makeFunc fn first cap).run Try.prog w = .ok (.func fn first cap) w := fun _ _ _ _ => rfl
  have HK76 := Lib.hid h76
  have HKk := Lib.hid hk
  have HKs := Lib.hid hs
  have HZ := Lib.hid hz
  have hr0 := h.below hB0
  clear hT h h76 hk hs hz
  go_enter Try.func79, Try.ntmps79
  go_wp2_with fail
  clear hmf
  have k6_0 := k6
  have k1_0 := k1
  have k2_0 := k2
  have hr_0 := hr0
  have hB_0 := hB0
  clear k6 k1 k2 hr0 hB0
  refine (HT.out 1 0 _ k1_0 hr_0 k6_0 (by omega) (by omega)).mono ?_
  rintro x u1 ⟨rfl, k6_1, hC1⟩
  have k1_1 := k1_0.ch2 hC1 (by omega) (by omega)
  have k2_1 := k2_0.ch2 hC1 (by omega) (by omega)
  have hr_1 := rd_ch2 hr_0 hC1 (fun g' q' e _ => by injection e with e; injection e with e1 _; omega)
  have hB_1 := hC1.below hB_0 (by omega) (by omega) hB_0.size
  clear k1_0 k2_0 k6_0 hr_0 hB_0 hC1
  go_wp2_with fail
  refine (HT.out 1 1 _ k1_1 hr_1 k6_1 (by omega) (by omega)).mono ?_
  rintro x u2 ⟨rfl, k6_2, hC2⟩
  have k1_2 := k1_1.ch2 hC2 (by omega) (by omega)
  have k2_2 := k2_1.ch2 hC2 (by omega) (by omega)
  have hr_2 := rd_ch2 hr_1 hC2 (fun g' q' e _ => by injection e with e; injection e with e1 _; omega)
  have hB_2 := hC2.below hB_1 (by omega) (by omega) hB_1.size
  clear k1_1 k2_1 k6_1 hr_1 hB_1 hC2
  go_wp2_with fail
  refine (HT.out 2 2 _ k1_2 hr_2 k6_2 (by omega) (by omega)).mono ?_
  rintro x u3 ⟨rfl, k6_3, hC3⟩
  have k1_3 := k1_2.ch2 hC3 (by omega) (by omega)
  have k2_3 := k2_2.ch2 hC3 (by omega) (by omega)
  have hr_3 := rd_ch2 hr_2 hC3 (fun g' q' e _ => by injection e with e; injection e with e1 _; omega)
  have hB_3 := hC3.below hB_2 (by omega) (by omega) hB_2.size
  clear k1_2 k2_2 k6_2 hr_2 hB_2 hC3
  go_wp2_with fail
  refine (HT.out 4 4 _ k1_3 hr_3 k6_3 (by omega) (by omega)).mono ?_
  rintro x u4 ⟨rfl, k6_4, hC4⟩
  have k1_4 := k1_3.ch2 hC4 (by omega) (by omega)
  have k2_4 := k2_3.ch2 hC4 (by omega) (by omega)
  have hr_4 := rd_ch2 hr_3 hC4 (fun g' q' e _ => by injection e with e; injection e with e1 _; omega)
  have hB_4 := hC4.below hB_3 (by omega) (by omega) hB_3.size
  clear k1_3 k2_3 k6_3 hr_3 hB_3 hC4
  go_wp2_with fail
  refine (HT.out 4 8 _ k1_4 hr_4 k6_4 (by omega) (by omega)).mono ?_
  rintro x u5 ⟨rfl, k6_5, hC5⟩
  have k1_5 := k1_4.ch2 hC5 (by omega) (by omega)
  have k2_5 := k2_4.ch2 hC5 (by omega) (by omega)
  have hr_5 := rd_ch2 hr_4 hC5 (fun g' q' e _ => by injection e with e; injection e with e1 _; omega)
  have hB_5 := hC5.below hB_4 (by omega) (by omega) hB_4.size
  clear k1_4 k2_4 k6_4 hr_4 hB_4 hC5
  go_wp2_with fail
  refine (HT.out 4 12 _ k1_5 hr_5 k6_5 (by omega) (by omega)).mono ?_
  rintro x u6 ⟨rfl, k6_6, hC6⟩
  have k1_6 := k1_5.ch2 hC6 (by omega) (by omega)
  have k2_6 := k2_5.ch2 hC6 (by omega) (by omega)
  have hr_6 := rd_ch2 hr_5 hC6 (fun g' q' e _ => by injection e with e; injection e with e1 _; omega)
  have hB_6 := hC6.below hB_5 (by omega) (by omega) hB_5.size
  clear k1_5 k2_5 k6_5 hr_5 hB_5 hC6
  have ca := k6_6.at_ 0 rfl
  have fa := k6_6.2.2 0
  have hlt := k6_6.1
  go_upto_region 8 with fail
  have hW1 : Below w.heap.size w ((u6.setCell ⟨w.heap.size + 1 + 1, 0, none⟩ (.int .i64 124)).alloc (.cells #[.int .i64 (F l 4 4 : Int), .int .i64 (F l 8 4 : Int), .int .i64 (F l 12 4 : Int)] 96)) := (hB_6.setCell (by simp; omega) _).alloc (by have := hB_6.size; simpa [World.setCell] using this) _
  have m1 := (k1_6.other (b := w.heap.size + 1 + 1) (i := 0) (v := .int .i64 124) (by omega)).alloc (.cells #[.int .i64 (F l 4 4 : Int), .int .i64 (F l 8 4 : Int), .int .i64 (F l 12 4 : Int)] 96)
  have m2 := (k2_6.other (b := w.heap.size + 1 + 1) (i := 0) (v := .int .i64 124) (by omega)).alloc (.cells #[.int .i64 (F l 4 4 : Int), .int .i64 (F l 8 4 : Int), .int .i64 (F l 12 4 : Int)] 96)
  have ma := (k6_6.set 0 (.int .i64 124) (by simp)).alloc (.cells #[.int .i64 (F l 4 4 : Int), .int .i64 (F l 8 4 : Int), .int .i64 (F l 12 4 : Int)] 96)
  have my := Holds.new (u6.setCell ⟨w.heap.size + 1 + 1, 0, none⟩ (.int .i64 124)) #[.int .i64 (F l 4 4 : Int), .int .i64 (F l 8 4 : Int), .int .i64 (F l 12 4 : Int)] 96
  rw [show (u6.setCell ⟨w.heap.size + 1 + 1, 0, none⟩ (.int .i64 124)).heap.size = u6.heap.size by simp [World.setCell]] at my
  have mr := (rd_ch2 hr_6 (Ch2.set1 (w.heap.size + 1 + 1) (w.heap.size + 1 + 1) 0 u6 (.int .i64 124)) (fun g' q' e _ => by injection e with e; injection e with e1 _; omega)).alloc (.cells #[.int .i64 (F l 4 4 : Int), .int .i64 (F l 8 4 : Int), .int .i64 (F l 12 4 : Int)] 96)
  clear k1_6 k2_6 k6_6 hr_6 hB_6 ca fa
  generalize ((u6.setCell ⟨w.heap.size + 1 + 1, 0, none⟩ (.int .i64 124)).alloc (.cells #[.int .i64 (F l 4 4 : Int), .int .i64 (F l 8 4 : Int), .int .i64 (F l 12 4 : Int)] 96)) = W at *
  have hkc := fun V => kind_any (F l 1 1 : Int) V
  rw [HKk.out] at hkc
  have HKc := Lib.hid hkc
  have HCc := Lib.hid (fun V => check_yes (F l 4 4 : Int) (F l 8 4 : Int) (F l 12 4 : Int) V HKs.out)
  have hk76 := HK76.out
  have hzr := HZ.out
  have hrl := H.out
  generalize F l 2 2 = n at *
  generalize F l 4 4 = f at *
  generalize F l 8 4 = e at *
  generalize F l 12 4 = i at *
  generalize F l 1 1 = k at *
  generalize F l 0 1 = first at *
  have hst : ∀ v, Ch2 (w.heap.size + 1 + 1) (w.heap.size + 1 + 1) W v → Holds v w.heap.size [.slice (some ⟨g, q, none⟩) 128 c] ∧ Holds v (w.heap.size + 1) [.int .i64 0, .int .i64 0, .int .i64 0] ∧ Holds v u6.heap.size [.int .i64 (f : Int), .int .i64 (e : Int), .int .i64 (i : Int)] ∧ Rd v (some ⟨g, q, none⟩) 128 l ∧ Below w.heap.size w v := by
    intro v hv
    exact ⟨m1.ch2 hv (by omega) (by omega), m2.ch2 hv (by omega) (by omega), my.ch2 hv (by omega) (by omega), rd_ch2 mr hv (fun g' q' e _ => by injection e with e; injection e with e1 _; omega), hv.below hW1 (by omega) (by omega) hW1.size⟩
  have hzc : ∀ v, Ch2 (w.heap.size + 1 + 1) (w.heap.size + 1 + 1) W v → ∀ cap, Calls Try.prog 88 #[.slice (some ⟨g, q + (16 + n), none⟩) (108 - n) cap] v fun e w' => e = .returned (.bool false) ∧ v = w' := by
    intro v hv cap
    have := zeros_any (some ⟨g, q + (16 + n), none⟩) (108 - n) cap ((l.drop (16 + n)).take (108 - n)) v (rd_part (hst v hv).2.2.2.1 (by omega)) (by omega)
    rw [hzr] at this
    exact this
  have HSt := Lib.hid hst
  have HZc := Lib.hid hzc
  have hac : ∀ v, Below W.heap.size W v → Holds v (w.heap.size + 1 + 1) [.int .i64 ((124 : Nat) : Int)] := fun v hv => ma.below hv
  have HAc := Lib.hid hac
  have hS : ∀ v, Ch2 (w.heap.size + 1 + 1) (w.heap.size + 1 + 1) W v → v.cell? ⟨w.heap.size, 0, none⟩ = some (.slice (some ⟨g, q, none⟩) 128 c) ∧ v.cell? ⟨u6.heap.size, 0, none⟩ = some (.int .i64 (f : Int)) ∧ v.cell? ⟨u6.heap.size, 1, none⟩ = some (.int .i64 (e : Int)) ∧ v.cell? ⟨u6.heap.size, 2, none⟩ = some (.int .i64 (i : Int)) := fun v hv => ⟨(hst v hv).1.at_ 0 rfl, (hst v hv).2.2.1.at_ 0 rfl, (hst v hv).2.2.1.at_ 1 rfl, (hst v hv).2.2.1.at_ 2 rfl⟩
  have HS := Lib.hid hS
  have hn16 : IntKind.i64.wrap (16 + (n : Int)) = 16 + (n : Int) := by rw [IntKind.wrap_i64]; omega
  have hn0 : (0 : Int) ≤ 16 + (n : Int) := by omega
  have hnt : (16 + (n : Int)).toNat = 16 + n := by omega
  have hn1 : 16 + (n : Int) ≤ 124 := by omega
  have hn2 : decide ((108 : Int) < (n : Int)) = false := by rw [decide_eq_false_iff_not]; omega
  have hd : Ch2 (w.heap.size + 1 + 1) (w.heap.size + 1 + 1) W W.drew := (Ch2.refl _ _ _).drew
  have hdb : Below W.heap.size W W.drew := (Below.refl _ _).drew
  have hc0 := (HS.out W (Ch2.refl _ _ _)).1
  have hc1 := (HS.out W (Ch2.refl _ _ _)).2.1
  have hc2 := (HS.out W (Ch2.refl _ _ _)).2.2.1
  have hc3 := (HS.out W (Ch2.refl _ _ _)).2.2.2
  have hf76 : first = 76 := hk76
  subst hf76
  have hcc : (124 : Int) ≤ (c : Int) := by omega
  have hcd : 124 ≤ c := by omega
  have hce : 16 + n ≤ 124 := by omega
  have hcf : ¬ c = 16 + n := by omega
  have hsl := fun (v : World) => run_part g q c n hn hc v
  have hcg : 16 + (n : Int) ≤ (c : Int) := by omega
  have hch : 16 + n < c := by omega
  clear m1 m2 ma my mr hkc hzr hrl HT hst hzc hac hS H hk76 hg HK76 HKk HKs HZ hW1 hlt
  refine region_class (fun w' => Below W.heap.size W w') (by kernel_rfl) (by kernel_rfl) hdb ?_
  repeat (go_big_quiet_step ((first | (intro _; with_reducible rfl) | (intro hq; exact calls_same5 hq (HKc.out _)) | (intro hq; exact calls_class hq (HCc.out _)) | (intro hq; exact calls_same5 hq (HZc.out _ (Ch2.of_below hq) _)) | (intro hq; obtain ⟨e0, e1, e2, e3⟩ := HS.out _ (Ch2.of_below hq); simp [e0, e1, e2, e3, Result.andThen]; with_reducible rfl) | (intro hq; simp [hsl, Result.andThen]; with_reducible rfl))))
  refine wpQuiet_nil ?_
  intro v9 hv9
  obtain ⟨z1, z2, zy, zr, zB⟩ := HSt.out _ (Ch2.of_below hv9)
  have zc0 := z2.at_ 0 rfl
  have zc1 := z2.at_ 1 rfl
  have zc2 := z2.at_ 2 rfl
  have zf0 := z2.2.2 0
  have zf1 := z2.2.2 1
  have zf2 := z2.2.2 2
  have z3 := z2.set3 (.int .i64 0) (.int .i64 0) (.int .i64 0)
  have r0 := z3.at_ 0 rfl
  have r1 := z3.at_ 1 rfl
  have r2 := z3.at_ 2 rfl
  have R0 := Lib.hid r0
  have R1 := Lib.hid r1
  have R2 := Lib.hid r2
  have hBf : Below w.heap.size w (((v9.setCell ⟨w.heap.size + 1, 0, none⟩ (.int .i64 0)).setCell ⟨w.heap.size + 1, 1, none⟩ (.int .i64 0)).setCell ⟨w.heap.size + 1, 2, none⟩ (.int .i64 0)) := ((zB.setCell (by simp) _).setCell (by simp) _).setCell (by simp) _
  have HBf := Lib.hid hBf
  clear z1 z2 zy zr zB z3 r0 r1 r2 hBf
  go_wp2_with fail
  refine bodyPost_ret (v := .tuple #[.agg #[.int .i64 0, .int .i64 0, .int .i64 0], .int .i64 0, .int .i64 0, .bool false]) (by simp [results, Try.results79, go_sem, R0.out, R1.out, R2.out]) rfl ⟨rfl, HBf.out⟩
end Go.Proofs.Ytbdomhookjmmgaa
namespace Go.Proofs.Ytbdomhookjmmgaa
open Go.RowKit Fr
set_option linter.unusedVariables false
theorem calls_same6 {P : Program} {f : FuncId} {args : Array Value} {W w : World} {v : Value} (hq : Below W.heap.size W w) (h : Calls P f args w fun e w' => e = .returned v ∧ w = w') :
    Calls P f args w fun e w' => e = .returned v ∧ Below W.heap.size W w' := h.mono fun _ _ ⟨he, hb⟩ => ⟨he, hb ▸ hq⟩
set_option maxRecDepth 100000 in
set_option maxHeartbeats 8000000 in
theorem open_no6 (A : Option Addr) (c : Nat) (l : List Nat) (w : World) (h : Rd w A 128 l) (hc : 128 ≤ c) (h76 : F l 0 1 = 76) (hk : okK (F l 1 1 : Int) = true) (hn : F l 2 2 ≤ 108) (hs : okS (F l 4 4 : Int) (F l 8 4 : Int) (F l 12 4 : Int) = true) (hz : zerosB ((l.drop (16 + F l 2 2)).take (108 - F l 2 2)) = true) (hsum : ¬ F l 124 4 = Cr.more 0 (l.take 124)) :
    Calls Try.prog 79 #[.slice A 128 c] w (GivesOpen w 0 0 0 0 0 false) := by
  obtain ⟨hB0, k1, k2, k6⟩ := three_blocks w #[.slice A 128 c] #[.int .i64 0, .int .i64 0, .int .i64 0] #[.int .i64 0] 28 96 3
  obtain ⟨g, q, rfl, hg, _⟩ := h.2.2 (by omega)
  have hT := fun (s o : Nat) (v : World) (hv : Holds v w.heap.size [.slice (some ⟨g, q, none⟩) 128 c]) (hr : Rd v (some ⟨g, q, none⟩) 128 l) (ha : Holds v (w.heap.size + 1 + 1) [.int .i64 (o : Int)]) (h4 : s ≤ 4) (h128 : o + s ≤ 128) => take_num s o w.heap.size (w.heap.size + 1 + 1) (some ⟨g, q, none⟩) c l v (hv.at_ 0 rfl) hv.1 hr ha h4 h128 (by omega) (fun g' q' e => by injection e with e; injection e with e1 _; omega)
  have HT := Lib.hid hT
  have H := Lib.hid h
  have hmf : ∀ (fn : Fn) (first cap : Array Value) (w : World), (Instr.makeFunc fn first cap).run Try.prog w = .ok (.func fn first cap) w := fun _ _ _ _ => rfl
  have HK76 := Lib.hid h76
  have HKk := Lib.hid hk
  have HKs := Lib.hid hs
  have HZ := Lib.hid hz
  have HSum := Lib.hid hsum
  have hr0 := h.below hB0
  clear hT h h76 hk hs hz hsum
  go_enter Try.func79, Try.ntmps79
  go_wp2_with fail
  clear hmf
  have k6_0 := k6
  have k1_0 := k1
  have k2_0 := k2
  have hr_0 := hr0
  have hB_0 := hB0
  clear k6 k1 k2 hr0 hB0
  refine (HT.out 1 0 _ k1_0 hr_0 k6_0 (by omega) (by omega)).mono ?_
  rintro x u1 ⟨rfl, k6_1, hC1⟩
  have k1_1 := k1_0.ch2 hC1 (by omega) (by omega)
  have k2_1 := k2_0.ch2 hC1 (by omega) (by omega)
  have hr_1 := rd_ch2 hr_0 hC1 (fun g' q' e _ => by injection e with e; injection e with e1 _; omega)
  have hB_1 := hC1.below hB_0 (by omega) (by omega) hB_0.size
  clear k1_0 k2_0 k6_0 hr_0 hB_0 hC1
  go_wp2_with fail
  refine (HT.out 1 1 _ k1_1 hr_1 k6_1 (by omega) (by omega)).mono ?_
  rintro x u2 ⟨rfl, k6_2, hC2⟩
  have k1_2 := k1_1.ch2 hC2 (by omega) (by omega)
  have k2_2 := k2_1.ch2 hC2 (by omega) (by omega)
  have hr_2 := rd_ch2 hr_1 hC2 (fun g' q' e _ => by injection e with e; injection e with e1 _; omega)
  have hB_2 := hC2.below hB_1 (by omega) (by omega) hB_1.size
  clear k1_1 k2_1 k6_1 hr_1 hB_1 hC2
  go_wp2_with fail
  refine (HT.out 2 2 _ k1_2 hr_2 k6_2 (by omega) (by omega)).mono ?_
  rintro x u3 ⟨rfl, k6_3, hC3⟩
  have k1_3 := k1_2.ch2 hC3 (by omega) (by omega)
  have k2_3 := k2_2.ch2 hC3 (by omega) (by omega)
  have hr_3 := rd_ch2 hr_2 hC3 (fun g' q' e _ => by injection e with e; injection e with e1 _; omega)
  have hB_3 := hC3.below hB_2 (by omega) (by omega) hB_2.size
  clear k1_2 k2_2 k6_2 hr_2 hB_2 hC3
  go_wp2_with fail
  refine (HT.out 4 4 _ k1_3 hr_3 k6_3 (by omega) (by omega)).mono ?_
  rintro x u4 ⟨rfl, k6_4, hC4⟩
  have k1_4 := k1_3.ch2 hC4 (by omega) (by omega)
  have k2_4 := k2_3.ch2 hC4 (by omega) (by omega)
  have hr_4 := rd_ch2 hr_3 hC4 (fun g' q' e _ => by injection e with e; injection e with e1 _; omega)
  have hB_4 := hC4.below hB_3 (by omega) (by omega) hB_3.size
  clear k1_3 k2_3 k6_3 hr_3 hB_3 hC4
  go_wp2_with fail
  refine (HT.out 4 8 _ k1_4 hr_4 k6_4 (by omega) (by omega)).mono ?_
  rintro x u5 ⟨rfl, k6_5, hC5⟩
  have k1_5 := k1_4.ch2 hC5 (by omega) (by omega)
  have k2_5 := k2_4.ch2 hC5 (by omega) (by omega)
  have hr_5 := rd_ch2 hr_4 hC5 (fun g' q' e _ => by injection e with e; injection e with e1 _; omega)
  have hB_5 := hC5.below hB_4 (by omega) (by omega) hB_4.size
  clear k1_4 k2_4 k6_4 hr_4 hB_4 hC5
  go_wp2_with fail
  refine (HT.out 4 12 _ k1_5 hr_5 k6_5 (by omega) (by omega)).mono ?_
  rintro x u6 ⟨rfl, k6_6, hC6⟩
  have k1_6 := k1_5.ch2 hC6 (by omega) (by omega)
  have k2_6 := k2_5.ch2 hC6 (by omega) (by omega)
  have hr_6 := rd_ch2 hr_5 hC6 (fun g' q' e _ => by injection e with e; injection e with e1 _; omega)
  have hB_6 := hC6.below hB_5 (by omega) (by omega) hB_5.size
  clear k1_5 k2_5 k6_5 hr_5 hB_5 hC6
  have ca := k6_6.at_ 0 rfl
  have fa := k6_6.2.2 0
  have hlt := k6_6.1
  go_upto_region 8 with fail
  have hW1 : Below w.heap.size w ((u6.setCell ⟨w.heap.size + 1 + 1, 0, none⟩ (.int .i64 124)).alloc (.cells #[.int .i64 (F l 4 4 : Int), .int .i64 (F l 8 4 : Int), .int .i64 (F l 12 4 : Int)] 96)) := (hB_6.setCell (by simp; omega) _).alloc (by have := hB_6.size; simpa [World.setCell] using this) _
  have m1 := (k1_6.other (b := w.heap.size + 1 + 1) (i := 0) (v := .int .i64 124) (by omega)).alloc (.cells #[.int .i64 (F l 4 4 : Int), .int .i64 (F l 8 4 : Int), .int .i64 (F l 12 4 : Int)] 96)
  have m2 := (k2_6.other (b := w.heap.size + 1 + 1) (i := 0) (v := .int .i64 124) (by omega)).alloc (.cells #[.int .i64 (F l 4 4 : Int), .int .i64 (F l 8 4 : Int), .int .i64 (F l 12 4 : Int)] 96)
  have ma := (k6_6.set 0 (.int .i64 124) (by simp)).alloc (.cells #[.int .i64 (F l 4 4 : Int), .int .i64 (F l 8 4 : Int), .int .i64 (F l 12 4 : Int)] 96)
  have my := Holds.new (u6.setCell ⟨w.heap.size + 1 + 1, 0, none⟩ (.int .i64 124)) #[.int .i64 (F l 4 4 : Int), .int .i64 (F l 8 4 : Int), .int .i64 (F l 12 4 : Int)] 96
  rw [show (u6.setCell ⟨w.heap.size + 1 + 1, 0, none⟩ (.int .i64 124)).heap.size = u6.heap.size by simp [World.setCell]] at my
  have mr := (rd_ch2 hr_6 (Ch2.set1 (w.heap.size + 1 + 1) (w.heap.size + 1 + 1) 0 u6 (.int .i64 124)) (fun g' q' e _ => by injection e with e; injection e with e1 _; omega)).alloc (.cells #[.int .i64 (F l 4 4 : Int), .int .i64 (F l 8 4 : Int), .int .i64 (F l 12 4 : Int)] 96)
  clear k1_6 k2_6 k6_6 hr_6 hB_6 ca fa
  generalize ((u6.setCell ⟨w.heap.size + 1 + 1, 0, none⟩ (.int .i64 124)).alloc (.cells #[.int .i64 (F l 4 4 : Int), .int .i64 (F l 8 4 : Int), .int .i64 (F l 12 4 : Int)] 96)) = W at *
  have hkc := fun V => kind_any (F l 1 1 : Int) V
  rw [HKk.out] at hkc
  have HKc := Lib.hid hkc
  have HCc := Lib.hid (fun V => check_yes (F l 4 4 : Int) (F l 8 4 : Int) (F l 12 4 : Int) V HKs.out)
  have hk76 := HK76.out
  have hzr := HZ.out
  have hrl := H.out
  have hsum := HSum.out
  have HTl := Lib.hid (fun (v : World) h1 h2 h3 => HT.out 4 124 v h1 h2 h3 (by omega) (by omega))
  have hv124 := F_lt (l := l) (fun z hz => hrl.lt hz) 124 4
  generalize F l 124 4 = v124 at *
  generalize F l 2 2 = n at *
  generalize F l 4 4 = f at *
  generalize F l 8 4 = e at *
  generalize F l 12 4 = i at *
  generalize F l 1 1 = k at *
  generalize F l 0 1 = first at *
  have hst : ∀ v, Ch2 (w.heap.size + 1 + 1) (w.heap.size + 1 + 1) W v → Holds v w.heap.size [.slice (some ⟨g, q, none⟩) 128 c] ∧ Holds v (w.heap.size + 1) [.int .i64 0, .int .i64 0, .int .i64 0] ∧ Holds v u6.heap.size [.int .i64 (f : Int), .int .i64 (e : Int), .int .i64 (i : Int)] ∧ Rd v (some ⟨g, q, none⟩) 128 l ∧ Below w.heap.size w v := by
    intro v hv
    exact ⟨m1.ch2 hv (by omega) (by omega), m2.ch2 hv (by omega) (by omega), my.ch2 hv (by omega) (by omega), rd_ch2 mr hv (fun g' q' e _ => by injection e with e; injection e with e1 _; omega), hv.below hW1 (by omega) (by omega) hW1.size⟩
  have hzc : ∀ v, Ch2 (w.heap.size + 1 + 1) (w.heap.size + 1 + 1) W v → ∀ cap, Calls Try.prog 88 #[.slice (some ⟨g, q + (16 + n), none⟩) (108 - n) cap] v fun e w' => e = .returned (.bool true) ∧ v = w' := by
    intro v hv cap
    have := zeros_any (some ⟨g, q + (16 + n), none⟩) (108 - n) cap ((l.drop (16 + n)).take (108 - n)) v (rd_part (hst v hv).2.2.2.1 (by omega)) (by omega)
    rw [hzr] at this
    exact this
  have hoc : ∀ v, Ch2 (w.heap.size + 1 + 1) (w.heap.size + 1 + 1) W v → Calls Try.prog 75 #[.slice (some ⟨g, q, none⟩) 124 c] v fun e w' => e = .returned (.int .u32 (Cr.more 0 (l.take 124) : Int)) ∧ Below v.heap.size v w' := fun v hv => of_any (some ⟨g, q, none⟩) 124 c (l.take 124) v ((hst v hv).2.2.2.1.take (by omega)) (by omega)
  have hml : Cr.more 0 (l.take 124) < 4294967296 := Cr.more_lt (fun x hx => hrl.lt (List.mem_of_mem_take hx)) (by omega)
  generalize Cr.more 0 (l.take 124) = cs at *
  have hwc : IntKind.i64.wrap (cs : Int) = (cs : Int) := by rw [IntKind.wrap_i64]; omega
  have hne0 : ((v124 : Int) != (cs : Int)) = true := by rw [bne_iff_ne]; omega
  have HSt := Lib.hid hst
  have HZc := Lib.hid hzc
  have HOc := Lib.hid hoc
  have hac : ∀ v, Below W.heap.size W v → Holds v (w.heap.size + 1 + 1) [.int .i64 ((124 : Nat) : Int)] := fun v hv => ma.below hv
  have HAc := Lib.hid hac
  have hS : ∀ v, Ch2 (w.heap.size + 1 + 1) (w.heap.size + 1 + 1) W v → v.cell? ⟨w.heap.size, 0, none⟩ = some (.slice (some ⟨g, q, none⟩) 128 c) ∧ v.cell? ⟨u6.heap.size, 0, none⟩ = some (.int .i64 (f : Int)) ∧ v.cell? ⟨u6.heap.size, 1, none⟩ = some (.int .i64 (e : Int)) ∧ v.cell? ⟨u6.heap.size, 2, none⟩ = some (.int .i64 (i : Int)) := fun v hv => ⟨(hst v hv).1.at_ 0 rfl, (hst v hv).2.2.1.at_ 0 rfl, (hst v hv).2.2.1.at_ 1 rfl, (hst v hv).2.2.1.at_ 2 rfl⟩
  have HS := Lib.hid hS
  have HTl2 := Lib.hid (fun (v : World) (h1 : Ch2 (w.heap.size + 1 + 1) (w.heap.size + 1 + 1) W v) (h2 : Holds v (w.heap.size + 1 + 1) [.int .i64 ((124 : Nat) : Int)]) => HTl.out v (HSt.out v h1).1 (HSt.out v h1).2.2.2.1 h2)
  have hn16 : IntKind.i64.wrap (16 + (n : Int)) = 16 + (n : Int) := by rw [IntKind.wrap_i64]; omega
  have hn0 : (0 : Int) ≤ 16 + (n : Int) := by omega
  have hnt : (16 + (n : Int)).toNat = 16 + n := by omega
  have hn1 : 16 + (n : Int) ≤ 124 := by omega
  have hn2 : decide ((108 : Int) < (n : Int)) = false := by rw [decide_eq_false_iff_not]; omega
  have hd : Ch2 (w.heap.size + 1 + 1) (w.heap.size + 1 + 1) W W.drew := (Ch2.refl _ _ _).drew
  have hdb : Below W.heap.size W W.drew := (Below.refl _ _).drew
  have hc0 := (HS.out W (Ch2.refl _ _ _)).1
  have hc1 := (HS.out W (Ch2.refl _ _ _)).2.1
  have hc2 := (HS.out W (Ch2.refl _ _ _)).2.2.1
  have hc3 := (HS.out W (Ch2.refl _ _ _)).2.2.2
  have hf76 : first = 76 := hk76
  subst hf76
  have hcc : (124 : Int) ≤ (c : Int) := by omega
  have hcd : 124 ≤ c := by omega
  have hce : 16 + n ≤ 124 := by omega
  have hcf : ¬ c = 16 + n := by omega
  have hsl := fun (v : World) => run_part g q c n hn hc v
  have hcg : 16 + (n : Int) ≤ (c : Int) := by omega
  have hch : 16 + n < c := by omega
  clear m1 m2 ma my mr hkc hzr hrl hsum HT HTl hst hzc hoc hac hS H hk76 hg HK76 HKk HKs HZ HSum hW1 hlt
  go_region_held3 (fun w' => w'.cell? ⟨w.heap.size, 0, none⟩ = some (.slice (some ⟨g, q, none⟩) 128 c) ∧ w'.cell? ⟨u6.heap.size, 0, none⟩ = some (.int .i64 (f : Int)) ∧ w'.cell? ⟨u6.heap.size, 1, none⟩ = some (.int .i64 (e : Int)) ∧ w'.cell? ⟨u6.heap.size, 2, none⟩ = some (.int .i64 (i : Int))) (first | exact HS.out _ hd | exact HS.out _ hx8 | exact HS.out _ hx9 | exact HS.out _ hx10) (first | (go_at_call 73; refine (HKc.out _).mono ?_; rintro e w' ⟨rfl, rfl⟩) | (go_at_call 72; refine (HCc.out _).mono ?_; rintro e v8 ⟨rfl, hb8⟩; have hx8 : Ch2 (w.heap.size + 1 + 1) (w.heap.size + 1 + 1) W v8 := hd.trans (Ch2.of_below hb8); have hy8 : Below W.heap.size W v8 := below_next hdb hb8) | (go_at_call 88; refine (HZc.out _ hx8 _).mono ?_; rintro e w' ⟨rfl, rfl⟩) | (go_at_call 75; refine (HOc.out _ (by first | exact hx9 | exact hx8)).mono ?_; rintro e v10 ⟨rfl, hb10⟩; have hx10 : Ch2 (w.heap.size + 1 + 1) (w.heap.size + 1 + 1) W v10 := (show Ch2 (w.heap.size + 1 + 1) (w.heap.size + 1 + 1) W _ by first | exact hx9 | exact hx8).trans (Ch2.of_below hb10); have hy10 : True ∨ Below W.heap.size W v10 := .inl trivial) | (go_at_call 87; refine (HTl2.out _ (by first | exact hx10 | exact hx8) (HAc.out _ (by first | exact hy8 | exact below_next hy8 hb10))).mono ?_; rintro e v9 ⟨rfl, _, hb9⟩; have hx9 : Ch2 (w.heap.size + 1 + 1) (w.heap.size + 1 + 1) W v9 := (show Ch2 (w.heap.size + 1 + 1) (w.heap.size + 1 + 1) W _ by first | exact hx10 | exact hx8).trans hb9))
  obtain ⟨z1, z2, zy, zr, zB⟩ := HSt.out _ hx10
  have zc0 := z2.at_ 0 rfl
  have zc1 := z2.at_ 1 rfl
  have zc2 := z2.at_ 2 rfl
  have zf0 := z2.2.2 0
  have zf1 := z2.2.2 1
  have zf2 := z2.2.2 2
  have z3 := z2.set3 (.int .i64 0) (.int .i64 0) (.int .i64 0)
  have r0 := z3.at_ 0 rfl
  have r1 := z3.at_ 1 rfl
  have r2 := z3.at_ 2 rfl
  have R0 := Lib.hid r0
  have R1 := Lib.hid r1
  have R2 := Lib.hid r2
  have hBf : Below w.heap.size w (((v10.setCell ⟨w.heap.size + 1, 0, none⟩ (.int .i64 0)).setCell ⟨w.heap.size + 1, 1, none⟩ (.int .i64 0)).setCell ⟨w.heap.size + 1, 2, none⟩ (.int .i64 0)) := ((zB.setCell (by simp) _).setCell (by simp) _).setCell (by simp) _
  have HBf := Lib.hid hBf
  clear z1 z2 zy zr zB z3 r0 r1 r2 hBf
  go_wp2_with fail
  refine bodyPost_ret (v := .tuple #[.agg #[.int .i64 0, .int .i64 0, .int .i64 0], .int .i64 0, .int .i64 0, .bool false]) (by simp [results, Try.results79, go_sem, R0.out, R1.out, R2.out]) rfl ⟨rfl, HBf.out⟩
end Go.Proofs.Ytbdomhookjmmgaa
