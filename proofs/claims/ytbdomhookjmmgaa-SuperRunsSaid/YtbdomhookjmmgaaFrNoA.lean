/- What frame's open returns for bytes that are no frame: case 1. What frame's open returns for bytes that are no frame: case 2. -/
import Derived.Test.YtbdomhookjmmgaaFrOpen
namespace Go.Proofs.Ytbdomhookjmmgaa
open Go.RowKit Fr
set_option linter.unusedVariables false
theorem calls_same1 {P : Program} {f : FuncId} {args : Array Value} {W w : World} {v : Value} (hq : Below W.heap.size W w) (h : Calls P f args w fun e w' => e = .returned v ∧ w = w') :
    Calls P f args w fun e w' => e = .returned v ∧ Below W.heap.size W w' := h.mono fun _ _ ⟨he, hb⟩ => ⟨he, hb ▸ hq⟩
set_option maxRecDepth 100000 in
set_option maxHeartbeats 8000000 in
theorem open_no1 (A : Option Addr) (c : Nat) (l : List Nat) (w : World) (h : Rd w A 128 l) (hc : 128 ≤ c) (h76 : ¬ F l 0 1 = 76) :
    Calls Try.prog 79 #[.slice A 128 c] w (GivesOpen w 0 0 0 0 0 false) := by
  obtain ⟨hB0, k1, k2, k6⟩ := three_blocks w #[.slice A 128 c] #[.int .i64 0, .int .i64 0, .int .i64 0] #[.int .i64 0] 28 96 3
  obtain ⟨g, q, rfl, hg, _⟩ := h.2.2 (by omega)
  have hT := fun (s o : Nat) (v : World) (hv : Holds v w.heap.size [.slice (some ⟨g, q, none⟩) 128 c]) (hr : Rd v (some ⟨g, q, none⟩) 128 l) (ha : Holds v (w.heap.size + 1 + 1) [.int .i64 (o : Int)]) (h4 : s ≤ 4) (h128 : o + s ≤ 128) => take_num s o w.heap.size (w.heap.size + 1 + 1) (some ⟨g, q, none⟩) c l v (hv.at_ 0 rfl) hv.1 hr ha h4 h128 (by omega) (fun g' q' e => by injection e with e; injection e with e1 _; omega)
  have HT := Lib.hid hT
  have H := Lib.hid h
  have hmf : ∀ (fn : Fn) (first cap : Array Value) (w : World), (Instr.makeFunc fn first cap).run Try.prog w = .ok (.func fn first cap) w := fun _ _ _ _ => rfl
  have HK76 := Lib.hid h76
  have hr0 := h.below hB0
  clear hT h h76
  go_enter Try.func79, Try.ntmps79
  go_wp2_with fail
  clear hmf
  have k6_0 := k6
  have k1_0 := k1
  have k2_0 := k2
  have hr_0 := hr0
  have hB_0 := hB0
  clear k6 k1 k2 hr0 hB0
  refine (HT.out 1 0 _ k1_0 hr_0 k6_0 (by omega) (by omega)).mono ?_
  rintro x u1 ⟨rfl, k6_1, hC1⟩
  have k1_1 := k1_0.ch2 hC1 (by omega) (by omega)
  have k2_1 := k2_0.ch2 hC1 (by omega) (by omega)
  have hr_1 := rd_ch2 hr_0 hC1 (fun g' q' e _ => by injection e with e; injection e with e1 _; omega)
  have hB_1 := hC1.below hB_0 (by omega) (by omega) hB_0.size
  clear k1_0 k2_0 k6_0 hr_0 hB_0 hC1
  go_wp2_with fail
  refine (HT.out 1 1 _ k1_1 hr_1 k6_1 (by omega) (by omega)).mono ?_
  rintro x u2 ⟨rfl, k6_2, hC2⟩
  have k1_2 := k1_1.ch2 hC2 (by omega) (by omega)
  have k2_2 := k2_1.ch2 hC2 (by omega) (by omega)
  have hr_2 := rd_ch2 hr_1 hC2 (fun g' q' e _ => by injection e with e; injection e with e1 _; omega)
  have hB_2 := hC2.below hB_1 (by omega) (by omega) hB_1.size
  clear k1_1 k2_1 k6_1 hr_1 hB_1 hC2
  go_wp2_with fail
  refine (HT.out 2 2 _ k1_2 hr_2 k6_2 (by omega) (by omega)).mono ?_
  rintro x u3 ⟨rfl, k6_3, hC3⟩
  have k1_3 := k1_2.ch2 hC3 (by omega) (by omega)
  have k2_3 := k2_2.ch2 hC3 (by omega) (by omega)
  have hr_3 := rd_ch2 hr_2 hC3 (fun g' q' e _ => by injection e with e; injection e with e1 _; omega)
  have hB_3 := hC3.below hB_2 (by omega) (by omega) hB_2.size
  clear k1_2 k2_2 k6_2 hr_2 hB_2 hC3
  go_wp2_with fail
  refine (HT.out 4 4 _ k1_3 hr_3 k6_3 (by omega) (by omega)).mono ?_
  rintro x u4 ⟨rfl, k6_4, hC4⟩
  have k1_4 := k1_3.ch2 hC4 (by omega) (by omega)
  have k2_4 := k2_3.ch2 hC4 (by omega) (by omega)
  have hr_4 := rd_ch2 hr_3 hC4 (fun g' q' e _ => by injection e with e; injection e with e1 _; omega)
  have hB_4 := hC4.below hB_3 (by omega) (by omega) hB_3.size
  clear k1_3 k2_3 k6_3 hr_3 hB_3 hC4
  go_wp2_with fail
  refine (HT.out 4 8 _ k1_4 hr_4 k6_4 (by omega) (by omega)).mono ?_
  rintro x u5 ⟨rfl, k6_5, hC5⟩
  have k1_5 := k1_4.ch2 hC5 (by omega) (by omega)
  have k2_5 := k2_4.ch2 hC5 (by omega) (by omega)
  have hr_5 := rd_ch2 hr_4 hC5 (fun g' q' e _ => by injection e with e; injection e with e1 _; omega)
  have hB_5 := hC5.below hB_4 (by omega) (by omega) hB_4.size
  clear k1_4 k2_4 k6_4 hr_4 hB_4 hC5
  go_wp2_with fail
  refine (HT.out 4 12 _ k1_5 hr_5 k6_5 (by omega) (by omega)).mono ?_
  rintro x u6 ⟨rfl, k6_6, hC6⟩
  have k1_6 := k1_5.ch2 hC6 (by omega) (by omega)
  have k2_6 := k2_5.ch2 hC6 (by omega) (by omega)
  have hr_6 := rd_ch2 hr_5 hC6 (fun g' q' e _ => by injection e with e; injection e with e1 _; omega)
  have hB_6 := hC6.below hB_5 (by omega) (by omega) hB_5.size
  clear k1_5 k2_5 k6_5 hr_5 hB_5 hC6
  have ca := k6_6.at_ 0 rfl
  have fa := k6_6.2.2 0
  have hlt := k6_6.1
  go_upto_region 8 with fail
  have hW1 : Below w.heap.size w ((u6.setCell ⟨w.heap.size + 1 + 1, 0, none⟩ (.int .i64 124)).alloc (.cells #[.int .i64 (F l 4 4 : Int), .int .i64 (F l 8 4 : Int), .int .i64 (F l 12 4 : Int)] 96)) := (hB_6.setCell (by simp; omega) _).alloc (by have := hB_6.size; simpa [World.setCell] using this) _
  have m1 := (k1_6.other (b := w.heap.size + 1 + 1) (i := 0) (v := .int .i64 124) (by omega)).alloc (.cells #[.int .i64 (F l 4 4 : Int), .int .i64 (F l 8 4 : Int), .int .i64 (F l 12 4 : Int)] 96)
  have m2 := (k2_6.other (b := w.heap.size + 1 + 1) (i := 0) (v := .int .i64 124) (by omega)).alloc (.cells #[.int .i64 (F l 4 4 : Int), .int .i64 (F l 8 4 : Int), .int .i64 (F l 12 4 : Int)] 96)
  have ma := (k6_6.set 0 (.int .i64 124) (by simp)).alloc (.cells #[.int .i64 (F l 4 4 : Int), .int .i64 (F l 8 4 : Int), .int .i64 (F l 12 4 : Int)] 96)
  have my := Holds.new (u6.setCell ⟨w.heap.size + 1 + 1, 0, none⟩ (.int .i64 124)) #[.int .i64 (F l 4 4 : Int), .int .i64 (F l 8 4 : Int), .int .i64 (F l 12 4 : Int)] 96
  rw [show (u6.setCell ⟨w.heap.size + 1 + 1, 0, none⟩ (.int .i64 124)).heap.size = u6.heap.size by simp [World.setCell]] at my
  have mr := (rd_ch2 hr_6 (Ch2.set1 (w.heap.size + 1 + 1) (w.heap.size + 1 + 1) 0 u6 (.int .i64 124)) (fun g' q' e _ => by injection e with e; injection e with e1 _; omega)).alloc (.cells #[.int .i64 (F l 4 4 : Int), .int .i64 (F l 8 4 : Int), .int .i64 (F l 12 4 : Int)] 96)
  clear k1_6 k2_6 k6_6 hr_6 hB_6 ca fa
  generalize ((u6.setCell ⟨w.heap.size + 1 + 1, 0, none⟩ (.int .i64 124)).alloc (.cells #[.int .i64 (F l 4 4 : Int), .int .i64 (F l 8 4 : Int), .int .i64 (F l 12 4 : Int)] 96)) = W at *
  have HKc := Lib.hid (fun V => kind_any (F l 1 1 : Int) V)
  have HCc : Hid True := Lib.hid trivial
  have hk76 := HK76.out
  have hrl := H.out
  generalize F l 2 2 = n at *
  generalize F l 4 4 = f at *
  generalize F l 8 4 = e at *
  generalize F l 12 4 = i at *
  generalize F l 1 1 = k at *
  generalize F l 0 1 = first at *
  have hst : ∀ v, Ch2 (w.heap.size + 1 + 1) (w.heap.size + 1 + 1) W v → Holds v w.heap.size [.slice (some ⟨g, q, none⟩) 128 c] ∧ Holds v (w.heap.size + 1) [.int .i64 0, .int .i64 0, .int .i64 0] ∧ Holds v u6.heap.size [.int .i64 (f : Int), .int .i64 (e : Int), .int .i64 (i : Int)] ∧ Rd v (some ⟨g, q, none⟩) 128 l ∧ Below w.heap.size w v := by
    intro v hv
    exact ⟨m1.ch2 hv (by omega) (by omega), m2.ch2 hv (by omega) (by omega), my.ch2 hv (by omega) (by omega), rd_ch2 mr hv (fun g' q' e _ => by injection e with e; injection e with e1 _; omega), hv.below hW1 (by omega) (by omega) hW1.size⟩
  have HSt := Lib.hid hst
  have hac : ∀ v, Below W.heap.size W v → Holds v (w.heap.size + 1 + 1) [.int .i64 ((124 : Nat) : Int)] := fun v hv => ma.below hv
  have HAc := Lib.hid hac
  have hS : ∀ v, Ch2 (w.heap.size + 1 + 1) (w.heap.size + 1 + 1) W v → v.cell? ⟨w.heap.size, 0, none⟩ = some (.slice (some ⟨g, q, none⟩) 128 c) ∧ v.cell? ⟨u6.heap.size, 0, none⟩ = some (.int .i64 (f : Int)) ∧ v.cell? ⟨u6.heap.size, 1, none⟩ = some (.int .i64 (e : Int)) ∧ v.cell? ⟨u6.heap.size, 2, none⟩ = some (.int .i64 (i : Int)) := fun v hv => ⟨(hst v hv).1.at_ 0 rfl, (hst v hv).2.2.1.at_ 0 rfl, (hst v hv).2.2.1.at_ 1 rfl, (hst v hv).2.2.1.at_ 2 rfl⟩
  have HS := Lib.hid hS
  have hd : Ch2 (w.heap.size + 1 + 1) (w.heap.size + 1 + 1) W W.drew := (Ch2.refl _ _ _).drew
  have hdb : Below W.heap.size W W.drew := (Below.refl _ _).drew
  have hc0 := (HS.out W (Ch2.refl _ _ _)).1
  have hc1 := (HS.out W (Ch2.refl _ _ _)).2.1
  have hc2 := (HS.out W (Ch2.refl _ _ _)).2.2.1
  have hc3 := (HS.out W (Ch2.refl _ _ _)).2.2.2
  have hne76 : ((first : Int) != 76) = true := by rw [bne_iff_ne]; omega
  have hcc : (124 : Int) ≤ (c : Int) := by omega
  have hcd : 124 ≤ c := by omega
  clear m1 m2 ma my mr hrl HT hst hac hS H hk76 hg HK76 hW1 hlt
  refine region_class (fun w' => Below W.heap.size W w') (by kernel_rfl) (by kernel_rfl) hdb ?_
  repeat (go_big_quiet_step ((first | (intro _; with_reducible rfl) | (intro hq; exact calls_same1 hq (HKc.out _)) | (intro hq; obtain ⟨e0, e1, e2, e3⟩ := HS.out _ (Ch2.of_below hq); simp [e0, e1, e2, e3, Result.andThen]; with_reducible rfl))))
  refine wpQuiet_nil ?_
  intro v9 hv9
  obtain ⟨z1, z2, zy, zr, zB⟩ := HSt.out _ (Ch2.of_below hv9)
  have zc0 := z2.at_ 0 rfl
  have zc1 := z2.at_ 1 rfl
  have zc2 := z2.at_ 2 rfl
  have zf0 := z2.2.2 0
  have zf1 := z2.2.2 1
  have zf2 := z2.2.2 2
  have z3 := z2.set3 (.int .i64 0) (.int .i64 0) (.int .i64 0)
  have r0 := z3.at_ 0 rfl
  have r1 := z3.at_ 1 rfl
  have r2 := z3.at_ 2 rfl
  have R0 := Lib.hid r0
  have R1 := Lib.hid r1
  have R2 := Lib.hid r2
  have hBf : Below w.heap.size w (((v9.setCell ⟨w.heap.size + 1, 0, none⟩ (.int .i64 0)).setCell ⟨w.heap.size + 1, 1, none⟩ (.int .i64 0)).setCell ⟨w.heap.size + 1, 2, none⟩ (.int .i64 0)) := ((zB.setCell (by simp) _).setCell (by simp) _).setCell (by simp) _
  have HBf := Lib.hid hBf
  clear z1 z2 zy zr zB z3 r0 r1 r2 hBf
  go_wp2_with fail
  refine bodyPost_ret (v := .tuple #[.agg #[.int .i64 0, .int .i64 0, .int .i64 0], .int .i64 0, .int .i64 0, .bool false]) (by simp [results, Try.results79, go_sem, R0.out, R1.out, R2.out]) rfl ⟨rfl, HBf.out⟩
end Go.Proofs.Ytbdomhookjmmgaa
namespace Go.Proofs.Ytbdomhookjmmgaa
open Go.RowKit Fr
set_option linter.unusedVariables false
theorem calls_same2 {P : Program} {f : FuncId} {args : Array Value} {W w : World} {v : Value} (hq : Below W.heap.size W w) (h : Calls P f args w fun e w' => e = .returned v ∧ w = w') :
    Calls P f args w fun e w' => e = .returned v ∧ Below W.heap.size W w' := h.mono fun _ _ ⟨he, hb⟩ => ⟨he, hb ▸ hq⟩
set_option maxRecDepth 100000 in
set_option maxHeartbeats 8000000 in
theorem open_no2 (A : Option Addr) (c : Nat) (l : List Nat) (w : World) (h : Rd w A 128 l) (hc : 128 ≤ c) (h76 : F l 0 1 = 76) (hk : okK (F l 1 1 : Int) = false) :
    Calls Try.prog 79 #[.slice A 128 c] w (GivesOpen w 0 0 0 0 0 false) := by
  obtain ⟨hB0, k1, k2, k6⟩ := three_blocks w #[.slice A 128 c] #[.int .i64 0, .int .i64 0, .int .i64 0] #[.int .i64 0] 28 96 3
  obtain ⟨g, q, rfl, hg, _⟩ := h.2.2 (by omega)
  have hT := fun (s o : Nat) (v : World) (hv : Holds v w.heap.size [.slice (some ⟨g, q, none⟩) 128 c]) (hr : Rd v (some ⟨g, q, none⟩) 128 l) (ha : Holds v (w.heap.size + 1 + 1) [.int .i64 (o : Int)]) (h4 : s ≤ 4) (h128 : o + s ≤ 128) => take_num s o w.heap.size (w.heap.size + 1 + 1) (some ⟨g, q, none⟩) c l v (hv.at_ 0 rfl) hv.1 hr ha h4 h128 (by omega) (fun g' q' e => by injection e with e; injection e with e1 _; omega)
  have HT := Lib.hid hT
  have H := Lib.hid h
  have hmf : ∀ (fn : Fn) (first cap : Array Value) (w : World), (Instr.makeFunc fn first cap).run Try.prog w = .ok (.func fn first cap) w := fun _ _ _ _ => rfl
  have HK76 := Lib.hid h76
  have HKk := Lib.hid hk
  have hr0 := h.below hB0
  clear hT h h76 hk
  go_enter Try.func79, Try.ntmps79
  go_wp2_with fail
  clear hmf
  have k6_0 := k6
  have k1_0 := k1
  have k2_0 := k2
  have hr_0 := hr0
  have hB_0 := hB0
  clear k6 k1 k2 hr0 hB0
  refine (HT.out 1 0 _ k1_0 hr_0 k6_0 (by omega) (by omega)).mono ?_
  rintro x u1 ⟨rfl, k6_1, hC1⟩
  have k1_1 := k1_0.ch2 hC1 (by omega) (by omega)
  have k2_1 := k2_0.ch2 hC1 (by omega) (by omega)
  have hr_1 := rd_ch2 hr_0 hC1 (fun g' q' e _ => by injection e with e; injection e with e1 _; omega)
  have hB_1 := hC1.below hB_0 (by omega) (by omega) hB_0.size
  clear k1_0 k2_0 k6_0 hr_0 hB_0 hC1
  go_wp2_with fail
  refine (HT.out 1 1 _ k1_1 hr_1 k6_1 (by omega) (by omega)).mono ?_
  rintro x u2 ⟨rfl, k6_2, hC2⟩
  have k1_2 := k1_1.ch2 hC2 (by omega) (by omega)
  have k2_2 := k2_1.ch2 hC2 (by omega) (by omega)
  have hr_2 := rd_ch2 hr_1 hC2 (fun g' q' e _ => by injection e with e; injection e with e1 _; omega)
  have hB_2 := hC2.below hB_1 (by omega) (by omega) hB_1.size
  clear k1_1 k2_1 k6_1 hr_1 hB_1 hC2
  go_wp2_with fail
  refine (HT.out 2 2 _ k1_2 hr_2 k6_2 (by omega) (by omega)).mono ?_
  rintro x u3 ⟨rfl, k6_3, hC3⟩
  have k1_3 := k1_2.ch2 hC3 (by omega) (by omega)
  have k2_3 := k2_2.ch2 hC3 (by omega) (by omega)
  have hr_3 := rd_ch2 hr_2 hC3 (fun g' q' e _ => by injection e with e; injection e with e1 _; omega)
  have hB_3 := hC3.below hB_2 (by omega) (by omega) hB_2.size
  clear k1_2 k2_2 k6_2 hr_2 hB_2 hC3
  go_wp2_with fail
  refine (HT.out 4 4 _ k1_3 hr_3 k6_3 (by omega) (by omega)).mono ?_
  rintro x u4 ⟨rfl, k6_4, hC4⟩
  have k1_4 := k1_3.ch2 hC4 (by omega) (by omega)
  have k2_4 := k2_3.ch2 hC4 (by omega) (by omega)
  have hr_4 := rd_ch2 hr_3 hC4 (fun g' q' e _ => by injection e with e; injection e with e1 _; omega)
  have hB_4 := hC4.below hB_3 (by omega) (by omega) hB_3.size
  clear k1_3 k2_3 k6_3 hr_3 hB_3 hC4
  go_wp2_with fail
  refine (HT.out 4 8 _ k1_4 hr_4 k6_4 (by omega) (by omega)).mono ?_
  rintro x u5 ⟨rfl, k6_5, hC5⟩
  have k1_5 := k1_4.ch2 hC5 (by omega) (by omega)
  have k2_5 := k2_4.ch2 hC5 (by omega) (by omega)
  have hr_5 := rd_ch2 hr_4 hC5 (fun g' q' e _ => by injection e with e; injection e with e1 _; omega)
  have hB_5 := hC5.below hB_4 (by omega) (by omega) hB_4.size
  clear k1_4 k2_4 k6_4 hr_4 hB_4 hC5
  go_wp2_with fail
  refine (HT.out 4 12 _ k1_5 hr_5 k6_5 (by omega) (by omega)).mono ?_
  rintro x u6 ⟨rfl, k6_6, hC6⟩
  have k1_6 := k1_5.ch2 hC6 (by omega) (by omega)
  have k2_6 := k2_5.ch2 hC6 (by omega) (by omega)
  have hr_6 := rd_ch2 hr_5 hC6 (fun g' q' e _ => by injection e with e; injection e with e1 _; omega)
  have hB_6 := hC6.below hB_5 (by omega) (by omega) hB_5.size
  clear k1_5 k2_5 k6_5 hr_5 hB_5 hC6
  have ca := k6_6.at_ 0 rfl
  have fa := k6_6.2.2 0
  have hlt := k6_6.1
  go_upto_region 8 with fail
  have hW1 : Below w.heap.size w ((u6.setCell ⟨w.heap.size + 1 + 1, 0, none⟩ (.int .i64 124)).alloc (.cells #[.int .i64 (F l 4 4 : Int), .int .i64 (F l 8 4 : Int), .int .i64 (F l 12 4 : Int)] 96)) := (hB_6.setCell (by simp; omega) _).alloc (by have := hB_6.size; simpa [World.setCell] using this) _
  have m1 := (k1_6.other (b := w.heap.size + 1 + 1) (i := 0) (v := .int .i64 124) (by omega)).alloc (.cells #[.int .i64 (F l 4 4 : Int), .int .i64 (F l 8 4 : Int), .int .i64 (F l 12 4 : Int)] 96)
  have m2 := (k2_6.other (b := w.heap.size + 1 + 1) (i := 0) (v := .int .i64 124) (by omega)).alloc (.cells #[.int .i64 (F l 4 4 : Int), .int .i64 (F l 8 4 : Int), .int .i64 (F l 12 4 : Int)] 96)
  have ma := (k6_6.set 0 (.int .i64 124) (by simp)).alloc (.cells #[.int .i64 (F l 4 4 : Int), .int .i64 (F l 8 4 : Int), .int .i64 (F l 12 4 : Int)] 96)
  have my := Holds.new (u6.setCell ⟨w.heap.size + 1 + 1, 0, none⟩ (.int .i64 124)) #[.int .i64 (F l 4 4 : Int), .int .i64 (F l 8 4 : Int), .int .i64 (F l 12 4 : Int)] 96
  rw [show (u6.setCell ⟨w.heap.size + 1 + 1, 0, none⟩ (.int .i64 124)).heap.size = u6.heap.size by simp [World.setCell]] at my
  have mr := (rd_ch2 hr_6 (Ch2.set1 (w.heap.size + 1 + 1) (w.heap.size + 1 + 1) 0 u6 (.int .i64 124)) (fun g' q' e _ => by injection e with e; injection e with e1 _; omega)).alloc (.cells #[.int .i64 (F l 4 4 : Int), .int .i64 (F l 8 4 : Int), .int .i64 (F l 12 4 : Int)] 96)
  clear k1_6 k2_6 k6_6 hr_6 hB_6 ca fa
  generalize ((u6.setCell ⟨w.heap.size + 1 + 1, 0, none⟩ (.int .i64 124)).alloc (.cells #[.int .i64 (F l 4 4 : Int), .int .i64 (F l 8 4 : Int), .int .i64 (F l 12 4 : Int)] 96)) = W at *
  have hkc := fun V => kind_any (F l 1 1 : Int) V
  rw [HKk.out] at hkc
  have HKc := Lib.hid hkc
  have HCc : Hid True := Lib.hid trivial
  have hk76 := HK76.out
  have hrl := H.out
  generalize F l 2 2 = n at *
  generalize F l 4 4 = f at *
  generalize F l 8 4 = e at *
  generalize F l 12 4 = i at *
  generalize F l 1 1 = k at *
  generalize F l 0 1 = first at *
  have hst : ∀ v, Ch2 (w.heap.size + 1 + 1) (w.heap.size + 1 + 1) W v → Holds v w.heap.size [.slice (some ⟨g, q, none⟩) 128 c] ∧ Holds v (w.heap.size + 1) [.int .i64 0, .int .i64 0, .int .i64 0] ∧ Holds v u6.heap.size [.int .i64 (f : Int), .int .i64 (e : Int), .int .i64 (i : Int)] ∧ Rd v (some ⟨g, q, none⟩) 128 l ∧ Below w.heap.size w v := by
    intro v hv
    exact ⟨m1.ch2 hv (by omega) (by omega), m2.ch2 hv (by omega) (by omega), my.ch2 hv (by omega) (by omega), rd_ch2 mr hv (fun g' q' e _ => by injection e with e; injection e with e1 _; omega), hv.below hW1 (by omega) (by omega) hW1.size⟩
  have HSt := Lib.hid hst
  have hac : ∀ v, Below W.heap.size W v → Holds v (w.heap.size + 1 + 1) [.int .i64 ((124 : Nat) : Int)] := fun v hv => ma.below hv
  have HAc := Lib.hid hac
  have hS : ∀ v, Ch2 (w.heap.size + 1 + 1) (w.heap.size + 1 + 1) W v → v.cell? ⟨w.heap.size, 0, none⟩ = some (.slice (some ⟨g, q, none⟩) 128 c) ∧ v.cell? ⟨u6.heap.size, 0, none⟩ = some (.int .i64 (f : Int)) ∧ v.cell? ⟨u6.heap.size, 1, none⟩ = some (.int .i64 (e : Int)) ∧ v.cell? ⟨u6.heap.size, 2, none⟩ = some (.int .i64 (i : Int)) := fun v hv => ⟨(hst v hv).1.at_ 0 rfl, (hst v hv).2.2.1.at_ 0 rfl, (hst v hv).2.2.1.at_ 1 rfl, (hst v hv).2.2.1.at_ 2 rfl⟩
  have HS := Lib.hid hS
  have hd : Ch2 (w.heap.size + 1 + 1) (w.heap.size + 1 + 1) W W.drew := (Ch2.refl _ _ _).drew
  have hdb : Below W.heap.size W W.drew := (Below.refl _ _).drew
  have hc0 := (HS.out W (Ch2.refl _ _ _)).1
  have hc1 := (HS.out W (Ch2.refl _ _ _)).2.1
  have hc2 := (HS.out W (Ch2.refl _ _ _)).2.2.1
  have hc3 := (HS.out W (Ch2.refl _ _ _)).2.2.2
  have hf76 : first = 76 := hk76
  subst hf76
  have hcc : (124 : Int) ≤ (c : Int) := by omega
  have hcd : 124 ≤ c := by omega
  clear m1 m2 ma my mr hkc hrl HT hst hac hS H hk76 hg HK76 HKk hW1 hlt
  refine region_class (fun w' => Below W.heap.size W w') (by kernel_rfl) (by kernel_rfl) hdb ?_
  repeat (go_big_quiet_step ((first | (intro _; with_reducible rfl) | (intro hq; exact calls_same2 hq (HKc.out _)) | (intro hq; obtain ⟨e0, e1, e2, e3⟩ := HS.out _ (Ch2.of_below hq); simp [e0, e1, e2, e3, Result.andThen]; with_reducible rfl))))
  refine wpQuiet_nil ?_
  intro v9 hv9
  obtain ⟨z1, z2, zy, zr, zB⟩ := HSt.out _ (Ch2.of_below hv9)
  have zc0 := z2.at_ 0 rfl
  have zc1 := z2.at_ 1 rfl
  have zc2 := z2.at_ 2 rfl
  have zf0 := z2.2.2 0
  have zf1 := z2.2.2 1
  have zf2 := z2.2.2 2
  have z3 := z2.set3 (.int .i64 0) (.int .i64 0) (.int .i64 0)
  have r0 := z3.at_ 0 rfl
  have r1 := z3.at_ 1 rfl
  have r2 := z3.at_ 2 rfl
  have R0 := Lib.hid r0
  have R1 := Lib.hid r1
  have R2 := Lib.hid r2
  have hBf : Below w.heap.size w (((v9.setCell ⟨w.heap.size + 1, 0, none⟩ (.int .i64 0)).setCell ⟨w.heap.size + 1, 1, none⟩ (.int .i64 0)).setCell ⟨w.heap.size + 1, 2, none⟩ (.int .i64 0)) := ((zB.setCell (by simp) _).setCell (by simp) _).setCell (by simp) _
  have HBf := Lib.hid hBf
  clear z1 z2 zy zr zB z3 r0 r1 r2 hBf
  go_wp2_with fail
  refine bodyPost_ret (v := .tuple #[.agg #[.int .i64 0, .int .i64 0, .int .i64 0], .int .i64 0, .int .i64 0, .bool false]) (by simp [results, Try.results79, go_sem, R0.out, R1.out, R2.out]) rfl ⟨rfl, HBf.out⟩
end Go.Proofs.Ytbdomhookjmmgaa
