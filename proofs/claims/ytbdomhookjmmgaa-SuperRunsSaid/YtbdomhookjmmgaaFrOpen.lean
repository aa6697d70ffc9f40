/- What frame's open returns for bytes that are a frame. -/
import Derived.Test.YtbdomhookjmmgaaFrLowB
import Derived.Test.YtbdomhookjmmgaaFrREnc
import Derived.Deep.RegionHeld3
import Derived.Deep.DeepCutAuto
namespace Go.Proofs.Ytbdomhookjmmgaa
open Go.RowKit Fr
set_option linter.unusedVariables false
namespace Fr
/-- Are all bytes 0? -/
def zerosB (l : List Nat) : Bool := l.all (· == 0)
theorem zerosB_iff {l : List Nat} : zerosB l = true ↔ ∀ x ∈ l, x = 0 := by unfold zerosB; rw [List.all_eq_true]; exact ⟨fun h x hx => by simpa using h x hx, fun h x hx => by simpa using h x hx⟩
theorem zerosB_no {l : List Nat} {j x : Nat} (h : l[j]? = some x) (hx : x ≠ 0) : zerosB l = false := by
  cases hz : zerosB l with
  | false => rfl
  | true => exact absurd (zerosB_iff.1 hz x (List.mem_of_getElem? h)) hx
end Fr
set_option maxRecDepth 100000 in
theorem zeros_any (A : Option Addr) (n c : Nat) (l : List Nat) (w : World) (h : Rd w A n l) (hn : n ≤ 1000) : Calls Try.prog 88 #[.slice A n c] w fun e w' => e = .returned (.bool (zerosB l)) ∧ w = w' := by
  have H := Lib.hid h
  clear h
  go_enter Try.func88, Try.ntmps88
  go_wp2
  go_loop [7] (fun i => ∃ j : Nat, j ≤ n ∧ i = .int .i64 (j : Int) ∧ Hid (∀ x ∈ l.take j, x = 0)) (fun i => n - (intOf i).toNat)
  case atStart => exact ⟨0, by omega, rfl, Lib.hid (by simp)⟩
  case round =>
    obtain ⟨j, hj, rfl, hz⟩ := hrel
    by_cases hjn : j < n
    · have hji : (j : Int) < (n : Int) := by omega
      obtain ⟨g, o, x, rfl, hg, hx, hx2, hc⟩ := H.out.at_ hjn
      by_cases hx0 : x = 0
      · subst hx0
        have HX := Lib.hid hx
        clear hx
        go_wp2
        go_round
        case rel =>
          refine ⟨j + 1, by omega, by go_num, Lib.hid ?_⟩
          rw [take_snoc HX.out]
          intro y hy
          rcases List.mem_append.1 hy with h1 | h1
          · exact hz.out y h1
          · rw [List.mem_singleton] at h1; exact h1
        case measure => simp [intOf]; omega
      · have hno := zerosB_no hx hx0
        have hxb : ((x : Int) != 0) = true := by rw [bne_iff_ne]; omega
        have HNo := Lib.hid hno
        clear hx hno hx0
        go_wp2
        go_ret
        rw [HNo.out]
        exact ⟨rfl, rfl⟩
    · have hjn2 : j = n := by omega
      subst hjn2
      have hz2 := hz.out
      rw [List.take_of_length_le (by rw [H.out.1]; omega)] at hz2
      have hyes := zerosB_iff.2 hz2
      have HYes := Lib.hid hyes
      clear hz2 hyes
      go_wp2
      go_ret
      rw [HYes.out]
      exact ⟨rfl, rfl⟩
theorem three_blocks (w : World) (a b c : Array Value) (s t u : TypeId) : Below w.heap.size w (((w.alloc (.cells a s)).alloc (.cells b t)).alloc (.cells c u)) ∧ Holds (((w.alloc (.cells a s)).alloc (.cells b t)).alloc (.cells c u)) w.heap.size a.toList ∧ Holds (((w.alloc (.cells a s)).alloc (.cells b t)).alloc (.cells c u)) (w.heap.size + 1) b.toList ∧ Holds (((w.alloc (.cells a s)).alloc (.cells b t)).alloc (.cells c u)) (w.heap.size + 1 + 1) c.toList := by
  have h1 := ((Holds.new w a s).alloc (.cells b t)).alloc (.cells c u)
  have h2 := (Holds.new (w.alloc (.cells a s)) b t).alloc (.cells c u)
  have h3 := Holds.new ((w.alloc (.cells a s)).alloc (.cells b t)) c u
  rw [show (w.alloc (.cells a s)).heap.size = w.heap.size + 1 by simp] at h2
  rw [show ((w.alloc (.cells a s)).alloc (.cells b t)).heap.size = w.heap.size + 1 + 1 by simp] at h3
  exact ⟨(((Below.refl _ _).alloc (Nat.le_refl _) _).alloc (by simp) _).alloc (by simp; omega) _, h1, h2, h3⟩
theorem rd_ch2 {w w' : World} {A : Option Addr} {n b c : Nat} {l : List Nat} (h : Rd w A n l) (hc : Ch2 b c w w') (hne : ∀ g q, A = some ⟨g, q, none⟩ → 0 < n → g ≠ b ∧ g ≠ c) : Rd w' A n l := by
  refine ⟨h.1, h.2.1, fun hn => ?_⟩
  obtain ⟨g, q, rfl, hg, hcl⟩ := h.2.2 hn
  obtain ⟨h1, h2⟩ := hne g q rfl hn
  exact ⟨g, q, rfl, Nat.lt_of_lt_of_le hg hc.size, fun j x hx => (hc.cell (p := ⟨g, q + j, none⟩) hg h1 h2).trans (hcl j x hx)⟩
theorem rd_part {w : World} {g q N : Nat} {l : List Nat} (h : Rd w (some ⟨g, q, none⟩) N l) {o m : Nat} (ho : o + m ≤ N) : Rd w (some ⟨g, q + o, none⟩) m ((l.drop o).take m) := by
  refine ⟨by rw [List.length_take, List.length_drop, h.1]; omega, fun x hx => h.lt (List.mem_of_mem_drop (List.mem_of_mem_take hx)), fun hm => ?_⟩
  obtain ⟨b, o2, he, hb, hc⟩ := h.2.2 (by omega)
  injection he with he
  injection he with e1 e2
  subst e1 e2
  refine ⟨g, q + o, rfl, hb, fun j x hx => ?_⟩
  rw [List.getElem?_take] at hx
  split at hx
  · rw [List.getElem?_drop] at hx
    rw [Nat.add_assoc]
    exact hc _ _ hx
  · cases hx
/-- A stamp, a kind, a length, and whether it is a frame. -/
def GivesOpen (w : World) (f e i k n : Int) (ok : Bool) (x : Ending) (w' : World) : Prop :=
  x = .returned (.tuple #[.agg #[.int .i64 f, .int .i64 e, .int .i64 i], .int .i64 k, .int .i64 n, .bool ok]) ∧ Below w.heap.size w w'
set_option maxRecDepth 100000 in
set_option maxHeartbeats 8000000 in
theorem open_yes (A : Option Addr) (c : Nat) (l : List Nat) (w : World) (h : Rd w A 128 l) (hc : 128 ≤ c) (h76 : F l 0 1 = 76) (hk : okK (F l 1 1 : Int) = true) (hn : F l 2 2 ≤ 108) (hs : okS (F l 4 4 : Int) (F l 8 4 : Int) (F l 12 4 : Int) = true)
    (hz : zerosB ((l.drop (16 + F l 2 2)).take (108 - F l 2 2)) = true) (hsum : F l 124 4 = Cr.more 0 (l.take 124)) :
    Calls Try.prog 79 #[.slice A 128 c] w (GivesOpen w (F l 4 4) (F l 8 4) (F l 12 4) (F l 1 1) (F l 2 2) true) := by
  obtain ⟨hB0, k1, k2, k6⟩ := three_blocks w #[.slice A 128 c] #[.int .i64 0, .int .i64 0, .int .i64 0] #[.int .i64 0] 28 96 3
  obtain ⟨g, q, rfl, hg, _⟩ := h.2.2 (by omega)
  have hT := fun (s o : Nat) (v : World) (hv : Holds v w.heap.size [.slice (some ⟨g, q, none⟩) 128 c]) (hr : Rd v (some ⟨g, q, none⟩) 128 l) (ha : Holds v (w.heap.size + 1 + 1) [.int .i64 (o : Int)]) (h4 : s ≤ 4) (h128 : o + s ≤ 128) => take_num s o w.heap.size (w.heap.size + 1 + 1) (some ⟨g, q, none⟩) c l v (hv.at_ 0 rfl) hv.1 hr ha h4 h128 (by omega) (fun g' q' e => by injection e with e; injection e with e1 _; omega)
  have HT := Lib.hid hT
  have H := Lib.hid h
  have hmf : ∀ (fn : Fn) (first cap : Array Value) (w : World), (Instr.makeFunc fn first cap).run Try.prog w = .ok (.func fn first cap) w := fun _ _ _ _ => rfl
  have HK76 := Lib.hid h76
  have HKk := Lib.hid hk
  have HKs := Lib.hid hs
  have HZ := Lib.hid hz
  have HSum := Lib.hid hsum
  have hr0 := h.below hB0
  clear hT h h76 hk hs hz hsum
  go_enter Try.func79, Try.ntmps79
  go_wp2_with fail
  clear hmf
  have k6_0 := k6
  have k1_0 := k1
  have k2_0 := k2
  have hr_0 := hr0
  have hB_0 := hB0
  clear k6 k1 k2 hr0 hB0
  refine (HT.out 1 0 _ k1_0 hr_0 k6_0 (by omega) (by omega)).mono ?_
  rintro x u1 ⟨rfl, k6_1, hC1⟩
  have k1_1 := k1_0.ch2 hC1 (by omega) (by omega)
  have k2_1 := k2_0.ch2 hC1 (by omega) (by omega)
  have hr_1 := rd_ch2 hr_0 hC1 (fun g' q' e _ => by injection e with e; injection e with e1 _; omega)
  have hB_1 := hC1.below hB_0 (by omega) (by omega) hB_0.size
  clear k1_0 k2_0 k6_0 hr_0 hB_0 hC1
  go_wp2_with fail
  refine (HT.out 1 1 _ k1_1 hr_1 k6_1 (by omega) (by omega)).mono ?_
  rintro x u2 ⟨rfl, k6_2, hC2⟩
  have k1_2 := k1_1.ch2 hC2 (by omega) (by omega)
  have k2_2 := k2_1.ch2 hC2 (by omega) (by omega)
  have hr_2 := rd_ch2 hr_1 hC2 (fun g' q' e _ => by injection e with e; injection e with e1 _; omega)
  have hB_2 := hC2.below hB_1 (by omega) (by omega) hB_1.size
  clear k1_1 k2_1 k6_1 hr_1 hB_1 hC2
  go_wp2_with fail
  refine (HT.out 2 2 _ k1_2 hr_2 k6_2 (by omega) (by omega)).mono ?_
  rintro x u3 ⟨rfl, k6_3, hC3⟩
  have k1_3 := k1_2.ch2 hC3 (by omega) (by omega)
  have k2_3 := k2_2.ch2 hC3 (by omega) (by omega)
  have hr_3 := rd_ch2 hr_2 hC3 (fun g' q' e _ => by injection e with e; injection e with e1 _; omega)
  have hB_3 := hC3.below hB_2 (by omega) (by omega) hB_2.size
  clear k1_2 k2_2 k6_2 hr_2 hB_2 hC3
  go_wp2_with fail
  refine (HT.out 4 4 _ k1_3 hr_3 k6_3 (by omega) (by omega)).mono ?_
  rintro x u4 ⟨rfl, k6_4, hC4⟩
  have k1_4 := k1_3.ch2 hC4 (by omega) (by omega)
  have k2_4 := k2_3.ch2 hC4 (by omega) (by omega)
  have hr_4 := rd_ch2 hr_3 hC4 (fun g' q' e _ => by injection e with e; injection e with e1 _; omega)
  have hB_4 := hC4.below hB_3 (by omega) (by omega) hB_3.size
  clear k1_3 k2_3 k6_3 hr_3 hB_3 hC4
  go_wp2_with fail
  refine (HT.out 4 8 _ k1_4 hr_4 k6_4 (by omega) (by omega)).mono ?_
  rintro x u5 ⟨rfl, k6_5, hC5⟩
  have k1_5 := k1_4.ch2 hC5 (by omega) (by omega)
  have k2_5 := k2_4.ch2 hC5 (by omega) (by omega)
  have hr_5 := rd_ch2 hr_4 hC5 (fun g' q' e _ => by injection e with e; injection e with e1 _; omega)
  have hB_5 := hC5.below hB_4 (by omega) (by omega) hB_4.size
  clear k1_4 k2_4 k6_4 hr_4 hB_4 hC5
  go_wp2_with fail
  refine (HT.out 4 12 _ k1_5 hr_5 k6_5 (by omega) (by omega)).mono ?_
  rintro x u6 ⟨rfl, k6_6, hC6⟩
  have k1_6 := k1_5.ch2 hC6 (by omega) (by omega)
  have k2_6 := k2_5.ch2 hC6 (by omega) (by omega)
  have hr_6 := rd_ch2 hr_5 hC6 (fun g' q' e _ => by injection e with e; injection e with e1 _; omega)
  have hB_6 := hC6.below hB_5 (by omega) (by omega) hB_5.size
  clear k1_5 k2_5 k6_5 hr_5 hB_5 hC6
  have ca := k6_6.at_ 0 rfl
  have fa := k6_6.2.2 0
  have hlt := k6_6.1
  go_upto_region 8 with fail
  have hW1 : Below w.heap.size w ((u6.setCell ⟨w.heap.size + 1 + 1, 0, none⟩ (.int .i64 124)).alloc (.cells #[.int .i64 (F l 4 4 : Int), .int .i64 (F l 8 4 : Int), .int .i64 (F l 12 4 : Int)] 96)) := (hB_6.setCell (by simp; omega) _).alloc (by have := hB_6.size; simpa [World.setCell] using this) _
  have m1 := (k1_6.other (b := w.heap.size + 1 + 1) (i := 0) (v := .int .i64 124) (by omega)).alloc (.cells #[.int .i64 (F l 4 4 : Int), .int .i64 (F l 8 4 : Int), .int .i64 (F l 12 4 : Int)] 96)
  have m2 := (k2_6.other (b := w.heap.size + 1 + 1) (i := 0) (v := .int .i64 124) (by omega)).alloc (.cells #[.int .i64 (F l 4 4 : Int), .int .i64 (F l 8 4 : Int), .int .i64 (F l 12 4 : Int)] 96)
  have ma := (k6_6.set 0 (.int .i64 124) (by simp)).alloc (.cells #[.int .i64 (F l 4 4 : Int), .int .i64 (F l 8 4 : Int), .int .i64 (F l 12 4 : Int)] 96)
  have my := Holds.new (u6.setCell ⟨w.heap.size + 1 + 1, 0, none⟩ (.int .i64 124)) #[.int .i64 (F l 4 4 : Int), .int .i64 (F l 8 4 : Int), .int .i64 (F l 12 4 : Int)] 96
  rw [show (u6.setCell ⟨w.heap.size + 1 + 1, 0, none⟩ (.int .i64 124)).heap.size = u6.heap.size by simp [World.setCell]] at my
  have mr := (rd_ch2 hr_6 (Ch2.set1 (w.heap.size + 1 + 1) (w.heap.size + 1 + 1) 0 u6 (.int .i64 124)) (fun g' q' e _ => by injection e with e; injection e with e1 _; omega)).alloc (.cells #[.int .i64 (F l 4 4 : Int), .int .i64 (F l 8 4 : Int), .int .i64 (F l 12 4 : Int)] 96)
  clear k1_6 k2_6 k6_6 hr_6 hB_6 ca fa
  generalize ((u6.setCell ⟨w.heap.size + 1 + 1, 0, none⟩ (.int .i64 124)).alloc (.cells #[.int .i64 (F l 4 4 : Int), .int .i64 (F l 8 4 : Int), .int .i64 (F l 12 4 : Int)] 96)) = W at *
  have hkc := fun V => kind_any (F l 1 1 : Int) V
  rw [HKk.out] at hkc
  have HKc := Lib.hid hkc
  have HCc := Lib.hid (fun V => check_yes (F l 4 4 : Int) (F l 8 4 : Int) (F l 12 4 : Int) V HKs.out)
  have hk76 := HK76.out
  have hzr := HZ.out
  have hrl := H.out
  have hsum := HSum.out
  have HTl := Lib.hid (fun (v : World) h1 h2 h3 => HT.out 4 124 v h1 h2 h3 (by omega) (by omega))
  rw [hsum] at HTl
  generalize F l 2 2 = n at *
  generalize F l 4 4 = f at *
  generalize F l 8 4 = e at *
  generalize F l 12 4 = i at *
  generalize F l 1 1 = k at *
  generalize F l 0 1 = first at *
  have hst : ∀ v, Ch2 (w.heap.size + 1 + 1) (w.heap.size + 1 + 1) W v → Holds v w.heap.size [.slice (some ⟨g, q, none⟩) 128 c] ∧ Holds v (w.heap.size + 1) [.int .i64 0, .int .i64 0, .int .i64 0] ∧ Holds v u6.heap.size [.int .i64 (f : Int), .int .i64 (e : Int), .int .i64 (i : Int)] ∧ Rd v (some ⟨g, q, none⟩) 128 l ∧ Below w.heap.size w v := by
    intro v hv
    exact ⟨m1.ch2 hv (by omega) (by omega), m2.ch2 hv (by omega) (by omega), my.ch2 hv (by omega) (by omega), rd_ch2 mr hv (fun g' q' e _ => by injection e with e; injection e with e1 _; omega), hv.below hW1 (by omega) (by omega) hW1.size⟩
  have hzc : ∀ v, Ch2 (w.heap.size + 1 + 1) (w.heap.size + 1 + 1) W v → ∀ cap, Calls Try.prog 88 #[.slice (some ⟨g, q + (16 + n), none⟩) (108 - n) cap] v fun e w' => e = .returned (.bool true) ∧ v = w' := by
    intro v hv cap
    have := zeros_any (some ⟨g, q + (16 + n), none⟩) (108 - n) cap ((l.drop (16 + n)).take (108 - n)) v (rd_part (hst v hv).2.2.2.1 (by omega)) (by omega)
    rw [hzr] at this
    exact this
  have hoc : ∀ v, Ch2 (w.heap.size + 1 + 1) (w.heap.size + 1 + 1) W v → Calls Try.prog 75 #[.slice (some ⟨g, q, none⟩) 124 c] v fun e w' => e = .returned (.int .u32 (Cr.more 0 (l.take 124) : Int)) ∧ Below v.heap.size v w' := fun v hv => of_any (some ⟨g, q, none⟩) 124 c (l.take 124) v ((hst v hv).2.2.2.1.take (by omega)) (by omega)
  have hml : Cr.more 0 (l.take 124) < 4294967296 := Cr.more_lt (fun x hx => hrl.lt (List.mem_of_mem_take hx)) (by omega)
  generalize Cr.more 0 (l.take 124) = cs at *
  have hwc : IntKind.i64.wrap (cs : Int) = (cs : Int) := by rw [IntKind.wrap_i64]; omega
  have hne0 : ((cs : Int) != (cs : Int)) = false := by simp
  have HSt := Lib.hid hst
  have HZc := Lib.hid hzc
  have HOc := Lib.hid hoc
  have hac : ∀ v, Below W.heap.size W v → Holds v (w.heap.size + 1 + 1) [.int .i64 ((124 : Nat) : Int)] := fun v hv => ma.below hv
  have HAc := Lib.hid hac
  have hS : ∀ v, Ch2 (w.heap.size + 1 + 1) (w.heap.size + 1 + 1) W v → v.cell? ⟨w.heap.size, 0, none⟩ = some (.slice (some ⟨g, q, none⟩) 128 c) ∧ v.cell? ⟨u6.heap.size, 0, none⟩ = some (.int .i64 (f : Int)) ∧ v.cell? ⟨u6.heap.size, 1, none⟩ = some (.int .i64 (e : Int)) ∧ v.cell? ⟨u6.heap.size, 2, none⟩ = some (.int .i64 (i : Int)) := fun v hv => ⟨(hst v hv).1.at_ 0 rfl, (hst v hv).2.2.1.at_ 0 rfl, (hst v hv).2.2.1.at_ 1 rfl, (hst v hv).2.2.1.at_ 2 rfl⟩
  have HS := Lib.hid hS
  have HTl2 := Lib.hid (fun (v : World) (h1 : Ch2 (w.heap.size + 1 + 1) (w.heap.size + 1 + 1) W v) (h2 : Holds v (w.heap.size + 1 + 1) [.int .i64 ((124 : Nat) : Int)]) => HTl.out v (HSt.out v h1).1 (HSt.out v h1).2.2.2.1 h2)
  have hn16 : IntKind.i64.wrap (16 + (n : Int)) = 16 + (n : Int) := by rw [IntKind.wrap_i64]; omega
  have hn0 : (0 : Int) ≤ 16 + (n : Int) := by omega
  have hnt : (16 + (n : Int)).toNat = 16 + n := by omega
  have hn1 : 16 + (n : Int) ≤ 124 := by omega
  have hn2 : decide ((108 : Int) < (n : Int)) = false := by rw [decide_eq_false_iff_not]; omega
  have hd : Ch2 (w.heap.size + 1 + 1) (w.heap.size + 1 + 1) W W.drew := (Ch2.refl _ _ _).drew
  have hdb : Below W.heap.size W W.drew := (Below.refl _ _).drew
  have hc0 := (HS.out W (Ch2.refl _ _ _)).1
  have hc1 := (HS.out W (Ch2.refl _ _ _)).2.1
  have hc2 := (HS.out W (Ch2.refl _ _ _)).2.2.1
  have hc3 := (HS.out W (Ch2.refl _ _ _)).2.2.2
  have hf76 : first = 76 := hk76
  subst hf76
  have hcc : (124 : Int) ≤ (c : Int) := by omega
  have hcd : 124 ≤ c := by omega
  have hce : 16 + n ≤ 124 := by omega
  have hcf : ¬ c = 16 + n := by omega
  have hsl := fun (v : World) => run_part g q c n hn hc v
  have hcg : 16 + (n : Int) ≤ (c : Int) := by omega
  have hch : 16 + n < c := by omega
  clear m1 m2 ma my mr hkc hzr hrl hsum HT HTl hst hzc hoc hac hS HZ H HSum hk76 hg HK76 HKk HKs hW1 hlt
  go_region_held3 (fun w' => w'.cell? ⟨w.heap.size, 0, none⟩ = some (.slice (some ⟨g, q, none⟩) 128 c) ∧ w'.cell? ⟨u6.heap.size, 0, none⟩ = some (.int .i64 (f : Int)) ∧ w'.cell? ⟨u6.heap.size, 1, none⟩ = some (.int .i64 (e : Int)) ∧ w'.cell? ⟨u6.heap.size, 2, none⟩ = some (.int .i64 (i : Int))) (first | exact HS.out _ hd | exact HS.out _ hx8 | exact HS.out _ hx9 | exact HS.out _ hx10) (first | (go_at_call 73; refine (HKc.out _).mono ?_; rintro e w' ⟨rfl, rfl⟩) | (go_at_call 72; refine (HCc.out _).mono ?_; rintro e v8 ⟨rfl, hb8⟩; have hx8 : Ch2 (w.heap.size + 1 + 1) (w.heap.size + 1 + 1) W v8 := hd.trans (Ch2.of_below hb8); have hy8 : Below W.heap.size W v8 := below_next hdb hb8) | (go_at_call 88; refine (HZc.out _ hx8 _).mono ?_; rintro e w' ⟨rfl, rfl⟩) | (go_at_call 75; refine (HOc.out _ (by first | exact hx9 | exact hx8)).mono ?_; rintro e v10 ⟨rfl, hb10⟩; have hx10 : Ch2 (w.heap.size + 1 + 1) (w.heap.size + 1 + 1) W v10 := (show Ch2 (w.heap.size + 1 + 1) (w.heap.size + 1 + 1) W _ by first | exact hx9 | exact hx8).trans (Ch2.of_below hb10); have hy10 : True ∨ Below W.heap.size W v10 := .inl trivial) | (go_at_call 87; refine (HTl2.out _ (by first | exact hx10 | exact hx8) (HAc.out _ (by first | exact hy8 | exact below_next hy8 hb10))).mono ?_; rintro e v9 ⟨rfl, _, hb9⟩; have hx9 : Ch2 (w.heap.size + 1 + 1) (w.heap.size + 1 + 1) W v9 := (show Ch2 (w.heap.size + 1 + 1) (w.heap.size + 1 + 1) W _ by first | exact hx10 | exact hx8).trans hb9))
  obtain ⟨z1, z2, zy, zr, zB⟩ := HSt.out _ hx10
  have zc0 := z2.at_ 0 rfl
  have zc1 := z2.at_ 1 rfl
  have zc2 := z2.at_ 2 rfl
  have zf0 := z2.2.2 0
  have zf1 := z2.2.2 1
  have zf2 := z2.2.2 2
  have y0 := zy.at_ 0 rfl
  have y1 := zy.at_ 1 rfl
  have y2 := zy.at_ 2 rfl
  have z3 := z2.set3 (.int .i64 (f : Int)) (.int .i64 (e : Int)) (.int .i64 (i : Int))
  have r0 := z3.at_ 0 rfl
  have r1 := z3.at_ 1 rfl
  have r2 := z3.at_ 2 rfl
  have R0 := Lib.hid r0
  have R1 := Lib.hid r1
  have R2 := Lib.hid r2
  have hBf : Below w.heap.size w (((v10.setCell ⟨w.heap.size + 1, 0, none⟩ (.int .i64 (f : Int))).setCell ⟨w.heap.size + 1, 1, none⟩ (.int .i64 (e : Int))).setCell ⟨w.heap.size + 1, 2, none⟩ (.int .i64 (i : Int))) := ((zB.setCell (by simp) _).setCell (by simp) _).setCell (by simp) _
  have HBf := Lib.hid hBf
  clear z1 z2 zy zr zB z3 r0 r1 r2 hBf
  go_wp2_with fail
  refine bodyPost_ret (v := .tuple #[.agg #[.int .i64 (f : Int), .int .i64 (e : Int), .int .i64 (i : Int)], .int .i64 (k : Int), .int .i64 (n : Int), .bool true]) (by simp [results, Try.results79, go_sem, R0.out, R1.out, R2.out]) rfl ⟨rfl, HBf.out⟩
end Go.Proofs.Ytbdomhookjmmgaa
