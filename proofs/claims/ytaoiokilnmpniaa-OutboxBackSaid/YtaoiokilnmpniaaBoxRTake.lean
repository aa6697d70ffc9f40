/- What the document's Take of an inbox returns. -/
import Derived.Test.YtaoiokilnmpniaaBoxTake
import Derived.Deep.LoopGhost
namespace Go.Proofs.Ytaoiokilnmpniaa
open Go.RowKit
set_option linter.unusedVariables false
set_option maxRecDepth 100000 in
theorem rtake_bad (f : Int) (m : Nat) (s : Int) (w : World) (hm : m < 18446744073709551616) (h : Ob.isB f m = false) :
    Calls Try.prog 11 #[boxV f m, .int .i64 s] w (GivesBox w (0, 0, 215)) := by
  have hck := fun W => isbox_any f m W hm
  rw [h] at hck
  unfold boxV at hck ⊢
  have Hck := Lib.hid hck
  clear hck h
  go_enter Try.func11, Try.ntmps11
  go_wp2_with (first | (go_at_call 17; refine (Hck.out _).mono ?_; rintro e w' ⟨rfl, rfl⟩))
  exact bodyPost_ret (v := .tuple #[.agg #[.int .i64 0, .int .u64 0], .int .i64 215]) (by simp [results, Try.results11, go_sem]) rfl ⟨rfl, (by repeat (first | exact Below.refl _ _ | refine Below.setCell ?_ (by simp <;> omega) _ | refine Below.alloc ?_ (by simp <;> omega) _))⟩
set_option maxRecDepth 100000 in
theorem rtake_arg (f : Int) (m : Nat) (s : Int) (w : World) (hm : m < 18446744073709551616) (h : Ob.isB f m = true) (hs : s < 0 ∨ 1099511627776 < s) :
    Calls Try.prog 11 #[boxV f m, .int .i64 s] w (GivesBox w (0, 0, 1)) := by
  have hck := fun W => isbox_any f m W hm
  rw [h] at hck
  unfold boxV at hck ⊢
  have Hck := Lib.hid hck
  clear hck h
  by_cases h0 : s < 0
  · go_enter Try.func11, Try.ntmps11
    go_wp2_with (first | (go_at_call 17; refine (Hck.out _).mono ?_; rintro e w' ⟨rfl, rfl⟩))
    exact bodyPost_ret (v := .tuple #[.agg #[.int .i64 0, .int .u64 0], .int .i64 1]) (by simp [results, Try.results11, go_sem]) rfl ⟨rfl, (by repeat (first | exact Below.refl _ _ | refine Below.setCell ?_ (by simp <;> omega) _ | refine Below.alloc ?_ (by simp <;> omega) _))⟩
  · have h1 : 1099511627776 < s := by omega
    go_enter Try.func11, Try.ntmps11
    go_wp2_with (first | (go_at_call 17; refine (Hck.out _).mono ?_; rintro e w' ⟨rfl, rfl⟩))
    exact bodyPost_ret (v := .tuple #[.agg #[.int .i64 0, .int .u64 0], .int .i64 1]) (by simp [results, Try.results11, go_sem]) rfl ⟨rfl, (by repeat (first | exact Below.refl _ _ | refine Below.setCell ?_ (by simp <;> omega) _ | refine Below.alloc ?_ (by simp <;> omega) _))⟩
set_option maxRecDepth 100000 in
theorem rtake_known (f : Int) (m : Nat) (s : Int) (w : World) (hm : m < 18446744073709551616) (h : Ob.isB f m = true) (hs0 : 0 ≤ s) (hs1 : s ≤ 1099511627776) (hin : Ob.inB f m s = true) :
    Calls Try.prog 11 #[boxV f m, .int .i64 s] w (GivesBox w (0, 0, 212)) := by
  have hck := fun W => isbox_any f m W hm
  rw [h] at hck
  have hh := fun W => rhasbox_any f m s W hm (by omega)
  rw [show Ob.hasB f m s = true by unfold Ob.hasB; rw [h, hin, decide_eq_true hs0]; rfl] at hh
  unfold boxV at hck hh ⊢
  have Hck := Lib.hid hck
  have Hh := Lib.hid hh
  clear hck h hh hin
  go_enter Try.func11, Try.ntmps11
  go_wp2_with (first | (go_at_call 17; refine (Hck.out _).mono ?_; rintro e w' ⟨rfl, rfl⟩))
  refine (Hh.out _).mono ?_
  rintro e w1 ⟨rfl, hb1⟩
  obtain ⟨ka, kc, hx⟩ := take_world f m w w1 hb1
  have c0 := kc.at_ 0 rfl
  have c1 := kc.at_ 1 rfl
  have z0 := kc.2.2 0
  have z1 := kc.2.2 1
  have hsz := hx.size
  have kr := Holds.set2 kc (.int .i64 0) (.int .u64 0)
  have r0 := kr.at_ 0 rfl
  have r1 := kr.at_ 1 rfl
  clear kr
  go_wp2
  exact bodyPost_ret (v := .tuple #[.agg #[.int .i64 0, .int .u64 0], .int .i64 212]) (by simp [results, Try.results11, go_sem, r0, r1]) rfl ⟨rfl, (by repeat (first | exact hx | refine Below.setCell ?_ (by simp <;> omega) _ | refine Below.alloc ?_ (by simp <;> omega) _))⟩
set_option maxRecDepth 100000 in
theorem rtake_ahead (f : Int) (m : Nat) (s : Int) (w : World) (hm : m < 18446744073709551616) (h : Ob.isB f m = true) (hs0 : 0 ≤ s) (hs1 : s ≤ 1099511627776) (hin : Ob.inB f m s = false) (h64 : 64 ≤ s - f) :
    Calls Try.prog 11 #[boxV f m, .int .i64 s] w (GivesBox w (0, 0, 211)) := by
  have hck := fun W => isbox_any f m W hm
  rw [h] at hck
  have hh := fun W => rhasbox_any f m s W hm (by omega)
  rw [show Ob.hasB f m s = false by unfold Ob.hasB; rw [h, hin, decide_eq_true hs0]; rfl] at hh
  obtain ⟨i1, i2, i3⟩ := Ob.isB_iff.1 h
  unfold boxV at hck hh ⊢
  have Hck := Lib.hid hck
  have Hh := Lib.hid hh
  clear hck h hh hin i3
  go_enter Try.func11, Try.ntmps11
  go_wp2_with (first | (go_at_call 17; refine (Hck.out _).mono ?_; rintro e w' ⟨rfl, rfl⟩))
  refine (Hh.out _).mono ?_
  rintro e w1 ⟨rfl, hb1⟩
  obtain ⟨ka, kc, hx⟩ := take_world f m w w1 hb1
  have c0 := kc.at_ 0 rfl
  have c1 := kc.at_ 1 rfl
  have z0 := kc.2.2 0
  have z1 := kc.2.2 1
  have hsz := hx.size
  have a0 := ka.at_ 0 rfl
  have kr := Holds.set2 kc (.int .i64 0) (.int .u64 0)
  have r0 := kr.at_ 0 rfl
  have r1 := kr.at_ 1 rfl
  clear kr
  go_wp2
  exact bodyPost_ret (v := .tuple #[.agg #[.int .i64 0, .int .u64 0], .int .i64 211]) (by simp [results, Try.results11, go_sem, r0, r1]) rfl ⟨rfl, (by repeat (first | exact hx | refine Below.setCell ?_ (by simp <;> omega) _ | refine Below.alloc ?_ (by simp <;> omega) _))⟩
set_option maxRecDepth 100000 in
theorem rtake_main (f : Int) (m j q : Nat) (hq : q = m ||| 2 ^ j) (s : Int) (w : World) (hm : m < 18446744073709551616) (h : Ob.isB f m = true) (hs0 : 0 ≤ s) (hs1 : s ≤ 1099511627776) (hin : Ob.inB f m s = false) (hj : s - f = (j : Int)) (hj64 : j < 64) :
    Calls Try.prog 11 #[boxV f m, .int .i64 s] w (GivesBox w (Ob.doneB f q)) := by
  have hck := fun W => isbox_any f m W hm
  rw [h] at hck
  have hh := fun W => rhasbox_any f m s W hm (by omega)
  rw [show Ob.hasB f m s = false by unfold Ob.hasB; rw [h, hin, decide_eq_true hs0]; rfl] at hh
  obtain ⟨i1, i2, i3⟩ := Ob.isB_iff.1 h
  unfold boxV at hck hh ⊢
  have Hck := Lib.hid hck
  have Hh := Lib.hid hh
  clear hck h hh hin i3
  have hj2 : 2 ^ j < 18446744073709551616 := Nat.lt_of_lt_of_le (Nat.pow_lt_pow_right (by omega) hj64) (by decide)
  have hq2 : q < 18446744073709551616 := by rw [hq]; exact Nat.or_lt_two_pow (n := 64) hm hj2
  have hor : bits .or .u64 (m : Int) (IntKind.u64.wrap (2 ^ j)) = (q : Int) := by
    have e : IntKind.u64.wrap (2 ^ j) = ((2 ^ j : Nat) : Int) := by
      have e1 : (2 : Int) ^ j = ((2 ^ j : Nat) : Int) := by simp
      rw [e1, IntKind.wrap_u64]; exact Int.emod_eq_of_lt (Int.natCast_nonneg _) (Int.ofNat_lt.2 hj2)
    rw [e, hq]; exact u64_or_nat _ _ hm hj2
  have hj64i : ¬ 64 ≤ (j : Int) := by omega
  have Hq := Lib.hid hq2
  clear hq hj2 hq2
  go_enter Try.func11, Try.ntmps11
  go_wp2_with (first | (go_at_call 17; refine (Hck.out _).mono ?_; rintro e w' ⟨rfl, rfl⟩))
  refine (Hh.out _).mono ?_
  rintro e w1 ⟨rfl, hb1⟩
  obtain ⟨ka, kc, hx⟩ := take_world f m w w1 hb1
  have c0 := kc.at_ 0 rfl
  have c1 := kc.at_ 1 rfl
  have z0 := kc.2.2 0
  have z1 := kc.2.2 1
  have hsz := hx.size
  have a0 := ka.at_ 0 rfl
  have a1 := ka.at_ 1 rfl
  have za := ka.2.2 1
  go_wp2
  have ka1 := (ka.set 1 (.int .u64 (q : Int)) (by simp))
  have kc1 := (Holds.other (b := w.heap.size) (i := 1) (v := .int .u64 (q : Int)) kc (by omega))
  have hx1 := (hx.setCell (Nat.le_refl w.heap.size) (p := ⟨w.heap.size, 1, none⟩) (.int .u64 (q : Int)))
  clear ka kc hx c0 c1 z0 z1 a0 a1 za
  go_loopg [] 64 (fun n wr => ∃ (g : Int) (x : Nat), n ≤ 64 ∧ f ≤ g ∧ g ≤ f + 64 ∧ x < 18446744073709551616 ∧ Holds wr w.heap.size [.int .i64 g, .int .u64 (x : Int)] ∧ Holds wr (w.heap.size + 1) [.int .i64 0, .int .u64 0] ∧ Below w.heap.size w wr ∧ Hid (Ob.slide n g x = Ob.slide 64 f q ∧ x < 2 ^ n ∧ g + n ≤ f + 64))
  case atStart => exact ⟨f, q, by omega, by omega, by omega, Hq.out, ka1, kc1, hx1, Lib.hid ⟨rfl, Hq.out, by omega⟩⟩
  case round =>
    clear ka1 kc1 hx1
    obtain ⟨g, x, hn, hg1, hg2, hx64, ka2, kc2, hb, hE⟩ := hrel
    have a0 := ka2.at_ 0 rfl
    have a1 := ka2.at_ 1 rfl
    have za0 := ka2.2.2 0
    have za1 := ka2.2.2 1
    have z0 := kc2.2.2 0
    have z1 := kc2.2.2 1
    have c0 := kc2.at_ 0 rfl
    have c1 := kc2.at_ 1 rfl
    have hod : ((x : Int) % 2 == 1) = decide (x % 2 = 1) := by rw [Bool.eq_iff_iff, beq_iff_eq, decide_eq_true_iff]; omega
    by_cases hodd : x % 2 = 1
    · rw [decide_eq_true hodd] at hod
      obtain ⟨y, hy⟩ : ∃ y, y = x / 2 := ⟨_, rfl⟩
      have hyi : (x : Int) / 2 = (y : Int) := by omega
      obtain ⟨hE1, hE2, hE3⟩ := hE.out
      obtain ⟨n', rfl⟩ : ∃ n', gk = n' + 1 := by
        cases gk with
        | zero => exact absurd hE2 (by simp; omega)
        | succ n' => exact ⟨n', rfl⟩
      rw [Ob.slide_odd hodd, ← hy] at hE1
      rw [Nat.pow_succ] at hE2
      have HE : Hid (Ob.slide n' (g + 1) y = Ob.slide 64 f q ∧ y < 2 ^ n' ∧ g + 1 + n' ≤ f + 64) := Lib.hid ⟨hE1, by omega, by omega⟩
      have hgk : g + 1 ≤ f + 64 := by omega
      clear hodd hE1 hE2 hE3 hE hy
      go_wp2
      go_roundg n'
      case measure => omega
      case rel => exact ⟨g + 1, y, by omega, by omega, by omega, by omega, Holds.set2 ka2 _ _, (kc2.other (by omega)).other (by omega), (hb.setCell (Nat.le_refl _) _).setCell (Nat.le_refl _) _, HE⟩
    · rw [decide_eq_false hodd] at hod
      have HR : Hid (Ob.slide 64 f q = (g, x)) := Lib.hid (by rw [← hE.out.1, Ob.slide_even hodd])
      clear hE
      by_cases hbig : 1099511627776 < g
      · have kr := Holds.set2 kc2 (.int .i64 0) (.int .u64 0)
        have r0 := kr.at_ 0 rfl
        have r1 := kr.at_ 1 rfl
        clear kr
        have HD := Lib.hid (Ob.doneB_big HR.out hbig)
        go_wp2
        rw [HD.out]
        exact bodyPost_ret (v := .tuple #[.agg #[.int .i64 0, .int .u64 0], .int .i64 3]) (by simp [results, Try.results11, go_sem, r0, r1]) rfl ⟨rfl, (by repeat (first | exact hb | refine Below.setCell ?_ (by simp <;> omega) _ | refine Below.alloc ?_ (by simp <;> omega) _))⟩
      · have kr := Holds.set2 kc2 (.int .i64 g) (.int .u64 (x : Int))
        have r0 := kr.at_ 0 rfl
        have r1 := kr.at_ 1 rfl
        clear kr
        have HD := Lib.hid (Ob.doneB_in HR.out hbig)
        go_wp2
        rw [HD.out]
        exact bodyPost_ret (v := .tuple #[.agg #[.int .i64 g, .int .u64 (x : Int)], .int .i64 0]) (by simp [results, Try.results11, go_sem, r0, r1]) rfl ⟨rfl, (by repeat (first | exact hb | refine Below.setCell ?_ (by simp <;> omega) _ | refine Below.alloc ?_ (by simp <;> omega) _))⟩
theorem rtake_any (f : Int) (m : Nat) (s : Int) (w : World) (hm : m < 18446744073709551616) : Calls Try.prog 11 #[boxV f m, .int .i64 s] w (GivesBox w (Ob.takeB f m s)) := by
  unfold Ob.takeB
  cases h : Ob.isB f m
  · rw [if_pos rfl]; exact rtake_bad f m s w hm h
  · rw [if_neg (by decide)]
    by_cases hs : s < 0 ∨ 1099511627776 < s
    · rw [if_pos hs]; exact rtake_arg f m s w hm h hs
    · rw [if_neg hs]
      cases hin : Ob.inB f m s
      · rw [if_neg (by decide)]
        by_cases h64 : 64 ≤ s - f
        · rw [if_pos h64]; exact rtake_ahead f m s w hm h (by omega) (by omega) hin h64
        · rw [if_neg h64]
          have h0 : f ≤ s := by
            unfold Ob.inB at hin
            rw [Bool.or_eq_false_iff] at hin
            have := of_decide_eq_false hin.1
            omega
          exact rtake_main f m (s - f).toNat _ rfl s w hm h (by omega) (by omega) hin (by omega) (by omega)
      · rw [if_pos rfl]; exact rtake_known f m s w hm h (by omega) (by omega) hin
end Go.Proofs.Ytaoiokilnmpniaa
