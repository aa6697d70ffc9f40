/- What the document's ReadAccount and ReadHold make of bytes. -/
import Derived.Test.YtionaciiaahacaaNumbers
namespace Go.Proofs.Ytionaciiaahacaa
open Go.RowKit
set_option linter.unusedVariables false
namespace Ac
theorem takeN_length : ∀ (k : Nat) (l xs r : List Nat), takeN k l = some (xs, r) → xs.length = k
  | 0, l, xs, r, h => by
    unfold takeN at h
    injection h with h
    injection h with h1 h2
    subst h1
    rfl
  | k + 1, l, xs, r, h => by
    rcases htk : Cd.takeNum l with _ | ⟨x, r1⟩
    · rw [takeN_none htk] at h
      cases h
    · by_cases hx : 1125899906842624 < x
      · rw [takeN_great htk hx] at h
        cases h
      · rw [takeN_some htk hx] at h
        rcases hn : takeN k r1 with _ | ⟨ys, r2⟩
        · rw [hn] at h
          cases h
        · rw [hn] at h
          injection h with h
          injection h with h1 h2
          subst h1
          show ys.length + 1 = k + 1
          rw [takeN_length k r1 ys r2 hn]
end Ac
theorem just_length {k : Nat} {l xs : List Nat} (h : Ac.just k l = some xs) : xs.length = k := by
  unfold Ac.just at h
  split at h
  · next ys hn =>
    injection h with h
    subst h
    exact Ac.takeN_length k l ys [] hn
  · cases h
set_option maxRecDepth 100000 in
set_option maxHeartbeats 1000000 in
theorem rreadacc_any (A : Option Addr) (n cap : Nat) (lb : List Nat) (w : World) (hl : Rd w A n lb) (hc : n ≤ cap) (hn : n ≤ 1000) :
    Calls Try.prog 39 #[.slice A n cap] w (GivesAcc w (Ac.readA lb)) := by
  have hT := fun w' (h : Below w.heap.size w w') => numbers_any A n cap 3 lb w' (hl.below h) hc hn (by omega)
  rcases hj : Ac.just 3 lb with _ | ys
  · have E1 := Lib.hid (show Ac.readA lb = (0, 0, 0, 206) by unfold Ac.readA; rw [hj])
    rw [hj] at hT
    have HT := Lib.hid hT
    have ho : takeOk (none : Option (List Nat)) = false := rfl
    clear hj hT
    go_enter Try.func39, Try.ntmps39
    go_wp2_with fail
    refine (HT.out _ (by repeat (first | exact Below.refl _ _ | refine Below.alloc ?_ (by simp <;> omega) _))).mono ?_
    rintro e v3 ⟨B, m, c, rfl, _, hb⟩
    have hx := below_next (show Below w.heap.size w _ from by repeat (first | exact Below.refl _ _ | refine Below.alloc ?_ (by simp <;> omega) _)) hb
    have hz := Holds.next hb
    clear hb
    have hz0 := hz.at_ 0 rfl
    have hz1 := hz.at_ 1 rfl
    have hz2 := hz.at_ 2 rfl
    have f0 := hz.2.2 0
    have f1 := hz.2.2 1
    have f2 := hz.2.2 2
    go_wp2_with fail
    have hs3 := hz.set3 (.int .i64 0) (.int .i64 0) (.int .i64 0)
    have c0 := hs3.at_ 0 rfl
    have c1 := hs3.at_ 1 rfl
    have c2 := hs3.at_ 2 rfl
    exact bodyPost_ret (v := .tuple #[.agg #[.int .i64 0, .int .i64 0, .int .i64 0], .int .i64 206]) (by simp [results, Try.results39, go_sem, c0, c1, c2]) rfl ⟨(by rw [E1.out]; rfl), ((hx.setCell (Nat.le_refl _) _).setCell (Nat.le_refl _) _).setCell (Nat.le_refl _) _⟩
  · have hlen : ys.length = 3 := just_length hj
    obtain ⟨f, h, q, rfl⟩ : ∃ f h q, ys = [f, h, q] := by
      match ys, hlen with
      | [f, h, q], _ => exact ⟨f, h, q, rfl⟩
    rw [hj] at hT
    have HT := Lib.hid hT
    have ho : takeOk (some [f, h, q] : Option (List Nat)) = true := rfl
    rcases hk : Ac.okA f h q with _ | _
    · have E1 := Lib.hid (show Ac.readA lb = (0, 0, 0, 206) by unfold Ac.readA; rw [hj]; show (if _ then _ else _) = _; rw [hk]; rfl)
      have hcn := fun w' => rcheck_no hk w'
      unfold acc at hcn
      have Hc := Lib.hid hcn
      clear hj hT hcn hk hlen
      go_enter Try.func39, Try.ntmps39
      go_wp2_with fail
      refine (HT.out _ (by repeat (first | exact Below.refl _ _ | refine Below.alloc ?_ (by simp <;> omega) _))).mono ?_
      rintro e v3 ⟨B, m, c, rfl, hys, hb⟩
      have hx := below_next (show Below w.heap.size w _ from by repeat (first | exact Below.refl _ _ | refine Below.alloc ?_ (by simp <;> omega) _)) hb
      have hz := Holds.next hb
      have hz0 := hz.at_ 0 rfl
      have hz1 := hz.at_ 1 rfl
      have hz2 := hz.at_ 2 rfl
      have f0 := hz.2.2 0
      have f1 := hz.2.2 1
      have f2 := hz.2.2 2
      have l0 := hz.1
      have hy := hys _ rfl
      obtain rfl : 3 = m := hy.1
      obtain ⟨b, o, rfl, hbl, hcell⟩ := hy.2 (by omega)
      have c0 := hcell 0 _ rfl
      have c1 := hcell 1 _ rfl
      have c2 := hcell 2 _ rfl
      clear hb hys hy hcell
      rw [Nat.add_zero] at c0
      go_wp2_with fail
      go_region
      go_wp2_with fail
      refine (Hc.out _).mono ?_
      rintro e v4 ⟨rfl, rfl⟩
      go_wp2_with fail
      have hs3 := ((hz.set3 (.int .i64 0) (.int .i64 0) (.int .i64 0)).alloc (.cells #[.int .i64 (f : Int), .int .i64 (h : Int), .int .i64 (q : Int)] 23)).alloc (.cells #[.int .i64 (f : Int), .int .i64 (h : Int), .int .i64 (q : Int)] 23)
      have c0 := hs3.at_ 0 rfl
      have c1 := hs3.at_ 1 rfl
      have c2 := hs3.at_ 2 rfl
      exact bodyPost_ret (v := .tuple #[.agg #[.int .i64 0, .int .i64 0, .int .i64 0], .int .i64 206]) (by simp [results, Try.results39, go_sem, c0, c1, c2]) rfl ⟨(by rw [E1.out]; rfl), (((((hx.setCell (Nat.le_refl _) _).setCell (Nat.le_refl _) _).setCell (Nat.le_refl _) _).alloc (by simp <;> omega) _).alloc (by simp <;> omega) _).drew⟩
    · have E1 := Lib.hid (show Ac.readA lb = (↑f, ↑h, ↑q, 0) by unfold Ac.readA; rw [hj]; show (if _ then _ else _) = _; rw [hk]; rfl)
      have hcn := fun w' => rcheck_yes hk w'
      unfold acc at hcn
      have Hc := Lib.hid hcn
      clear hj hT hcn hk hlen
      go_enter Try.func39, Try.ntmps39
      go_wp2_with fail
      refine (HT.out _ (by repeat (first | exact Below.refl _ _ | refine Below.alloc ?_ (by simp <;> omega) _))).mono ?_
      rintro e v3 ⟨B, m, c, rfl, hys, hb⟩
      have hx := below_next (show Below w.heap.size w _ from by repeat (first | exact Below.refl _ _ | refine Below.alloc ?_ (by simp <;> omega) _)) hb
      have hz := Holds.next hb
      have hz0 := hz.at_ 0 rfl
      have hz1 := hz.at_ 1 rfl
      have hz2 := hz.at_ 2 rfl
      have f0 := hz.2.2 0
      have f1 := hz.2.2 1
      have f2 := hz.2.2 2
      have l0 := hz.1
      have hy := hys _ rfl
      obtain rfl : 3 = m := hy.1
      obtain ⟨b, o, rfl, hbl, hcell⟩ := hy.2 (by omega)
      have c0 := hcell 0 _ rfl
      have c1 := hcell 1 _ rfl
      have c2 := hcell 2 _ rfl
      clear hb hys hy hcell
      rw [Nat.add_zero] at c0
      go_wp2_with fail
      go_region
      go_wp2_with fail
      refine (Hc.out _).mono ?_
      rintro e v4 ⟨rfl, rfl⟩
      go_wp2_with fail
      have hs3 := ((hz.set3 (.int .i64 f) (.int .i64 h) (.int .i64 q)).alloc (.cells #[.int .i64 (f : Int), .int .i64 (h : Int), .int .i64 (q : Int)] 23)).alloc (.cells #[.int .i64 (f : Int), .int .i64 (h : Int), .int .i64 (q : Int)] 23)
      have c0 := hs3.at_ 0 rfl
      have c1 := hs3.at_ 1 rfl
      have c2 := hs3.at_ 2 rfl
      exact bodyPost_ret (v := .tuple #[.agg #[.int .i64 f, .int .i64 h, .int .i64 q], .int .i64 0]) (by simp [results, Try.results39, go_sem, c0, c1, c2]) rfl ⟨(by rw [E1.out]; rfl), (((((hx.setCell (Nat.le_refl _) _).setCell (Nat.le_refl _) _).setCell (Nat.le_refl _) _).alloc (by simp <;> omega) _).alloc (by simp <;> omega) _).drew⟩
set_option maxRecDepth 100000 in
set_option maxHeartbeats 1000000 in
theorem rreadhold_any (A : Option Addr) (n cap : Nat) (lb : List Nat) (w : World) (hl : Rd w A n lb) (hc : n ≤ cap) (hn : n ≤ 1000) :
    Calls Try.prog 41 #[.slice A n cap] w (GivesHo w (Ac.readH lb)) := by
  have hT := fun w' (h : Below w.heap.size w w') => numbers_any A n cap 2 lb w' (hl.below h) hc hn (by omega)
  rcases hj : Ac.just 2 lb with _ | ys
  · have E1 := Lib.hid (show Ac.readH lb = (0, 0, 206) by unfold Ac.readH; rw [hj])
    rw [hj] at hT
    have HT := Lib.hid hT
    have ho : takeOk (none : Option (List Nat)) = false := rfl
    clear hj hT
    go_enter Try.func41, Try.ntmps41
    go_wp2_with fail
    refine (HT.out _ (by repeat (first | exact Below.refl _ _ | refine Below.alloc ?_ (by simp <;> omega) _))).mono ?_
    rintro e v3 ⟨B, m, c, rfl, _, hb⟩
    have hx := below_next (show Below w.heap.size w _ from by repeat (first | exact Below.refl _ _ | refine Below.alloc ?_ (by simp <;> omega) _)) hb
    have hz := Holds.next hb
    clear hb
    have hz0 := hz.at_ 0 rfl
    have hz1 := hz.at_ 1 rfl
    have f0 := hz.2.2 0
    have f1 := hz.2.2 1
    go_wp2_with fail
    have hs3 := hz.set2 (.int .i64 0) (.int .i64 0)
    have c0 := hs3.at_ 0 rfl
    have c1 := hs3.at_ 1 rfl
    exact bodyPost_ret (v := .tuple #[.agg #[.int .i64 0, .int .i64 0], .int .i64 206]) (by simp [results, Try.results41, go_sem, c0, c1]) rfl ⟨(by rw [E1.out]; rfl), (hx.setCell (Nat.le_refl _) _).setCell (Nat.le_refl _) _⟩
  · have hlen : ys.length = 2 := just_length hj
    obtain ⟨f, h, rfl⟩ : ∃ f h, ys = [f, h] := by
      match ys, hlen with
      | [f, h], _ => exact ⟨f, h, rfl⟩
    rw [hj] at hT
    have HT := Lib.hid hT
    have ho : takeOk (some [f, h] : Option (List Nat)) = true := rfl
    rcases hk : Ac.okH f h with _ | _
    · have E1 := Lib.hid (show Ac.readH lb = (0, 0, 206) by unfold Ac.readH; rw [hj]; show (if _ then _ else _) = _; rw [hk]; rfl)
      have hcn := fun w' => rhold_no hk w'
      unfold hold at hcn
      have Hc := Lib.hid hcn
      clear hj hT hcn hk hlen
      go_enter Try.func41, Try.ntmps41
      go_wp2_with fail
      refine (HT.out _ (by repeat (first | exact Below.refl _ _ | refine Below.alloc ?_ (by simp <;> omega) _))).mono ?_
      rintro e v3 ⟨B, m, c, rfl, hys, hb⟩
      have hx := below_next (show Below w.heap.size w _ from by repeat (first | exact Below.refl _ _ | refine Below.alloc ?_ (by simp <;> omega) _)) hb
      have hz := Holds.next hb
      have hz0 := hz.at_ 0 rfl
      have hz1 := hz.at_ 1 rfl
      have f0 := hz.2.2 0
      have f1 := hz.2.2 1
      have l0 := hz.1
      have hy := hys _ rfl
      obtain rfl : 2 = m := hy.1
      obtain ⟨b, o, rfl, hbl, hcell⟩ := hy.2 (by omega)
      have c0 := hcell 0 _ rfl
      have c1 := hcell 1 _ rfl
      clear hb hys hy hcell
      rw [Nat.add_zero] at c0
      go_wp2_with fail
      go_region
      go_wp2_with fail
      refine (Hc.out _).mono ?_
      rintro e v4 ⟨rfl, rfl⟩
      go_wp2_with fail
      have hs3 := ((hz.set2 (.int .i64 0) (.int .i64 0)).alloc (.cells #[.int .i64 (f : Int), .int .i64 (h : Int)] 25)).alloc (.cells #[.int .i64 (f : Int), .int .i64 (h : Int)] 25)
      have c0 := hs3.at_ 0 rfl
      have c1 := hs3.at_ 1 rfl
      exact bodyPost_ret (v := .tuple #[.agg #[.int .i64 0, .int .i64 0], .int .i64 206]) (by simp [results, Try.results41, go_sem, c0, c1]) rfl ⟨(by rw [E1.out]; rfl), ((((hx.setCell (Nat.le_refl _) _).setCell (Nat.le_refl _) _).alloc (by simp <;> omega) _).alloc (by simp <;> omega) _).drew⟩
    · have E1 := Lib.hid (show Ac.readH lb = (↑f, ↑h, 0) by unfold Ac.readH; rw [hj]; show (if _ then _ else _) = _; rw [hk]; rfl)
      have hcn := fun w' => rhold_yes hk w'
      unfold hold at hcn
      have Hc := Lib.hid hcn
      clear hj hT hcn hk hlen
      go_enter Try.func41, Try.ntmps41
      go_wp2_with fail
      refine (HT.out _ (by repeat (first | exact Below.refl _ _ | refine Below.alloc ?_ (by simp <;> omega) _))).mono ?_
      rintro e v3 ⟨B, m, c, rfl, hys, hb⟩
      have hx := below_next (show Below w.heap.size w _ from by repeat (first | exact Below.refl _ _ | refine Below.alloc ?_ (by simp <;> omega) _)) hb
      have hz := Holds.next hb
      have hz0 := hz.at_ 0 rfl
      have hz1 := hz.at_ 1 rfl
      have f0 := hz.2.2 0
      have f1 := hz.2.2 1
      have l0 := hz.1
      have hy := hys _ rfl
      obtain rfl : 2 = m := hy.1
      obtain ⟨b, o, rfl, hbl, hcell⟩ := hy.2 (by omega)
      have c0 := hcell 0 _ rfl
      have c1 := hcell 1 _ rfl
      clear hb hys hy hcell
      rw [Nat.add_zero] at c0
      go_wp2_with fail
      go_region
      go_wp2_with fail
      refine (Hc.out _).mono ?_
      rintro e v4 ⟨rfl, rfl⟩
      go_wp2_with fail
      have hs3 := ((hz.set2 (.int .i64 f) (.int .i64 h)).alloc (.cells #[.int .i64 (f : Int), .int .i64 (h : Int)] 25)).alloc (.cells #[.int .i64 (f : Int), .int .i64 (h : Int)] 25)
      have c0 := hs3.at_ 0 rfl
      have c1 := hs3.at_ 1 rfl
      exact bodyPost_ret (v := .tuple #[.agg #[.int .i64 f, .int .i64 h], .int .i64 0]) (by simp [results, Try.results41, go_sem, c0, c1]) rfl ⟨(by rw [E1.out]; rfl), ((((hx.setCell (Nat.le_refl _) _).setCell (Nat.le_refl _) _).alloc (by simp <;> omega) _).alloc (by simp <;> omega) _).drew⟩
end Go.Proofs.Ytionaciiaahacaa
