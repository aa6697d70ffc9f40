/- Where a frame's copies lie: Frames and Sectors, the program's and the document's. -/
import Derived.Test.YtpggomekbahddaaM01
namespace Go.Proofs.Ytpggomekbahddaa
open Go.RowKit Fi
set_option linter.unusedVariables false
namespace Fi
def fr (P : Pl) (i : Int) : Int × Int × Int :=
  if i < 0 ∨ 8 * (P.ps.length : Int) ≤ i then (0, 0, 71) else
  if ((P.ps[i.toNat / 8]?).getD (0, 0)).1 < 0 ∨ 511 ≤ ((P.ps[i.toNat / 8]?).getD (0, 0)).1 ∨ ((P.ps[i.toNat / 8]?).getD (0, 0)).2 < 0 ∨ 511 ≤ ((P.ps[i.toNat / 8]?).getD (0, 0)).2 then (0, 0, 5) else
  (4 + 8 * ((P.ps[i.toNat / 8]?).getD (0, 0)).1 + i % 8, 4 + 8 * ((P.ps[i.toNat / 8]?).getD (0, 0)).2 + i % 8, 0)
theorem fr_end {P : Pl} {i : Int} (h : i < 0 ∨ 8 * (P.ps.length : Int) ≤ i) : fr P i = (0, 0, 71) := if_pos h
theorem fr_bad {P : Pl} {i : Nat} {p : Int × Int} (h : i < 8 * P.ps.length) (hp : P.ps[i / 8]? = some p) (hb : p.1 < 0 ∨ 511 ≤ p.1 ∨ p.2 < 0 ∨ 511 ≤ p.2) : fr P (i : Int) = (0, 0, 5) := by
  unfold fr
  rw [if_neg (by omega), Int.toNat_natCast, hp, if_pos (by simpa using hb)]
theorem fr_ok {P : Pl} {i : Nat} {p : Int × Int} (h : i < 8 * P.ps.length) (hp : P.ps[i / 8]? = some p) (hb : ¬ (p.1 < 0 ∨ 511 ≤ p.1 ∨ p.2 < 0 ∨ 511 ≤ p.2)) : fr P (i : Int) = (4 + 8 * p.1 + (i : Int) % 8, 4 + 8 * p.2 + (i : Int) % 8, 0) := by
  unfold fr
  rw [if_neg (by omega), Int.toNat_natCast, hp, if_neg (by simpa using hb)]
  rfl
end Fi
set_option maxRecDepth 100000 in
theorem frames_any (P : Pl) (A : Option Addr) (c : Nat) (w : World) (hl : P.ps.length ≤ 1000) : Calls Try.prog 31 #[Fi.val P A c] w fun e w' => e = .returned (.int .i64 (8 * (P.ps.length : Int))) ∧ Below w.heap.size w w' := by
  have hB := Lib.hid (show Below w.heap.size w (w.alloc (.cells #[.int .i64 P.i, .int .i64 P.e, .slice A P.ps.length c] 31)) from (Below.refl _ _).alloc (Nat.le_refl _) _)
  have h8 : IntKind.i64.wrap (8 * (P.ps.length : Int)) = 8 * (P.ps.length : Int) := by rw [IntKind.wrap_i64]; omega
  unfold Fi.val
  go_enter Try.func31, Try.ntmps31
  go_wp2_with fail
  go_ret
  exact ⟨rfl, hB.out⟩
set_option maxRecDepth 100000 in
theorem rframes_any (P : Pl) (A : Option Addr) (c : Nat) (w : World) (hl : P.ps.length ≤ 1000) : Calls Try.prog 13 #[Fi.val P A c] w fun e w' => e = .returned (.int .i64 (8 * (P.ps.length : Int))) ∧ Below w.heap.size w w' := by
  have hB := Lib.hid (show Below w.heap.size w (w.alloc (.cells #[.int .i64 P.i, .int .i64 P.e, .slice A P.ps.length c] 31)) from (Below.refl _ _).alloc (Nat.le_refl _) _)
  have h8 : IntKind.i64.wrap (8 * (P.ps.length : Int)) = 8 * (P.ps.length : Int) := by rw [IntKind.wrap_i64]; omega
  unfold Fi.val
  go_enter Try.func13, Try.ntmps13
  go_wp2_with fail
  go_ret
  exact ⟨rfl, hB.out⟩
set_option maxRecDepth 100000 in
set_option maxHeartbeats 4000000 in
theorem sectors_any (P : Pl) (i : Int) (A : Option Addr) (c : Nat) (w : World) (hl : P.ps.length ≤ 1000) (hr : RdC 2 w A P.ps.length (pv P.ps)) : Calls Try.prog 52 #[Fi.val P A c, .int .i64 i] w fun e w' => e = .returned (.tuple #[.int .i64 (fr P i).1, .int .i64 (fr P i).2.1, .int .i64 (fr P i).2.2]) ∧ Below w.heap.size w w' := by
  have HB0 := Lib.hid (show Below w.heap.size w (w.alloc (.cells #[.int .i64 P.i, .int .i64 P.e, .slice A P.ps.length c] 31)) from (Below.refl _ _).alloc (Nat.le_refl _) _)
  have HK0 := Lib.hid (Holds.new w #[.int .i64 P.i, .int .i64 P.e, .slice A P.ps.length c] 31)
  have HF := Lib.hid (fun v => frames_any P A c v hl)
  unfold Fi.val at HF ⊢
  by_cases h0 : i < 0
  · rw [fr_end (.inl h0)]
    go_enter Try.func52, Try.ntmps52
    go_wp2_with fail
    go_ret3
    exact ⟨rfl, HB0.out⟩
  obtain ⟨i, rfl⟩ : ∃ j : Nat, i = (j : Int) := ⟨i.toNat, by omega⟩
  by_cases h1 : 8 * P.ps.length ≤ i
  · rw [fr_end (.inr (by omega))]
    have h2 : 8 * (P.ps.length : Int) ≤ (i : Int) := by omega
    go_enter Try.func52, Try.ntmps52
    go_wp2_with fail
    refine (HF.out _).mono ?_
    rintro e v ⟨rfl, hb⟩
    have HB1 := Lib.hid (HB0.out.trans (hb.mono HB0.out.size))
    clear hb
    go_wp2_with fail
    go_ret3
    exact ⟨rfl, HB1.out⟩
  have h2 : ¬ 8 * (P.ps.length : Int) ≤ (i : Int) := by omega
  have hk : i / 8 < P.ps.length := by omega
  obtain ⟨p, hp⟩ : ∃ p, P.ps[i / 8]? = some p := ⟨_, List.getElem?_eq_getElem hk⟩
  obtain ⟨x, y⟩ := p
  obtain ⟨b, o, rfl, hb, e0, e1⟩ := hr.two2 hk (pv_at hp).1 (pv_at hp).2
  simp only at e0 e1
  have HE := Lib.hid (show ∀ v, Below w.heap.size w v → v.cell? ⟨b, o + i / 8 * 2, none⟩ = some (.int .i64 x) ∧ v.cell? ⟨b, o + i / 8 * 2 + 1, none⟩ = some (.int .i64 y) from fun v hv => ⟨(hv.cell hb).trans e0, (hv.cell hb).trans e1⟩)
  have HP := Lib.hid hp
  have q1 : (i : Int) / 8 = ((i / 8 : Nat) : Int) := by omega
  have q2 : (i : Int) % 8 = ((i % 8 : Nat) : Int) := by omega
  have q3 : ((i / 8 : Nat) : Int) < (P.ps.length : Int) := by omega
  have HQ := Lib.hid (And.intro h1 q2)
  have HM := Lib.hid (show i % 8 < 8 by omega)
  have HBad := Lib.hid (fun h => fr_bad (p := (x, y)) (by omega : i < 8 * P.ps.length) hp h)
  have HOk := Lib.hid (fun h => fr_ok (p := (x, y)) (by omega : i < 8 * P.ps.length) hp h)
  obtain ⟨R, hR⟩ : ∃ R, R = fr P (i : Int) := ⟨_, rfl⟩
  rw [← hR]
  have HR := Lib.hid hR
  clear hR e0 e1 hr hb hp h1
  generalize i / 8 = j at *
  generalize i % 8 = m at *
  go_enter Try.func52, Try.ntmps52
  go_wp2_with fail
  refine (HF.out _).mono ?_
  rintro e v ⟨rfl, hb⟩
  have HB1 := Lib.hid (HB0.out.trans (hb.mono HB0.out.size))
  have hk := HK0.out.below hb
  have c2 := hk.at_ 2 rfl
  obtain ⟨e0, e1⟩ := HE.out _ HB1.out
  have HB2 := Lib.hid (HB1.out.alloc HB1.out.size (.cells #[.int .i64 x, .int .i64 y] 52))
  clear hb hk
  by_cases hx : x < 0 ∨ 511 ≤ x
  · have HS := Lib.hid (fun v => spsector_any x (m : Int) v)
    rw [Sp.sec_no (by omega)] at HS
    have HRe := Lib.hid (HR.out.trans (HBad.out (by omega)))
    clear hx
    go_wp2_with fail
    refine (HS.out _).mono ?_
    rintro e w' ⟨rfl, rfl⟩
    go_wp2_with fail
    go_ret3
    exact ⟨by rw [HRe.out]; rfl, HB2.out⟩
  have HS := Lib.hid (fun v => spsector_any x (m : Int) v)
  rw [Sp.sec_yes (by have := HM.out; omega)] at HS
  go_wp2_with fail
  refine (HS.out _).mono ?_
  rintro e w' ⟨rfl, rfl⟩
  by_cases hy : y < 0 ∨ 511 ≤ y
  · have HT := Lib.hid (fun v => spsector_any y (m : Int) v)
    rw [Sp.sec_no (by omega)] at HT
    have HRe := Lib.hid (HR.out.trans (HBad.out (by omega)))
    clear hx hy
    go_wp2_with fail
    refine (HT.out _).mono ?_
    rintro e w' ⟨rfl, rfl⟩
    go_wp2_with fail
    go_ret3
    exact ⟨by rw [HRe.out]; rfl, HB2.out⟩
  have HT := Lib.hid (fun v => spsector_any y (m : Int) v)
  rw [Sp.sec_yes (by have := HM.out; omega)] at HT
  have HRe := Lib.hid (HR.out.trans (HOk.out (by omega)))
  have HQ2 := HQ.out.2
  clear hx hy
  go_wp2_with fail
  refine (HT.out _).mono ?_
  rintro e w' ⟨rfl, rfl⟩
  go_wp2_with fail
  go_ret3
  exact ⟨by rw [HRe.out, HQ.out.2]; rfl, HB2.out⟩
set_option maxRecDepth 100000 in
set_option maxHeartbeats 4000000 in
theorem rsectors_any (P : Pl) (i : Int) (A : Option Addr) (c : Nat) (w : World) (hl : P.ps.length ≤ 1000) (hr : RdC 2 w A P.ps.length (pv P.ps)) : Calls Try.prog 14 #[Fi.val P A c, .int .i64 i] w fun e w' => e = .returned (.tuple #[.int .i64 (fr P i).1, .int .i64 (fr P i).2.1, .int .i64 (fr P i).2.2]) ∧ Below w.heap.size w w' := by
  have HB0 := Lib.hid (show Below w.heap.size w (w.alloc (.cells #[.int .i64 P.i, .int .i64 P.e, .slice A P.ps.length c] 31)) from (Below.refl _ _).alloc (Nat.le_refl _) _)
  have HK0 := Lib.hid (Holds.new w #[.int .i64 P.i, .int .i64 P.e, .slice A P.ps.length c] 31)
  have HF := Lib.hid (fun v => rframes_any P A c v hl)
  unfold Fi.val at HF ⊢
  by_cases h0 : i < 0
  · rw [fr_end (.inl h0)]
    go_enter Try.func14, Try.ntmps14
    go_wp2_with fail
    go_ret3
    exact ⟨rfl, HB0.out⟩
  obtain ⟨i, rfl⟩ : ∃ j : Nat, i = (j : Int) := ⟨i.toNat, by omega⟩
  by_cases h1 : 8 * P.ps.length ≤ i
  · rw [fr_end (.inr (by omega))]
    have h2 : 8 * (P.ps.length : Int) ≤ (i : Int) := by omega
    go_enter Try.func14, Try.ntmps14
    go_wp2_with fail
    refine (HF.out _).mono ?_
    rintro e v ⟨rfl, hb⟩
    have HB1 := Lib.hid (HB0.out.trans (hb.mono HB0.out.size))
    clear hb
    go_wp2_with fail
    go_ret3
    exact ⟨rfl, HB1.out⟩
  have h2 : ¬ 8 * (P.ps.length : Int) ≤ (i : Int) := by omega
  have hk : i / 8 < P.ps.length := by omega
  obtain ⟨p, hp⟩ : ∃ p, P.ps[i / 8]? = some p := ⟨_, List.getElem?_eq_getElem hk⟩
  obtain ⟨x, y⟩ := p
  obtain ⟨b, o, rfl, hb, e0, e1⟩ := hr.two2 hk (pv_at hp).1 (pv_at hp).2
  simp only at e0 e1
  have HE := Lib.hid (show ∀ v, Below w.heap.size w v → v.cell? ⟨b, o + i / 8 * 2, none⟩ = some (.int .i64 x) ∧ v.cell? ⟨b, o + i / 8 * 2 + 1, none⟩ = some (.int .i64 y) from fun v hv => ⟨(hv.cell hb).trans e0, (hv.cell hb).trans e1⟩)
  have HP := Lib.hid hp
  have q1 : (i : Int) / 8 = ((i / 8 : Nat) : Int) := by omega
  have q2 : (i : Int) % 8 = ((i % 8 : Nat) : Int) := by omega
  have q3 : ((i / 8 : Nat) : Int) < (P.ps.length : Int) := by omega
  have HQ := Lib.hid (And.intro h1 q2)
  have HM := Lib.hid (show i % 8 < 8 by omega)
  have HBad := Lib.hid (fun h => fr_bad (p := (x, y)) (by omega : i < 8 * P.ps.length) hp h)
  have HOk := Lib.hid (fun h => fr_ok (p := (x, y)) (by omega : i < 8 * P.ps.length) hp h)
  obtain ⟨R, hR⟩ : ∃ R, R = fr P (i : Int) := ⟨_, rfl⟩
  rw [← hR]
  have HR := Lib.hid hR
  clear hR e0 e1 hr hb hp h1
  generalize i / 8 = j at *
  generalize i % 8 = m at *
  go_enter Try.func14, Try.ntmps14
  go_wp2_with fail
  refine (HF.out _).mono ?_
  rintro e v ⟨rfl, hb⟩
  have HB1 := Lib.hid (HB0.out.trans (hb.mono HB0.out.size))
  have hk := HK0.out.below hb
  have c2 := hk.at_ 2 rfl
  obtain ⟨e0, e1⟩ := HE.out _ HB1.out
  have HB2 := Lib.hid (HB1.out.alloc HB1.out.size (.cells #[.int .i64 x, .int .i64 y] 52))
  clear hb hk
  by_cases hx0 : x < 0
  · have HRe := Lib.hid (HR.out.trans (HBad.out (by omega)))
    go_wp2_with fail
    go_ret3
    exact ⟨by rw [HRe.out]; rfl, HB2.out⟩
  by_cases hx1 : 511 ≤ x
  · have HRe := Lib.hid (HR.out.trans (HBad.out (by omega)))
    go_wp2_with fail
    go_ret3
    exact ⟨by rw [HRe.out]; rfl, HB2.out⟩
  by_cases hy0 : y < 0
  · have HRe := Lib.hid (HR.out.trans (HBad.out (by omega)))
    go_wp2_with fail
    go_ret3
    exact ⟨by rw [HRe.out]; rfl, HB2.out⟩
  by_cases hy1 : 511 ≤ y
  · have HRe := Lib.hid (HR.out.trans (HBad.out (by omega)))
    go_wp2_with fail
    go_ret3
    exact ⟨by rw [HRe.out]; rfl, HB2.out⟩
  have HRe := Lib.hid (HR.out.trans (HOk.out (by omega)))
  have m8 := HM.out
  have w1 : IntKind.i64.wrap (8 * x) = 8 * x := by rw [IntKind.wrap_i64]; omega
  have w2 : IntKind.i64.wrap (4 + 8 * x) = 4 + 8 * x := by rw [IntKind.wrap_i64]; omega
  have w3 : IntKind.i64.wrap (4 + 8 * x + (m : Int)) = 4 + 8 * x + (m : Int) := by rw [IntKind.wrap_i64]; omega
  have w4 : IntKind.i64.wrap (8 * y) = 8 * y := by rw [IntKind.wrap_i64]; omega
  have w5 : IntKind.i64.wrap (4 + 8 * y) = 4 + 8 * y := by rw [IntKind.wrap_i64]; omega
  have w6 : IntKind.i64.wrap (4 + 8 * y + (m : Int)) = 4 + 8 * y + (m : Int) := by rw [IntKind.wrap_i64]; omega
  clear m8
  go_wp2_with fail
  go_region
  all_goals (go_wp2_with fail)
  all_goals go_ret3
  all_goals exact ⟨by rw [HRe.out, HQ.out.2]; rfl, HB2.out.drew⟩
end Go.Proofs.Ytpggomekbahddaa
