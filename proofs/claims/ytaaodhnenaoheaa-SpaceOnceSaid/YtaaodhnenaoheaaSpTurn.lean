/- claim, give, each, become, Claim, Give: what they return, and what becomes of a map. -/
import Derived.Test.YtaaodhnenaoheaaSpAwake
import Derived.Test.YtaaodhnenaoheaaInPair
namespace Go.Proofs.Ytaaodhnenaoheaa
open Go.RowKit Sp
set_option linter.unusedVariables false
namespace Sp
/-- A plot turned, if it is one and is as it should be. -/
def turn1 (f : Bool) (bad : Int) (T : List Bool) (p : Int) : List Bool × Int :=
  if p < 0 ∨ (T.length : Int) ≤ p then (T, 5) else if T.getD p.toNat false = f then (T.set p.toNat (!f), 0) else (T, bad)
/-- Plots turned one by one, up to the first error. -/
def turnAll (f : Bool) (bad : Int) : List Bool → List Int → List Bool × Int
  | T, [] => (T, 0)
  | T, p :: ps => if (turn1 f bad T p).2 = 0 then turnAll f bad (turn1 f bad T p).1 ps else turn1 f bad T p
/-- What is left of it all: everything, or nothing. -/
def fin (T : List Bool) (r : List Bool × Int) : List Bool × Int := (if r.2 = 0 then r.1 else T, r.2)
variable {f : Bool} {bad : Int} {T : List Bool} {p : Int} {ps : List Int}
theorem turn1_out (h : p < 0 ∨ (T.length : Int) ≤ p) : turn1 f bad T p = (T, 5) := if_pos h
theorem turn1_yes {k : Nat} (h : k < T.length) (ht : T.getD k false = f) : turn1 f bad T (k : Int) = (T.set k (!f), 0) := by
  unfold turn1; rw [if_neg (by omega), if_pos (by simpa using ht)]; simp
theorem turn1_no {k : Nat} (h : k < T.length) (ht : T.getD k false = !f) : turn1 f bad T (k : Int) = (T, bad) := by
  unfold turn1; rw [if_neg (by omega), if_neg]
  rw [Int.toNat_natCast, ht]; cases f <;> decide
theorem turn1_cases (f : Bool) (bad : Int) (T : List Bool) (p : Int) : (∃ T', turn1 f bad T p = (T', 0)) ∨ turn1 f bad T p = (T, 5) ∨ turn1 f bad T p = (T, bad) := by
  unfold turn1; split
  · exact .inr (.inl rfl)
  · split
    · exact .inl ⟨_, rfl⟩
    · exact .inr (.inr rfl)
theorem turn1_len (f : Bool) (bad : Int) (T : List Bool) (p : Int) : (turn1 f bad T p).1.length = T.length := by
  unfold turn1; split
  · rfl
  · split <;> simp
theorem turnAll_ok {T' : List Bool} (h : turn1 f bad T p = (T', 0)) : turnAll f bad T (p :: ps) = turnAll f bad T' ps := by
  rw [turnAll, h, if_pos rfl]
theorem turnAll_no {e : Int} (h : turn1 f bad T p = (T, e)) (he : e ≠ 0) : turnAll f bad T (p :: ps) = (T, e) := by
  rw [turnAll, h, if_neg he]
theorem turnAll_len (f : Bool) (bad : Int) (T : List Bool) (ps : List Int) : (turnAll f bad T ps).1.length = T.length := by
  induction ps generalizing T with
  | nil => rfl
  | cons p ps ih => rw [turnAll]; split
                    · rw [ih, turn1_len]
                    · exact turn1_len f bad T p
theorem turnAll_cases (f : Bool) (bad : Int) (T : List Bool) (ps : List Int) : ∃ T', turnAll f bad T ps = (T', 0) ∨ turnAll f bad T ps = (T', 5) ∨ turnAll f bad T ps = (T', bad) := by
  induction ps generalizing T with
  | nil => exact ⟨T, .inl rfl⟩
  | cons p ps ih =>
    rcases turn1_cases f bad T p with ⟨T', h⟩ | h | h
    · rw [turnAll_ok h]; exact ih T'
    · rw [turnAll, h, if_neg (by simp)]; exact ⟨T, .inr (.inl rfl)⟩
    · rw [turnAll, h]
      by_cases hb : bad = 0
      · rw [if_pos hb]; exact ih T
      · rw [if_neg hb]; exact ⟨T, .inr (.inr rfl)⟩
theorem flat_drop {ps : List (Int × Int)} {k : Nat} {q : Int × Int} (h : ps[k]? = some q) : flat (ps.drop k) = q.1 :: q.2 :: flat (ps.drop (k + 1)) := by
  have hk := (List.getElem?_eq_some_iff.1 h).1
  rw [List.drop_eq_getElem_cons hk]
  rw [List.getElem?_eq_getElem hk] at h
  injection h with h
  rw [h]; rfl
theorem flat_get {ps : List (Int × Int)} {k : Nat} {q : Int × Int} (h : ps[k]? = some q) : (iv (flat ps))[k * 2]? = some (.int .i64 q.1) ∧ (iv (flat ps))[k * 2 + 1]? = some (.int .i64 q.2) := by
  induction ps generalizing k with
  | nil => cases h
  | cons p ps ih =>
    match k, h with
    | 0, h => simp at h; subst h; exact ⟨rfl, rfl⟩
    | k + 1, h =>
      rw [List.getElem?_cons_succ] at h
      obtain ⟨h1, h2⟩ := ih h
      rw [show (k + 1) * 2 = k * 2 + 1 + 1 by omega]
      simp only [flat, iv, List.map_cons, List.getElem?_cons_succ] at *
      exact ⟨h1, h2⟩
end Sp
/-- An error, and block b is this map; nothing else is other. -/
def GivesMap (b : Nat) (w : World) (r : List Bool × Int) (e : Ending) (w' : World) : Prop :=
  e = .returned (.int .i64 r.2) ∧ Ch b w w' ∧ MapAt w' b r.1

set_option maxRecDepth 100000 in
set_option maxHeartbeats 400000 in
theorem claim_any (b : Nat) (T : List Bool) (p : Int) (w : World) (h : MapAt w b T) : Calls Try.prog 33 #[.pointer (some ⟨b, 0, none⟩), .int .i64 p] w (GivesMap b w (turn1 false 61 T p)) := by
  have hf := h.few
  have hpl := h.plots
  have H := Lib.hid h
  by_cases hp : p < 0 ∨ (T.length : Int) ≤ p
  · rw [turn1_out hp]
    rcases hp with hp | hp
    · clear h
      go_enter Try.func33, Try.ntmps33
      go_wp2
      go_ret
      exact ⟨rfl, Ch.refl _ _, H.out⟩
    · have hp0 : ¬ p < 0 := by omega
      clear h
      go_enter Try.func33, Try.ntmps33
      go_wp2
      go_ret
      exact ⟨rfl, Ch.refl _ _, H.out⟩
  · obtain ⟨k, rfl⟩ := Int.eq_ofNat_of_zero_le (show 0 ≤ p by omega)
    have hk : k < T.length := by omega
    have hk2 : (k : Int) < (T.length : Int) := by omega
    have hh := has_any b T k w h hk
    have ht := turn_any b T k w h hk
    cases hb : T.getD k false with
    | false =>
      rw [turn1_yes hk hb]
      rw [hb] at hh ht
      have Hh := Lib.hid hh
      have Ht := Lib.hid ht
      clear hh ht hb h hp
      go_enter Try.func33, Try.ntmps33
      go_wp2_with (go_at_call 36; refine Hh.out.mono ?_; rintro e w' ⟨rfl, rfl⟩)
      refine Ht.out.mono ?_
      rintro e w1 ⟨rfl, hC, hM⟩
      go_wp2
      go_ret
      exact ⟨rfl, hC, hM⟩
    | true =>
      rw [turn1_no (f := false) hk hb]
      rw [hb] at hh
      have Hh := Lib.hid hh
      clear hh ht hb h hp
      go_enter Try.func33, Try.ntmps33
      go_wp2_with (go_at_call 36; refine Hh.out.mono ?_; rintro e w' ⟨rfl, rfl⟩)
      go_ret
      exact ⟨rfl, Ch.refl _ _, H.out⟩
/-- The method as a value. -/
def claimV (b : Nat) : Value := .func (.func 33) #[.pointer (some ⟨b, 0, none⟩)] #[]
set_option maxRecDepth 100000 in
set_option maxHeartbeats 2000000 in
theorem each_claim (b : Nat) (T : List Bool) (A : Option Addr) (n c : Nat) (ps : List (Int × Int)) (w : World) (h : MapAt w b T) (hr : RdC 2 w A n (iv (flat ps))) (hn : ps.length = n) (hbig : n ≤ 9223372036854775807) (hne : 0 < n → ∀ g o, A = some ⟨g, o, none⟩ → g ≠ b) : Calls Try.prog 32 #[.slice A n c, claimV b] w (GivesMap b w (turnAll false 61 T (flat ps))) := by
  subst hn
  have hlt := h.lt
  have H := Lib.hid h
  have HR := Lib.hid hr
  have HNE := Lib.hid hne
  clear h hr hne
  unfold claimV
  go_enter Try.func32, Try.ntmps32
  go_wp2
  go_loopw [11] (fun i wr => ∃ (k : Nat) (Tk : List Bool), k ≤ ps.length ∧ i = .int .i64 (k : Int) ∧ MapAt wr b Tk ∧ Ch b w wr ∧ Hid (turnAll false 61 T (flat ps) = turnAll false 61 Tk (flat (ps.drop k)))) (fun i _ => ps.length - (intOf i).toNat)
  case atStart => exact ⟨0, T, by omega, rfl, H.out, Ch.refl _ _, Lib.hid rfl⟩
  case round =>
    obtain ⟨k, Tk, hk, rfl, hM, hC, hS⟩ := hrel
    by_cases hkn : k < ps.length
    · have hki : (k : Int) < (ps.length : Int) := by omega
      have hq : ps[k]? = some ps[k] := List.getElem?_eq_getElem hkn
      generalize ps[k] = q at hq
      obtain ⟨x, y⟩ := q
      have hdrop := flat_drop hq
      have hS2 := hS.out
      rw [hdrop] at hS2
      obtain ⟨g, o, rfl, hg, hcells⟩ := HR.out.2 (by omega)
      have hgb := HNE.out (by omega) g o rfl
      have cx : wr.cell? ⟨g, o + k * 2, none⟩ = some (.int .i64 x) := (hC.cell (p := ⟨g, o + k * 2, none⟩) hg hgb).trans (hcells _ _ (flat_get hq).1)
      have cy : wr.cell? ⟨g, o + (k * 2 + 1), none⟩ = some (.int .i64 y) := (hC.cell (p := ⟨g, o + (k * 2 + 1), none⟩) hg hgb).trans (hcells _ _ (flat_get hq).2)
      rw [← Nat.add_assoc] at cy
      have hMa : MapAt (wr.alloc (.cells #[.int .i64 x, .int .i64 y] 56)) b Tk := hM.below ((Below.refl _ _).alloc (Nat.le_refl _) _)
      have hCa : Ch b w (wr.alloc (.cells #[.int .i64 x, .int .i64 y] 56)) := hC.alloc _
      have hpq : ∀ v, Ch b (wr.alloc (.cells #[.int .i64 x, .int .i64 y] 56)) v → v.cell? ⟨wr.heap.size, 1, none⟩ = some (.int .i64 y) := by
        intro v hv
        have hlw := hC.size
        rw [hv.cell (p := ⟨wr.heap.size, 1, none⟩) (by simp) (by simp; omega), World.cell?_alloc_mark]; rfl
      have HPQ := Lib.hid hpq
      have HS2 := Lib.hid hS2
      have hf := claim_any b Tk x _ hMa
      clear hM hC hS hpq hS2 hdrop hq hcells hMa
      rcases turn1_cases false 61 Tk x with ⟨T1, ht⟩ | ht | ht
      · rw [ht] at hf
        have HF := Lib.hid hf
        have Ht := Lib.hid ht
        clear hf ht
        go_wp2_with fail
        refine HF.out.mono ?_
        rintro e v1 ⟨rfl, hC1, hM1⟩
        have cy1 := HPQ.out v1 hC1
        have hf2 := claim_any b T1 y v1 hM1
        have hCC := hCa.trans hC1
        clear hC1 hM1 cx cy
        rcases turn1_cases false 61 T1 y with ⟨T2, ht⟩ | ht | ht
        · rw [ht] at hf2
          have HF2 := Lib.hid hf2
          have Ht2 := Lib.hid ht
          clear hf2 ht
          go_wp2_with fail
          refine HF2.out.mono ?_
          rintro e v2 ⟨rfl, hC2, hM2⟩
          go_wp2_with fail
          go_roundw
          case rel => exact ⟨k + 1, T2, by omega, by go_num, hM2, hCC.trans hC2, Lib.hid (by rw [HS2.out, turnAll_ok Ht.out, turnAll_ok Ht2.out])⟩
          case measure => simp [intOf]; omega
        all_goals
          rw [ht] at hf2
          have HF2 := Lib.hid hf2
          have Ht2 := Lib.hid ht
          clear hf2 ht
          go_wp2_with fail
          refine HF2.out.mono ?_
          rintro e v2 ⟨rfl, hC2, hM2⟩
          go_wp2_with fail
          go_ret
          rw [HS2.out, turnAll_ok Ht.out, turnAll_no Ht2.out (by decide)]
          exact ⟨rfl, hCC.trans hC2, hM2⟩
      all_goals
        rw [ht] at hf
        have HF := Lib.hid hf
        have Ht := Lib.hid ht
        clear hf ht
        go_wp2_with fail
        refine HF.out.mono ?_
        rintro e v1 ⟨rfl, hC1, hM1⟩
        go_wp2_with fail
        go_ret
        rw [HS2.out, turnAll_no Ht.out (by decide)]
        exact ⟨rfl, hCa.trans hC1, hM1⟩
    · have hkn2 : k = ps.length := by omega
      subst hkn2
      go_wp2
      go_ret
      rw [hS.out, List.drop_length]
      exact ⟨rfl, hC, hM⟩

set_option maxRecDepth 100000 in
set_option maxHeartbeats 400000 in
theorem give_any (b : Nat) (T : List Bool) (p : Int) (w : World) (h : MapAt w b T) : Calls Try.prog 35 #[.pointer (some ⟨b, 0, none⟩), .int .i64 p] w (GivesMap b w (turn1 true 62 T p)) := by
  have hf := h.few
  have hpl := h.plots
  have H := Lib.hid h
  by_cases hp : p < 0 ∨ (T.length : Int) ≤ p
  · rw [turn1_out hp]
    rcases hp with hp | hp
    · clear h
      go_enter Try.func35, Try.ntmps35
      go_wp2
      go_ret
      exact ⟨rfl, Ch.refl _ _, H.out⟩
    · have hp0 : ¬ p < 0 := by omega
      clear h
      go_enter Try.func35, Try.ntmps35
      go_wp2
      go_ret
      exact ⟨rfl, Ch.refl _ _, H.out⟩
  · obtain ⟨k, rfl⟩ := Int.eq_ofNat_of_zero_le (show 0 ≤ p by omega)
    have hk : k < T.length := by omega
    have hk2 : (k : Int) < (T.length : Int) := by omega
    have hh := has_any b T k w h hk
    have ht := turn_any b T k w h hk
    cases hb : T.getD k false with
    | true =>
      rw [turn1_yes hk hb]
      rw [hb] at hh ht
      have Hh := Lib.hid hh
      have Ht := Lib.hid ht
      clear hh ht hb h hp
      go_enter Try.func35, Try.ntmps35
      go_wp2_with (go_at_call 36; refine Hh.out.mono ?_; rintro e w' ⟨rfl, rfl⟩)
      refine Ht.out.mono ?_
      rintro e w1 ⟨rfl, hC, hM⟩
      go_wp2
      go_ret
      exact ⟨rfl, hC, hM⟩
    | false =>
      rw [turn1_no (f := true) hk hb]
      rw [hb] at hh
      have Hh := Lib.hid hh
      clear hh ht hb h hp
      go_enter Try.func35, Try.ntmps35
      go_wp2_with (go_at_call 36; refine Hh.out.mono ?_; rintro e w' ⟨rfl, rfl⟩)
      go_ret
      exact ⟨rfl, Ch.refl _ _, H.out⟩
/-- The method as a value. -/
def giveV (b : Nat) : Value := .func (.func 35) #[.pointer (some ⟨b, 0, none⟩)] #[]
set_option maxRecDepth 100000 in
set_option maxHeartbeats 2000000 in
theorem each_give (b : Nat) (T : List Bool) (A : Option Addr) (n c : Nat) (ps : List (Int × Int)) (w : World) (h : MapAt w b T) (hr : RdC 2 w A n (iv (flat ps))) (hn : ps.length = n) (hbig : n ≤ 9223372036854775807) (hne : 0 < n → ∀ g o, A = some ⟨g, o, none⟩ → g ≠ b) : Calls Try.prog 32 #[.slice A n c, giveV b] w (GivesMap b w (turnAll true 62 T (flat ps))) := by
  subst hn
  have hlt := h.lt
  have H := Lib.hid h
  have HR := Lib.hid hr
  have HNE := Lib.hid hne
  clear h hr hne
  unfold giveV
  go_enter Try.func32, Try.ntmps32
  go_wp2
  go_loopw [11] (fun i wr => ∃ (k : Nat) (Tk : List Bool), k ≤ ps.length ∧ i = .int .i64 (k : Int) ∧ MapAt wr b Tk ∧ Ch b w wr ∧ Hid (turnAll true 62 T (flat ps) = turnAll true 62 Tk (flat (ps.drop k)))) (fun i _ => ps.length - (intOf i).toNat)
  case atStart => exact ⟨0, T, by omega, rfl, H.out, Ch.refl _ _, Lib.hid rfl⟩
  case round =>
    obtain ⟨k, Tk, hk, rfl, hM, hC, hS⟩ := hrel
    by_cases hkn : k < ps.length
    · have hki : (k : Int) < (ps.length : Int) := by omega
      have hq : ps[k]? = some ps[k] := List.getElem?_eq_getElem hkn
      generalize ps[k] = q at hq
      obtain ⟨x, y⟩ := q
      have hdrop := flat_drop hq
      have hS2 := hS.out
      rw [hdrop] at hS2
      obtain ⟨g, o, rfl, hg, hcells⟩ := HR.out.2 (by omega)
      have hgb := HNE.out (by omega) g o rfl
      have cx : wr.cell? ⟨g, o + k * 2, none⟩ = some (.int .i64 x) := (hC.cell (p := ⟨g, o + k * 2, none⟩) hg hgb).trans (hcells _ _ (flat_get hq).1)
      have cy : wr.cell? ⟨g, o + (k * 2 + 1), none⟩ = some (.int .i64 y) := (hC.cell (p := ⟨g, o + (k * 2 + 1), none⟩) hg hgb).trans (hcells _ _ (flat_get hq).2)
      rw [← Nat.add_assoc] at cy
      have hMa : MapAt (wr.alloc (.cells #[.int .i64 x, .int .i64 y] 56)) b Tk := hM.below ((Below.refl _ _).alloc (Nat.le_refl _) _)
      have hCa : Ch b w (wr.alloc (.cells #[.int .i64 x, .int .i64 y] 56)) := hC.alloc _
      have hpq : ∀ v, Ch b (wr.alloc (.cells #[.int .i64 x, .int .i64 y] 56)) v → v.cell? ⟨wr.heap.size, 1, none⟩ = some (.int .i64 y) := by
        intro v hv
        have hlw := hC.size
        rw [hv.cell (p := ⟨wr.heap.size, 1, none⟩) (by simp) (by simp; omega), World.cell?_alloc_mark]; rfl
      have HPQ := Lib.hid hpq
      have HS2 := Lib.hid hS2
      have hf := give_any b Tk x _ hMa
      clear hM hC hS hpq hS2 hdrop hq hcells hMa
      rcases turn1_cases true 62 Tk x with ⟨T1, ht⟩ | ht | ht
      · rw [ht] at hf
        have HF := Lib.hid hf
        have Ht := Lib.hid ht
        clear hf ht
        go_wp2_with fail
        refine HF.out.mono ?_
        rintro e v1 ⟨rfl, hC1, hM1⟩
        have cy1 := HPQ.out v1 hC1
        have hf2 := give_any b T1 y v1 hM1
        have hCC := hCa.trans hC1
        clear hC1 hM1 cx cy
        rcases turn1_cases true 62 T1 y with ⟨T2, ht⟩ | ht | ht
        · rw [ht] at hf2
          have HF2 := Lib.hid hf2
          have Ht2 := Lib.hid ht
          clear hf2 ht
          go_wp2_with fail
          refine HF2.out.mono ?_
          rintro e v2 ⟨rfl, hC2, hM2⟩
          go_wp2_with fail
          go_roundw
          case rel => exact ⟨k + 1, T2, by omega, by go_num, hM2, hCC.trans hC2, Lib.hid (by rw [HS2.out, turnAll_ok Ht.out, turnAll_ok Ht2.out])⟩
          case measure => simp [intOf]; omega
        all_goals
          rw [ht] at hf2
          have HF2 := Lib.hid hf2
          have Ht2 := Lib.hid ht
          clear hf2 ht
          go_wp2_with fail
          refine HF2.out.mono ?_
          rintro e v2 ⟨rfl, hC2, hM2⟩
          go_wp2_with fail
          go_ret
          rw [HS2.out, turnAll_ok Ht.out, turnAll_no Ht2.out (by decide)]
          exact ⟨rfl, hCC.trans hC2, hM2⟩
      all_goals
        rw [ht] at hf
        have HF := Lib.hid hf
        have Ht := Lib.hid ht
        clear hf ht
        go_wp2_with fail
        refine HF.out.mono ?_
        rintro e v1 ⟨rfl, hC1, hM1⟩
        go_wp2_with fail
        go_ret
        rw [HS2.out, turnAll_no Ht.out (by decide)]
        exact ⟨rfl, hCa.trans hC1, hM1⟩
    · have hkn2 : k = ps.length := by omega
      subst hkn2
      go_wp2
      go_ret
      rw [hS.out, List.drop_length]
      exact ⟨rfl, hC, hM⟩

end Go.Proofs.Ytaaodhnenaoheaa
