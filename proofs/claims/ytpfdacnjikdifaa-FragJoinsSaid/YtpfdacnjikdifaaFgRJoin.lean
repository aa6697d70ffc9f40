/- The document's Join. -/
import Derived.Test.YtpfdacnjikdifaaFgRPay
namespace Go.Proofs.Ytpfdacnjikdifaa
open Go.RowKit
set_option linter.unusedVariables false
/-- Join's state stands in block j. -/
def SAt (a : World) (j : Nat) (s : Fg.Js) (v : World) : Prop :=
  ∃ (A : Option Addr) (n cap : Nat) (B : Option Addr) (m c : Nat),
    Holds v j [.slice A n cap, .bool s.2.isSome, .slice B m c] ∧ a.heap.size = j ∧ Below j a v ∧ n ≤ cap ∧ StAt j v s A n B m c ∧ ∀ b o, A = some ⟨b, o, none⟩ → 0 < n → b ≠ j
theorem SAt.set {a v : World} {j n cap m c : Nat} {s : Fg.Js} {A B : Option Addr} {x0 x1 x2 : Value} (h : Holds v j [x0, x1, x2]) (hj : a.heap.size = j) (hb : Below j a v) (hn : n ≤ cap) (hs : StAt j v s A n B m c) (hA : ∀ b o, A = some ⟨b, o, none⟩ → 0 < n → b ≠ j) :
    SAt a j s (((v.setCell ⟨j, 0, none⟩ (.slice A n cap)).setCell ⟨j, 1, none⟩ (.bool s.2.isSome)).setCell ⟨j, 2, none⟩ (.slice B m c)) := by
  have one : ∀ {v : World} (i : Nat) (u : Value), StAt j v s A n B m c → StAt j (v.setCell ⟨j, i, none⟩ u) s A n B m c := by
    intro v i u ⟨vs, h1, h2, h3⟩
    have hg := grown_setCell v ⟨j, i, none⟩ u
    exact ⟨vs, h1.grown hg (fun b o e hn e2 => hA b o e hn (by injection e2)), h2.grown hg (fun b hb hx e2 => hx (by injection e2)), fun x e => (h3 x e).grown hg (fun b hb hx e2 => hx (by injection e2))⟩
  exact ⟨A, n, cap, B, m, c, ((h.set 0 (.slice A n cap) (by simp)).set 1 (.bool s.2.isSome) (by simp)).set 2 (.slice B m c) (by simp), hj,
    ((hb.setCell (p := ⟨j, 0, none⟩) (Nat.le_refl _) _).setCell (p := ⟨j, 1, none⟩) (Nat.le_refl _) _).setCell (p := ⟨j, 2, none⟩) (Nat.le_refl _) _, hn, one _ _ (one _ _ (one _ _ hs)), hA⟩
theorem StAt.rdB {z : Nat} {v : World} {s : Fg.Js} {A B : Option Addr} {n m c : Nat} (h : StAt z v s A n B m c) : RdB v A n s.1 := by
  obtain ⟨vs, h1, h2, _⟩ := h
  exact ⟨vs, h1, h2.imp fun _ _ _ => trivial⟩
theorem Fg.jpay_row (s : Fg.Js) (p : List Nat) : Fg.jpay s p = match Fg.row p with | none => none | some K => Fg.steps K s := by
  unfold Fg.jpay Fg.row
  by_cases h : 108 < p.length
  · rw [if_pos h, if_pos h]
  · rw [if_neg h, if_neg h, Fg.run_parts]
    cases Fg.parts p <;> rfl
theorem Fg.jstep_fit {s s' : Fg.Js} {k : Nat} {b : List Nat} (hb : b.length ≤ 106) (h : Fg.jstep s k b = some s') : Fg.JFit s' := Fg.JFit.step hb h
theorem Fg.steps_fit {K : List (Nat × List Nat)} {s s' : Fg.Js} (hF : Fg.JFit s) (hK : ∀ x ∈ K, x.2.length ≤ 106) (h : Fg.steps K s = some s') : Fg.JFit s' := by
  induction K generalizing s with
  | nil => injection h with h; subst h; exact hF
  | cons x K ih =>
    obtain ⟨k, b⟩ := x
    rw [Fg.steps] at h
    cases hs : Fg.jstep s k b with
    | none => rw [hs] at h; cases h
    | some s1 =>
      rw [hs] at h
      exact ih (Fg.JFit.step (hK (k, b) (by simp)) hs) (fun x hx => hK x (List.mem_cons_of_mem _ hx)) h
set_option maxRecDepth 100000 in
set_option maxHeartbeats 4000000 in
theorem rjoin_any (A : Option Addr) (n c : Nat) (L : List (List Nat)) (w : World) (hr : RdB w A n L) (hn : n ≤ 8000) :
    Calls Try.prog 17 #[.slice A n c] w (GivesJoin w (Fg.joinL L ([], none))) := by
  have hl := hr.len
  have hB0 : Below w.heap.size w (w.alloc (.cells #[.slice none 0 0, .bool false, .slice none 0 0] 52)) := (Below.refl _ _).alloc (Nat.le_refl _) _
  have k0 := Holds.new w #[.slice none 0 0, .bool false, .slice none 0 0] 52
  have hJ0 : SAt w w.heap.size ([], none) (w.alloc (.cells #[.slice none 0 0, .bool false, .slice none 0 0] 52)) :=
    ⟨none, 0, 0, none, 0, 0, k0, rfl, hB0, Nat.le_refl _, ⟨[], RdV.nil _ _, Items.nil _ _, (fun x e => by cases e)⟩, (fun b o e => by cases e)⟩
  have HJ0 := Lib.hid hJ0
  have HR := Lib.hid hr
  have HL := Lib.hid hl
  clear hr hl hJ0 k0 hB0
  go_enter Try.func17, Try.ntmps17
  go_wp2
  go_loopw [5] (fun ii v => ∃ (k : Nat) (s : Fg.Js), k ≤ n ∧ ii = .int .i64 (k : Int) ∧ SAt w w.heap.size s v ∧ Fg.JFit s ∧ s.1.length ≤ 108 * k ∧ Hid (Fg.joinL L ([], none) = ((Fg.joinL (L.drop k) s).1, k + (Fg.joinL (L.drop k) s).2))) (fun ii _ => n - (intOf ii).toNat)
  case atStart => exact ⟨0, ([], none), Nat.zero_le _, rfl, HJ0.out, (fun x e => by cases e), by simp, Lib.hid (by simp)⟩
  case round =>
    clear HJ0
    obtain ⟨k, s, hk, rfl, hJ, hF, hmany, heq⟩ := hrel
    obtain ⟨A1, n1, cap1, B1, m1, c1, hH, _, hBl, hfits, hSt, hAj⟩ := hJ
    have c0 := hH.at_ 0 rfl
    have c01 := hH.at_ 1 rfl
    have c02 := hH.at_ 2 rfl
    have hn1 : n1 = s.1.length := hSt.rdB.len.symm
    by_cases hkn : k < n
    · obtain ⟨b, o, RB, c2, r, rfl, hb1, hrk, hcell, hrd, hrc, hrm⟩ := HR.out.at_ hkn
      have hki : (k : Int) < (n : Int) := by omega
      have hcellw := (hBl.cell (p := ⟨b, o + k, none⟩) hb1).trans hcell
      have hrow := rrow_any RB r.length c2 r wr (hrd.below hBl) hrc
      have hjr := Fg.jpay_row s r
      have Hrk := Lib.hid hrk
      have HSt := Lib.hid hSt
      have HB := Lib.hid hBl
      have HH := Lib.hid hH
      have HAj := Lib.hid hAj
      have HN1 := Lib.hid hn1
      cases hK : Fg.row r with
      | none =>
        rw [hK] at hjr hrow
        have hj1 := Fg.joinL_none hrk hjr
        have hres : Fg.joinL L ([], none) = (s.1, k) := by rw [heq.out, hj1]; rfl
        have HRes := Lib.hid hres
        have HRow := Lib.hid hrow
        clear hrow hjr hrk hj1 hres heq hcell hrd hSt hBl hH hAj hK hn1
        go_wp2_with fail
        refine HRow.out.mono ?_
        rintro e9 v9 ⟨hb9, rfl⟩
        have c09 := (HH.out.below hb9).at_ 0 rfl
        have HB9 := Lib.hid hb9
        clear hb9 c0 c01 c02
        go_wp2_with fail
        go_ret2
        rw [HRes.out]
        exact ⟨A1, cap1, by rw [← HN1.out]; rfl, by rw [← HN1.out]; exact (HSt.out.below HB9.out).rdB, by rw [← HN1.out]; exact hfits, (show s.1.length ≤ 900000 by omega), below_next HB.out HB9.out⟩
      | some K =>
        rw [hK] at hjr hrow
        have hKp : Fg.parts r = some K := by
          unfold Fg.row at hK
          by_cases h8 : 108 < r.length
          · rw [if_pos h8] at hK; cases hK
          · rw [if_neg h8] at hK; exact hK
        have hr8 : r.length ≤ 108 := by
          unfold Fg.row at hK
          by_cases h8 : 108 < r.length
          · rw [if_pos h8] at hK; cases hK
          · omega
        obtain ⟨hKa, hKl⟩ := Fg.parts_all hKp
        have HRow := Lib.hid hrow
        have HKa := Lib.hid hKa
        have HJr := Lib.hid hjr
        clear hrow hjr hrk hcell hrd hSt hBl hH hAj hK hKp hKa hn1
        go_wp2_with fail
        refine HRow.out.mono ?_
        rintro e9 v9 ⟨hb9, A9, c9, rfl, hP9⟩
        have hH9 := HH.out.below hb9
        have hb9q := hb9
        have c09 := hH9.at_ 0 rfl
        have c19 := hH9.at_ 1 rfl
        have c29 := hH9.at_ 2 rfl
        have hlt : w.heap.size < v9.heap.size := hH9.1
        have hpay := rpay_any w.heap.size A1 n1 cap1 B1 m1 c1 s A9 K.length c9 K v9 (HSt.out.below hb9) hlt hF hP9 HKa.out (by have := HN1.out; omega)
        have HH9 := Lib.hid hH9
        have HB9 := Lib.hid hb9
        have hlt9 := Lib.hid hlt
        clear hH9 hb9 hP9 c0 c01 c02 HRow
        cases hs : Fg.steps K s with
        | none =>
          rw [hs] at hpay
          have HPay := Lib.hid hpay
          have hj1 := Fg.joinL_none Hrk.out (HJr.out.trans hs)
          have hres : Fg.joinL L ([], none) = (s.1, k) := by rw [heq.out, hj1]; rfl
          have HRes := Lib.hid hres
          clear hpay hs hj1 hres heq
          go_wp2_with fail
          refine HPay.out.mono ?_
          rintro e5 v5 ⟨hb5, rfl⟩
          have hb6 := hb5.alloc hb5.size (.cells #[.slice none 0 0, .bool false, .slice none 0 0] 52)
          have c05 := (HH9.out.below hb5).at_ 0 rfl
          have c06 := (HH9.out.below hb6).at_ 0 rfl
          have HB6 := Lib.hid (hb9q.trans (hb6.mono hb9q.size))
          clear hb5 hb6 c09 c19 c29
          go_wp2_with fail
          go_ret2
          rw [HRes.out]
          exact ⟨A1, cap1, by rw [← HN1.out]; rfl, by rw [← HN1.out]; exact (HSt.out.below HB6.out).rdB, by rw [← HN1.out]; exact hfits, (show s.1.length ≤ 900000 by omega), below_next HB.out HB6.out⟩
        | some s' =>
          rw [hs] at hpay
          have HPay := Lib.hid hpay
          have hjp := HJr.out.trans hs
          have hj1 := Fg.joinL_some Hrk.out hjp
          have hnext : Fg.joinL L ([], none) = ((Fg.joinL (L.drop (k + 1)) s').1, (k + 1) + (Fg.joinL (L.drop (k + 1)) s').2) := by
            rw [heq.out, hj1]
            dsimp only
            rw [Nat.add_assoc, Nat.add_comm 1]
          have HNext := Lib.hid hnext
          obtain ⟨t, ht, htl⟩ := Fg.jpay_many hjp
          have hm2 : s'.1.length ≤ 108 * (k + 1) := by rw [ht, List.length_append]; omega
          have HM2 := Lib.hid hm2
          have HF2 := Lib.hid (Fg.steps_fit hF (fun x hx => (HKa.out x hx).2.2) hs)
          clear hpay hs hjp hj1 hnext heq ht htl hm2
          go_wp2_with fail
          refine HPay.out.mono ?_
          rintro e5 v5 ⟨hb5, A5, n5, cap5, B5, m5, c5, rfl, hn5, hst5, hfr⟩
          have hb6 := hb5.alloc hb5.size (.cells #[.slice A5 n5 cap5, .bool s'.2.isSome, .slice B5 m5 c5] 52)
          have hst6 := hst5.below ((Below.refl _ _).alloc (Nat.le_refl _) (.cells #[.slice A5 n5 cap5, .bool s'.2.isSome, .slice B5 m5 c5] 52))
          have h6 := HH9.out.below hb6
          have hk6 := Holds.new v5 #[.slice A5 n5 cap5, .bool s'.2.isSome, .slice B5 m5 c5] 52
          have z0 := hk6.at_ 0 rfl
          have z1 := hk6.at_ 1 rfl
          have z2 := hk6.at_ 2 rfl
          have y0 := h6.at_ 0 rfl
          have y1 := h6.at_ 1 rfl
          have y2 := h6.at_ 2 rfl
          have yl := h6.1
          have yf0 := h6.2.2 0
          have yf1 := h6.2.2 1
          have yf2 := h6.2.2 2
          have HSA := Lib.hid (SAt.set h6 rfl (below_next HB.out (hb9q.trans (hb6.mono hb9q.size))) hn5 hst6 (fun b o e h0 => by have := hfr b o e h0; have := hlt9.out; omega))
          clear hb5 hb6 c09 c19 c29 hst5 hst6 h6 hk6 hfr
          go_wp2_with fail
          go_roundw
          case rel => exact ⟨k + 1, s', by omega, by go_num, HSA.out, HF2.out, HM2.out, HNext⟩
          case measure => simp [intOf]; omega
    · have hkn2 : k = n := by omega
      subst hkn2
      have hres : Fg.joinL L ([], none) = (s.1, k) := by
        rw [heq.out, List.drop_of_length_le (Nat.le_of_eq HL.out)]; rfl
      have HRes := Lib.hid hres
      have HRows := Lib.hid hSt.rdB
      have HN1 := Lib.hid hn1
      have HB9 := Lib.hid hBl
      clear heq hres hn1 hSt hBl hH hAj
      go_wp2_with fail
      go_ret2
      rw [HRes.out]
      exact ⟨A1, cap1, by rw [← HN1.out]; rfl, by rw [← HN1.out]; exact HRows.out, by rw [← HN1.out]; exact hfits, (show s.1.length ≤ 900000 by omega), HB9.out⟩
end Go.Proofs.Ytpfdacnjikdifaa
