/- The law's example: a record of 107 bytes. -/
import Derived.Test.YtpfdacnjikdifaaFgJoin
namespace Go.Proofs.Ytpfdacnjikdifaa
open Go.RowKit
set_option linter.unusedVariables false
theorem ex_cut : ∃ p0 p1 r0 : List Nat, Fg.cutOut [List.replicate 107 0] = ([p0, p1], 0) ∧ p0.length = 108 ∧ p1.length = 3 ∧ Fg.joinL [p0, p1] ([], none) = ([r0], 2) ∧ r0.length = 107 :=
  ⟨2 :: 106 :: List.replicate 106 0, [4, 1, 0], List.replicate 107 0, by decide +kernel, by decide +kernel, by decide +kernel, by decide +kernel, by decide +kernel⟩
/-- One element, by its place. -/
theorem RdB.nth {w : World} {A : Option Addr} {n : Nat} {L : List (List Nat)} (h : RdB w A n L) {j : Nat} {l : List Nat} (hl : L[j]? = some l) : ∃ (b o : Nat) (B : Option Addr) (c : Nat), A = some ⟨b, o, none⟩ ∧ b < w.heap.size ∧ w.cell? ⟨b, o + j, none⟩ = some (.slice B l.length c) ∧ Rd w B l.length l ∧ l.length ≤ c := by
  have hj : j < n := by rw [← h.len]; exact (List.getElem?_eq_some_iff.1 hl).1
  obtain ⟨b, o, B, c, l', hA, hb, hl', hc, hr, hcc, _⟩ := h.at_ hj
  rw [hl] at hl'
  injection hl' with hl'
  subst hl'
  exact ⟨b, o, B, c, hA, hb, hc, hr, hcc⟩
theorem rdb_one (w : World) (B : Option Addr) (c : Nat) (l : List Nat) (hr : Rd w B l.length l) (hc : l.length ≤ c) (hm : l.length ≤ 9223372036854775807) : RdB (w.alloc (.cells #[.slice B l.length c] 29)) (some ⟨w.heap.size, 0, none⟩) 1 [l] := by
  refine ⟨[.slice B l.length c], rdv_one _ _ _, ?_⟩
  have h0 : Items (w.alloc (.cells #[.slice B l.length c] 29)) (fun _ => True) ([] ++ [.slice B l.length c]) ([] ++ [l]) := (Items.nil _ _).snoc ⟨B, c, rfl, hr.alloc _, hc, hm, fun _ _ _ _ => trivial⟩
  exact h0
set_option maxRecDepth 100000 in
set_option maxHeartbeats 2000000 in
theorem awake_any (w : World) : Calls Try.prog 14 #[] w fun e w' => e = .returned (.bool true) ∧ Below w.heap.size w w' := by
  obtain ⟨p0, p1, r0, hcut, hp0, hp1, hjoin, hr0⟩ := ex_cut
  have hmk : ∀ w : World, (Instr.makeSlice 29 (.int .i64 107) (.int .i64 107)).run Try.prog w = .ok (.slice (some ⟨w.heap.size, 0, none⟩) 107 107) (w.alloc (.cells (madeCells #[.int .u8 0] 107) 5)) := make_all 107 (by omega)
  have hz := Own.zeros w w.heap.size 107 (Nat.le_refl _) (by omega)
  have hB1 : Below w.heap.size w (w.alloc (.cells (madeCells #[.int .u8 0] 107) 5)) := (Below.refl _ _).alloc (Nat.le_refl _) _
  have hrb := rdb_one (w.alloc (.cells (madeCells #[.int .u8 0] 107) 5)) (some ⟨w.heap.size, 0, none⟩) 107 (List.replicate 107 0) (by rw [List.length_replicate]; exact hz.rd) (by rw [List.length_replicate]; exact Nat.le_refl _) (by rw [List.length_replicate]; omega)
  rw [List.length_replicate] at hrb
  have hB2 := hB1.alloc hB1.size (.cells #[.slice (some ⟨w.heap.size, 0, none⟩) 107 107] 29)
  have hsz : (w.alloc (.cells (madeCells #[.int .u8 0] 107) 5)).heap.size = w.heap.size + 1 := by simp
  rw [hsz] at hrb
  have hc := cut_any (some ⟨w.heap.size + 1, 0, none⟩) 1 1 [List.replicate 107 0] _ hrb (by omega)
  rw [hcut] at hc
  have HC := Lib.hid hc
  have HB2 := Lib.hid hB2
  have HJ := Lib.hid hjoin
  have HP0 := Lib.hid hp0
  have HP1 := Lib.hid hp1
  have HR0 := Lib.hid hr0
  clear hz hB1 hrb hB2 hsz hc hcut hjoin hp0 hp1 hr0
  go_enter Try.func14, Try.ntmps14
  go_wp2_with fail
  refine HC.out.mono ?_
  rintro e v1 ⟨A1, c1, rfl, hr1, hc1, hb1⟩
  have hx1 := HB2.out.trans (hb1.mono HB2.out.size)
  change RdB v1 A1 2 [p0, p1] at hr1
  have hj := join_any A1 2 c1 [p0, p1] v1 hr1 (by omega)
  rw [HJ.out] at hj
  have HJn := Lib.hid hj
  have HR1 := Lib.hid hr1
  have HX1 := Lib.hid hx1
  clear hj hr1 hx1 hb1 hc1
  go_wp2_with fail
  refine HJn.out.mono ?_
  rintro e v2 ⟨A2, c2, rfl, hr2, hc2, _, hb2⟩
  change RdB v2 A2 1 [r0] at hr2
  have hx2 := below_next HX1.out hb2
  have hr12 := HR1.out.below hb2
  obtain ⟨b, o, B0, d0, hA1, _, y0, _, _⟩ := hr12.nth (j := 0) (l := p0) rfl
  obtain ⟨b', o', B1, d1, hA1', _, y1, _, _⟩ := hr12.nth (j := 1) (l := p1) rfl
  rw [hA1] at hA1'
  injection hA1' with hA1'
  injection hA1' with e1 e2
  subst e1 e2 hA1
  obtain ⟨b2, o2, B2, d2, rfl, _, y2, _, _⟩ := hr2.nth (j := 0) (l := r0) rfl
  rw [HP0.out, Nat.add_zero] at y0
  rw [HP1.out] at y1
  rw [HR0.out, Nat.add_zero] at y2
  have HX2 := Lib.hid hx2
  clear hr12 hr2 hx2 hb2 hc2 HR1 HX1
  go_wp2_with fail
  go_ret
  exact ⟨rfl, HX2.out⟩
end Go.Proofs.Ytpfdacnjikdifaa
