/- The totals of lines: books.Sum. -/
import Derived.Test.YtcoekdfmfjglpaaBoAdd
namespace Go.Proofs.Ytcoekdfmfjglpaa
open Go.RowKit Go.Maps
namespace Bo
/-- Lines, one by one, from the i-th on. -/
def sumR : List Tt → Nat → List Ln → List Tt × Nat × Int
  | T, _, [] => (T, 0, 0)
  | T, i, x :: xs => if okL x = false then ([], i, 230) else if code T x = 0 then sumR (next T x) (i + 1) xs else ([], i, code T x)
def sumL (l : List Ln) : List Tt × Nat × Int := sumR [] 0 l
theorem sumR_at {T : List Tt} {i k : Nat} {l : List Ln} {x : Ln} (h : l[k]? = some x) : sumR T i (l.drop k) = if okL x = false then ([], i, 230) else if code T x = 0 then sumR (next T x) (i + 1) (l.drop (k + 1)) else ([], i, code T x) := by
  obtain ⟨hk, hx⟩ := List.getElem?_eq_some_iff.1 h
  rw [List.drop_eq_getElem_cons hk, hx]
  rfl
end Bo
def GivesSum (w : World) (l : List Bo.Ln) (e : Ending) (w' : World) : Prop :=
  ∃ B c, e = .returned (.tuple #[.slice B (Bo.sumL l).1.length c, .int .i64 ((Bo.sumL l).2.1 : Int), .int .i64 (Bo.sumL l).2.2]) ∧ OwnC 4 w' w.heap.size 46 B (Bo.sumL l).1.length c (Bo.tflat (Bo.sumL l).1) ∧ Below w.heap.size w w'
theorem GivesSum.no {w w' : World} {l : List Bo.Ln} (i : Nat) (e : Int) (h : Bo.sumL l = ([], i, e)) (hb : Below w.heap.size w w') : GivesSum w l (.returned (.tuple #[.slice none 0 0, .int .i64 (i : Int), .int .i64 e])) w' := by
  unfold GivesSum
  rw [h]
  exact ⟨none, 0, rfl, OwnC.none_ _ _ _ _, hb⟩
set_option maxRecDepth 100000 in
set_option maxHeartbeats 8000000 in
theorem sum_any (A : Option Addr) (n c : Nat) (l : List Bo.Ln) (w : World) (hr : RdL w A n l) (hn : n ≤ 1000) :
    Calls Try.prog 17 #[.slice A n c] w (GivesSum w l) := by
  have HR := Lib.hid hr
  have HL := Lib.hid hr.1
  clear hr
  have hmm := @run_makeMap Try.prog
  go_enter Try.func17, Try.ntmps17
  go_wp2
  go_loopw [12] (fun ii wr => ∃ (k : Nat) (T : List Bo.Tt), k ≤ n ∧ ii = .int .i64 (k : Int) ∧ Hid (Bo.sumL l = Bo.sumR T k (l.drop k)) ∧ Hid (Bo.Srt T ∧ Bo.InT T ∧ T.length ≤ k) ∧ Hid (Bk wr w.heap.size k T) ∧ Hid (Below w.heap.size w wr)) (fun ii _ => n - (intOf ii).toNat)
  case atStart => exact ⟨0, [], by omega, rfl, Lib.hid rfl, Lib.hid ⟨List.Pairwise.nil, (fun x hx => nomatch hx), Nat.le_refl _⟩, Lib.hid (Bk.new w), Lib.hid ((Below.refl _ _).alloc (Nat.le_refl _) _)⟩
  case round =>
    rename_i wr hrel
    obtain ⟨k, T, hk, rfl, HI, HT, HK, HB⟩ := hrel
    by_cases hlt : k < n
    · have hki : (k : Int) < (n : Int) := by omega
      obtain ⟨x, hx⟩ : ∃ x, l[k]? = some x := ⟨_, List.getElem?_eq_getElem (by rw [HL.out]; exact hlt)⟩
      obtain ⟨b, o, rfl, hbl, hcell⟩ := HR.out.at_ hx
      have hks := (HR.out.2.2 x (List.mem_of_getElem? hx)).1
      have HS := Lib.hid (HI.out.trans (Bo.sumR_at hx))
      have HCl := Lib.hid (fun (u : World) => checkl_any x u hks)
      have HPu := Lib.hid (fun (u : World) (hu : Bk u w.heap.size k T) (ho : Bo.okL x = true) => bput_any w.heap.size k T x u hu HT.out.1 HT.out.2.1 ho (by omega))
      have HXn := Lib.hid (fun (ho : Bo.okL x = true) (hz : Bo.code T x = 0) => (show Bo.Srt (Bo.next T x) ∧ Bo.InT (Bo.next T x) ∧ (Bo.next T x).length ≤ k + 1 from ⟨Bo.srt_ins HT.out.1 _, Bo.next_in HT.out.1 HT.out.2.1 ho hz, Nat.le_trans (Bo.ins_len T _).1 (by have := HT.out.2.2; omega)⟩))
      generalize hX : x = X at HS HCl HPu HXn
      obtain ⟨kind, key, nn⟩ := x
      have e0 : wr.cell? ⟨b, o + k * 3, none⟩ = some (.int .i64 kind) := (HB.out.cell hbl).trans (hcell 0 _ rfl)
      have e1 : wr.cell? ⟨b, o + k * 3 + 1, none⟩ = some (.string key) := (HB.out.cell hbl).trans (hcell 1 _ rfl)
      have e2 : wr.cell? ⟨b, o + k * 3 + 2, none⟩ = some (.int .i64 nn) := (HB.out.cell hbl).trans (hcell 2 _ rfl)
      have HXc := Lib.hid (show X.cells = [.int .i64 kind, .string key, .int .i64 nn] by rw [← hX]; rfl)
      rw [HXc.out] at HCl HPu
      have HBa := Lib.hid (HB.out.alloc HB.out.size (.cells #[Value.int .i64 kind, .string key, .int .i64 nn] 25))
      have HKa := Lib.hid (HK.out.alloc (.cells #[Value.int .i64 kind, .string key, .int .i64 nn] 25))
      have HLx := Lib.hid (Holds.new wr #[Value.int .i64 kind, .string key, .int .i64 nn] 25)
      clear hx hks hX hcell hbl HI
      replace HCl : Hid (∀ u : World, Calls Try.prog 11 #[.agg #[.int .i64 kind, .string key, .int .i64 nn]] u fun e w' => e = .returned (.int .i64 (if Bo.okL X then 0 else 230)) ∧ Below u.heap.size u w') := HCl
      replace HPu : Hid (∀ u : World, Bk u w.heap.size k T → Bo.okL X = true → Calls Try.prog 20 #[.map (some w.heap.size), .agg #[.int .i64 kind, .string key, .int .i64 nn]] u (GivesPut u w.heap.size k T X)) := HPu
      cases ho : Bo.okL X with
      | false =>
        rw [ho] at HS HCl
        have HF := Lib.hid (show Bo.sumL l = ([], k, 230) from HS.out)
        clear HS HPu HXn ho
        go_wp2_with fail
        refine (HCl.out _).mono ?_
        rintro e w1 ⟨rfl, hb1⟩
        have HB1 := Lib.hid (below_next HBa.out hb1)
        clear hb1
        go_wp2
        go_ret3
        exact GivesSum.no k 230 HF.out HB1.out
      | true =>
        rw [ho] at HS HCl
        have HOk := Lib.hid ho
        clear ho
        go_wp2_with fail
        refine (HCl.out _).mono ?_
        rintro e w1 ⟨rfl, hb1⟩
        have HB1 := Lib.hid (below_next HBa.out hb1)
        have HK1 := Lib.hid (HKa.out.below HKa.out.lt hb1)
        have HL1 := Lib.hid (HLx.out.below hb1)
        clear hb1 e0 e1 e2
        have c0 := HL1.out.at_ 0 rfl
        have c1 := HL1.out.at_ 1 rfl
        have c2 := HL1.out.at_ 2 rfl
        go_wp2_with fail
        refine (HPu.out _ HK1.out HOk.out).mono ?_
        rintro e w2 ⟨rfl, hb2, hk2⟩
        have HB2 := Lib.hid (HB1.out.trans hb2)
        clear hb2 c0 c1 c2
        by_cases hz : Bo.code T X = 0
        · have HK2 := Lib.hid (hk2 hz)
          have HF := Lib.hid (show Bo.sumL l = Bo.sumR (Bo.next T X) (k + 1) (l.drop (k + 1)) by rw [HS.out, if_neg (by decide), if_pos hz])
          have HN := Lib.hid (HXn.out HOk.out hz)
          rw [hz]
          clear hk2 hz HS HXn HPu
          go_wp2
          go_roundw
          case rel => exact ⟨k + 1, Bo.next T X, by omega, by go_num, HF, HN, HK2, HB2⟩
          case measure => simp [intOf]; omega
        · have HF := Lib.hid (show Bo.sumL l = ([], k, Bo.code T X) by rw [HS.out, if_neg (by decide), if_neg hz])
          clear HXn HPu HS hk2
          generalize Bo.code T X = cd at *
          have hne : (cd == 0) = false := beq_eq_false_iff_ne.2 hz
          go_wp2
          go_ret3
          exact GivesSum.no k cd HF.out HB2.out
    · have hke : k = n := by omega
      obtain rfl : n = k := hke.symm
      have hnk : ¬ (n : Int) < (n : Int) := by omega
      clear hlt
      have HF := Lib.hid (show Bo.sumL l = (T, 0, 0) by rw [HI.out, List.drop_of_length_le (Nat.le_of_eq HL.out)]; rfl)
      have HTo := Lib.hid (totals_any w.heap.size n T wr HK.out HT.out.1 HT.out.2.1 (by omega) (by have := HT.out.2.2; omega))
      clear HI HK HT
      go_wp2_with fail
      refine HTo.out.mono ?_
      rintro e w4 ⟨B, c4, rfl, ho4, hb4⟩
      have HG := Lib.hid (show GivesSum w l (.returned (.tuple #[.slice B T.length c4, .int .i64 0, .int .i64 0])) w4 by
        unfold GivesSum
        rw [HF.out]
        exact ⟨B, c4, rfl, ho4.base_ HB.out.size, below_next HB.out hb4⟩)
      clear ho4 hb4
      go_wp2
      go_ret3
      exact HG.out
end Go.Proofs.Ytcoekdfmfjglpaa
