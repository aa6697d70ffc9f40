/- The document's disk: After. -/
import Derived.Test.YtamdihodconjiaaRkLoose
import Derived.Test.YtamdihodconjiaaDkCrMath
import Derived.Deep.Cut
import Derived.Deep.CutRange
namespace Go.Proofs.Ytamdihodconjiaa
open Go.RowKit
set_option linter.unusedVariables false
/-- X's first i, ahead of what B has behind them. -/
def mixed (X B : List Nat) (i : Nat) : List Nat := X.take i ++ B.drop i
theorem mixed_zero (X B : List Nat) : mixed X B 0 = B := rfl
theorem mixed_len {X B : List Nat} {i : Nat} (hX : X.length = 128) (hB : B.length = 128) (hi : i ≤ 128) : (mixed X B i).length = 128 := by unfold mixed; rw [List.length_append, List.length_take, List.length_drop]; omega
theorem mixed_step {X B : List Nat} {i x : Nat} (hX : X.length = 128) (hB : B.length = 128) (hx : X[i]? = some x) : (mixed X B i).set i x = mixed X B (i + 1) := by
  have hi := (List.getElem?_eq_some_iff.1 hx).1
  unfold mixed
  have e : B.drop i = B[i]'(by omega) :: B.drop (i + 1) := List.drop_eq_getElem_cons (by omega)
  have hl : (X.take i).length = i := by rw [List.length_take]; omega
  rw [e, List.set_append_right _ _ (by omega), hl, Nat.sub_self, List.set_cons_zero, List.take_add_one, hx]
  simp
theorem Own.base_ {w : World} {base base' n cap : Nat} {A : Option Addr} {l : List Nat} (h : Own w base A n cap l) (hb : base' ≤ base) : Own w base' A n cap l := by
  refine ⟨h.1, h.2.1, h.2.2.1, ?_⟩
  rcases h.2.2.2 with hn | ⟨g, c, cur, hv, hbg, rest⟩
  · exact .inl hn
  · exact .inr ⟨g, c, cur, hv, Nat.le_trans hb hbg, rest⟩
/-- What After gives. -/
def GivesAfter (w : World) (b : List Nat) (e : Ending) (w' : World) : Prop := ∃ q c, e = .returned (.slice (some ⟨q, 0, none⟩) 128 c) ∧ w.heap.size ≤ q ∧ q < w'.heap.size ∧ Rd w' (some ⟨q, 0, none⟩) 128 b ∧ Below w.heap.size w w'
set_option maxRecDepth 100000 in
set_option maxHeartbeats 4000000 in
theorem after_any (k c : Int) (fv lv : Value) (lab : Nat → Tag) (s : Dk.Sec) (w : World) (h : SecR w lab ⟨fv, lv⟩ s) (hf : s.f.length = 128 ∧ (∀ x ∈ s.f, x < 256) ∧ ∀ b ∈ s.l, b.length = 128 ∧ ∀ x ∈ b, x < 256) (hok : Dk.Fa.ok ⟨k, c⟩ s.l.length) :
    Calls Try.prog 24 #[.agg #[fv, lv], .agg #[.int .i64 k, .int .i64 c]] w (GivesAfter w (s.after ⟨k, c⟩)) := by
  obtain ⟨k1, k2, c1, c2, hkc⟩ := hok
  simp only at k1 k2 c1 c2 hkc
  obtain ⟨K, rfl⟩ : ∃ K : Nat, k = (K : Int) := ⟨k.toNat, by omega⟩
  obtain ⟨M, rfl⟩ : ∃ M : Nat, c = (M : Int) := ⟨c.toNat, by omega⟩
  obtain ⟨q, cq, ef, hfr, _⟩ := h.f
  obtain ⟨h2000, A, cp, vs, el, hrd, hlf, hlv⟩ := h.l
  simp only at ef el
  subst ef el
  obtain ⟨N, hN⟩ : ∃ N, s.l.length = N := ⟨_, rfl⟩
  -- the write that the fate cuts, where there is one
  have hX : ∃ X : List Nat, X.length = 128 ∧ (∀ x ∈ X, x < 256) ∧ (0 < M → ∃ g2 o2 q2 cq2, A = some ⟨g2, o2, none⟩ ∧ g2 < w.heap.size ∧ K < N ∧ w.cell? ⟨g2, o2 + K, none⟩ = some (.slice (some ⟨q2, 0, none⟩) 128 cq2) ∧ Rd w (some ⟨q2, 0, none⟩) 128 X ∧ q2 < w.heap.size) ∧ (M = 0 ∨ (s.l[K]?).getD [] = X) := by
    by_cases hM : M = 0
    · exact ⟨s.f, hf.1, hf.2.1, fun h => absurd h (by omega), .inl hM⟩
    · have hK : K < s.l.length := by omega
      obtain ⟨b, hb⟩ : ∃ b, s.l[K]? = some b := ⟨_, List.getElem?_eq_getElem hK⟩
      obtain ⟨g2, o2, v, rfl, hg2, hv, hcell⟩ := hrd.at_ hK
      obtain ⟨q2, cq2, rfl, hb2, _⟩ := hlv K v b hv hb
      obtain ⟨a1, a2⟩ := hf.2.2 b (List.mem_of_getElem? hb)
      refine ⟨b, a1, a2, fun _ => ⟨g2, o2, q2, cq2, rfl, hg2, by omega, hcell, hb2, ?_⟩, .inr (by rw [hb]; rfl)⟩
      obtain ⟨q3, _, e, h3, _⟩ := hb2.2.2 (by omega)
      injection e with e
      injection e with e
      subst e
      exact h3
  obtain ⟨X, hX1, hX2, hXm, hXe⟩ := hX
  -- what stands behind it
  have hBs : ∃ B : List Nat, B.length = 128 ∧ (K = 0 ∧ B = s.f ∨ ∃ j g2 o2 q2 cq2, K = j + 1 ∧ j < N ∧ s.l[j]? = some B ∧ A = some ⟨g2, o2, none⟩ ∧ g2 < w.heap.size ∧ w.cell? ⟨g2, o2 + j, none⟩ = some (.slice (some ⟨q2, 0, none⟩) 128 cq2) ∧ Rd w (some ⟨q2, 0, none⟩) 128 B) := by
    cases K with
    | zero => exact ⟨s.f, hf.1, .inl ⟨rfl, rfl⟩⟩
    | succ j =>
      have hj : j < s.l.length := by omega
      obtain ⟨b, hb⟩ : ∃ b, s.l[j]? = some b := ⟨_, List.getElem?_eq_getElem hj⟩
      obtain ⟨g2, o2, v, rfl, hg2, hv, hcell⟩ := hrd.at_ hj
      obtain ⟨q2, cq2, rfl, hb2, _⟩ := hlv j v b hv hb
      exact ⟨b, (hf.2.2 b (List.mem_of_getElem? hb)).1, .inr ⟨j, g2, o2, q2, cq2, rfl, by omega, hb, rfl, hg2, hcell, hb2⟩⟩
  obtain ⟨B, hB1, hB2⟩ := hBs
  have hres : s.after ⟨(K : Int), (M : Int)⟩ = mixed X B M := by
    unfold Dk.Sec.after mixed
    have e2 : (if (0 : Int) < (K : Int) then (s.l[(K : Int).toNat - 1]?).getD [] else s.f) = B := by
      rcases hB2 with ⟨rfl, rfl⟩ | ⟨j, g2, o2, q2, cq2, rfl, _, hb, _⟩
      · rfl
      · rw [if_pos (by omega), Int.toNat_natCast, Nat.add_sub_cancel, hb]; rfl
    show ((s.l[(K : Int).toNat]?).getD []).take ((M : Int).toNat) ++ (if (0 : Int) < (K : Int) then (s.l[(K : Int).toNat - 1]?).getD [] else s.f).drop ((M : Int).toNat) = _
    rw [e2, Int.toNat_natCast, Int.toNat_natCast]
    rcases hXe with rfl | e
    · rfl
    · rw [e]
  rw [hres, hN]
  have HX := Lib.hid (And.intro hX1 (And.intro hX2 hB1))
  have HXm := Lib.hid hXm
  have HFr := Lib.hid hfr
  have hMi : (M : Int) < 128 := c2
  have hNi : (N : Int) ≤ 2000 := by omega
  clear hXe hres hX1 hX2 hB1 hXm hrd hlf hlv h k1 c1 c2 hkc hN h2000
  have ha1 := Holds.new w #[.slice (some ⟨q, 0, none⟩) 128 cq, .slice A N cp] 61
  have ha2 := ha1.alloc (.cells #[.int .i64 (K : Int), .int .i64 (M : Int)] 55)
  have ha3 := Holds.new (w.alloc (.cells #[.slice (some ⟨q, 0, none⟩) 128 cq, .slice A N cp] 61)) #[.int .i64 (K : Int), .int .i64 (M : Int)] 55
  rw [show (w.alloc (.cells #[.slice (some ⟨q, 0, none⟩) 128 cq, .slice A N cp] 61)).heap.size = w.heap.size + 1 by simp] at ha3
  have hb0 := ((Below.refl w.heap.size w).alloc (Nat.le_refl _) (.cells #[.slice (some ⟨q, 0, none⟩) 128 cq, .slice A N cp] 61)).alloc (by simp) (.cells #[.int .i64 (K : Int), .int .i64 (M : Int)] 55)
  have HA1 := Lib.hid ha2
  have HA2 := Lib.hid ha3
  have HB0 := Lib.hid hb0
  clear ha1 ha2 ha3 hb0
  go_enter Try.func24, Try.ntmps24
  go_upto_region 1 with fail
  generalize ((w.alloc (.cells #[.slice (some ⟨q, 0, none⟩) 128 cq, .slice A N cp] 61)).alloc (.cells #[.int .i64 (K : Int), .int .i64 (M : Int)] 55)) = w2 at *
  have x0 := HA1.out.at_ 0 rfl
  have x1 := HA1.out.at_ 1 rfl
  have y0 := HA2.out.at_ 0 rfl
  have y1 := HA2.out.at_ 1 rfl
  have hl1 := HA1.out.1
  have hl2 := HA2.out.1
  have HF2 := Lib.hid (HFr.out.below HB0.out)
  have hxm2 : Hid (0 < M → ∃ g2 o2 q2 cq2, A = some ⟨g2, o2, none⟩ ∧ g2 < w2.heap.size ∧ K < N ∧ w2.cell? ⟨g2, o2 + K, none⟩ = some (.slice (some ⟨q2, 0, none⟩) 128 cq2) ∧ Rd w2 (some ⟨q2, 0, none⟩) 128 X ∧ q2 < w2.heap.size) := Lib.hid fun hM => by
    obtain ⟨g2, o2, q2, cq2, e, h1, h2, h3, h4, h5⟩ := HXm.out hM
    exact ⟨g2, o2, q2, cq2, e, Nat.lt_of_lt_of_le h1 HB0.out.size, h2, (HB0.out.cell (p := ⟨g2, o2 + K, none⟩) h1).trans h3, h4.below HB0.out, Nat.lt_of_lt_of_le h5 HB0.out.size⟩
  clear HXm
  have HXm := hxm2
  clear hxm2
  go_upto_region 2 with (refine wpList_appB rfl (.tmp 7) (.tmp 9) rfl rfl (Own.empty w2) (some ⟨q, 0, none⟩) 128 cq s.f rfl (HF2.out.alloc _) (by omega) (by simp) ?_; intro A1 c1 w3 hg; obtain ⟨hb3, ho3⟩ := hg.fresh; have HO3 := Lib.hid ho3; have HB3 := Lib.hid hb3; clear hg hb3 ho3)
  have x1' := (HB3.out.cell (p := ⟨w.heap.size, 1, none⟩) hl1).trans x1
  have y0' := (HB3.out.cell (p := ⟨w.heap.size + 1, 0, none⟩) hl2).trans y0
  have y1' := (HB3.out.cell (p := ⟨w.heap.size + 1, 1, none⟩) hl2).trans y1
  have hl1' : w.heap.size < w3.heap.size := Nat.lt_of_lt_of_le hl1 HB3.out.size
  have hl2' : w.heap.size + 1 < w3.heap.size := Nat.lt_of_lt_of_le hl2 HB3.out.size
  clear x0
  go_upto_if 13 with fail
  go_cut [5] from 5 to 22 (fun s5 wx => ∃ (q5 c5 : Nat), s5 = .slice (some ⟨q5, 0, none⟩) 128 c5 ∧ Hid (Own wx w2.heap.size (some ⟨q5, 0, none⟩) 128 c5 B) ∧ Hid (Below w2.heap.size w2 wx))
  case first =>
    rcases hB2 with ⟨rfl, rfl⟩ | ⟨j, g2, o2, q2, cq2, rfl, hj, hb, rfl, hg2, hcell, hrd⟩
    · obtain ⟨q5, rfl, _⟩ := HO3.out.form (by omega)
      go_wp2
      go_meet
      case rel => exact ⟨q5, c1, rfl, HO3, HB3⟩
    · have hcell2 := (HB0.out.cell (p := ⟨g2, o2 + j, none⟩) hg2).trans hcell
      have hg22 : g2 < w2.heap.size := Nat.lt_of_lt_of_le hg2 HB0.out.size
      have hcell3 := (HB3.out.cell (p := ⟨g2, o2 + j, none⟩) hg22).trans hcell2
      have hg23 : g2 < w3.heap.size := Nat.lt_of_lt_of_le hg22 HB3.out.size
      have HR3 := Lib.hid ((hrd.below HB0.out).below HB3.out)
      have hji : (j : Int) < 2000 := by omega
      have hj0 : (0 : Int) < (j : Int) + 1 := by omega
      have hjN : (j : Int) < (N : Int) := by omega
      clear hb hcell hcell2 hrd
      go_wp2_with (refine wpList_appB rfl (.tmp 14) (.tmp 21) rfl rfl (Own.empty w3) (some ⟨q2, 0, none⟩) 128 cq2 B rfl (HR3.out.alloc _) (by omega) (by simp) ?_; intro A1 c1 w4 hg; obtain ⟨hb4, ho4⟩ := hg.fresh; obtain ⟨q5, rfl, _⟩ := ho4.form (by omega); have HO4 := Lib.hid (Own.base_ ho4 HB3.out.size); have HB4 := Lib.hid (below_next HB3.out hb4); clear hg hb4 ho4)
      go_meet
      case rel => exact ⟨q5, _, rfl, HO4, HB4⟩
  case rest =>
    clear HO3 HB3 x1' y0' y1' hl1' hl2' hB2 y0 y1 x1 HF2
    obtain ⟨q5, c5, rfl, HO, HB⟩ := hcut
    have HX5 := Lib.hid (And.intro HO HB)
    clear HO HB
    have hq5 : w2.heap.size ≤ q5 := (HX5.out.1.out.blk q5 rfl).1
    go_wp2_with fail
    go_loopw [6] (fun i wr => ∃ j : Nat, j ≤ M ∧ i = .int .i64 (j : Int) ∧ Hid (Own wr w2.heap.size (some ⟨q5, 0, none⟩) 128 c5 (mixed X B j)) ∧ Hid (Below w2.heap.size w2 wr)) (fun i _ => M - (intOf i).toNat)
    case atStart => exact ⟨0, by omega, rfl, HX5.out.1, HX5.out.2⟩
    case round =>
      obtain ⟨j, hj, rfl, HO, HB⟩ := hrel
      have y1 := (HB.out.cell (p := ⟨w.heap.size + 1, 1, none⟩) hl2).trans (HA2.out.at_ 1 rfl)
      by_cases hjk : j < M
      · have hji : (j : Int) < (M : Int) := by omega
        obtain ⟨g2, o2, q2, cq2, rfl, hg2, hKN, hcell, hrd, hq2⟩ := HXm.out (by omega)
        have x1 := (HB.out.cell (p := ⟨w.heap.size, 1, none⟩) hl1).trans (HA1.out.at_ 1 rfl)
        have y0 := (HB.out.cell (p := ⟨w.heap.size + 1, 0, none⟩) hl2).trans (HA2.out.at_ 0 rfl)
        have z1 := (HB.out.cell (p := ⟨g2, o2 + K, none⟩) hg2).trans hcell
        have hKi : (K : Int) < (N : Int) := by omega
        obtain ⟨x, hx, hx256⟩ := byte_at (hrd.below HB.out) (show j < 128 by omega)
        obtain ⟨b9, o9, e9, _, hc9⟩ := (hrd.below HB.out).2.2 (by omega)
        injection e9 with e9
        injection e9 with e91 e92
        subst e91 e92
        have z2 := hc9 j x hx
        rw [Nat.zero_add] at z2
        obtain ⟨y, hy, _⟩ := byte_at HO.out.rd (show j < 128 by omega)
        have z3 := HO.out.cell hy
        have z4 := HO.out.free j
        have HStep := Lib.hid (mixed_step HX.out.1 HX.out.2.2 hx)
        have HO2 := Lib.hid (HO.out.set j x hx256)
        have HB2 := Lib.hid (HB.out.setCell (p := ⟨q5, j, none⟩) hq5 (.int .u8 (x : Int)))
        have hj128 : (j : Int) < 128 := by omega
        clear hcell hrd hc9 hx hy
        go_wp2_with fail
        go_roundw
        case rel => exact ⟨j + 1, by omega, by go_num, by rw [← HStep.out]; exact HO2, HB2⟩
        case measure => simp [intOf]; omega
      · have hji : ¬ (j : Int) < (M : Int) := by omega
        obtain rfl : j = M := by omega
        have HR := Lib.hid (HO.out.rd)
        have hq6 := (HO.out.blk q5 rfl).2
        have HBw := Lib.hid (HB0.out.trans (HB.out.mono HB0.out.size))
        have hs2 := HB0.out.size
        go_wp2
        go_ret
        exact ⟨q5, c5, rfl, by omega, hq6, HR.out, HBw.out⟩
end Go.Proofs.Ytamdihodconjiaa
