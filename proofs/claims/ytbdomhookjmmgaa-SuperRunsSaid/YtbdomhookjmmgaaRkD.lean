/- The document's disk: After. The document's disk: Crash. Two disks that stand alike. -/
import Derived.Test.YtbdomhookjmmgaaRkB
import Derived.Test.YtbdomhookjmmgaaDkF
import Derived.Deep.Cut
import Derived.Deep.CutRange
import Derived.Test.YtbdomhookjmmgaaDkG
import Derived.Deep.QuietTactic
import Derived.BigQuiet
import Derived.Test.YtbdomhookjmmgaaRkC
namespace Go.Proofs.Ytbdomhookjmmgaa
open Go.RowKit
set_option linter.unusedVariables false
/-- X's first i, ahead of what B has behind them. -/
def mixed (X B : List Nat) (i : Nat) : List Nat := X.take i ++ B.drop i
theorem mixed_zero (X B : List Nat) : mixed X B 0 = B := rfl
theorem mixed_len {X B : List Nat} {i : Nat} (hX : X.length = 128) (hB : B.length = 128) (hi : i ≤ 128) : (mixed X B i).length = 128 := by unfold mixed; rw [List.length_append, List.length_take, List.length_drop]; omega
theorem mixed_step {X B : List Nat} {i x : Nat} (hX : X.length = 128) (hB : B.length = 128) (hx : X[i]? = some x) : (mixed X B i).set i x = mixed X B (i + 1) := by
  have hi := (List.getElem?_eq_some_iff.1 hx).1
  unfold mixed
  have e : B.drop i = B[i]'(by omega) :: B.drop (i + 1) := List.drop_eq_getElem_cons (by omega)
  have hl : (X.take i).length = i := by rw [List.length_take]; omega
  rw [e, List.set_append_right _ _ (by omega), hl, Nat.sub_self, List.set_cons_zero, List.take_add_one, hx]
  simp
theorem Own.base_ {w : World} {base base' n cap : Nat} {A : Option Addr} {l : List Nat} (h : Own w base A n cap l) (hb : base' ≤ base) : Own w base' A n cap l := by
  refine ⟨h.1, h.2.1, h.2.2.1, ?_⟩
  rcases h.2.2.2 with hn | ⟨g, c, cur, hv, hbg, rest⟩
  · exact .inl hn
  · exact .inr ⟨g, c, cur, hv, Nat.le_trans hb hbg, rest⟩
/-- What After gives. -/
def GivesAfter (w : World) (b : List Nat) (e : Ending) (w' : World) : Prop := ∃ q c, e = .returned (.slice (some ⟨q, 0, none⟩) 128 c) ∧ w.heap.size ≤ q ∧ q < w'.heap.size ∧ Rd w' (some ⟨q, 0, none⟩) 128 b ∧ Below w.heap.size w w'
set_option maxRecDepth 100000 in
set_option maxHeartbeats 4000000 in
theorem after_any (k c : Int) (fv lv : Value) (lab : Nat → Tag) (s : Dk.Sec) (w : World) (h : SecR w lab ⟨fv, lv⟩ s) (hf : s.f.length = 128 ∧ (∀ x ∈ s.f, x < 256) ∧ ∀ b ∈ s.l, b.length = 128 ∧ ∀ x ∈ b, x < 256) (hok : Dk.Fa.ok ⟨k, c⟩ s.l.length) :
    Calls Try.prog 69 #[.agg #[fv, lv], .agg #[.int .i64 k, .int .i64 c]] w (GivesAfter w (s.after ⟨k, c⟩)) := by
  obtain ⟨k1, k2, c1, c2, hkc⟩ := hok
  simp only at k1 k2 c1 c2 hkc
  obtain ⟨K, rfl⟩ : ∃ K : Nat, k = (K : Int) := ⟨k.toNat, by omega⟩
  obtain ⟨M, rfl⟩ : ∃ M : Nat, c = (M : Int) := ⟨c.toNat, by omega⟩
  obtain ⟨q, cq, ef, hfr, _⟩ := h.f
  obtain ⟨h2000, A, cp, vs, el, hrd, hlf, hlv⟩ := h.l
  simp only at ef el
  subst ef el
  obtain ⟨N, hN⟩ : ∃ N, s.l.length = N := ⟨_, rfl⟩
  -- the write that the fate cuts, where there is one
  have hX : ∃ X : List Nat, X.length = 128 ∧ (∀ x ∈ X, x < 256) ∧ (0 < M → ∃ g2 o2 q2 cq2, A = some ⟨g2, o2, none⟩ ∧ g2 < w.heap.size ∧ K < N ∧ w.cell? ⟨g2, o2 + K, none⟩ = some (.slice (some ⟨q2, 0, none⟩) 128 cq2) ∧ Rd w (some ⟨q2, 0, none⟩) 128 X ∧ q2 < w.heap.size) ∧ (M = 0 ∨ (s.l[K]?).getD [] = X) := by
    by_cases hM : M = 0
    · exact ⟨s.f, hf.1, hf.2.1, fun h => absurd h (by omega), .inl hM⟩
    · have hK : K < s.l.length := by omega
      obtain ⟨b, hb⟩ : ∃ b, s.l[K]? = some b := ⟨_, List.getElem?_eq_getElem hK⟩
      obtain ⟨g2, o2, v, rfl, hg2, hv, hcell⟩ := hrd.at_ hK
      obtain ⟨q2, cq2, rfl, hb2, _⟩ := hlv K v b hv hb
      obtain ⟨a1, a2⟩ := hf.2.2 b (List.mem_of_getElem? hb)
      refine ⟨b, a1, a2, fun _ => ⟨g2, o2, q2, cq2, rfl, hg2, by omega, hcell, hb2, ?_⟩, .inr (by rw [hb]; rfl)⟩
      obtain ⟨q3, _, e, h3, _⟩ := hb2.2.2 (by omega)
      injection e with e
      injection e with e
      subst e
      exact h3
  obtain ⟨X, hX1, hX2, hXm, hXe⟩ := hX
  -- what stands behind it
  have hBs : ∃ B : List Nat, B.length = 128 ∧ (K = 0 ∧ B = s.f ∨ ∃ j g2 o2 q2 cq2, K = j + 1 ∧ j < N ∧ s.l[j]? = some B ∧ A = some ⟨g2, o2, none⟩ ∧ g2 < w.heap.size ∧ w.cell? ⟨g2, o2 + j, none⟩ = some (.slice (some ⟨q2, 0, none⟩) 128 cq2) ∧ Rd w (some ⟨q2, 0, none⟩) 128 B) := by
    cases K with
    | zero => exact ⟨s.f, hf.1, .inl ⟨rfl, rfl⟩⟩
    | succ j =>
      have hj : j < s.l.length := by omega
      obtain ⟨b, hb⟩ : ∃ b, s.l[j]? = some b := ⟨_, List.getElem?_eq_getElem hj⟩
      obtain ⟨g2, o2, v, rfl, hg2, hv, hcell⟩ := hrd.at_ hj
      obtain ⟨q2, cq2, rfl, hb2, _⟩ := hlv j v b hv hb
      exact ⟨b, (hf.2.2 b (List.mem_of_getElem? hb)).1, .inr ⟨j, g2, o2, q2, cq2, rfl, by omega, hb, rfl, hg2, hcell, hb2⟩⟩
  obtain ⟨B, hB1, hB2⟩ := hBs
  have hres : s.after ⟨(K : Int), (M : Int)⟩ = mixed X B M := by
    unfold Dk.Sec.after mixed
    have e2 : (if (0 : Int) < (K : Int) then (s.l[(K : Int).toNat - 1]?).getD [] else s.f) = B := by
      rcases hB2 with ⟨rfl, rfl⟩ | ⟨j, g2, o2, q2, cq2, rfl, _, hb, _⟩
      · rfl
      · rw [if_pos (by omega), Int.toNat_natCast, Nat.add_sub_cancel, hb]; rfl
    show ((s.l[(K : Int).toNat]?).getD []).take ((M : Int).toNat) ++ (if (0 : Int) < (K : Int) then (s.l[(K : Int).toNat - 1]?).getD [] else s.f).drop ((M : Int).toNat) = _
    rw [e2, Int.toNat_natCast, Int.toNat_natCast]
    rcases hXe with rfl | e
    · rfl
    · rw [e]
  rw [hres, hN]
  have HX := Lib.hid (And.intro hX1 (And.intro hX2 hB1))
  have HXm := Lib.hid hXm
  have HFr := Lib.hid hfr
  have hMi : (M : Int) < 128 := c2
  have hNi : (N : Int) ≤ 2000 := by omega
  clear hXe hres hX1 hX2 hB1 hXm hrd hlf hlv h k1 c1 c2 hkc hN h2000
  have ha1 := Holds.new w #[.slice (some ⟨q, 0, none⟩) 128 cq, .slice A N cp] 113
  have ha2 := ha1.alloc (.cells #[.int .i64 (K : Int), .int .i64 (M : Int)] 120)
  have ha3 := Holds.new (w.alloc (.cells #[.slice (some ⟨q, 0, none⟩) 128 cq, .slice A N cp] 113)) #[.int .i64 (K : Int), .int .i64 (M : Int)] 120
  rw [show (w.alloc (.cells #[.slice (some ⟨q, 0, none⟩) 128 cq, .slice A N cp] 113)).heap.size = w.heap.size + 1 by simp] at ha3
  have hb0 := ((Below.refl w.heap.size w).alloc (Nat.le_refl _) (.cells #[.slice (some ⟨q, 0, none⟩) 128 cq, .slice A N cp] 113)).alloc (by simp) (.cells #[.int .i64 (K : Int), .int .i64 (M : Int)] 120)
  have HA1 := Lib.hid ha2
  have HA2 := Lib.hid ha3
  have HB0 := Lib.hid hb0
  clear ha1 ha2 ha3 hb0
  go_enter Try.func69, Try.ntmps69
  go_upto_region 1 with fail
  generalize ((w.alloc (.cells #[.slice (some ⟨q, 0, none⟩) 128 cq, .slice A N cp] 113)).alloc (.cells #[.int .i64 (K : Int), .int .i64 (M : Int)] 120)) = w2 at *
  have x0 := HA1.out.at_ 0 rfl
  have x1 := HA1.out.at_ 1 rfl
  have y0 := HA2.out.at_ 0 rfl
  have y1 := HA2.out.at_ 1 rfl
  have hl1 := HA1.out.1
  have hl2 := HA2.out.1
  have HF2 := Lib.hid (HFr.out.below HB0.out)
  have hxm2 : Hid (0 < M → ∃ g2 o2 q2 cq2, A = some ⟨g2, o2, none⟩ ∧ g2 < w2.heap.size ∧ K < N ∧ w2.cell? ⟨g2, o2 + K, none⟩ = some (.slice (some ⟨q2, 0, none⟩) 128 cq2) ∧ Rd w2 (some ⟨q2, 0, none⟩) 128 X ∧ q2 < w2.heap.size) := Lib.hid fun hM => by
    obtain ⟨g2, o2, q2, cq2, e, h1, h2, h3, h4, h5⟩ := HXm.out hM
    exact ⟨g2, o2, q2, cq2, e, Nat.lt_of_lt_of_le h1 HB0.out.size, h2, (HB0.out.cell (p := ⟨g2, o2 + K, none⟩) h1).trans h3, h4.below HB0.out, Nat.lt_of_lt_of_le h5 HB0.out.size⟩
  clear HXm
  have HXm := hxm2
  clear hxm2
  go_upto_region 2 with (refine wpList_appB rfl (.tmp 7) (.tmp 9) rfl rfl (Own.empty w2) (some ⟨q, 0, none⟩) 128 cq s.f rfl (HF2.out.alloc _) (by omega) (by simp) ?_; intro A1 c1 w3 hg; obtain ⟨hb3, ho3⟩ := hg.fresh; have HO3 := Lib.hid ho3; have HB3 := Lib.hid hb3; clear hg hb3 ho3)
  have x1' := (HB3.out.cell (p := ⟨w.heap.size, 1, none⟩) hl1).trans x1
  have y0' := (HB3.out.cell (p := ⟨w.heap.size + 1, 0, none⟩) hl2).trans y0
  have y1' := (HB3.out.cell (p := ⟨w.heap.size + 1, 1, none⟩) hl2).trans y1
  have hl1' : w.heap.size < w3.heap.size := Nat.lt_of_lt_of_le hl1 HB3.out.size
  have hl2' : w.heap.size + 1 < w3.heap.size := Nat.lt_of_lt_of_le hl2 HB3.out.size
  clear x0
  go_upto_if 13 with fail
  go_cut [5] from 5 to 22 (fun s5 wx => ∃ (q5 c5 : Nat), s5 = .slice (some ⟨q5, 0, none⟩) 128 c5 ∧ Hid (Own wx w2.heap.size (some ⟨q5, 0, none⟩) 128 c5 B) ∧ Hid (Below w2.heap.size w2 wx))
  case first =>
    rcases hB2 with ⟨rfl, rfl⟩ | ⟨j, g2, o2, q2, cq2, rfl, hj, hb, rfl, hg2, hcell, hrd⟩
    · obtain ⟨q5, rfl, _⟩ := HO3.out.form (by omega)
      go_wp2
      go_meet
      case rel => exact ⟨q5, c1, rfl, HO3, HB3⟩
    · have hcell2 := (HB0.out.cell (p := ⟨g2, o2 + j, none⟩) hg2).trans hcell
      have hg22 : g2 < w2.heap.size := Nat.lt_of_lt_of_le hg2 HB0.out.size
      have hcell3 := (HB3.out.cell (p := ⟨g2, o2 + j, none⟩) hg22).trans hcell2
      have hg23 : g2 < w3.heap.size := Nat.lt_of_lt_of_le hg22 HB3.out.size
      have HR3 := Lib.hid ((hrd.below HB0.out).below HB3.out)
      have hji : (j : Int) < 2000 := by omega
      have hj0 : (0 : Int) < (j : Int) + 1 := by omega
      have hjN : (j : Int) < (N : Int) := by omega
      clear hb hcell hcell2 hrd
      go_wp2_with (refine wpList_appB rfl (.tmp 14) (.tmp 21) rfl rfl (Own.empty w3) (some ⟨q2, 0, none⟩) 128 cq2 B rfl (HR3.out.alloc _) (by omega) (by simp) ?_; intro A1 c1 w4 hg; obtain ⟨hb4, ho4⟩ := hg.fresh; obtain ⟨q5, rfl, _⟩ := ho4.form (by omega); have HO4 := Lib.hid (Own.base_ ho4 HB3.out.size); have HB4 := Lib.hid (below_next HB3.out hb4); clear hg hb4 ho4)
      go_meet
      case rel => exact ⟨q5, _, rfl, HO4, HB4⟩
  case rest =>
    clear HO3 HB3 x1' y0' y1' hl1' hl2' hB2 y0 y1 x1 HF2
    obtain ⟨q5, c5, rfl, HO, HB⟩ := hcut
    have HX5 := Lib.hid (And.intro HO HB)
    clear HO HB
    have hq5 : w2.heap.size ≤ q5 := (HX5.out.1.out.blk q5 rfl).1
    go_wp2_with fail
    go_loopw [6] (fun i wr => ∃ j : Nat, j ≤ M ∧ i = .int .i64 (j : Int) ∧ Hid (Own wr w2.heap.size (some ⟨q5, 0, none⟩) 128 c5 (mixed X B j)) ∧ Hid (Below w2.heap.size w2 wr)) (fun i _ => M - (intOf i).toNat)
    case atStart => exact ⟨0, by omega, rfl, HX5.out.1, HX5.out.2⟩
    case round =>
      obtain ⟨j, hj, rfl, HO, HB⟩ := hrel
      have y1 := (HB.out.cell (p := ⟨w.heap.size + 1, 1, none⟩) hl2).trans (HA2.out.at_ 1 rfl)
      by_cases hjk : j < M
      · have hji : (j : Int) < (M : Int) := by omega
        obtain ⟨g2, o2, q2, cq2, rfl, hg2, hKN, hcell, hrd, hq2⟩ := HXm.out (by omega)
        have x1 := (HB.out.cell (p := ⟨w.heap.size, 1, none⟩) hl1).trans (HA1.out.at_ 1 rfl)
        have y0 := (HB.out.cell (p := ⟨w.heap.size + 1, 0, none⟩) hl2).trans (HA2.out.at_ 0 rfl)
        have z1 := (HB.out.cell (p := ⟨g2, o2 + K, none⟩) hg2).trans hcell
        have hKi : (K : Int) < (N : Int) := by omega
        obtain ⟨x, hx, hx256⟩ := byte_at (hrd.below HB.out) (show j < 128 by omega)
        obtain ⟨b9, o9, e9, _, hc9⟩ := (hrd.below HB.out).2.2 (by omega)
        injection e9 with e9
        injection e9 with e91 e92
        subst e91 e92
        have z2 := hc9 j x hx
        rw [Nat.zero_add] at z2
        obtain ⟨y, hy, _⟩ := byte_at HO.out.rd (show j < 128 by omega)
        have z3 := HO.out.cell hy
        have z4 := HO.out.free j
        have HStep := Lib.hid (mixed_step HX.out.1 HX.out.2.2 hx)
        have HO2 := Lib.hid (HO.out.set j x hx256)
        have HB2 := Lib.hid (HB.out.setCell (p := ⟨q5, j, none⟩) hq5 (.int .u8 (x : Int)))
        have hj128 : (j : Int) < 128 := by omega
        clear hcell hrd hc9 hx hy
        go_wp2_with fail
        go_roundw
        case rel => exact ⟨j + 1, by omega, by go_num, by rw [← HStep.out]; exact HO2, HB2⟩
        case measure => simp [intOf]; omega
      · have hji : ¬ (j : Int) < (M : Int) := by omega
        obtain rfl : j = M := by omega
        have HR := Lib.hid (HO.out.rd)
        have hq6 := (HO.out.blk q5 rfl).2
        have HBw := Lib.hid (HB0.out.trans (HB.out.mono HB0.out.size))
        have hs2 := HB0.out.size
        go_wp2
        go_ret
        exact ⟨q5, c5, rfl, by omega, hq6, HR.out, HBw.out⟩
end Go.Proofs.Ytbdomhookjmmgaa
namespace Go.Proofs.Ytbdomhookjmmgaa
open Go.RowKit
set_option linter.unusedVariables false
theorem rk_drewN (B : Nat) (w : World) (n : Nat) : Below B w (w.drewN n) := (Below.refl _ _).trans ⟨rfl, rfl, rfl, Nat.le_refl _, fun _ _ => rfl⟩
/-- What Crash gives. -/
def GivesRCrash (st : Dk.St) (fs : List Dk.Fa) (w : World) (e : Ending) (w' : World) : Prop :=
  (st.crashE fs = 0 ∧ ∃ g lab, e = .returned (.tuple #[.pointer (some ⟨g, 0, none⟩), .int .i64 0]) ∧ IsRef w' g lab (st.crash fs) ∧ Below w.heap.size w w' ∧ ∀ k, lab k ≠ .no → w.heap.size ≤ k) ∨
  (st.crashE fs ≠ 0 ∧ e = .returned (.tuple #[.pointer none, .int .i64 (st.crashE fs)]) ∧ Below w.heap.size w w')
theorem rtell_many {st : Dk.St} {fs : List Dk.Fa} {w w' : World} (h : st.loose.length < fs.length) (hb : Below w.heap.size w w') : GivesRCrash st fs w (.returned (.tuple #[.pointer none, .int .i64 3])) w' := by
  have e : st.crashE fs = 3 := by unfold Dk.St.crashE; rw [if_pos h]
  exact .inr ⟨by omega, by rw [e], hb⟩
theorem rtell_range {st : Dk.St} {fs : List Dk.Fa} {w w' : World} (h : ¬ st.loose.length < fs.length) (hf : Dk.fit fs st.loose = false) (hb : Below w.heap.size w w') : GivesRCrash st fs w (.returned (.tuple #[.pointer none, .int .i64 5])) w' := by
  have e : st.crashE fs = 5 := by unfold Dk.St.crashE; rw [if_neg h, hf]; rfl
  exact .inr ⟨by omega, by rw [e], hb⟩
theorem loose_sec {L : List Dk.Sec} : ∀ {k i : Nat} {x : Nat × Nat}, (Dk.looseF k L)[i]? = some x → ∃ a s, x.1 = k + a ∧ x.2 = s.l.length ∧ L[a]? = some s ∧ s.l ≠ [] := by
  induction L with
  | nil => intro k i x h; simp [Dk.looseF] at h
  | cons y r ih =>
    intro k i x h
    unfold Dk.looseF at h
    split at h
    · obtain ⟨a, s, h1, h2, h3, h4⟩ := ih h
      exact ⟨a + 1, s, by omega, h2, h3, h4⟩
    · rename_i hy
      cases i with
      | zero => simp at h; subst h; exact ⟨0, y, rfl, rfl, rfl, hy⟩
      | succ i =>
        simp only [List.getElem?_cons_succ] at h
        obtain ⟨a, s, h1, h2, h3, h4⟩ := ih h
        exact ⟨a + 1, s, by omega, h2, h3, h4⟩
/-- The fixed sectors of L, in memory of the call's own. -/
def NwF (v wr : World) (L : List Dk.Sec) (k : Nat) (C : List Ce) : Prop := ∀ (j : Nat) (c : Ce), C[j]? = some c → c.l = nilV ∧ (j < k → ∃ s q cq, L[j]? = some s ∧ c.f = .slice (some ⟨q, 0, none⟩) 128 cq ∧ v.heap.size + 2 ≤ q ∧ q < wr.heap.size ∧ Rd wr (some ⟨q, 0, none⟩) 128 s.f)
theorem ref_crash {v wr : World} {k : Nat} {C : List Ce} {L : List Dk.Sec} (hk1 : 1 ≤ k) (hk2 : k ≤ 4096) (hL : L.length = k) (hf : ∀ s ∈ L, s.f.length = 128 ∧ ∀ x ∈ s.f, x < 256) (hbox : Holds wr (v.heap.size + 1) [.slice (some ⟨v.heap.size, 0, none⟩) k k, .bool false, .int .i64 0, .int .i64 0]) (hrow : Holds wr v.heap.size (flatR C)) (hlen : C.length = k) (hn : NwF v wr L k C) :
    RefM wr (v.heap.size + 1) v.heap.size C (labW2 v wr) ⟨Dk.crashL L [], 0, false, 0⟩ := by
  have hsl : (Dk.crashL L []).length = k := by rw [crashL_length]; exact hL
  have hcl : Dk.crashL L [] = L.map fun s => ⟨s.f, []⟩ := crashL_nil L
  refine ⟨by show Holds wr _ [.slice _ (Dk.crashL L []).length (Dk.crashL L []).length, _, _, _]; rw [hsl]; exact hbox, hrow, hlen.trans hsl.symm, fun i c s h1 h2 => ?_, ⟨by unfold labW2; rw [if_neg (by omega), if_pos rfl], by unfold labW2; rw [if_pos rfl]⟩, fun j hj => ?_, ⟨fun s hs => ?_, by show 1 ≤ (Dk.crashL L []).length; rw [hsl]; exact hk1, by show (Dk.crashL L []).length ≤ 4096; rw [hsl]; exact hk2⟩⟩
  · have h2' : (Dk.crashL L [])[i]? = some s := h2
    rw [hcl, List.getElem?_map] at h2'
    obtain ⟨e1, e2⟩ := hn i c h1
    obtain ⟨t, q, cq, ht, e3, h4, h5, h6⟩ := e2 (by have := (List.getElem?_eq_some_iff.1 h1).1; omega)
    rw [ht] at h2'
    injection h2' with h2'
    subst h2'
    exact ⟨⟨q, cq, e3, h6, by unfold labW2; rw [if_neg (by omega), if_neg (by omega), if_pos ⟨by omega, h5⟩]⟩, by simp, none, 0, [], e1, RdV.nil _ _, by simp, by simp⟩
  · unfold labW2 at hj
    split at hj
    · rename_i e; subst e; exact hrow.1
    · split at hj
      · rename_i e; subst e; exact hbox.1
      · split at hj
        · rename_i e; exact e.2
        · exact absurd rfl hj
  · have hs' : s ∈ Dk.crashL L [] := hs
    rw [hcl] at hs'
    obtain ⟨t, ht, rfl⟩ := List.mem_map.1 hs'
    exact ⟨(hf t ht).1, (hf t ht).2, by simp⟩
theorem bel_size2 {w W : World} (h : Below w.heap.size w W) : w.heap.size ≤ W.heap.size := h.size
theorem nwf_step {wa wr v2 : World} {K j q2 c2 : Nat} {L : List Dk.Sec} {D : List Ce} {d : Ce} {s : Dk.Sec} (HX : Hid (Holds wr (wa.heap.size + 1) [.slice (some ⟨wa.heap.size, 0, none⟩) K K, .bool false, .int .i64 0, .int .i64 0])) (HR : Hid (Holds wr wa.heap.size (flatR D))) (HC : Hid (D.length = K)) (HW : Hid (NwF wa wr L j D)) (HB : Hid (Below wa.heap.size wa wr)) (HZ : Hid (wa.heap.size + 2 ≤ wr.heap.size))
    (Hd : Hid (D[j]? = some d)) (HS : Hid (L[j]? = some s)) (HF : Hid (∀ x ∈ s.f, x < 256)) (HB7 : Hid (Below wr.heap.size wr v2)) (HO7 : Hid (OwnV v2 wr.heap.size 5 (some ⟨q2, 0, none⟩) 128 c2 (bv s.f))) (HL7 : Hid (q2 < v2.heap.size)) (HQ7 : Hid (wr.heap.size ≤ q2)) (hj : j + 1 ≤ K) :
    ∃ (j' : Nat) (D' : List Ce), j' ≤ K ∧ Value.int .i64 ((j : Int) + 1) = .int .i64 (j' : Int) ∧ Hid (Holds (v2.setCell ⟨wa.heap.size, j * 2, none⟩ (.slice (some ⟨q2, 0, none⟩) 128 c2)) (wa.heap.size + 1) [.slice (some ⟨wa.heap.size, 0, none⟩) K K, .bool false, .int .i64 0, .int .i64 0]) ∧ Hid (Holds (v2.setCell ⟨wa.heap.size, j * 2, none⟩ (.slice (some ⟨q2, 0, none⟩) 128 c2)) wa.heap.size (flatR D')) ∧ Hid (D'.length = K) ∧ Hid (NwF wa (v2.setCell ⟨wa.heap.size, j * 2, none⟩ (.slice (some ⟨q2, 0, none⟩) 128 c2)) L j' D') ∧ Hid (Below wa.heap.size wa (v2.setCell ⟨wa.heap.size, j * 2, none⟩ (.slice (some ⟨q2, 0, none⟩) 128 c2))) ∧ Hid (wa.heap.size + 2 ≤ (v2.setCell ⟨wa.heap.size, j * 2, none⟩ (.slice (some ⟨q2, 0, none⟩) 128 c2)).heap.size) := by
  have hz : (v2.setCell ⟨wa.heap.size, j * 2, none⟩ (.slice (some ⟨q2, 0, none⟩) 128 c2)).heap.size = v2.heap.size := by simp [World.setCell]
  have hb := HB7.out
  have hzz := HZ.out
  have hq := HQ7.out
  have hbs := hb.size
  have hr1 := ((HR.out.below hb).set (j * 2) (.slice (some ⟨q2, 0, none⟩) 128 c2) (by rw [flatR_length, HC.out]; omega))
  rw [← flatR_set_f _ Hd.out] at hr1
  refine ⟨j + 1, D.set j ⟨.slice (some ⟨q2, 0, none⟩) 128 c2, d.l⟩, hj, by go_num, Lib.hid ((HX.out.below hb).other (by omega)), Lib.hid hr1, Lib.hid (by rw [List.length_set]; exact HC.out), Lib.hid (fun i ci hi => ?_), Lib.hid ((HB.out.trans (hb.mono HB.out.size)).setCell (p := ⟨wa.heap.size, j * 2, none⟩) (Nat.le_refl _) _), Lib.hid (by rw [hz]; omega)⟩
  by_cases e : i = j
  · subst e
    rw [List.getElem?_set_self (by rw [HC.out]; omega)] at hi
    injection hi with hi
    subst hi
    exact ⟨(HW.out i d Hd.out).1, fun _ => ⟨s, q2, c2, HS.out, rfl, by omega, by rw [hz]; exact HL7.out, (HO7.out.rdB HF.out).block (by omega) (Below.heap_setCell _ _ _ _ (by show q2 ≠ wa.heap.size; omega))⟩⟩
  · rw [List.getElem?_set_ne (fun e2 => e e2.symm)] at hi
    obtain ⟨g1, g2⟩ := HW.out i ci hi
    refine ⟨g1, fun hlt => ?_⟩
    obtain ⟨t, q, cq, e1, e2, e3, e4, e5⟩ := g2 (by omega)
    exact ⟨t, q, cq, e1, e2, e3, by rw [hz]; omega, (e5.below hb).block (by omega) (Below.heap_setCell _ _ _ _ (by show q ≠ wa.heap.size; omega))⟩
theorem crash_step {wa wr v9 : World} {g2 sb2 t k a q9 c9 : Nat} {C2 : List Ce} {c2 : Ce} {lab2 : Nat → Tag} {L : List Dk.Sec} {fs : List Dk.Fa} {s : Dk.Sec} {b : List Nat} (HX : Hid (RefM wr g2 sb2 C2 lab2 ⟨Dk.crashL L (fs.take t), 0, false, 0⟩)) (HLb : Hid (∀ x, lab2 x ≠ .no → wa.heap.size ≤ x)) (HB : Hid (Below wa.heap.size wa wr))
    (hca : (Dk.crashL L (fs.take t))[a]? = some ⟨s.f, []⟩) (hc2 : C2[a]? = some c2) (hsec : SecR wr lab2 c2 ⟨s.f, []⟩) (hstep : Dk.crashL L (fs.take (t + 1)) = Dk.upd (Dk.crashL L (fs.take t)) a (fun _ => ⟨b, []⟩)) (HB9 : Hid (Below wr.heap.size wr v9)) (HR9 : Hid (Rd v9 (some ⟨q9, 0, none⟩) 128 b)) (HL9 : Hid (q9 < v9.heap.size)) (HQ9 : Hid (wr.heap.size ≤ q9)) (ht : t + 1 ≤ k) :
    ∃ (t' : Nat) (lab' : Nat → Tag) (sb' : Nat) (C' : List Ce), t' ≤ k ∧ Value.int .i64 ((t : Int) + 1) = .int .i64 (t' : Int) ∧ Hid (RefM (v9.setCell ⟨sb2, a * 2, none⟩ (.slice (some ⟨q9, 0, none⟩) 128 c9)) g2 sb' C' lab' ⟨Dk.crashL L (fs.take t'), 0, false, 0⟩) ∧ Hid (∀ x, lab' x ≠ .no → wa.heap.size ≤ x) ∧ Hid (Below wa.heap.size wa (v9.setCell ⟨sb2, a * 2, none⟩ (.slice (some ⟨q9, 0, none⟩) 128 c9))) := by
  have hr := HR9.out
  have hU := HX.out.upd (c' := ⟨.slice (some ⟨q9, 0, none⟩) 128 c9, c2.l⟩) (G := fun _ => ⟨b, []⟩) HB9.out (Ch1.set sb2 (a * 2) v9 (.slice (some ⟨q9, 0, none⟩) 128 c9)) hca (by
      have := (HX.out.row.below HB9.out).set (a * 2) (.slice (some ⟨q9, 0, none⟩) 128 c9) (by rw [flatR_length]; have := (List.getElem?_eq_some_iff.1 hc2).1; omega)
      rw [flatR_set_f _ hc2]
      exact this) ⟨⟨q9, c9, rfl, hr, labN_new HQ9.out HL9.out⟩, (hsec.l.leaves HB9.out.size fun y hy => HB9.out.block y (HX.out.old y (by rw [hy]; simp))).relab (labN_keep HX.out.old)⟩ (by simp [World.setCell]) (fine_upd HX.out.fine hca ⟨hr.1, hr.2.1⟩ (by simp))
  obtain ⟨lab3, ⟨sb3, C3, h3⟩, hC3, hL3⟩ := hU
  exact ⟨t + 1, lab3, sb3, C3, ht, by go_num, Lib.hid (by rw [hstep]; exact h3), Lib.hid (fun x hx => by
    by_cases e : x < wr.heap.size
    · exact HLb.out x (by rw [← hL3 x e]; exact hx)
    · have := HB.out.size; omega), Lib.hid (hC3.below HB.out HLb.out HB.out.size)⟩
set_option maxRecDepth 100000 in
set_option maxHeartbeats 8000000 in
theorem rcrash_any (w : World) (g : Nat) (lab : Nat → Tag) (st : Dk.St) (h : IsRef w g lab st) (A : Option Addr) (n c : Nat) (fs : List Dk.Fa) (hr : RdC 2 w A n (flatFa fs)) (hn : fs.length = n) (hbig : n ≤ 9223372036854775807) :
    Calls Try.prog 36 #[.pointer (some ⟨g, 0, none⟩), .slice A n c] w (GivesRCrash st fs w) := by
  have HLs := Lib.hid (rloose_any w g lab st h)
  have hll : st.loose.length ≤ 4096 := by obtain ⟨_, _, h⟩ := h; exact Nat.le_trans (looseF_len _ _) h.fine.2.2
  have hN : ∀ x ∈ st.loose, x.2 ≤ 2000 := by
    intro x hx
    obtain ⟨sb, C, h⟩ := h
    obtain ⟨i, hi⟩ := List.getElem?_of_mem hx
    obtain ⟨a, s, h1, h2, h3, h4⟩ := loose_sec (L := st.s) (k := 0) hi
    obtain ⟨c, hc, _, _, hsec⟩ := h.at_ h3
    rw [h2]
    exact hsec.l.1
  have HI := Lib.hid h
  have HR := Lib.hid hr
  have HFn := Lib.hid hn
  have HN := Lib.hid hN
  have HLl := Lib.hid hll
  clear h hr hn hN
  go_enter Try.func36, Try.ntmps36
  go_wp2_with fail
  refine HLs.out.mono ?_
  rintro e w1 ⟨AL, cL, rfl, hO, hb⟩
  have HO := Lib.hid hO.rd
  have HB := Lib.hid hb
  have hml : st.loose.length = st.loose.length := rfl
  obtain ⟨m, hm⟩ : ∃ m, st.loose.length = m := ⟨_, rfl⟩
  have HM := Lib.hid hm
  rw [hm] at HO hll ⊢
  clear hO hb hml hm HLs
  by_cases hnm : m < n
  · have hi : (m : Int) < (n : Int) := by omega
    go_wp2
    go_ret2
    exact rtell_many (by rw [HM.out, HFn.out]; exact hnm) HB.out
  · have hi : ¬ (m : Int) < (n : Int) := by omega
    go_upto_region 6 with fail
    go_wp2_with fail
    go_loopw [7] (fun i wr => ∃ k : Nat, k ≤ n ∧ i = .int .i64 (k : Int) ∧ Hid (Below w1.heap.size w1 wr) ∧ Hid (Dk.fit (fs.take k) st.loose = true)) (fun i _ => n - (intOf i).toNat)
    case atStart => exact ⟨0, by omega, rfl, Lib.hid (Below.refl _ _), Lib.hid (by rw [List.take_zero]; rfl)⟩
    case round =>
      obtain ⟨k, hk, rfl, HW, HT⟩ := hrel
      by_cases hkn : k < n
      · have hki : (k : Int) < (n : Int) := by omega
        have hkm : (k : Int) < (m : Int) := by omega
        have hkm' : k < m := by omega
        obtain ⟨f, hf⟩ : ∃ f, fs[k]? = some f := ⟨_, List.getElem?_eq_getElem (by rw [HFn.out]; exact hkn)⟩
        obtain ⟨x, hx⟩ : ∃ x, st.loose[k]? = some x := ⟨_, List.getElem?_eq_getElem (by rw [HM.out]; exact hkm')⟩
        obtain ⟨b1, o1, rfl, hb1, p0, p1⟩ := ((HR.out.below HB.out).below HW.out).two hkn (flatFa_at hf).1 (flatFa_at hf).2
        obtain ⟨b2, o2, rfl, hb2, q0, q1⟩ := (HO.out.below HW.out).two hkm' (flat2_at hx).1 (flat2_at hx).2
        have HF1 := Lib.hid (fit_step hf hx)
        have hxn := HN.out x (List.mem_of_getElem? hx)
        obtain ⟨fk, fc⟩ := f
        obtain ⟨x1, N⟩ := x
        simp only at p0 p1 q0 q1 hxn
        have HX := Lib.hid (And.intro hf hx)
        have hx1 := Holds.new wr #[.int .i64 fk, .int .i64 fc] 120
        have hbx : Below wr.heap.size wr (wr.alloc (.cells #[.int .i64 fk, .int .i64 fc] 120)) := (Below.refl _ _).alloc (Nat.le_refl _) _
        have q1' := (hbx.cell (p := ⟨b2, o2 + k * 2 + 1, none⟩) hb2).trans q1
        have HW2 := Lib.hid (below_next HW.out hbx)
        go_upto_region 10 with fail
        clear p0 p1 q0 q1 hb1
        have y0 := hx1.at_ 0 rfl
        have y1 := hx1.at_ 1 rfl
        have hlt := hx1.1
        have hb2' : b2 < (wr.alloc (.cells #[.int .i64 fk, .int .i64 fc] 120)).heap.size := Nat.lt_of_lt_of_le hb2 hbx.size
        clear hx1 hbx hb2
        generalize (wr.alloc (.cells #[.int .i64 fk, .int .i64 fc] 120)) = w2 at *
        have HBad : ¬ Dk.Fa.ok ⟨fk, fc⟩ N → Hid (Dk.fit fs st.loose = false) := fun hno => Lib.hid (fit_no (i := k + 1) (by rw [HF1.out, decide_eq_false hno, Bool.and_false]))
        have HGood : Dk.Fa.ok ⟨fk, fc⟩ N → Hid (Dk.fit (fs.take (k + 1)) st.loose = true) := fun hok => Lib.hid (by rw [HF1.out, HT.out, decide_eq_true hok]; rfl)
        have key : (decide (fk < 0) = true ∧ ¬ Dk.Fa.ok ⟨fk, fc⟩ N) ∨ (decide (fk < 0) = false ∧ decide ((N : Int) < fk) = true ∧ ¬ Dk.Fa.ok ⟨fk, fc⟩ N) ∨ (decide (fk < 0) = false ∧ decide ((N : Int) < fk) = false ∧ decide (fc < 0) = true ∧ ¬ Dk.Fa.ok ⟨fk, fc⟩ N) ∨ (decide (fk < 0) = false ∧ decide ((N : Int) < fk) = false ∧ decide (fc < 0) = false ∧ decide (128 ≤ fc) = true ∧ ¬ Dk.Fa.ok ⟨fk, fc⟩ N) ∨ (decide (fk < 0) = false ∧ decide ((N : Int) < fk) = false ∧ decide (fc < 0) = false ∧ decide (128 ≤ fc) = false ∧ decide (0 < fc) = true ∧ (fk == (N : Int)) = true ∧ ¬ Dk.Fa.ok ⟨fk, fc⟩ N) ∨ (decide (fk < 0) = false ∧ decide ((N : Int) < fk) = false ∧ decide (fc < 0) = false ∧ decide (128 ≤ fc) = false ∧ decide (0 < fc) = true ∧ (fk == (N : Int)) = false ∧ Dk.Fa.ok ⟨fk, fc⟩ N) ∨ (decide (fk < 0) = false ∧ decide ((N : Int) < fk) = false ∧ decide (fc < 0) = false ∧ decide (128 ≤ fc) = false ∧ decide (0 < fc) = false ∧ Dk.Fa.ok ⟨fk, fc⟩ N) := by
          unfold Dk.Fa.ok
          simp only [decide_eq_true_eq, decide_eq_false_iff_not, beq_iff_eq, beq_eq_false_iff_ne]
          omega
        have hle := HW2.out
        clear HF1 HT
        rcases key with ⟨d1, hp⟩ | ⟨d1, d2, hp⟩ | ⟨d1, d2, d3, hp⟩ | ⟨d1, d2, d3, d4, hp⟩ | ⟨d1, d2, d3, d4, d5, d6, hp⟩ | ⟨d1, d2, d3, d4, d5, d6, hp⟩ | ⟨d1, d2, d3, d4, d5, hp⟩
        iterate 5
          (have HNo := HBad hp
           clear HBad HGood hp
           go_quiet (fail)
           have HW3 := Lib.hid (HB.out.trans ((below_next HW2.out (rk_drewN _ w2 nq)).mono HB.out.size))
           generalize w2.drewN nq = w3 at *
           go_wp2
           go_ret2
           exact rtell_range (by rw [HM.out, HFn.out]; exact hnm) HNo.out HW3.out)
        iterate 2
          (have HYes := HGood hp
           clear HBad HGood hp
           go_quiet (fail)
           have HW3 := Lib.hid (below_next HW2.out (rk_drewN _ w2 nq))
           generalize w2.drewN nq = w3 at *
           go_wp2_with fail
           go_roundw
           case rel => exact ⟨k + 1, by omega, by go_num, HW3, HYes⟩
           case measure => simp [intOf]; omega)
      · obtain rfl : k = n := by omega
        have hki : ¬ (k : Int) < (k : Int) := by omega
        have HYes := Lib.hid (show st.crashE fs = 0 by
          have h1 := HT.out
          rw [List.take_of_length_le (by rw [HFn.out]; omega)] at h1
          unfold Dk.St.crashE
          rw [if_neg (by rw [HM.out, HFn.out]; exact hnm), h1]
          rfl)
        have HFit := Lib.hid (show Dk.fit fs st.loose = true by have h1 := HT.out; rw [List.take_of_length_le (by rw [HFn.out]; omega)] at h1; exact h1)
        obtain ⟨sb, C, hM⟩ := HI.out
        have H := Lib.hid hM
        obtain ⟨wa, rfl⟩ : ∃ z : World, z = wr := ⟨wr, rfl⟩
        have HBa := Lib.hid (HB.out.trans (HW.out.mono HB.out.size))
        obtain ⟨K, hK⟩ : ∃ K, st.s.length = K := ⟨_, rfl⟩
        have HK := Lib.hid hK
        have hK1 : 1 ≤ K := by have := hM.fine.2.1; omega
        have hK2 : K ≤ 4096 := by have := hM.fine.2.2; omega
        have hK2i : (K : Int) ≤ 4096 := by omega
        have c0 := (hM.below HBa.out).box.at_ 0 rfl
        rw [hK] at c0
        have hmk := make_ones K hK2 wa
        have hgw : g < w.heap.size := hM.box.1
        have hsw : sb < w.heap.size := hM.row.1
        have hwa := HBa.out.size
        have hrow := Holds.new wa (madeCells #[nilV, nilV] (K * 2)) 113
        rw [made_nil] at hrow
        have hb1 := (Below.refl wa.heap.size wa).alloc (Nat.le_refl _) (.cells (madeCells #[nilV, nilV] (K * 2)) 113)
        have hs1 : (wa.alloc (.cells (madeCells #[nilV, nilV] (K * 2)) 113)).heap.size = wa.heap.size + 1 := by simp
        have Hrow := Lib.hid hrow
        have HB1 := Lib.hid hb1
        have Hs1 := Lib.hid hs1
        have HWa := Lib.hid HW.out
        clear hrow hb1 hs1 hK hM HT HW hkn
        go_upto_region 12 with fail
        generalize (wa.alloc (.cells (madeCells #[nilV, nilV] (K * 2)) 113)) = w5 at *
        have hbox := Holds.new w5 #[.slice (some ⟨wa.heap.size, 0, none⟩) K K, .bool false, .int .i64 0, .int .i64 0] 110
        rw [Hs1.out] at hbox
        have hb2 := HB1.out.alloc HB1.out.size (.cells #[.slice (some ⟨wa.heap.size, 0, none⟩) K K, .bool false, .int .i64 0, .int .i64 0] 110)
        have hrow2 := Hrow.out.alloc (.cells #[.slice (some ⟨wa.heap.size, 0, none⟩) K K, .bool false, .int .i64 0, .int .i64 0] 110)
        have hs2 : (w5.alloc (.cells #[.slice (some ⟨wa.heap.size, 0, none⟩) K K, .bool false, .int .i64 0, .int .i64 0] 110)).heap.size = wa.heap.size + 2 := by simp [Hs1.out]
        have Hbox := Lib.hid hbox
        have HB2 := Lib.hid hb2
        have Hrow2 := Lib.hid hrow2
        have Hs2 := Lib.hid hs2
        clear hbox hb2 hrow2 hs2
        go_upto_region 13 with fail
        clear hmk c0
        have ebx : (w5.heap.size) = wa.heap.size + 1 := Hs1.out
        rw [ebx]
        generalize (w5.alloc (.cells #[.slice (some ⟨wa.heap.size, 0, none⟩) K K, .bool false, .int .i64 0, .int .i64 0] 110)) = w6 at *
        clear ebx Hrow HB1 Hs1
        go_wp2_with fail
        go_loopw [10] (fun i wr => ∃ (j : Nat) (D : List Ce), j ≤ K ∧ i = .int .i64 (j : Int) ∧ Hid (Holds wr (wa.heap.size + 1) [.slice (some ⟨wa.heap.size, 0, none⟩) K K, .bool false, .int .i64 0, .int .i64 0]) ∧ Hid (Holds wr wa.heap.size (flatR D)) ∧ Hid (D.length = K) ∧ Hid (NwF wa wr st.s j D) ∧ Hid (Below wa.heap.size wa wr) ∧ Hid (wa.heap.size + 2 ≤ wr.heap.size)) (fun i _ => K - (intOf i).toNat)
        case atStart => exact ⟨0, _, by omega, rfl, Hbox, Hrow2, Lib.hid (by simp), Lib.hid (fun j c hj => ⟨by rw [List.eq_of_mem_replicate (List.mem_of_getElem? hj)], fun h => absurd h (by omega)⟩), HB2, Lib.hid (by rw [Hs2.out]; omega)⟩
        case round =>
          obtain ⟨j, D, hj, rfl, HX, HRw, HC, HNw, HBw, HZ⟩ := hrel
          have HBd := Lib.hid (HBa.out.trans (HBw.out.mono hwa))
          have c0 := (H.out.below HBd.out).box.at_ 0 rfl
          rw [HK.out] at c0
          by_cases hjK : j < K
          · have hji : (j : Int) < (K : Int) := by omega
            obtain ⟨s, hs⟩ : ∃ s, st.s[j]? = some s := ⟨_, List.getElem?_eq_getElem (by rw [HK.out]; exact hjK)⟩
            obtain ⟨c, hc, k0, _, hsec⟩ := (H.out.below HBd.out).at_ hs
            obtain ⟨q, cq, ef, hfr, _⟩ := hsec.f
            rw [ef] at k0
            obtain ⟨d, hd⟩ : ∃ d, D[j]? = some d := ⟨_, List.getElem?_eq_getElem (by rw [HC.out]; exact hjK)⟩
            have Hd := Lib.hid hd
            have HS := Lib.hid hs
            have HRd := Lib.hid hfr
            have e0 := HX.out.at_ 0 rfl
            have frz := HRw.out.2.2 (j * 2)
            have z0 := HRw.out.at_ _ (flatR_at hd).1
            have hg' : g < wr.heap.size := Nat.lt_of_lt_of_le hgw HBd.out.size
            have hs' : sb < wr.heap.size := Nat.lt_of_lt_of_le hsw HBd.out.size
            have hx' := HX.out.1
            have hr' := HRw.out.1
            have HFl := Lib.hid (H.out.fine.1 s (List.mem_of_getElem? hs)).2.1
            have HCl := Lib.hid (fun wx (hb : Below wr.heap.size wr wx) => (⟨(hb.cell (p := ⟨wa.heap.size + 1, 0, none⟩) hx').trans e0, (hb.cell (p := ⟨g, 0, none⟩) hg').trans c0, (hb.cell (p := ⟨sb, j * 2, none⟩) hs').trans k0⟩ : wx.cell? ⟨wa.heap.size + 1, 0, none⟩ = some (.slice (some ⟨wa.heap.size, 0, none⟩) K K) ∧ wx.cell? ⟨g, 0, none⟩ = some (.slice (some ⟨sb, 0, none⟩) K K) ∧ wx.cell? ⟨sb, j * 2, none⟩ = some (.slice (some ⟨q, 0, none⟩) 128 cq)))
            have HFi := Lib.hid (fun wx v (hb : Below wr.heap.size wr wx) => (⟨(World.cell?_setCell_other wx _ _ _ (fun e => by injection e with e1 _; omega)).trans (HCl.out wx hb).1, (World.cell?_setCell_other wx _ _ _ (fun e => by injection e with e1 _; omega)).trans (HCl.out wx hb).2.1, (World.cell?_setCell_other wx _ _ _ (fun e => by injection e with e1 _; omega)).trans (HCl.out wx hb).2.2⟩ : (wx.setCell ⟨wa.heap.size, j * 2, none⟩ v).cell? ⟨wa.heap.size + 1, 0, none⟩ = some (.slice (some ⟨wa.heap.size, 0, none⟩) K K) ∧ (wx.setCell ⟨wa.heap.size, j * 2, none⟩ v).cell? ⟨g, 0, none⟩ = some (.slice (some ⟨sb, 0, none⟩) K K) ∧ (wx.setCell ⟨wa.heap.size, j * 2, none⟩ v).cell? ⟨sb, j * 2, none⟩ = some (.slice (some ⟨q, 0, none⟩) 128 cq)))
            clear hs hc hsec hfr hd ef
            go_upto_region 16 with fail
            clear c0 k0 e0
            go_region_held3 (fun wx => wx.cell? ⟨wa.heap.size + 1, 0, none⟩ = some (.slice (some ⟨wa.heap.size, 0, none⟩) K K) ∧ wx.cell? ⟨g, 0, none⟩ = some (.slice (some ⟨sb, 0, none⟩) K K) ∧ wx.cell? ⟨sb, j * 2, none⟩ = some (.slice (some ⟨q, 0, none⟩) 128 cq)) (first | exact HFi.out _ _ (by repeat (first | with_reducible exact Below.refl _ _ | assumption | with_reducible refine below_al ?_ _ | with_reducible refine below_dr ?_)) | exact HCl.out _ (by repeat (first | with_reducible exact Below.refl _ _ | assumption | with_reducible refine below_al ?_ _ | with_reducible refine below_dr ?_))) (first | (refine step_fresh byte_one (by rfl) 100 rfl (.tmp 91) (.tmp 99) rfl _ rfl (some ⟨q, 0, none⟩) 128 cq (bv s.f) rfl (by omega) (by repeat (first | exact HRd.out.row | assumption | with_reducible refine RdV.al ?_ _ | with_reducible refine RdV.dr ?_ | refine RdV.st ?_ (by assumption))) (by omega) ?_; intro q2 c2 v2 hq2 hl2 ho2' hs2; have ho2 : OwnV v2 wr.heap.size 5 (some ⟨q2, 0, none⟩) 128 c2 (bv s.f) := ho2'.base_ (bel_size2 (by repeat (first | with_reducible exact Below.refl _ _ | assumption | with_reducible refine below_al ?_ _ | with_reducible refine below_dr ?_))); have hw2 : wr.heap.size ≤ q2 := Nat.le_trans (bel_size2 (by repeat (first | with_reducible exact Below.refl _ _ | assumption | with_reducible refine below_al ?_ _ | with_reducible refine below_dr ?_))) hq2; have hB2 : Below wr.heap.size wr v2 := below_st (by repeat (first | with_reducible exact Below.refl _ _ | assumption | with_reducible refine below_al ?_ _ | with_reducible refine below_dr ?_)) hs2; clear ho2' hq2; have z2 := (hB2.cell (p := ⟨wa.heap.size, j * 2, none⟩) hr').trans z0; have f2 := (hB2.frozen (p := ⟨wa.heap.size, j * 2, none⟩) hr').trans frz))
            all_goals
              have HB7 := Lib.hid hB2
              have HO7 := Lib.hid ho2
              have HL7 := Lib.hid hl2
              have HQ7 := Lib.hid hw2
              clear hB2 ho2 hl2 hw2 hs2 z2 f2
              go_wp2_with fail
              go_roundw
              case rel => exact nwf_step HX HRw HC HNw HBw HZ Hd HS HFl HB7 HO7 HL7 HQ7 (by omega)
              case measure => simp [intOf]; omega
          · obtain rfl : j = K := by omega
            have hX0 := ref_crash hK1 hK2 HK.out (fun s hs => ⟨(H.out.fine.1 s hs).1, (H.out.fine.1 s hs).2.1⟩) HX.out HRw.out HC.out HNw.out
            have HX0 := Lib.hid hX0
            have HLb0 := Lib.hid (fun x (hx : labW2 wa wr x ≠ .no) => labW2_new hx)
            clear hX0 HX HRw HC HNw HZ
            have hjj : ¬ (j : Int) < (j : Int) := by omega
            go_wp2_with fail
            go_loopw [11] (fun i wr => ∃ (t : Nat) (lab2 : Nat → Tag) (sb2 : Nat) (C2 : List Ce), t ≤ k ∧ i = .int .i64 (t : Int) ∧ Hid (RefM wr (wa.heap.size + 1) sb2 C2 lab2 ⟨Dk.crashL st.s (fs.take t), 0, false, 0⟩) ∧ Hid (∀ x, lab2 x ≠ .no → wa.heap.size ≤ x) ∧ Hid (Below wa.heap.size wa wr)) (fun i _ => k - (intOf i).toNat)
            case atStart => exact ⟨0, _, _, _, by omega, rfl, by rw [List.take_zero]; exact HX0, HLb0, HBw⟩
            case round =>
              clear HX0 HLb0 HBw HBd c0
              obtain ⟨t, lab2, sb2, C2, ht, rfl, HXr, HLb, HBw⟩ := hrel
              have HBd := Lib.hid (HBa.out.trans (HBw.out.mono hwa))
              by_cases htk : t < k
              · have hti : (t : Int) < (k : Int) := by omega
                have htm : t < m := by omega
                have htmi : (t : Int) < (m : Int) := by omega
                obtain ⟨f, hf⟩ : ∃ f, fs[t]? = some f := ⟨_, List.getElem?_eq_getElem (by rw [HFn.out]; exact htk)⟩
                obtain ⟨x, hx⟩ : ∃ x, st.loose[t]? = some x := ⟨_, List.getElem?_eq_getElem (by rw [HM.out]; exact htm)⟩
                obtain ⟨a, s, ha, hxn, hs, hne, hca, hstep⟩ := crashL_step (k := 0) hx hf
                have hok := fit_at HFit.out hf hx
                obtain ⟨b1, o1, hA, hb10, p0', p1'⟩ := HR.out.two htk (flatFa_at hf).1 (flatFa_at hf).2
                obtain ⟨b2, o2, hAL, hb20, q0', _⟩ := HO.out.two htm (flat2_at hx).1 (flat2_at hx).2
                subst hA hAL
                have hb2 : b2 < wa.heap.size := Nat.lt_of_lt_of_le hb20 HWa.out.size
                have q0 := (HBw.out.cell (p := ⟨b2, o2 + t * 2, none⟩) hb2).trans ((HWa.out.cell (p := ⟨b2, o2 + t * 2, none⟩) hb20).trans q0')
                have p0 := (HBd.out.cell (p := ⟨b1, o1 + t * 2, none⟩) hb10).trans p0'
                have p1 := (HBd.out.cell (p := ⟨b1, o1 + t * 2 + 1, none⟩) hb10).trans p1'
                have c0 := (H.out.below HBd.out).box.at_ 0 rfl
                rw [HK.out] at c0
                obtain ⟨c, hc, k0, k1, hsec⟩ := (H.out.below HBd.out).at_ hs
                obtain ⟨fv, lv⟩ := c
                have e0 := HXr.out.box.at_ 0 rfl
                rw [show (Dk.St.mk (Dk.crashL st.s (fs.take t)) 0 false 0).s.length = j from (crashL_length _ _).trans HK.out] at e0
                obtain ⟨c2, hc2, z0, _, hsec2⟩ := HXr.out.at_ hca
                have frz := HXr.out.row.2.2 (a * 2)
                have haj : a < j := by have := (List.getElem?_eq_some_iff.1 hs).1; rw [HK.out] at this; exact this
                have hai : (a : Int) < (j : Int) := by omega
                obtain ⟨fk, fc⟩ := f
                obtain ⟨x1, N⟩ := x
                simp only at ha hxn p0 p1 q0 k0 k1 hok
                obtain rfl : a = x1 := by omega
                rw [hxn] at hok
                clear ha hxn
                have hg' : g < wr.heap.size := Nat.lt_of_lt_of_le hgw HBd.out.size
                have hs' : sb < wr.heap.size := Nat.lt_of_lt_of_le hsw HBd.out.size
                have hb1' : b1 < wr.heap.size := Nat.lt_of_lt_of_le hb10 HBd.out.size
                have hb2' : b2 < wr.heap.size := Nat.lt_of_lt_of_le hb2 HBw.out.size
                have hx' := HXr.out.box.1
                have hr' := HXr.out.row.1
                have hsb2 : wa.heap.size ≤ sb2 := HLb.out sb2 (by rw [HXr.out.tags.2]; simp)
                have hne2 : wa.heap.size + 1 ≠ sb2 := fun e => by have h1 := HXr.out.tags.1; rw [e, HXr.out.tags.2] at h1; cases h1
                have HCl := Lib.hid (fun wx (hb : Below wr.heap.size wr wx) => (⟨(hb.cell (p := ⟨wa.heap.size + 1, 0, none⟩) hx').trans e0, (hb.cell (p := ⟨b2, o2 + t * 2, none⟩) hb2').trans q0, (hb.cell (p := ⟨g, 0, none⟩) hg').trans c0, (hb.cell (p := ⟨sb, a * 2, none⟩) hs').trans k0, (hb.cell (p := ⟨sb, a * 2 + 1, none⟩) hs').trans k1, (hb.cell (p := ⟨b1, o1 + t * 2, none⟩) hb1').trans p0, (hb.cell (p := ⟨b1, o1 + t * 2 + 1, none⟩) hb1').trans p1⟩ : wx.cell? ⟨wa.heap.size + 1, 0, none⟩ = some (.slice (some ⟨sb2, 0, none⟩) j j) ∧ wx.cell? ⟨b2, o2 + t * 2, none⟩ = some (.int .i64 (a : Int)) ∧ wx.cell? ⟨g, 0, none⟩ = some (.slice (some ⟨sb, 0, none⟩) j j) ∧ wx.cell? ⟨sb, a * 2, none⟩ = some (fv) ∧ wx.cell? ⟨sb, a * 2 + 1, none⟩ = some (lv) ∧ wx.cell? ⟨b1, o1 + t * 2, none⟩ = some (.int .i64 fk) ∧ wx.cell? ⟨b1, o1 + t * 2 + 1, none⟩ = some (.int .i64 fc)))
                have HFi := Lib.hid (fun wx v (hb : Below wr.heap.size wr wx) => (⟨(World.cell?_setCell_other wx _ _ _ (fun e => by injection e with e1 _; omega)).trans (HCl.out wx hb).1, (World.cell?_setCell_other wx _ _ _ (fun e => by injection e with e1 _; omega)).trans (HCl.out wx hb).2.1, (World.cell?_setCell_other wx _ _ _ (fun e => by injection e with e1 _; omega)).trans (HCl.out wx hb).2.2.1, (World.cell?_setCell_other wx _ _ _ (fun e => by injection e with e1 _; omega)).trans (HCl.out wx hb).2.2.2.1, (World.cell?_setCell_other wx _ _ _ (fun e => by injection e with e1 _; omega)).trans (HCl.out wx hb).2.2.2.2.1, (World.cell?_setCell_other wx _ _ _ (fun e => by injection e with e1 _; omega)).trans (HCl.out wx hb).2.2.2.2.2.1, (World.cell?_setCell_other wx _ _ _ (fun e => by injection e with e1 _; omega)).trans (HCl.out wx hb).2.2.2.2.2.2⟩ : (wx.setCell ⟨sb2, a * 2, none⟩ v).cell? ⟨wa.heap.size + 1, 0, none⟩ = some (.slice (some ⟨sb2, 0, none⟩) j j) ∧ (wx.setCell ⟨sb2, a * 2, none⟩ v).cell? ⟨b2, o2 + t * 2, none⟩ = some (.int .i64 (a : Int)) ∧ (wx.setCell ⟨sb2, a * 2, none⟩ v).cell? ⟨g, 0, none⟩ = some (.slice (some ⟨sb, 0, none⟩) j j) ∧ (wx.setCell ⟨sb2, a * 2, none⟩ v).cell? ⟨sb, a * 2, none⟩ = some (fv) ∧ (wx.setCell ⟨sb2, a * 2, none⟩ v).cell? ⟨sb, a * 2 + 1, none⟩ = some (lv) ∧ (wx.setCell ⟨sb2, a * 2, none⟩ v).cell? ⟨b1, o1 + t * 2, none⟩ = some (.int .i64 fk) ∧ (wx.setCell ⟨sb2, a * 2, none⟩ v).cell? ⟨b1, o1 + t * 2 + 1, none⟩ = some (.int .i64 fc)))
                have hold := (H.out.below HBd.out).old
                have HAf := Lib.hid (fun wx (hb : Below wr.heap.size wr wx) => after_any fk fc fv lv lab s wx (hsec.leaves hb.size fun y hy => hb.block y (hold y (by rw [hy]; simp))) (H.out.fine.1 s (List.mem_of_getElem? hs)) hok)
                have hd : Below wr.heap.size wr wr.drew := (Below.refl _ _).drew
                have HS2 := Lib.hid (And.intro hca (And.intro hc2 (And.intro hsec2 hstep)))
                clear hf hx hs hca hc hsec hc2 hsec2 hstep hok p0' p1' q0' hold hne
                go_upto_region 20 with fail
                clear e0 q0 c0 k0 k1 p0 p1
                go_region_held3 (fun wx => wx.cell? ⟨wa.heap.size + 1, 0, none⟩ = some (.slice (some ⟨sb2, 0, none⟩) j j) ∧ wx.cell? ⟨b2, o2 + t * 2, none⟩ = some (.int .i64 (a : Int)) ∧ wx.cell? ⟨g, 0, none⟩ = some (.slice (some ⟨sb, 0, none⟩) j j) ∧ wx.cell? ⟨sb, a * 2, none⟩ = some (fv) ∧ wx.cell? ⟨sb, a * 2 + 1, none⟩ = some (lv) ∧ wx.cell? ⟨b1, o1 + t * 2, none⟩ = some (.int .i64 fk) ∧ wx.cell? ⟨b1, o1 + t * 2 + 1, none⟩ = some (.int .i64 fc)) (first | exact HFi.out _ _ (by repeat (first | with_reducible exact Below.refl _ _ | assumption | with_reducible refine below_al ?_ _ | with_reducible refine below_dr ?_)) | exact HCl.out _ (by repeat (first | with_reducible exact Below.refl _ _ | assumption | with_reducible refine below_al ?_ _ | with_reducible refine below_dr ?_))) (first | (go_at_call 69; refine (HAf.out _ hd).mono ?_; rintro e v9 ⟨q9, c9, rfl, hq9, hl9, hr9, hb9⟩; have hB9 : Below wr.heap.size wr v9 := below_next hd hb9; have z2 := (hB9.cell (p := ⟨sb2, a * 2, none⟩) hr').trans z0; have f2 := (hB9.frozen (p := ⟨sb2, a * 2, none⟩) hr').trans frz))
                all_goals
                  have HB9 := Lib.hid hB9
                  have HR9 := Lib.hid hr9
                  have HL9 := Lib.hid hl9
                  have HQ9 := Lib.hid (show wr.heap.size ≤ q9 from hq9)
                  clear hB9 hr9 hl9 hq9 hb9 z2 f2 HCl HFi
                  go_wp2_with fail
                  go_roundw
                  case rel => exact crash_step HXr HLb HBw HS2.out.1 HS2.out.2.1 HS2.out.2.2.1 HS2.out.2.2.2 HB9 HR9 HL9 HQ9 (by omega)
                  case measure => simp [intOf]; omega
              · have htk' : ¬ (t : Int) < (k : Int) := by omega
                obtain rfl : t = k := by omega
                have hres := HXr.out
                rw [List.take_of_length_le (by rw [HFn.out]; exact Nat.le_refl _)] at hres
                have HRes := Lib.hid (show IsRef wr (wa.heap.size + 1) lab2 (st.crash fs) from ⟨sb2, C2, hres⟩)
                have HLw := Lib.hid (fun y (hy : lab2 y ≠ .no) => Nat.le_trans hwa (HLb.out y hy))
                clear hres
                go_wp2
                go_ret2
                exact .inl ⟨HYes.out, wa.heap.size + 1, lab2, rfl, HRes.out, HBd.out, HLw.out⟩
end Go.Proofs.Ytbdomhookjmmgaa
namespace Go.Proofs.Ytbdomhookjmmgaa
open Go.RowKit
set_option linter.unusedVariables false
set_option maxRecDepth 100000 in
set_option maxHeartbeats 4000000 in
theorem sameloose_any (A B : Option Addr) (n ca cb : Nat) (l : List (Nat × Nat)) (w : World) (ha : RdC 2 w A n (flat2 l)) (hb : RdC 2 w B n (flat2 l)) (hl : l.length = n) (hn : n ≤ 10000) :
    Calls Try.prog 39 #[.slice A n ca, .slice B n cb] w fun e w' => e = .returned (.bool true) ∧ Below w.heap.size w w' := by
  have HA := Lib.hid ha
  have HB := Lib.hid hb
  have HL := Lib.hid hl
  clear ha hb hl
  go_enter Try.func39, Try.ntmps39
  go_wp2_with fail
  go_loopw [5] (fun i wr => ∃ j : Nat, j ≤ n ∧ i = .int .i64 (j : Int) ∧ Hid (Below w.heap.size w wr)) (fun i _ => n - (intOf i).toNat)
  case atStart => exact ⟨0, by omega, rfl, Lib.hid (Below.refl _ _)⟩
  case round =>
    obtain ⟨j, hj, rfl, HW⟩ := hrel
    by_cases hjn : j < n
    · have hji : (j : Int) < (n : Int) := by omega
      obtain ⟨x, hx⟩ : ∃ x, l[j]? = some x := ⟨_, List.getElem?_eq_getElem (by rw [HL.out]; exact hjn)⟩
      obtain ⟨b1, o1, rfl, hb1, p0, p1⟩ := (HA.out.below HW.out).two hjn (flat2_at hx).1 (flat2_at hx).2
      obtain ⟨b2, o2, rfl, hb2, q0, q1⟩ := (HB.out.below HW.out).two hjn (flat2_at hx).1 (flat2_at hx).2
      obtain ⟨x1, x2⟩ := x
      simp only at p0 p1 q0 q1
      clear hx
      go_upto_region 6 with fail
      go_quiet (fail)
      have HW3 := Lib.hid (below_next HW.out (rk_drewN _ wr nq))
      generalize wr.drewN nq = w3 at *
      go_wp2_with fail
      go_roundw
      case rel => exact ⟨j + 1, by omega, by go_num, HW3⟩
      case measure => simp [intOf]; omega
    · have hji : ¬ (j : Int) < (n : Int) := by omega
      go_wp2
      go_ret
      exact ⟨rfl, HW.out⟩
end Go.Proofs.Ytbdomhookjmmgaa
namespace Go.Proofs.Ytbdomhookjmmgaa
open Go.RowKit
set_option linter.unusedVariables false
structure Duo (a w : World) (d g : Nat) (st : Dk.St) (cnt : Nat) (lab labR : Nat → Tag) : Prop where
  base : Below a.heap.size a w
  disk : IsDisk w d lab st
  ref : IsRef w g labR st
  la : ∀ k, lab k ≠ .no → a.heap.size ≤ k
  lr : ∀ k, labR k ≠ .no → a.heap.size ≤ k
  apart : ∀ k, lab k = .no ∨ labR k = .no
  low : st.low cnt
/-- Blocks of neither disk stay. -/
structure Fr (lab labR : Nat → Tag) (w w' : World) : Prop where
  size : w.heap.size ≤ w'.heap.size
  block : ∀ k, k < w.heap.size → lab k = .no → labR k = .no → w'.heap[k]? = w.heap[k]?
section
variable {a w w1 w2 : World} {d g cnt : Nat} {st st1 : Dk.St} {lab labR lab1 : Nat → Tag}
theorem Duo.below (h : Duo a w d g st cnt lab labR) (hb : Below w.heap.size w w1) : Duo a w1 d g st cnt lab labR := ⟨h.base.trans (hb.mono h.base.size), h.disk.below hb, h.ref.below hb, h.la, h.lr, h.apart, h.low⟩
theorem Duo.more (h : Duo a w d g st cnt lab labR) : Duo a w d g st (cnt + 1) lab labR := ⟨h.base, h.disk, h.ref, h.la, h.lr, h.apart, ⟨h.low.1, by have := h.low.2.1; omega, h.low.2.2.1, h.low.2.2.2.1, fun s hs => Nat.le_succ_of_le (h.low.2.2.2.2 s hs)⟩⟩
theorem Duo.new_ (h : Duo a w d g st cnt lab labR) {k : Nat} (hk : w.heap.size ≤ k) : lab k = .no ∧ labR k = .no := ⟨h.disk.new_ hk, by
  cases e : labR k with
  | no => rfl
  | _ => exact absurd (h.ref.old k (by rw [e]; simp)) (by omega)⟩
/-- Behind the program's call: the document's stands as it stood. -/
structure Half (a w w1 : World) (d g : Nat) (st st1 : Dk.St) (lab labR lab1 : Nat → Tag) : Prop where
  base : Below a.heap.size a w1
  disk : IsDisk w1 d lab1 st1
  ref : IsRef w1 g labR st
  la : ∀ k, lab1 k ≠ .no → a.heap.size ≤ k
  apart : ∀ k, lab1 k = .no ∨ labR k = .no
  stay : Lab w lab lab1
  fr : Fr lab labR w w1
theorem Duo.half (h : Duo a w d g st cnt lab labR) (hD : IsDisk w1 d lab1 st1) (hC : Chg lab w w1) (hL : Lab w lab lab1) : Half a w w1 d g st st1 lab labR lab1 where
  base := hC.below h.base h.la h.base.size
  disk := hD
  ref := h.ref.keep hC.size fun k hk => hC.block k (h.ref.old k hk) ((h.apart k).resolve_right hk)
  la := hL.above h.la h.base.size
  apart := fun k => by
    by_cases e : k < w.heap.size
    · rw [hL k e]; exact h.apart k
    · exact .inr (h.new_ (by omega)).2
  stay := hL
  fr := ⟨hC.size, fun k hk h1 _ => hC.block k hk h1⟩
theorem Half.whole (h : Half a w w1 d g st st1 lab labR lab1) (h0 : Duo a w d g st cnt lab labR) (hl : LeftR labR g st1 w1 w2) {cnt' : Nat} (hlow : st1.low cnt') : ∃ lab2, Duo a w2 d g st1 cnt' lab1 lab2 ∧ Fr lab labR w w2 ∧ Lab w1 labR lab2 := by
  obtain ⟨lab2, hR, hC, hL⟩ := hl
  refine ⟨lab2, ⟨hC.below h.base h0.lr h.base.size, h.disk.keep hC.size fun k hk => hC.block k (h.disk.old k hk) ((h.apart k).resolve_left hk), hR, h.la, hL.above h0.lr h.base.size, fun k => ?_, hlow⟩, ⟨Nat.le_trans h.fr.size hC.size, fun k hk h1 h2 => (hC.block k (Nat.lt_of_lt_of_le hk h.fr.size) h2).trans (h.fr.block k hk h1 h2)⟩, hL⟩
  by_cases e : k < w1.heap.size
  · rw [hL k e]; exact h.apart k
  · exact .inl (h.disk.new_ (by omega))
end
theorem Fr.cell {lab labR : Nat → Tag} {w w' : World} (h : Fr lab labR w w') {b i : Nat} (hb : b < w.heap.size) (h1 : lab b = .no) (h2 : labR b = .no) : w'.cell? ⟨b, i, none⟩ = w.cell? ⟨b, i, none⟩ := World.cell?_of_block (a := ⟨b, i, none⟩) (h.block b hb h1 h2)

end Go.Proofs.Ytbdomhookjmmgaa
