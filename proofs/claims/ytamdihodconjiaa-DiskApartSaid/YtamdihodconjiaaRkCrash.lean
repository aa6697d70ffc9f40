/- The document's disk: Crash. -/
import Derived.Test.YtamdihodconjiaaRkAfter
import Derived.Test.YtamdihodconjiaaRkFit
import Derived.Test.YtamdihodconjiaaRkWriteD
import Derived.Test.YtamdihodconjiaaDkAny
import Derived.Deep.QuietTactic
import Derived.BigQuiet
namespace Go.Proofs.Ytamdihodconjiaa
open Go.RowKit
set_option linter.unusedVariables false
theorem rk_drewN (B : Nat) (w : World) (n : Nat) : Below B w (w.drewN n) := (Below.refl _ _).trans ⟨rfl, rfl, rfl, Nat.le_refl _, fun _ _ => rfl⟩
/-- What Crash gives. -/
def GivesRCrash (st : Dk.St) (fs : List Dk.Fa) (w : World) (e : Ending) (w' : World) : Prop :=
  (st.crashE fs = 0 ∧ ∃ g lab, e = .returned (.tuple #[.pointer (some ⟨g, 0, none⟩), .int .i64 0]) ∧ IsRef w' g lab (st.crash fs) ∧ Below w.heap.size w w' ∧ ∀ k, lab k ≠ .no → w.heap.size ≤ k) ∨
  (st.crashE fs ≠ 0 ∧ e = .returned (.tuple #[.pointer none, .int .i64 (st.crashE fs)]) ∧ Below w.heap.size w w')
theorem rtell_many {st : Dk.St} {fs : List Dk.Fa} {w w' : World} (h : st.loose.length < fs.length) (hb : Below w.heap.size w w') : GivesRCrash st fs w (.returned (.tuple #[.pointer none, .int .i64 3])) w' := by
  have e : st.crashE fs = 3 := by unfold Dk.St.crashE; rw [if_pos h]
  exact .inr ⟨by omega, by rw [e], hb⟩
theorem rtell_range {st : Dk.St} {fs : List Dk.Fa} {w w' : World} (h : ¬ st.loose.length < fs.length) (hf : Dk.fit fs st.loose = false) (hb : Below w.heap.size w w') : GivesRCrash st fs w (.returned (.tuple #[.pointer none, .int .i64 5])) w' := by
  have e : st.crashE fs = 5 := by unfold Dk.St.crashE; rw [if_neg h, hf]; rfl
  exact .inr ⟨by omega, by rw [e], hb⟩
theorem loose_sec {L : List Dk.Sec} : ∀ {k i : Nat} {x : Nat × Nat}, (Dk.looseF k L)[i]? = some x → ∃ a s, x.1 = k + a ∧ x.2 = s.l.length ∧ L[a]? = some s ∧ s.l ≠ [] := by
  induction L with
  | nil => intro k i x h; simp [Dk.looseF] at h
  | cons y r ih =>
    intro k i x h
    unfold Dk.looseF at h
    split at h
    · obtain ⟨a, s, h1, h2, h3, h4⟩ := ih h
      exact ⟨a + 1, s, by omega, h2, h3, h4⟩
    · rename_i hy
      cases i with
      | zero => simp at h; subst h; exact ⟨0, y, rfl, rfl, rfl, hy⟩
      | succ i =>
        simp only [List.getElem?_cons_succ] at h
        obtain ⟨a, s, h1, h2, h3, h4⟩ := ih h
        exact ⟨a + 1, s, by omega, h2, h3, h4⟩
/-- The fixed sectors of L, in memory of the call's own. -/
def NwF (v wr : World) (L : List Dk.Sec) (k : Nat) (C : List Ce) : Prop := ∀ (j : Nat) (c : Ce), C[j]? = some c → c.l = nilV ∧ (j < k → ∃ s q cq, L[j]? = some s ∧ c.f = .slice (some ⟨q, 0, none⟩) 128 cq ∧ v.heap.size + 2 ≤ q ∧ q < wr.heap.size ∧ Rd wr (some ⟨q, 0, none⟩) 128 s.f)
theorem ref_crash {v wr : World} {k : Nat} {C : List Ce} {L : List Dk.Sec} (hk1 : 1 ≤ k) (hk2 : k ≤ 4096) (hL : L.length = k) (hf : ∀ s ∈ L, s.f.length = 128 ∧ ∀ x ∈ s.f, x < 256) (hbox : Holds wr (v.heap.size + 1) [.slice (some ⟨v.heap.size, 0, none⟩) k k, .bool false, .int .i64 0, .int .i64 0]) (hrow : Holds wr v.heap.size (flatR C)) (hlen : C.length = k) (hn : NwF v wr L k C) :
    RefM wr (v.heap.size + 1) v.heap.size C (labW2 v wr) ⟨Dk.crashL L [], 0, false, 0⟩ := by
  have hsl : (Dk.crashL L []).length = k := by rw [crashL_length]; exact hL
  have hcl : Dk.crashL L [] = L.map fun s => ⟨s.f, []⟩ := crashL_nil L
  refine ⟨by show Holds wr _ [.slice _ (Dk.crashL L []).length (Dk.crashL L []).length, _, _, _]; rw [hsl]; exact hbox, hrow, hlen.trans hsl.symm, fun i c s h1 h2 => ?_, ⟨by unfold labW2; rw [if_neg (by omega), if_pos rfl], by unfold labW2; rw [if_pos rfl]⟩, fun j hj => ?_, ⟨fun s hs => ?_, by show 1 ≤ (Dk.crashL L []).length; rw [hsl]; exact hk1, by show (Dk.crashL L []).length ≤ 4096; rw [hsl]; exact hk2⟩⟩
  · have h2' : (Dk.crashL L [])[i]? = some s := h2
    rw [hcl, List.getElem?_map] at h2'
    obtain ⟨e1, e2⟩ := hn i c h1
    obtain ⟨t, q, cq, ht, e3, h4, h5, h6⟩ := e2 (by have := (List.getElem?_eq_some_iff.1 h1).1; omega)
    rw [ht] at h2'
    injection h2' with h2'
    subst h2'
    exact ⟨⟨q, cq, e3, h6, by unfold labW2; rw [if_neg (by omega), if_neg (by omega), if_pos ⟨by omega, h5⟩]⟩, by simp, none, 0, [], e1, RdV.nil _ _, by simp, by simp⟩
  · unfold labW2 at hj
    split at hj
    · rename_i e; subst e; exact hrow.1
    · split at hj
      · rename_i e; subst e; exact hbox.1
      · split at hj
        · rename_i e; exact e.2
        · exact absurd rfl hj
  · have hs' : s ∈ Dk.crashL L [] := hs
    rw [hcl] at hs'
    obtain ⟨t, ht, rfl⟩ := List.mem_map.1 hs'
    exact ⟨(hf t ht).1, (hf t ht).2, by simp⟩
theorem bel_size2 {w W : World} (h : Below w.heap.size w W) : w.heap.size ≤ W.heap.size := h.size
theorem nwf_step {wa wr v2 : World} {K j q2 c2 : Nat} {L : List Dk.Sec} {D : List Ce} {d : Ce} {s : Dk.Sec} (HX : Hid (Holds wr (wa.heap.size + 1) [.slice (some ⟨wa.heap.size, 0, none⟩) K K, .bool false, .int .i64 0, .int .i64 0])) (HR : Hid (Holds wr wa.heap.size (flatR D))) (HC : Hid (D.length = K)) (HW : Hid (NwF wa wr L j D)) (HB : Hid (Below wa.heap.size wa wr)) (HZ : Hid (wa.heap.size + 2 ≤ wr.heap.size))
    (Hd : Hid (D[j]? = some d)) (HS : Hid (L[j]? = some s)) (HF : Hid (∀ x ∈ s.f, x < 256)) (HB7 : Hid (Below wr.heap.size wr v2)) (HO7 : Hid (OwnV v2 wr.heap.size 5 (some ⟨q2, 0, none⟩) 128 c2 (bv s.f))) (HL7 : Hid (q2 < v2.heap.size)) (HQ7 : Hid (wr.heap.size ≤ q2)) (hj : j + 1 ≤ K) :
    ∃ (j' : Nat) (D' : List Ce), j' ≤ K ∧ Value.int .i64 ((j : Int) + 1) = .int .i64 (j' : Int) ∧ Hid (Holds (v2.setCell ⟨wa.heap.size, j * 2, none⟩ (.slice (some ⟨q2, 0, none⟩) 128 c2)) (wa.heap.size + 1) [.slice (some ⟨wa.heap.size, 0, none⟩) K K, .bool false, .int .i64 0, .int .i64 0]) ∧ Hid (Holds (v2.setCell ⟨wa.heap.size, j * 2, none⟩ (.slice (some ⟨q2, 0, none⟩) 128 c2)) wa.heap.size (flatR D')) ∧ Hid (D'.length = K) ∧ Hid (NwF wa (v2.setCell ⟨wa.heap.size, j * 2, none⟩ (.slice (some ⟨q2, 0, none⟩) 128 c2)) L j' D') ∧ Hid (Below wa.heap.size wa (v2.setCell ⟨wa.heap.size, j * 2, none⟩ (.slice (some ⟨q2, 0, none⟩) 128 c2))) ∧ Hid (wa.heap.size + 2 ≤ (v2.setCell ⟨wa.heap.size, j * 2, none⟩ (.slice (some ⟨q2, 0, none⟩) 128 c2)).heap.size) := by
  have hz : (v2.setCell ⟨wa.heap.size, j * 2, none⟩ (.slice (some ⟨q2, 0, none⟩) 128 c2)).heap.size = v2.heap.size := by simp [World.setCell]
  have hb := HB7.out
  have hzz := HZ.out
  have hq := HQ7.out
  have hbs := hb.size
  have hr1 := ((HR.out.below hb).set (j * 2) (.slice (some ⟨q2, 0, none⟩) 128 c2) (by rw [flatR_length, HC.out]; omega))
  rw [← flatR_set_f _ Hd.out] at hr1
  refine ⟨j + 1, D.set j ⟨.slice (some ⟨q2, 0, none⟩) 128 c2, d.l⟩, hj, by go_num, Lib.hid ((HX.out.below hb).other (by omega)), Lib.hid hr1, Lib.hid (by rw [List.length_set]; exact HC.out), Lib.hid (fun i ci hi => ?_), Lib.hid ((HB.out.trans (hb.mono HB.out.size)).setCell (p := ⟨wa.heap.size, j * 2, none⟩) (Nat.le_refl _) _), Lib.hid (by rw [hz]; omega)⟩
  by_cases e : i = j
  · subst e
    rw [List.getElem?_set_self (by rw [HC.out]; omega)] at hi
    injection hi with hi
    subst hi
    exact ⟨(HW.out i d Hd.out).1, fun _ => ⟨s, q2, c2, HS.out, rfl, by omega, by rw [hz]; exact HL7.out, (HO7.out.rdB HF.out).block (by omega) (Below.heap_setCell _ _ _ _ (by show q2 ≠ wa.heap.size; omega))⟩⟩
  · rw [List.getElem?_set_ne (fun e2 => e e2.symm)] at hi
    obtain ⟨g1, g2⟩ := HW.out i ci hi
    refine ⟨g1, fun hlt => ?_⟩
    obtain ⟨t, q, cq, e1, e2, e3, e4, e5⟩ := g2 (by omega)
    exact ⟨t, q, cq, e1, e2, e3, by rw [hz]; omega, (e5.below hb).block (by omega) (Below.heap_setCell _ _ _ _ (by show q ≠ wa.heap.size; omega))⟩
theorem crash_step {wa wr v9 : World} {g2 sb2 t k a q9 c9 : Nat} {C2 : List Ce} {c2 : Ce} {lab2 : Nat → Tag} {L : List Dk.Sec} {fs : List Dk.Fa} {s : Dk.Sec} {b : List Nat} (HX : Hid (RefM wr g2 sb2 C2 lab2 ⟨Dk.crashL L (fs.take t), 0, false, 0⟩)) (HLb : Hid (∀ x, lab2 x ≠ .no → wa.heap.size ≤ x)) (HB : Hid (Below wa.heap.size wa wr))
    (hca : (Dk.crashL L (fs.take t))[a]? = some ⟨s.f, []⟩) (hc2 : C2[a]? = some c2) (hsec : SecR wr lab2 c2 ⟨s.f, []⟩) (hstep : Dk.crashL L (fs.take (t + 1)) = Dk.upd (Dk.crashL L (fs.take t)) a (fun _ => ⟨b, []⟩)) (HB9 : Hid (Below wr.heap.size wr v9)) (HR9 : Hid (Rd v9 (some ⟨q9, 0, none⟩) 128 b)) (HL9 : Hid (q9 < v9.heap.size)) (HQ9 : Hid (wr.heap.size ≤ q9)) (ht : t + 1 ≤ k) :
    ∃ (t' : Nat) (lab' : Nat → Tag) (sb' : Nat) (C' : List Ce), t' ≤ k ∧ Value.int .i64 ((t : Int) + 1) = .int .i64 (t' : Int) ∧ Hid (RefM (v9.setCell ⟨sb2, a * 2, none⟩ (.slice (some ⟨q9, 0, none⟩) 128 c9)) g2 sb' C' lab' ⟨Dk.crashL L (fs.take t'), 0, false, 0⟩) ∧ Hid (∀ x, lab' x ≠ .no → wa.heap.size ≤ x) ∧ Hid (Below wa.heap.size wa (v9.setCell ⟨sb2, a * 2, none⟩ (.slice (some ⟨q9, 0, none⟩) 128 c9))) := by
  have hr := HR9.out
  have hU := HX.out.upd (c' := ⟨.slice (some ⟨q9, 0, none⟩) 128 c9, c2.l⟩) (G := fun _ => ⟨b, []⟩) HB9.out (Ch1.set sb2 (a * 2) v9 (.slice (some ⟨q9, 0, none⟩) 128 c9)) hca (by
      have := (HX.out.row.below HB9.out).set (a * 2) (.slice (some ⟨q9, 0, none⟩) 128 c9) (by rw [flatR_length]; have := (List.getElem?_eq_some_iff.1 hc2).1; omega)
      rw [flatR_set_f _ hc2]
      exact this) ⟨⟨q9, c9, rfl, hr, labN_new HQ9.out HL9.out⟩, (hsec.l.leaves HB9.out.size fun y hy => HB9.out.block y (HX.out.old y (by rw [hy]; simp))).relab (labN_keep HX.out.old)⟩ (by simp [World.setCell]) (fine_upd HX.out.fine hca ⟨hr.1, hr.2.1⟩ (by simp))
  obtain ⟨lab3, ⟨sb3, C3, h3⟩, hC3, hL3⟩ := hU
  exact ⟨t + 1, lab3, sb3, C3, ht, by go_num, Lib.hid (by rw [hstep]; exact h3), Lib.hid (fun x hx => by
    by_cases e : x < wr.heap.size
    · exact HLb.out x (by rw [← hL3 x e]; exact hx)
    · have := HB.out.size; omega), Lib.hid (hC3.below HB.out HLb.out HB.out.size)⟩
set_option maxRecDepth 100000 in
set_option maxHeartbeats 8000000 in
theorem rcrash_any (w : World) (g : Nat) (lab : Nat → Tag) (st : Dk.St) (h : IsRef w g lab st) (A : Option Addr) (n c : Nat) (fs : List Dk.Fa) (hr : RdC 2 w A n (flatFa fs)) (hn : fs.length = n) (hbig : n ≤ 9223372036854775807) :
    Calls Try.prog 34 #[.pointer (some ⟨g, 0, none⟩), .slice A n c] w (GivesRCrash st fs w) := by
  have HLs := Lib.hid (rloose_any w g lab st h)
  have hll : st.loose.length ≤ 4096 := by obtain ⟨_, _, h⟩ := h; exact Nat.le_trans (looseF_len _ _) h.fine.2.2
  have hN : ∀ x ∈ st.loose, x.2 ≤ 2000 := by
    intro x hx
    obtain ⟨sb, C, h⟩ := h
    obtain ⟨i, hi⟩ := List.getElem?_of_mem hx
    obtain ⟨a, s, h1, h2, h3, h4⟩ := loose_sec (L := st.s) (k := 0) hi
    obtain ⟨c, hc, _, _, hsec⟩ := h.at_ h3
    rw [h2]
    exact hsec.l.1
  have HI := Lib.hid h
  have HR := Lib.hid hr
  have HFn := Lib.hid hn
  have HN := Lib.hid hN
  have HLl := Lib.hid hll
  clear h hr hn hN
  go_enter Try.func34, Try.ntmps34
  go_wp2_with fail
  refine HLs.out.mono ?_
  rintro e w1 ⟨AL, cL, rfl, hO, hb⟩
  have HO := Lib.hid hO.rd
  have HB := Lib.hid hb
  have hml : st.loose.length = st.loose.length := rfl
  obtain ⟨m, hm⟩ : ∃ m, st.loose.length = m := ⟨_, rfl⟩
  have HM := Lib.hid hm
  rw [hm] at HO hll ⊢
  clear hO hb hml hm HLs
  by_cases hnm : m < n
  · have hi : (m : Int) < (n : Int) := by omega
    go_wp2
    go_ret2
    exact rtell_many (by rw [HM.out, HFn.out]; exact hnm) HB.out
  · have hi : ¬ (m : Int) < (n : Int) := by omega
    go_upto_region 6 with fail
    go_wp2_with fail
    go_loopw [7] (fun i wr => ∃ k : Nat, k ≤ n ∧ i = .int .i64 (k : Int) ∧ Hid (Below w1.heap.size w1 wr) ∧ Hid (Dk.fit (fs.take k) st.loose = true)) (fun i _ => n - (intOf i).toNat)
    case atStart => exact ⟨0, by omega, rfl, Lib.hid (Below.refl _ _), Lib.hid (by rw [List.take_zero]; rfl)⟩
    case round =>
      obtain ⟨k, hk, rfl, HW, HT⟩ := hrel
      by_cases hkn : k < n
      · have hki : (k : Int) < (n : Int) := by omega
        have hkm : (k : Int) < (m : Int) := by omega
        have hkm' : k < m := by omega
        obtain ⟨f, hf⟩ : ∃ f, fs[k]? = some f := ⟨_, List.getElem?_eq_getElem (by rw [HFn.out]; exact hkn)⟩
        obtain ⟨x, hx⟩ : ∃ x, st.loose[k]? = some x := ⟨_, List.getElem?_eq_getElem (by rw [HM.out]; exact hkm')⟩
        obtain ⟨b1, o1, rfl, hb1, p0, p1⟩ := ((HR.out.below HB.out).below HW.out).two hkn (flatFa_at hf).1 (flatFa_at hf).2
        obtain ⟨b2, o2, rfl, hb2, q0, q1⟩ := (HO.out.below HW.out).two hkm' (flat2_at hx).1 (flat2_at hx).2
        have HF1 := Lib.hid (fit_step hf hx)
        have hxn := HN.out x (List.mem_of_getElem? hx)
        obtain ⟨fk, fc⟩ := f
        obtain ⟨x1, N⟩ := x
        simp only at p0 p1 q0 q1 hxn
        have HX := Lib.hid (And.intro hf hx)
        have hx1 := Holds.new wr #[.int .i64 fk, .int .i64 fc] 55
        have hbx : Below wr.heap.size wr (wr.alloc (.cells #[.int .i64 fk, .int .i64 fc] 55)) := (Below.refl _ _).alloc (Nat.le_refl _) _
        have q1' := (hbx.cell (p := ⟨b2, o2 + k * 2 + 1, none⟩) hb2).trans q1
        have HW2 := Lib.hid (below_next HW.out hbx)
        go_upto_region 10 with fail
        clear p0 p1 q0 q1 hb1
        have y0 := hx1.at_ 0 rfl
        have y1 := hx1.at_ 1 rfl
        have hlt := hx1.1
        have hb2' : b2 < (wr.alloc (.cells #[.int .i64 fk, .int .i64 fc] 55)).heap.size := Nat.lt_of_lt_of_le hb2 hbx.size
        clear hx1 hbx hb2
        generalize (wr.alloc (.cells #[.int .i64 fk, .int .i64 fc] 55)) = w2 at *
        have HBad : ¬ Dk.Fa.ok ⟨fk, fc⟩ N → Hid (Dk.fit fs st.loose = false) := fun hno => Lib.hid (fit_no (i := k + 1) (by rw [HF1.out, decide_eq_false hno, Bool.and_false]))
        have HGood : Dk.Fa.ok ⟨fk, fc⟩ N → Hid (Dk.fit (fs.take (k + 1)) st.loose = true) := fun hok => Lib.hid (by rw [HF1.out, HT.out, decide_eq_true hok]; rfl)
        have key : (decide (fk < 0) = true ∧ ¬ Dk.Fa.ok ⟨fk, fc⟩ N) ∨ (decide (fk < 0) = false ∧ decide ((N : Int) < fk) = true ∧ ¬ Dk.Fa.ok ⟨fk, fc⟩ N) ∨ (decide (fk < 0) = false ∧ decide ((N : Int) < fk) = false ∧ decide (fc < 0) = true ∧ ¬ Dk.Fa.ok ⟨fk, fc⟩ N) ∨ (decide (fk < 0) = false ∧ decide ((N : Int) < fk) = false ∧ decide (fc < 0) = false ∧ decide (128 ≤ fc) = true ∧ ¬ Dk.Fa.ok ⟨fk, fc⟩ N) ∨ (decide (fk < 0) = false ∧ decide ((N : Int) < fk) = false ∧ decide (fc < 0) = false ∧ decide (128 ≤ fc) = false ∧ decide (0 < fc) = true ∧ (fk == (N : Int)) = true ∧ ¬ Dk.Fa.ok ⟨fk, fc⟩ N) ∨ (decide (fk < 0) = false ∧ decide ((N : Int) < fk) = false ∧ decide (fc < 0) = false ∧ decide (128 ≤ fc) = false ∧ decide (0 < fc) = true ∧ (fk == (N : Int)) = false ∧ Dk.Fa.ok ⟨fk, fc⟩ N) ∨ (decide (fk < 0) = false ∧ decide ((N : Int) < fk) = false ∧ decide (fc < 0) = false ∧ decide (128 ≤ fc) = false ∧ decide (0 < fc) = false ∧ Dk.Fa.ok ⟨fk, fc⟩ N) := by
          unfold Dk.Fa.ok
          simp only [decide_eq_true_eq, decide_eq_false_iff_not, beq_iff_eq, beq_eq_false_iff_ne]
          omega
        have hle := HW2.out
        clear HF1 HT
        rcases key with ⟨d1, hp⟩ | ⟨d1, d2, hp⟩ | ⟨d1, d2, d3, hp⟩ | ⟨d1, d2, d3, d4, hp⟩ | ⟨d1, d2, d3, d4, d5, d6, hp⟩ | ⟨d1, d2, d3, d4, d5, d6, hp⟩ | ⟨d1, d2, d3, d4, d5, hp⟩
        iterate 5
          (have HNo := HBad hp
           clear HBad HGood hp
           go_quiet (fail)
           have HW3 := Lib.hid (HB.out.trans ((below_next HW2.out (rk_drewN _ w2 nq)).mono HB.out.size))
           generalize w2.drewN nq = w3 at *
           go_wp2
           go_ret2
           exact rtell_range (by rw [HM.out, HFn.out]; exact hnm) HNo.out HW3.out)
        iterate 2
          (have HYes := HGood hp
           clear HBad HGood hp
           go_quiet (fail)
           have HW3 := Lib.hid (below_next HW2.out (rk_drewN _ w2 nq))
           generalize w2.drewN nq = w3 at *
           go_wp2_with fail
           go_roundw
           case rel => exact ⟨k + 1, by omega, by go_num, HW3, HYes⟩
           case measure => simp [intOf]; omega)
      · obtain rfl : k = n := by omega
        have hki : ¬ (k : Int) < (k : Int) := by omega
        have HYes := Lib.hid (show st.crashE fs = 0 by
          have h1 := HT.out
          rw [List.take_of_length_le (by rw [HFn.out]; omega)] at h1
          unfold Dk.St.crashE
          rw [if_neg (by rw [HM.out, HFn.out]; exact hnm), h1]
          rfl)
        have HFit := Lib.hid (show Dk.fit fs st.loose = true by have h1 := HT.out; rw [List.take_of_length_le (by rw [HFn.out]; omega)] at h1; exact h1)
        obtain ⟨sb, C, hM⟩ := HI.out
        have H := Lib.hid hM
        obtain ⟨wa, rfl⟩ : ∃ z : World, z = wr := ⟨wr, rfl⟩
        have HBa := Lib.hid (HB.out.trans (HW.out.mono HB.out.size))
        obtain ⟨K, hK⟩ : ∃ K, st.s.length = K := ⟨_, rfl⟩
        have HK := Lib.hid hK
        have hK1 : 1 ≤ K := by have := hM.fine.2.1; omega
        have hK2 : K ≤ 4096 := by have := hM.fine.2.2; omega
        have hK2i : (K : Int) ≤ 4096 := by omega
        have c0 := (hM.below HBa.out).box.at_ 0 rfl
        rw [hK] at c0
        have hmk := make_ones K hK2 wa
        have hgw : g < w.heap.size := hM.box.1
        have hsw : sb < w.heap.size := hM.row.1
        have hwa := HBa.out.size
        have hrow := Holds.new wa (madeCells #[nilV, nilV] (K * 2)) 61
        rw [made_nil] at hrow
        have hb1 := (Below.refl wa.heap.size wa).alloc (Nat.le_refl _) (.cells (madeCells #[nilV, nilV] (K * 2)) 61)
        have hs1 : (wa.alloc (.cells (madeCells #[nilV, nilV] (K * 2)) 61)).heap.size = wa.heap.size + 1 := by simp
        have Hrow := Lib.hid hrow
        have HB1 := Lib.hid hb1
        have Hs1 := Lib.hid hs1
        have HWa := Lib.hid HW.out
        clear hrow hb1 hs1 hK hM HT HW hkn
        go_upto_region 12 with fail
        generalize (wa.alloc (.cells (madeCells #[nilV, nilV] (K * 2)) 61)) = w5 at *
        have hbox := Holds.new w5 #[.slice (some ⟨wa.heap.size, 0, none⟩) K K, .bool false, .int .i64 0, .int .i64 0] 64
        rw [Hs1.out] at hbox
        have hb2 := HB1.out.alloc HB1.out.size (.cells #[.slice (some ⟨wa.heap.size, 0, none⟩) K K, .bool false, .int .i64 0, .int .i64 0] 64)
        have hrow2 := Hrow.out.alloc (.cells #[.slice (some ⟨wa.heap.size, 0, none⟩) K K, .bool false, .int .i64 0, .int .i64 0] 64)
        have hs2 : (w5.alloc (.cells #[.slice (some ⟨wa.heap.size, 0, none⟩) K K, .bool false, .int .i64 0, .int .i64 0] 64)).heap.size = wa.heap.size + 2 := by simp [Hs1.out]
        have Hbox := Lib.hid hbox
        have HB2 := Lib.hid hb2
        have Hrow2 := Lib.hid hrow2
        have Hs2 := Lib.hid hs2
        clear hbox hb2 hrow2 hs2
        go_upto_region 13 with fail
        clear hmk c0
        have ebx : (w5.heap.size) = wa.heap.size + 1 := Hs1.out
        rw [ebx]
        generalize (w5.alloc (.cells #[.slice (some ⟨wa.heap.size, 0, none⟩) K K, .bool false, .int .i64 0, .int .i64 0] 64)) = w6 at *
        clear ebx Hrow HB1 Hs1
        go_wp2_with fail
        go_loopw [10] (fun i wr => ∃ (j : Nat) (D : List Ce), j ≤ K ∧ i = .int .i64 (j : Int) ∧ Hid (Holds wr (wa.heap.size + 1) [.slice (some ⟨wa.heap.size, 0, none⟩) K K, .bool false, .int .i64 0, .int .i64 0]) ∧ Hid (Holds wr wa.heap.size (flatR D)) ∧ Hid (D.length = K) ∧ Hid (NwF wa wr st.s j D) ∧ Hid (Below wa.heap.size wa wr) ∧ Hid (wa.heap.size + 2 ≤ wr.heap.size)) (fun i _ => K - (intOf i).toNat)
        case atStart => exact ⟨0, _, by omega, rfl, Hbox, Hrow2, Lib.hid (by simp), Lib.hid (fun j c hj => ⟨by rw [List.eq_of_mem_replicate (List.mem_of_getElem? hj)], fun h => absurd h (by omega)⟩), HB2, Lib.hid (by rw [Hs2.out]; omega)⟩
        case round =>
          obtain ⟨j, D, hj, rfl, HX, HRw, HC, HNw, HBw, HZ⟩ := hrel
          have HBd := Lib.hid (HBa.out.trans (HBw.out.mono hwa))
          have c0 := (H.out.below HBd.out).box.at_ 0 rfl
          rw [HK.out] at c0
          by_cases hjK : j < K
          · have hji : (j : Int) < (K : Int) := by omega
            obtain ⟨s, hs⟩ : ∃ s, st.s[j]? = some s := ⟨_, List.getElem?_eq_getElem (by rw [HK.out]; exact hjK)⟩
            obtain ⟨c, hc, k0, _, hsec⟩ := (H.out.below HBd.out).at_ hs
            obtain ⟨q, cq, ef, hfr, _⟩ := hsec.f
            rw [ef] at k0
            obtain ⟨d, hd⟩ : ∃ d, D[j]? = some d := ⟨_, List.getElem?_eq_getElem (by rw [HC.out]; exact hjK)⟩
            have Hd := Lib.hid hd
            have HS := Lib.hid hs
            have HRd := Lib.hid hfr
            have e0 := HX.out.at_ 0 rfl
            have frz := HRw.out.2.2 (j * 2)
            have z0 := HRw.out.at_ _ (flatR_at hd).1
            have hg' : g < wr.heap.size := Nat.lt_of_lt_of_le hgw HBd.out.size
            have hs' : sb < wr.heap.size := Nat.lt_of_lt_of_le hsw HBd.out.size
            have hx' := HX.out.1
            have hr' := HRw.out.1
            have HFl := Lib.hid (H.out.fine.1 s (List.mem_of_getElem? hs)).2.1
            have HCl := Lib.hid (fun wx (hb : Below wr.heap.size wr wx) => (⟨(hb.cell (p := ⟨wa.heap.size + 1, 0, none⟩) hx').trans e0, (hb.cell (p := ⟨g, 0, none⟩) hg').trans c0, (hb.cell (p := ⟨sb, j * 2, none⟩) hs').trans k0⟩ : wx.cell? ⟨wa.heap.size + 1, 0, none⟩ = some (.slice (some ⟨wa.heap.size, 0, none⟩) K K) ∧ wx.cell? ⟨g, 0, none⟩ = some (.slice (some ⟨sb, 0, none⟩) K K) ∧ wx.cell? ⟨sb, j * 2, none⟩ = some (.slice (some ⟨q, 0, none⟩) 128 cq)))
            have HFi := Lib.hid (fun wx v (hb : Below wr.heap.size wr wx) => (⟨(World.cell?_setCell_other wx _ _ _ (fun e => by injection e with e1 _; omega)).trans (HCl.out wx hb).1, (World.cell?_setCell_other wx _ _ _ (fun e => by injection e with e1 _; omega)).trans (HCl.out wx hb).2.1, (World.cell?_setCell_other wx _ _ _ (fun e => by injection e with e1 _; omega)).trans (HCl.out wx hb).2.2⟩ : (wx.setCell ⟨wa.heap.size, j * 2, none⟩ v).cell? ⟨wa.heap.size + 1, 0, none⟩ = some (.slice (some ⟨wa.heap.size, 0, none⟩) K K) ∧ (wx.setCell ⟨wa.heap.size, j * 2, none⟩ v).cell? ⟨g, 0, none⟩ = some (.slice (some ⟨sb, 0, none⟩) K K) ∧ (wx.setCell ⟨wa.heap.size, j * 2, none⟩ v).cell? ⟨sb, j * 2, none⟩ = some (.slice (some ⟨q, 0, none⟩) 128 cq)))
            clear hs hc hsec hfr hd ef
            go_upto_region 16 with fail
            clear c0 k0 e0
            go_region_held3 (fun wx => wx.cell? ⟨wa.heap.size + 1, 0, none⟩ = some (.slice (some ⟨wa.heap.size, 0, none⟩) K K) ∧ wx.cell? ⟨g, 0, none⟩ = some (.slice (some ⟨sb, 0, none⟩) K K) ∧ wx.cell? ⟨sb, j * 2, none⟩ = some (.slice (some ⟨q, 0, none⟩) 128 cq)) (first | exact HFi.out _ _ (by repeat (first | with_reducible exact Below.refl _ _ | assumption | with_reducible refine below_al ?_ _ | with_reducible refine below_dr ?_)) | exact HCl.out _ (by repeat (first | with_reducible exact Below.refl _ _ | assumption | with_reducible refine below_al ?_ _ | with_reducible refine below_dr ?_))) (first | (refine step_fresh byte_one (by rfl) 100 rfl (.tmp 91) (.tmp 99) rfl _ rfl (some ⟨q, 0, none⟩) 128 cq (bv s.f) rfl (by omega) (by repeat (first | exact HRd.out.row | assumption | with_reducible refine RdV.al ?_ _ | with_reducible refine RdV.dr ?_ | refine RdV.st ?_ (by assumption))) (by omega) ?_; intro q2 c2 v2 hq2 hl2 ho2' hs2; have ho2 : OwnV v2 wr.heap.size 5 (some ⟨q2, 0, none⟩) 128 c2 (bv s.f) := ho2'.base_ (bel_size2 (by repeat (first | with_reducible exact Below.refl _ _ | assumption | with_reducible refine below_al ?_ _ | with_reducible refine below_dr ?_))); have hw2 : wr.heap.size ≤ q2 := Nat.le_trans (bel_size2 (by repeat (first | with_reducible exact Below.refl _ _ | assumption | with_reducible refine below_al ?_ _ | with_reducible refine below_dr ?_))) hq2; have hB2 : Below wr.heap.size wr v2 := below_st (by repeat (first | with_reducible exact Below.refl _ _ | assumption | with_reducible refine below_al ?_ _ | with_reducible refine below_dr ?_)) hs2; clear ho2' hq2; have z2 := (hB2.cell (p := ⟨wa.heap.size, j * 2, none⟩) hr').trans z0; have f2 := (hB2.frozen (p := ⟨wa.heap.size, j * 2, none⟩) hr').trans frz))
            all_goals
              have HB7 := Lib.hid hB2
              have HO7 := Lib.hid ho2
              have HL7 := Lib.hid hl2
              have HQ7 := Lib.hid hw2
              clear hB2 ho2 hl2 hw2 hs2 z2 f2
              go_wp2_with fail
              go_roundw
              case rel => exact nwf_step HX HRw HC HNw HBw HZ Hd HS HFl HB7 HO7 HL7 HQ7 (by omega)
              case measure => simp [intOf]; omega
          · obtain rfl : j = K := by omega
            have hX0 := ref_crash hK1 hK2 HK.out (fun s hs => ⟨(H.out.fine.1 s hs).1, (H.out.fine.1 s hs).2.1⟩) HX.out HRw.out HC.out HNw.out
            have HX0 := Lib.hid hX0
            have HLb0 := Lib.hid (fun x (hx : labW2 wa wr x ≠ .no) => labW2_new hx)
            clear hX0 HX HRw HC HNw HZ
            have hjj : ¬ (j : Int) < (j : Int) := by omega
            go_wp2_with fail
            go_loopw [11] (fun i wr => ∃ (t : Nat) (lab2 : Nat → Tag) (sb2 : Nat) (C2 : List Ce), t ≤ k ∧ i = .int .i64 (t : Int) ∧ Hid (RefM wr (wa.heap.size + 1) sb2 C2 lab2 ⟨Dk.crashL st.s (fs.take t), 0, false, 0⟩) ∧ Hid (∀ x, lab2 x ≠ .no → wa.heap.size ≤ x) ∧ Hid (Below wa.heap.size wa wr)) (fun i _ => k - (intOf i).toNat)
            case atStart => exact ⟨0, _, _, _, by omega, rfl, by rw [List.take_zero]; exact HX0, HLb0, HBw⟩
            case round =>
              clear HX0 HLb0 HBw HBd c0
              obtain ⟨t, lab2, sb2, C2, ht, rfl, HXr, HLb, HBw⟩ := hrel
              have HBd := Lib.hid (HBa.out.trans (HBw.out.mono hwa))
              by_cases htk : t < k
              · have hti : (t : Int) < (k : Int) := by omega
                have htm : t < m := by omega
                have htmi : (t : Int) < (m : Int) := by omega
                obtain ⟨f, hf⟩ : ∃ f, fs[t]? = some f := ⟨_, List.getElem?_eq_getElem (by rw [HFn.out]; exact htk)⟩
                obtain ⟨x, hx⟩ : ∃ x, st.loose[t]? = some x := ⟨_, List.getElem?_eq_getElem (by rw [HM.out]; exact htm)⟩
                obtain ⟨a, s, ha, hxn, hs, hne, hca, hstep⟩ := crashL_step (k := 0) hx hf
                have hok := fit_at HFit.out hf hx
                obtain ⟨b1, o1, hA, hb10, p0', p1'⟩ := HR.out.two htk (flatFa_at hf).1 (flatFa_at hf).2
                obtain ⟨b2, o2, hAL, hb20, q0', _⟩ := HO.out.two htm (flat2_at hx).1 (flat2_at hx).2
                subst hA hAL
                have hb2 : b2 < wa.heap.size := Nat.lt_of_lt_of_le hb20 HWa.out.size
                have q0 := (HBw.out.cell (p := ⟨b2, o2 + t * 2, none⟩) hb2).trans ((HWa.out.cell (p := ⟨b2, o2 + t * 2, none⟩) hb20).trans q0')
                have p0 := (HBd.out.cell (p := ⟨b1, o1 + t * 2, none⟩) hb10).trans p0'
                have p1 := (HBd.out.cell (p := ⟨b1, o1 + t * 2 + 1, none⟩) hb10).trans p1'
                have c0 := (H.out.below HBd.out).box.at_ 0 rfl
                rw [HK.out] at c0
                obtain ⟨c, hc, k0, k1, hsec⟩ := (H.out.below HBd.out).at_ hs
                obtain ⟨fv, lv⟩ := c
                have e0 := HXr.out.box.at_ 0 rfl
                rw [show (Dk.St.mk (Dk.crashL st.s (fs.take t)) 0 false 0).s.length = j from (crashL_length _ _).trans HK.out] at e0
                obtain ⟨c2, hc2, z0, _, hsec2⟩ := HXr.out.at_ hca
                have frz := HXr.out.row.2.2 (a * 2)
                have haj : a < j := by have := (List.getElem?_eq_some_iff.1 hs).1; rw [HK.out] at this; exact this
                have hai : (a : Int) < (j : Int) := by omega
                obtain ⟨fk, fc⟩ := f
                obtain ⟨x1, N⟩ := x
                simp only at ha hxn p0 p1 q0 k0 k1 hok
                obtain rfl : a = x1 := by omega
                rw [hxn] at hok
                clear ha hxn
                have hg' : g < wr.heap.size := Nat.lt_of_lt_of_le hgw HBd.out.size
                have hs' : sb < wr.heap.size := Nat.lt_of_lt_of_le hsw HBd.out.size
                have hb1' : b1 < wr.heap.size := Nat.lt_of_lt_of_le hb10 HBd.out.size
                have hb2' : b2 < wr.heap.size := Nat.lt_of_lt_of_le hb2 HBw.out.size
                have hx' := HXr.out.box.1
                have hr' := HXr.out.row.1
                have hsb2 : wa.heap.size ≤ sb2 := HLb.out sb2 (by rw [HXr.out.tags.2]; simp)
                have hne2 : wa.heap.size + 1 ≠ sb2 := fun e => by have h1 := HXr.out.tags.1; rw [e, HXr.out.tags.2] at h1; cases h1
                have HCl := Lib.hid (fun wx (hb : Below wr.heap.size wr wx) => (⟨(hb.cell (p := ⟨wa.heap.size + 1, 0, none⟩) hx').trans e0, (hb.cell (p := ⟨b2, o2 + t * 2, none⟩) hb2').trans q0, (hb.cell (p := ⟨g, 0, none⟩) hg').trans c0, (hb.cell (p := ⟨sb, a * 2, none⟩) hs').trans k0, (hb.cell (p := ⟨sb, a * 2 + 1, none⟩) hs').trans k1, (hb.cell (p := ⟨b1, o1 + t * 2, none⟩) hb1').trans p0, (hb.cell (p := ⟨b1, o1 + t * 2 + 1, none⟩) hb1').trans p1⟩ : wx.cell? ⟨wa.heap.size + 1, 0, none⟩ = some (.slice (some ⟨sb2, 0, none⟩) j j) ∧ wx.cell? ⟨b2, o2 + t * 2, none⟩ = some (.int .i64 (a : Int)) ∧ wx.cell? ⟨g, 0, none⟩ = some (.slice (some ⟨sb, 0, none⟩) j j) ∧ wx.cell? ⟨sb, a * 2, none⟩ = some (fv) ∧ wx.cell? ⟨sb, a * 2 + 1, none⟩ = some (lv) ∧ wx.cell? ⟨b1, o1 + t * 2, none⟩ = some (.int .i64 fk) ∧ wx.cell? ⟨b1, o1 + t * 2 + 1, none⟩ = some (.int .i64 fc)))
                have HFi := Lib.hid (fun wx v (hb : Below wr.heap.size wr wx) => (⟨(World.cell?_setCell_other wx _ _ _ (fun e => by injection e with e1 _; omega)).trans (HCl.out wx hb).1, (World.cell?_setCell_other wx _ _ _ (fun e => by injection e with e1 _; omega)).trans (HCl.out wx hb).2.1, (World.cell?_setCell_other wx _ _ _ (fun e => by injection e with e1 _; omega)).trans (HCl.out wx hb).2.2.1, (World.cell?_setCell_other wx _ _ _ (fun e => by injection e with e1 _; omega)).trans (HCl.out wx hb).2.2.2.1, (World.cell?_setCell_other wx _ _ _ (fun e => by injection e with e1 _; omega)).trans (HCl.out wx hb).2.2.2.2.1, (World.cell?_setCell_other wx _ _ _ (fun e => by injection e with e1 _; omega)).trans (HCl.out wx hb).2.2.2.2.2.1, (World.cell?_setCell_other wx _ _ _ (fun e => by injection e with e1 _; omega)).trans (HCl.out wx hb).2.2.2.2.2.2⟩ : (wx.setCell ⟨sb2, a * 2, none⟩ v).cell? ⟨wa.heap.size + 1, 0, none⟩ = some (.slice (some ⟨sb2, 0, none⟩) j j) ∧ (wx.setCell ⟨sb2, a * 2, none⟩ v).cell? ⟨b2, o2 + t * 2, none⟩ = some (.int .i64 (a : Int)) ∧ (wx.setCell ⟨sb2, a * 2, none⟩ v).cell? ⟨g, 0, none⟩ = some (.slice (some ⟨sb, 0, none⟩) j j) ∧ (wx.setCell ⟨sb2, a * 2, none⟩ v).cell? ⟨sb, a * 2, none⟩ = some (fv) ∧ (wx.setCell ⟨sb2, a * 2, none⟩ v).cell? ⟨sb, a * 2 + 1, none⟩ = some (lv) ∧ (wx.setCell ⟨sb2, a * 2, none⟩ v).cell? ⟨b1, o1 + t * 2, none⟩ = some (.int .i64 fk) ∧ (wx.setCell ⟨sb2, a * 2, none⟩ v).cell? ⟨b1, o1 + t * 2 + 1, none⟩ = some (.int .i64 fc)))
                have hold := (H.out.below HBd.out).old
                have HAf := Lib.hid (fun wx (hb : Below wr.heap.size wr wx) => after_any fk fc fv lv lab s wx (hsec.leaves hb.size fun y hy => hb.block y (hold y (by rw [hy]; simp))) (H.out.fine.1 s (List.mem_of_getElem? hs)) hok)
                have hd : Below wr.heap.size wr wr.drew := (Below.refl _ _).drew
                have HS2 := Lib.hid (And.intro hca (And.intro hc2 (And.intro hsec2 hstep)))
                clear hf hx hs hca hc hsec hc2 hsec2 hstep hok p0' p1' q0' hold hne
                go_upto_region 20 with fail
                clear e0 q0 c0 k0 k1 p0 p1
                go_region_held3 (fun wx => wx.cell? ⟨wa.heap.size + 1, 0, none⟩ = some (.slice (some ⟨sb2, 0, none⟩) j j) ∧ wx.cell? ⟨b2, o2 + t * 2, none⟩ = some (.int .i64 (a : Int)) ∧ wx.cell? ⟨g, 0, none⟩ = some (.slice (some ⟨sb, 0, none⟩) j j) ∧ wx.cell? ⟨sb, a * 2, none⟩ = some (fv) ∧ wx.cell? ⟨sb, a * 2 + 1, none⟩ = some (lv) ∧ wx.cell? ⟨b1, o1 + t * 2, none⟩ = some (.int .i64 fk) ∧ wx.cell? ⟨b1, o1 + t * 2 + 1, none⟩ = some (.int .i64 fc)) (first | exact HFi.out _ _ (by repeat (first | with_reducible exact Below.refl _ _ | assumption | with_reducible refine below_al ?_ _ | with_reducible refine below_dr ?_)) | exact HCl.out _ (by repeat (first | with_reducible exact Below.refl _ _ | assumption | with_reducible refine below_al ?_ _ | with_reducible refine below_dr ?_))) (first | (go_at_call 24; refine (HAf.out _ hd).mono ?_; rintro e v9 ⟨q9, c9, rfl, hq9, hl9, hr9, hb9⟩; have hB9 : Below wr.heap.size wr v9 := below_next hd hb9; have z2 := (hB9.cell (p := ⟨sb2, a * 2, none⟩) hr').trans z0; have f2 := (hB9.frozen (p := ⟨sb2, a * 2, none⟩) hr').trans frz))
                all_goals
                  have HB9 := Lib.hid hB9
                  have HR9 := Lib.hid hr9
                  have HL9 := Lib.hid hl9
                  have HQ9 := Lib.hid (show wr.heap.size ≤ q9 from hq9)
                  clear hB9 hr9 hl9 hq9 hb9 z2 f2 HCl HFi
                  go_wp2_with fail
                  go_roundw
                  case rel => exact crash_step HXr HLb HBw HS2.out.1 HS2.out.2.1 HS2.out.2.2.1 HS2.out.2.2.2 HB9 HR9 HL9 HQ9 (by omega)
                  case measure => simp [intOf]; omega
              · have htk' : ¬ (t : Int) < (k : Int) := by omega
                obtain rfl : t = k := by omega
                have hres := HXr.out
                rw [List.take_of_length_le (by rw [HFn.out]; exact Nat.le_refl _)] at hres
                have HRes := Lib.hid (show IsRef wr (wa.heap.size + 1) lab2 (st.crash fs) from ⟨sb2, C2, hres⟩)
                have HLw := Lib.hid (fun y (hy : lab2 y ≠ .no) => Nat.le_trans hwa (HLb.out y hy))
                clear hres
                go_wp2
                go_ret2
                exact .inl ⟨HYes.out, wa.heap.size + 1, lab2, rfl, HRes.out, HBd.out, HLw.out⟩
end Go.Proofs.Ytamdihodconjiaa
