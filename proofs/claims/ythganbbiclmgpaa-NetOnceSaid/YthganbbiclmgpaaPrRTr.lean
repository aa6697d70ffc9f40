/- The document's Hear of a transfer. -/
import Derived.Test.YthganbbiclmgpaaPrTrMath
namespace Go.Proofs.Ythganbbiclmgpaa
open Go.RowKit
theorem tr_past {m : Pr.Mg} {K : List Pr.Mg} (h : Pr.past K m.q = true) : Pr.laid m K = Pr.ins m K := by unfold Pr.laid; rw [if_pos h]
theorem tr_not {m : Pr.Mg} {K : List Pr.Mg} (h : Pr.past K m.q = false) : Pr.laid m K ++ [m] = Pr.ins m K := by
  have := Pr.laid_end (m := m) (L := K)
  rw [h] at this
  simpa using this
theorem Rw.is {w1 wv : World} {A : Option Addr} {n cap : Nat} {X Y : List Pr.Mg} (h : Rw w1 wv A n cap X) (e : X = Y) : Rw w1 wv A n cap Y := e ▸ h
/-- The boxes and the row, at the end. -/
theorem tr_end {w w1 wf : World} {ps ms rs zs : List Value} (H : HBox w w1 ps ms rs zs) {A : Option Addr} {n cap : Nat} {X : List Pr.Mg} (hr : Rw w1 wf A n cap X) {B : Option Addr} {K : List Pr.Mg} (hK : RdP w1 B K.length K) : HBox w wf ps ms rs zs ∧ RdP wf B K.length K ∧ Rw w1 wf A n cap X :=
  ⟨H.below hr.bel, hK.below hr.bel, hr⟩
theorem at_five {W : World} {b o n j : Nat} {K : List Pr.Mg} {xk xp xq xn : Int} {xs : ByteArray} (h : RdP W (some ⟨b, o, none⟩) n K) (hx : K[j]? = some ⟨xk, xp, xq, xs, xn⟩) :
    W.cell? ⟨b, o + j * 5, none⟩ = some (.int .i64 xk) ∧ W.cell? ⟨b, o + j * 5 + 1, none⟩ = some (.int .i64 xp) ∧ W.cell? ⟨b, o + j * 5 + 2, none⟩ = some (.int .i64 xq) ∧ W.cell? ⟨b, o + j * 5 + 3, none⟩ = some (.string xs) ∧ W.cell? ⟨b, o + j * 5 + 4, none⟩ = some (.int .i64 xn) := by
  obtain ⟨b', o', e, _, hc⟩ := h.at_ hx
  injection e with e
  injection e with e1 e2
  subst e1 e2
  exact ⟨hc 0 _ rfl, hc 1 _ rfl, hc 2 _ rfl, hc 3 _ rfl, hc 4 _ rfl⟩
/-- What Hear gives behind a transfer: the row that was there, or one with it. -/
def GivesTr (who : Int) (A B : Option Addr) (n cap c : Nat) (K : List Pr.Mg) (m : Pr.Mg) (w : World) (e : Ending) (w' : World) : Prop :=
  ∃ B' c', e = .returned (.tuple #[.agg #[.int .i64 who, .slice A n cap, .slice B' (Pr.gotL K m).length c'], .agg #[.int .i64 2, .int .i64 who, .int .i64 m.q, .string ⟨#[]⟩, .int .i64 0], .bool true]) ∧ Below w.heap.size w w' ∧ RdP w' B' (Pr.gotL K m).length (Pr.gotL K m) ∧ ((B' = B ∧ c' = c ∧ Pr.gotL K m = K) ∨ ∀ b o, B' = some ⟨b, o, none⟩ → w.heap.size ≤ b)
theorem gives_had {who : Int} {A B : Option Addr} {n cap c : Nat} {K : List Pr.Mg} {mq mn : Int} {ms : ByteArray} {w w' : World} (ht : Pr.hasq K mq = true) (hr : RdP w B K.length K) (hb : Below w.heap.size w w') :
    GivesTr who A B n cap c K ⟨1, who, mq, ms, mn⟩ w (.returned (.tuple #[.agg #[.int .i64 who, .slice A n cap, .slice B K.length c], .agg #[.int .i64 2, .int .i64 who, .int .i64 mq, .string ⟨#[]⟩, .int .i64 0], .bool true])) w' := by
  have e : Pr.gotL K ⟨1, who, mq, ms, mn⟩ = K := by unfold Pr.gotL; rw [if_pos ht]
  unfold GivesTr
  rw [e]
  exact ⟨B, c, rfl, hb, hr.below hb, .inl ⟨rfl, rfl, rfl⟩⟩
theorem gives_new {who : Int} {A B A' : Option Addr} {n cap c n' c' : Nat} {K : List Pr.Mg} {mq mn : Int} {ms : ByteArray} {w w1 w' : World} (ht : Pr.hasq K mq = false) (ho : OwnC 5 w' w1.heap.size 59 A' n' c' (Pr.flat (Pr.ins ⟨1, who, mq, ms, mn⟩ K))) (hl : n' = (Pr.ins ⟨1, who, mq, ms, mn⟩ K).length) (hb : Below w.heap.size w w') (hs : w.heap.size ≤ w1.heap.size) :
    GivesTr who A B n cap c K ⟨1, who, mq, ms, mn⟩ w (.returned (.tuple #[.agg #[.int .i64 who, .slice A n cap, .slice A' n' c'], .agg #[.int .i64 2, .int .i64 who, .int .i64 mq, .string ⟨#[]⟩, .int .i64 0], .bool true])) w'.drew := by
  have e : Pr.gotL K ⟨1, who, mq, ms, mn⟩ = Pr.ins ⟨1, who, mq, ms, mn⟩ K := by unfold Pr.gotL; rw [if_neg (by rw [ht]; simp)]
  subst hl
  unfold GivesTr
  rw [e]
  refine ⟨A', c', rfl, hb.drew, ⟨rfl, ho.rd⟩, .inr fun b o e2 => ?_⟩
  obtain ⟨g, h2, h3, _⟩ := ho.form (by rw [Pr.len_ins]; omega)
  rw [h2] at e2
  injection e2 with e2
  injection e2 with e2
  omega
theorem HBox.put2 {w w1 : World} {x y z y' : Value} {ms rs zs : List Value} (h : HBox w w1 [x, y, z] ms rs zs) : HBox w (w1.setCell ⟨w.heap.size, 2, none⟩ y') [x, y, y'] ms rs zs :=
  ⟨h.p.set 2 y' (by simp), h.m.other (by omega), h.r.other (by omega), h.z.other (by omega), below_set h.bel _ _ (Nat.le_refl _), by simpa [World.setCell] using h.big⟩
theorem OwnC.aside3 {s : Nat} {w : World} {base n cap : Nat} {A : Option Addr} {vs : List Value} {E : TypeId} (h : OwnC s w base E A n cap vs) (b : Nat) (x y z : Value) (hb : b < base) : OwnC s (((w.setCell ⟨b, 0, none⟩ x).setCell ⟨b, 1, none⟩ y).setCell ⟨b, 2, none⟩ z) base E A n cap vs :=
  ((h.aside b 0 x hb).aside b 1 y hb).aside b 2 z hb
theorem OwnC.aside5 {s : Nat} {w : World} {base n cap : Nat} {A : Option Addr} {vs : List Value} {E : TypeId} (h : OwnC s w base E A n cap vs) (b : Nat) (x y z u v : Value) (hb : b < base) : OwnC s (((((w.setCell ⟨b, 0, none⟩ x).setCell ⟨b, 1, none⟩ y).setCell ⟨b, 2, none⟩ z).setCell ⟨b, 3, none⟩ u).setCell ⟨b, 4, none⟩ v) base E A n cap vs :=
  ((h.aside3 b x y z hb).aside b 3 u hb).aside b 4 v hb
set_option maxRecDepth 100000 in
set_option maxHeartbeats 8000000 in
theorem rhear_tr (who : Int) (A B : Option Addr) (n cap c : Nat) (K : List Pr.Mg) (mq : Int) (ms : ByteArray) (mn : Int) (w : World) (h : RdP w B K.length K) (hl : K.length ≤ 1000) (h0 : 0 ≤ mq) :
    Calls Try.prog 26 #[.agg #[.int .i64 who, .slice A n cap, .slice B K.length c], .agg #[.int .i64 1, .int .i64 who, .int .i64 mq, .string ms, .int .i64 mn]] w (GivesTr who A B n cap c K ⟨1, who, mq, ms, mn⟩ w) := by
  have H := Lib.hid (hbox_new w #[.int .i64 who, .slice A n cap, .slice B K.length c] #[.int .i64 1, .int .i64 who, .int .i64 mq, .string ms, .int .i64 mn] #[.int .i64 0, .slice none 0 0, .slice none 0 0] #[.int .i64 0, .int .i64 0, .int .i64 0, .string ⟨#[]⟩, .int .i64 0] 54 59 54 59)
  have HR := Lib.hid h
  clear h
  have t1 : (who != who) = false := by simp
  have t2 : ¬ mq < 0 := by omega
  go_enter Try.func26, Try.ntmps26
  go_upto_region 1 with fail
  generalize ((((w.alloc (.cells #[.int .i64 who, .slice A n cap, .slice B K.length c] 54)).alloc (.cells #[.int .i64 1, .int .i64 who, .int .i64 mq, .string ms, .int .i64 mn] 59)).alloc (.cells #[.int .i64 0, .slice none 0 0, .slice none 0 0] 54)).alloc (.cells #[.int .i64 0, .int .i64 0, .int .i64 0, .string ⟨#[]⟩, .int .i64 0] 59)) = w1 at *
  obtain ⟨p0, p1, p2⟩ := results3 H.out.p
  obtain ⟨m0, m1, m2, m3, m4⟩ := results5 H.out.m
  have HK := Lib.hid (HR.out.below H.out.bel)
  have HS := Lib.hid (tr_start w1 K ⟨1, who, mq, ms, mn⟩)
  go_upto_region 14 with fail
  clear p0 p1 p2 m0 m1 m2 m3 m4 t1 t2
  go_loopw [7, 8, 9, 10] (fun v d t i wr => InvTr w1 K ⟨1, who, mq, ms, mn⟩ v d t i wr) (fun _ _ _ i _ => K.length - (intOf i).toNat)
  case atStart => exact HS.out
  case round =>
    clear HS
    obtain ⟨j, n', A', cap', hj, hn, rfl, rfl, rfl, rfl, hw⟩ := hrel
    have HW := Lib.hid hw
    clear hw
    by_cases hlt : j < K.length
    · have hki : (j : Int) < (K.length : Int) := by omega
      obtain ⟨⟨xk, xp, xq, xs, xn⟩, hx⟩ : ∃ x, K[j]? = some x := ⟨_, List.getElem?_eq_getElem hlt⟩
      obtain ⟨b, o, rfl, _, _⟩ := HK.out.at_ hx
      cases hp : Pr.past (K.take j) mq with
      | true =>
        cases ht : Pr.hasq (K.take j) mq with
        | true =>
          have HLd := Lib.hid (Pr.laid_past (m := ⟨1, who, mq, ms, mn⟩) hx hp)
          have HXX := Lib.hid hx
          have HP := Lib.hid hp
          have HT := Lib.hid ht
          clear hp ht hx
          have p2 := (H.out.below HW.out.bel).p.at_ 2 rfl
          obtain ⟨m0, m1, m2, m3, m4⟩ := results5 (H.out.below HW.out.bel).m
          obtain ⟨e0, e1, e2, e3, e4⟩ := at_five (HK.out.below HW.out.bel) HXX.out
          go_wp2_with fail
          go_quiet (fail)
          rename_i nq
          have HWq := Lib.hid (HW.out.below (below_drewN _ wr nq))
          clear p2 m0 m1 m2 m3 m4 e0 e1 e2 e3 e4
          generalize wr.drewN nq = wq at *
          have p2 := (H.out.below HWq.out.bel).p.at_ 2 rfl
          obtain ⟨m0, m1, m2, m3, m4⟩ := results5 (H.out.below HWq.out.bel).m
          obtain ⟨e0, e1, e2, e3, e4⟩ := at_five (HK.out.below HWq.out.bel) HXX.out
          go_upto_region 20 with (at_builtin; refine wpList_appC manyP rfl (.tmp 74) (.tmp 80) rfl rfl (HWq.out.own.alloc (.cells (Pr.Mg.cells ⟨xk, xp, xq, xs, xn⟩).toArray 59)) ⟨wq.heap.size, 0, none⟩ 1 1 (Pr.Mg.cells ⟨xk, xp, xq, xs, xn⟩) (Pr.cells_one _) rfl (rdc_new 5 wq 59 (Pr.Mg.cells ⟨xk, xp, xq, xs, xn⟩) 1 rfl (0, 0)) (by omega) (Nat.le_trans HWq.out.bel.size (by simp)) ?_; intro A4 c4 w4 hg4; have HW4 := Lib.hid ((HWq.out.below ((Below.refl _ _).alloc (Nat.le_refl _) _)).push hg4); clear hg4)
          clear p2 m0 m1 m2 m3 m4 e0 e1 e2 e3 e4
          have p2 := (H.out.below HW4.out.bel).p.at_ 2 rfl
          obtain ⟨m0, m1, m2, m3, m4⟩ := results5 (H.out.below HW4.out.bel).m
          obtain ⟨e0, e1, e2, e3, e4⟩ := at_five (HK.out.below HW4.out.bel) HXX.out
          go_quiet (fail)
          have HW5 := Lib.hid (HW4.out.below (below_drewN _ w4 nq))
          clear p2 m0 m1 m2 m3 m4 e0 e1 e2 e3 e4
          generalize w4.drewN nq = w5 at *
          have HI := Lib.hid (tr_next (m := ⟨1, who, mq, ms, mn⟩) (d := true) (t := true) HXX.out HLd.out HW5.out (by rw [HP.out]; rfl) (by rw [HT.out]; rfl))
          go_wp2_with fail
          go_roundw
          case rel => exact HI.out
          case measure => simp [intOf]; omega
        | false =>
          have HLd := Lib.hid (Pr.laid_past (m := ⟨1, who, mq, ms, mn⟩) hx hp)
          have HXX := Lib.hid hx
          have HP := Lib.hid hp
          have HT := Lib.hid ht
          clear hp ht hx
          have p2 := (H.out.below HW.out.bel).p.at_ 2 rfl
          obtain ⟨m0, m1, m2, m3, m4⟩ := results5 (H.out.below HW.out.bel).m
          obtain ⟨e0, e1, e2, e3, e4⟩ := at_five (HK.out.below HW.out.bel) HXX.out
          go_wp2_with fail
          go_quiet (fail)
          rename_i nq
          have HWq := Lib.hid (HW.out.below (below_drewN _ wr nq))
          clear p2 m0 m1 m2 m3 m4 e0 e1 e2 e3 e4
          generalize wr.drewN nq = wq at *
          have p2 := (H.out.below HWq.out.bel).p.at_ 2 rfl
          obtain ⟨m0, m1, m2, m3, m4⟩ := results5 (H.out.below HWq.out.bel).m
          obtain ⟨e0, e1, e2, e3, e4⟩ := at_five (HK.out.below HWq.out.bel) HXX.out
          go_upto_region 20 with (at_builtin; refine wpList_appC manyP rfl (.tmp 74) (.tmp 80) rfl rfl (HWq.out.own.alloc (.cells (Pr.Mg.cells ⟨xk, xp, xq, xs, xn⟩).toArray 59)) ⟨wq.heap.size, 0, none⟩ 1 1 (Pr.Mg.cells ⟨xk, xp, xq, xs, xn⟩) (Pr.cells_one _) rfl (rdc_new 5 wq 59 (Pr.Mg.cells ⟨xk, xp, xq, xs, xn⟩) 1 rfl (0, 0)) (by omega) (Nat.le_trans HWq.out.bel.size (by simp)) ?_; intro A4 c4 w4 hg4; have HW4 := Lib.hid ((HWq.out.below ((Below.refl _ _).alloc (Nat.le_refl _) _)).push hg4); clear hg4)
          clear p2 m0 m1 m2 m3 m4 e0 e1 e2 e3 e4
          have p2 := (H.out.below HW4.out.bel).p.at_ 2 rfl
          obtain ⟨m0, m1, m2, m3, m4⟩ := results5 (H.out.below HW4.out.bel).m
          obtain ⟨e0, e1, e2, e3, e4⟩ := at_five (HK.out.below HW4.out.bel) HXX.out
          go_quiet (fail)
          have HW5 := Lib.hid (HW4.out.below (below_drewN _ w4 nq))
          clear p2 m0 m1 m2 m3 m4 e0 e1 e2 e3 e4
          generalize w4.drewN nq = w5 at *
          have HI := Lib.hid (tr_next (m := ⟨1, who, mq, ms, mn⟩) (d := true) (t := (xq == mq)) HXX.out HLd.out HW5.out (by rw [HP.out]; rfl) (by rw [HT.out, Bool.false_or, Bool.eq_iff_iff]; simp))
          go_wp2_with fail
          go_roundw
          case rel => exact HI.out
          case measure => simp [intOf]; omega
      | false =>
        by_cases hq : mq < xq
        · cases ht : Pr.hasq (K.take j) mq with
          | true =>
            have HLd := Lib.hid (Pr.laid_now (m := ⟨1, who, mq, ms, mn⟩) hx hp hq)
            have HXX := Lib.hid hx
            have HP := Lib.hid hp
            have HT := Lib.hid ht
            clear hp ht hx
            have p2 := (H.out.below HW.out.bel).p.at_ 2 rfl
            obtain ⟨m0, m1, m2, m3, m4⟩ := results5 (H.out.below HW.out.bel).m
            obtain ⟨e0, e1, e2, e3, e4⟩ := at_five (HK.out.below HW.out.bel) HXX.out
            go_wp2_with fail
            go_quiet (fail)
            rename_i nq
            have HWq := Lib.hid (HW.out.below (below_drewN _ wr nq))
            clear p2 m0 m1 m2 m3 m4 e0 e1 e2 e3 e4
            generalize wr.drewN nq = wq at *
            have p2 := (H.out.below HWq.out.bel).p.at_ 2 rfl
            obtain ⟨m0, m1, m2, m3, m4⟩ := results5 (H.out.below HWq.out.bel).m
            obtain ⟨e0, e1, e2, e3, e4⟩ := at_five (HK.out.below HWq.out.bel) HXX.out
            go_upto_region 19 with (at_builtin; refine wpList_appC manyP rfl (.tmp 70) (.tmp 72) rfl rfl (HWq.out.own.alloc (.cells (Pr.Mg.cells ⟨1, who, mq, ms, mn⟩).toArray 59)) ⟨wq.heap.size, 0, none⟩ 1 1 (Pr.Mg.cells ⟨1, who, mq, ms, mn⟩) (Pr.cells_one _) rfl (rdc_new 5 wq 59 (Pr.Mg.cells ⟨1, who, mq, ms, mn⟩) 1 rfl (0, 0)) (by omega) (Nat.le_trans HWq.out.bel.size (by simp)) ?_; intro A3 c3 w3 hg3; have HW3 := Lib.hid ((HWq.out.below ((Below.refl _ _).alloc (Nat.le_refl _) _)).push hg3); clear hg3)
            clear p2 m0 m1 m2 m3 m4 e0 e1 e2 e3 e4
            have p2 := (H.out.below HW3.out.bel).p.at_ 2 rfl
            obtain ⟨m0, m1, m2, m3, m4⟩ := results5 (H.out.below HW3.out.bel).m
            obtain ⟨e0, e1, e2, e3, e4⟩ := at_five (HK.out.below HW3.out.bel) HXX.out
            go_upto_region 20 with (at_builtin; refine wpList_appC manyP rfl (.tmp 74) (.tmp 80) rfl rfl (HW3.out.own.alloc (.cells (Pr.Mg.cells ⟨xk, xp, xq, xs, xn⟩).toArray 59)) ⟨w3.heap.size, 0, none⟩ 1 1 (Pr.Mg.cells ⟨xk, xp, xq, xs, xn⟩) (Pr.cells_one _) rfl (rdc_new 5 w3 59 (Pr.Mg.cells ⟨xk, xp, xq, xs, xn⟩) 1 rfl (0, 0)) (by omega) (Nat.le_trans HW3.out.bel.size (by simp)) ?_; intro A4 c4 w4 hg4; have HW4 := Lib.hid ((HW3.out.below ((Below.refl _ _).alloc (Nat.le_refl _) _)).push hg4); clear hg4)
            clear p2 m0 m1 m2 m3 m4 e0 e1 e2 e3 e4
            have p2 := (H.out.below HW4.out.bel).p.at_ 2 rfl
            obtain ⟨m0, m1, m2, m3, m4⟩ := results5 (H.out.below HW4.out.bel).m
            obtain ⟨e0, e1, e2, e3, e4⟩ := at_five (HK.out.below HW4.out.bel) HXX.out
            go_quiet (fail)
            have HW5 := Lib.hid (HW4.out.below (below_drewN _ w4 nq))
            clear p2 m0 m1 m2 m3 m4 e0 e1 e2 e3 e4
            generalize w4.drewN nq = w5 at *
            have HI := Lib.hid (tr_next (m := ⟨1, who, mq, ms, mn⟩) (d := true) (t := true) HXX.out HLd.out HW5.out (by rw [HP.out, Bool.false_or, decide_eq_true hq]) (by rw [HT.out]; rfl))
            go_wp2_with fail
            go_roundw
            case rel => exact HI.out
            case measure => simp [intOf]; omega
          | false =>
            have HLd := Lib.hid (Pr.laid_now (m := ⟨1, who, mq, ms, mn⟩) hx hp hq)
            have HXX := Lib.hid hx
            have HP := Lib.hid hp
            have HT := Lib.hid ht
            clear hp ht hx
            have p2 := (H.out.below HW.out.bel).p.at_ 2 rfl
            obtain ⟨m0, m1, m2, m3, m4⟩ := results5 (H.out.below HW.out.bel).m
            obtain ⟨e0, e1, e2, e3, e4⟩ := at_five (HK.out.below HW.out.bel) HXX.out
            go_wp2_with fail
            go_quiet (fail)
            rename_i nq
            have HWq := Lib.hid (HW.out.below (below_drewN _ wr nq))
            clear p2 m0 m1 m2 m3 m4 e0 e1 e2 e3 e4
            generalize wr.drewN nq = wq at *
            have p2 := (H.out.below HWq.out.bel).p.at_ 2 rfl
            obtain ⟨m0, m1, m2, m3, m4⟩ := results5 (H.out.below HWq.out.bel).m
            obtain ⟨e0, e1, e2, e3, e4⟩ := at_five (HK.out.below HWq.out.bel) HXX.out
            go_upto_region 19 with (at_builtin; refine wpList_appC manyP rfl (.tmp 70) (.tmp 72) rfl rfl (HWq.out.own.alloc (.cells (Pr.Mg.cells ⟨1, who, mq, ms, mn⟩).toArray 59)) ⟨wq.heap.size, 0, none⟩ 1 1 (Pr.Mg.cells ⟨1, who, mq, ms, mn⟩) (Pr.cells_one _) rfl (rdc_new 5 wq 59 (Pr.Mg.cells ⟨1, who, mq, ms, mn⟩) 1 rfl (0, 0)) (by omega) (Nat.le_trans HWq.out.bel.size (by simp)) ?_; intro A3 c3 w3 hg3; have HW3 := Lib.hid ((HWq.out.below ((Below.refl _ _).alloc (Nat.le_refl _) _)).push hg3); clear hg3)
            clear p2 m0 m1 m2 m3 m4 e0 e1 e2 e3 e4
            have p2 := (H.out.below HW3.out.bel).p.at_ 2 rfl
            obtain ⟨m0, m1, m2, m3, m4⟩ := results5 (H.out.below HW3.out.bel).m
            obtain ⟨e0, e1, e2, e3, e4⟩ := at_five (HK.out.below HW3.out.bel) HXX.out
            go_upto_region 20 with (at_builtin; refine wpList_appC manyP rfl (.tmp 74) (.tmp 80) rfl rfl (HW3.out.own.alloc (.cells (Pr.Mg.cells ⟨xk, xp, xq, xs, xn⟩).toArray 59)) ⟨w3.heap.size, 0, none⟩ 1 1 (Pr.Mg.cells ⟨xk, xp, xq, xs, xn⟩) (Pr.cells_one _) rfl (rdc_new 5 w3 59 (Pr.Mg.cells ⟨xk, xp, xq, xs, xn⟩) 1 rfl (0, 0)) (by omega) (Nat.le_trans HW3.out.bel.size (by simp)) ?_; intro A4 c4 w4 hg4; have HW4 := Lib.hid ((HW3.out.below ((Below.refl _ _).alloc (Nat.le_refl _) _)).push hg4); clear hg4)
            clear p2 m0 m1 m2 m3 m4 e0 e1 e2 e3 e4
            have p2 := (H.out.below HW4.out.bel).p.at_ 2 rfl
            obtain ⟨m0, m1, m2, m3, m4⟩ := results5 (H.out.below HW4.out.bel).m
            obtain ⟨e0, e1, e2, e3, e4⟩ := at_five (HK.out.below HW4.out.bel) HXX.out
            go_quiet (fail)
            have HW5 := Lib.hid (HW4.out.below (below_drewN _ w4 nq))
            clear p2 m0 m1 m2 m3 m4 e0 e1 e2 e3 e4
            generalize w4.drewN nq = w5 at *
            have HI := Lib.hid (tr_next (m := ⟨1, who, mq, ms, mn⟩) (d := true) (t := (xq == mq)) HXX.out HLd.out HW5.out (by rw [HP.out, Bool.false_or, decide_eq_true hq]) (by rw [HT.out, Bool.false_or, Bool.eq_iff_iff]; simp))
            go_wp2_with fail
            go_roundw
            case rel => exact HI.out
            case measure => simp [intOf]; omega
        · cases ht : Pr.hasq (K.take j) mq with
          | true =>
            have HLd := Lib.hid (Pr.laid_yet (m := ⟨1, who, mq, ms, mn⟩) hx hp hq)
            have HXX := Lib.hid hx
            have HP := Lib.hid hp
            have HT := Lib.hid ht
            clear hp ht hx
            have p2 := (H.out.below HW.out.bel).p.at_ 2 rfl
            obtain ⟨m0, m1, m2, m3, m4⟩ := results5 (H.out.below HW.out.bel).m
            obtain ⟨e0, e1, e2, e3, e4⟩ := at_five (HK.out.below HW.out.bel) HXX.out
            go_wp2_with fail
            go_quiet (fail)
            rename_i nq
            have HWq := Lib.hid (HW.out.below (below_drewN _ wr nq))
            clear p2 m0 m1 m2 m3 m4 e0 e1 e2 e3 e4
            generalize wr.drewN nq = wq at *
            have p2 := (H.out.below HWq.out.bel).p.at_ 2 rfl
            obtain ⟨m0, m1, m2, m3, m4⟩ := results5 (H.out.below HWq.out.bel).m
            obtain ⟨e0, e1, e2, e3, e4⟩ := at_five (HK.out.below HWq.out.bel) HXX.out
            go_upto_region 20 with (at_builtin; refine wpList_appC manyP rfl (.tmp 74) (.tmp 80) rfl rfl (HWq.out.own.alloc (.cells (Pr.Mg.cells ⟨xk, xp, xq, xs, xn⟩).toArray 59)) ⟨wq.heap.size, 0, none⟩ 1 1 (Pr.Mg.cells ⟨xk, xp, xq, xs, xn⟩) (Pr.cells_one _) rfl (rdc_new 5 wq 59 (Pr.Mg.cells ⟨xk, xp, xq, xs, xn⟩) 1 rfl (0, 0)) (by omega) (Nat.le_trans HWq.out.bel.size (by simp)) ?_; intro A4 c4 w4 hg4; have HW4 := Lib.hid ((HWq.out.below ((Below.refl _ _).alloc (Nat.le_refl _) _)).push hg4); clear hg4)
            clear p2 m0 m1 m2 m3 m4 e0 e1 e2 e3 e4
            have p2 := (H.out.below HW4.out.bel).p.at_ 2 rfl
            obtain ⟨m0, m1, m2, m3, m4⟩ := results5 (H.out.below HW4.out.bel).m
            obtain ⟨e0, e1, e2, e3, e4⟩ := at_five (HK.out.below HW4.out.bel) HXX.out
            go_quiet (fail)
            have HW5 := Lib.hid (HW4.out.below (below_drewN _ w4 nq))
            clear p2 m0 m1 m2 m3 m4 e0 e1 e2 e3 e4
            generalize w4.drewN nq = w5 at *
            have HI := Lib.hid (tr_next (m := ⟨1, who, mq, ms, mn⟩) (d := false) (t := true) HXX.out HLd.out HW5.out (by rw [HP.out, Bool.false_or, decide_eq_false (show ¬ mq < xq by omega)]) (by rw [HT.out]; rfl))
            go_wp2_with fail
            go_roundw
            case rel => exact HI.out
            case measure => simp [intOf]; omega
          | false =>
            have HLd := Lib.hid (Pr.laid_yet (m := ⟨1, who, mq, ms, mn⟩) hx hp hq)
            have HXX := Lib.hid hx
            have HP := Lib.hid hp
            have HT := Lib.hid ht
            clear hp ht hx
            have p2 := (H.out.below HW.out.bel).p.at_ 2 rfl
            obtain ⟨m0, m1, m2, m3, m4⟩ := results5 (H.out.below HW.out.bel).m
            obtain ⟨e0, e1, e2, e3, e4⟩ := at_five (HK.out.below HW.out.bel) HXX.out
            go_wp2_with fail
            go_quiet (fail)
            rename_i nq
            have HWq := Lib.hid (HW.out.below (below_drewN _ wr nq))
            clear p2 m0 m1 m2 m3 m4 e0 e1 e2 e3 e4
            generalize wr.drewN nq = wq at *
            have p2 := (H.out.below HWq.out.bel).p.at_ 2 rfl
            obtain ⟨m0, m1, m2, m3, m4⟩ := results5 (H.out.below HWq.out.bel).m
            obtain ⟨e0, e1, e2, e3, e4⟩ := at_five (HK.out.below HWq.out.bel) HXX.out
            go_upto_region 20 with (at_builtin; refine wpList_appC manyP rfl (.tmp 74) (.tmp 80) rfl rfl (HWq.out.own.alloc (.cells (Pr.Mg.cells ⟨xk, xp, xq, xs, xn⟩).toArray 59)) ⟨wq.heap.size, 0, none⟩ 1 1 (Pr.Mg.cells ⟨xk, xp, xq, xs, xn⟩) (Pr.cells_one _) rfl (rdc_new 5 wq 59 (Pr.Mg.cells ⟨xk, xp, xq, xs, xn⟩) 1 rfl (0, 0)) (by omega) (Nat.le_trans HWq.out.bel.size (by simp)) ?_; intro A4 c4 w4 hg4; have HW4 := Lib.hid ((HWq.out.below ((Below.refl _ _).alloc (Nat.le_refl _) _)).push hg4); clear hg4)
            clear p2 m0 m1 m2 m3 m4 e0 e1 e2 e3 e4
            have p2 := (H.out.below HW4.out.bel).p.at_ 2 rfl
            obtain ⟨m0, m1, m2, m3, m4⟩ := results5 (H.out.below HW4.out.bel).m
            obtain ⟨e0, e1, e2, e3, e4⟩ := at_five (HK.out.below HW4.out.bel) HXX.out
            go_quiet (fail)
            have HW5 := Lib.hid (HW4.out.below (below_drewN _ w4 nq))
            clear p2 m0 m1 m2 m3 m4 e0 e1 e2 e3 e4
            generalize w4.drewN nq = w5 at *
            have HI := Lib.hid (tr_next (m := ⟨1, who, mq, ms, mn⟩) (d := false) (t := (xq == mq)) HXX.out HLd.out HW5.out (by rw [HP.out, Bool.false_or, decide_eq_false (show ¬ mq < xq by omega)]) (by rw [HT.out, Bool.false_or, Bool.eq_iff_iff]; simp))
            go_wp2_with fail
            go_roundw
            case rel => exact HI.out
            case measure => simp [intOf]; omega
    · obtain rfl : j = K.length := by omega
      rw [List.take_length] at HW ⊢
      clear hlt hj
      have p2 := (H.out.below HW.out.bel).p.at_ 2 rfl
      obtain ⟨m0, m1, m2, m3, m4⟩ := results5 (H.out.below HW.out.bel).m
      have hE := Lib.hid (Pr.laid_end (m := ⟨1, who, mq, ms, mn⟩) (L := K))
      cases hp : Pr.past K mq with
      | true =>
        have HP := Lib.hid hp
        have HG := Lib.hid (HW.out.is (tr_past (m := ⟨1, who, mq, ms, mn⟩) hp))
        clear hp
        cases ht : Pr.hasq K mq with
        | true =>
          have HT := Lib.hid ht
          clear ht
          obtain ⟨wf, rfl⟩ : ∃ wf, wf = wr := ⟨_, rfl⟩
          have HE := Lib.hid (H.out.below HG.out.bel)
          have HKE := Lib.hid (HK.out.below HG.out.bel)
          obtain ⟨p0, p1, p2⟩ := results3 HE.out.p
          obtain ⟨m0, m1, m2, m3, m4⟩ := results5 HE.out.m
          obtain ⟨r0, r1, r2⟩ := results3 HE.out.r
          obtain ⟨s0, s1, s2, s3, s4⟩ := results5 HE.out.z
          have y0 := HE.out.r.2.2 0
          have y1 := HE.out.r.2.2 1
          have y2 := HE.out.r.2.2 2
          have z0 := HE.out.z.2.2 0
          have z1 := HE.out.z.2.2 1
          have z2 := HE.out.z.2.2 2
          have z3 := HE.out.z.2.2 3
          have z4 := HE.out.z.2.2 4
          go_wp2_with fail
          go_region
          go_wp2
          obtain ⟨c0, c1, c2⟩ := results3 ((HE.out.r.set3 (.int .i64 who) (.slice A n cap) (.slice B K.length c)).other5 (b := w.heap.size + 1 + 1 + 1) (x := .int .i64 2) (y := .int .i64 who) (z := .int .i64 mq) (u := .string ⟨#[]⟩) (v := .int .i64 0) (by omega))
          obtain ⟨d0, d1, d2, d3, d4⟩ := results5 ((HE.out.z.other3 (b := w.heap.size + 1 + 1) (x := .int .i64 who) (y := .slice A n cap) (z := .slice B K.length c) (by omega)).set5 (.int .i64 2) (.int .i64 who) (.int .i64 mq) (.string ⟨#[]⟩) (.int .i64 0))
          refine ⟨rfl, .tuple #[.agg #[.int .i64 who, .slice A n cap, .slice B K.length c], .agg #[.int .i64 2, .int .i64 who, .int .i64 mq, .string ⟨#[]⟩, .int .i64 0], .bool true], ?_, gives_had HT.out HR.out (below_set5 (below_set3 HE.out.bel _ _ _ _ (by omega)) _ _ _ _ _ _ (by omega)).drew⟩
          simp [results, Try.results26, go_sem, c0, c1, c2, d0, d1, d2, d3, d4]
        | false =>
          have HT := Lib.hid ht
          clear ht
          obtain ⟨wf, rfl⟩ : ∃ wf, wf = wr := ⟨_, rfl⟩
          have HE := Lib.hid (H.out.below HG.out.bel)
          have p2 := HE.out.p.at_ 2 rfl
          have pf := HE.out.p.2.2 2
          go_upto_region 25 with fail
          have HE2 := Lib.hid (HE.out.put2 (y' := .slice A' n' cap'))
          have HGl := Lib.hid HG.out.len
          have HG2 := Lib.hid (HG.out.own.aside w.heap.size 2 (.slice A' n' cap') (Nat.lt_of_le_of_lt (by omega) H.out.big))
          clear p2 pf HE HG
          generalize (wf.setCell ⟨w.heap.size, 2, none⟩ (.slice A' n' cap')) = wg at *
          obtain ⟨p0, p1, p2⟩ := results3 HE2.out.p
          obtain ⟨m0, m1, m2, m3, m4⟩ := results5 HE2.out.m
          obtain ⟨r0, r1, r2⟩ := results3 HE2.out.r
          obtain ⟨s0, s1, s2, s3, s4⟩ := results5 HE2.out.z
          have y0 := HE2.out.r.2.2 0
          have y1 := HE2.out.r.2.2 1
          have y2 := HE2.out.r.2.2 2
          have z0 := HE2.out.z.2.2 0
          have z1 := HE2.out.z.2.2 1
          have z2 := HE2.out.z.2.2 2
          have z3 := HE2.out.z.2.2 3
          have z4 := HE2.out.z.2.2 4
          go_wp2_with fail
          go_region
          go_wp2
          obtain ⟨c0, c1, c2⟩ := results3 ((HE2.out.r.set3 (.int .i64 who) (.slice A n cap) (.slice A' n' cap')).other5 (b := w.heap.size + 1 + 1 + 1) (x := .int .i64 2) (y := .int .i64 who) (z := .int .i64 mq) (u := .string ⟨#[]⟩) (v := .int .i64 0) (by omega))
          obtain ⟨d0, d1, d2, d3, d4⟩ := results5 ((HE2.out.z.other3 (b := w.heap.size + 1 + 1) (x := .int .i64 who) (y := .slice A n cap) (z := .slice A' n' cap') (by omega)).set5 (.int .i64 2) (.int .i64 who) (.int .i64 mq) (.string ⟨#[]⟩) (.int .i64 0))
          refine ⟨rfl, .tuple #[.agg #[.int .i64 who, .slice A n cap, .slice A' n' cap'], .agg #[.int .i64 2, .int .i64 who, .int .i64 mq, .string ⟨#[]⟩, .int .i64 0], .bool true], ?_, gives_new HT.out ((HG2.out.aside3 (w.heap.size + 1 + 1) (.int .i64 who) (.slice A n cap) (.slice A' n' cap') (Nat.lt_of_le_of_lt (by omega) H.out.big)).aside5 (w.heap.size + 1 + 1 + 1) (.int .i64 2) (.int .i64 who) (.int .i64 mq) (.string ⟨#[]⟩) (.int .i64 0) H.out.big) HGl.out (below_set5 (below_set3 HE2.out.bel _ _ _ _ (by omega)) _ _ _ _ _ _ (by omega)) H.out.bel.size⟩
          simp [results, Try.results26, go_sem, c0, c1, c2, d0, d1, d2, d3, d4]
      | false =>
        have HP := Lib.hid hp
        have HX := Lib.hid (tr_not (m := ⟨1, who, mq, ms, mn⟩) hp)
        clear hp
        cases ht : Pr.hasq K mq with
        | true =>
          have HT := Lib.hid ht
          clear ht
          go_upto_region 23 with (at_builtin; refine wpList_appC manyP rfl (.tmp 96) (.tmp 98) rfl rfl (HW.out.own.alloc (.cells (Pr.Mg.cells ⟨1, who, mq, ms, mn⟩).toArray 59)) ⟨wr.heap.size, 0, none⟩ 1 1 (Pr.Mg.cells ⟨1, who, mq, ms, mn⟩) (Pr.cells_one _) rfl (rdc_new 5 wr 59 (Pr.Mg.cells ⟨1, who, mq, ms, mn⟩) 1 rfl (0, 0)) (by omega) (Nat.le_trans HW.out.bel.size (by simp)) ?_; intro A3 c3 wf hg3; have HG := Lib.hid (((HW.out.below ((Below.refl _ _).alloc (Nat.le_refl _) _)).push hg3).is HX.out); clear hg3)
          clear p2 m0 m1 m2 m3 m4
          have HE := Lib.hid (H.out.below HG.out.bel)
          have HKE := Lib.hid (HK.out.below HG.out.bel)
          obtain ⟨p0, p1, p2⟩ := results3 HE.out.p
          obtain ⟨m0, m1, m2, m3, m4⟩ := results5 HE.out.m
          obtain ⟨r0, r1, r2⟩ := results3 HE.out.r
          obtain ⟨s0, s1, s2, s3, s4⟩ := results5 HE.out.z
          have y0 := HE.out.r.2.2 0
          have y1 := HE.out.r.2.2 1
          have y2 := HE.out.r.2.2 2
          have z0 := HE.out.z.2.2 0
          have z1 := HE.out.z.2.2 1
          have z2 := HE.out.z.2.2 2
          have z3 := HE.out.z.2.2 3
          have z4 := HE.out.z.2.2 4
          go_wp2_with fail
          go_region
          go_wp2
          obtain ⟨c0, c1, c2⟩ := results3 ((HE.out.r.set3 (.int .i64 who) (.slice A n cap) (.slice B K.length c)).other5 (b := w.heap.size + 1 + 1 + 1) (x := .int .i64 2) (y := .int .i64 who) (z := .int .i64 mq) (u := .string ⟨#[]⟩) (v := .int .i64 0) (by omega))
          obtain ⟨d0, d1, d2, d3, d4⟩ := results5 ((HE.out.z.other3 (b := w.heap.size + 1 + 1) (x := .int .i64 who) (y := .slice A n cap) (z := .slice B K.length c) (by omega)).set5 (.int .i64 2) (.int .i64 who) (.int .i64 mq) (.string ⟨#[]⟩) (.int .i64 0))
          refine ⟨rfl, .tuple #[.agg #[.int .i64 who, .slice A n cap, .slice B K.length c], .agg #[.int .i64 2, .int .i64 who, .int .i64 mq, .string ⟨#[]⟩, .int .i64 0], .bool true], ?_, gives_had HT.out HR.out (below_set5 (below_set3 HE.out.bel _ _ _ _ (by omega)) _ _ _ _ _ _ (by omega)).drew⟩
          simp [results, Try.results26, go_sem, c0, c1, c2, d0, d1, d2, d3, d4]
        | false =>
          have HT := Lib.hid ht
          clear ht
          go_upto_region 23 with (at_builtin; refine wpList_appC manyP rfl (.tmp 96) (.tmp 98) rfl rfl (HW.out.own.alloc (.cells (Pr.Mg.cells ⟨1, who, mq, ms, mn⟩).toArray 59)) ⟨wr.heap.size, 0, none⟩ 1 1 (Pr.Mg.cells ⟨1, who, mq, ms, mn⟩) (Pr.cells_one _) rfl (rdc_new 5 wr 59 (Pr.Mg.cells ⟨1, who, mq, ms, mn⟩) 1 rfl (0, 0)) (by omega) (Nat.le_trans HW.out.bel.size (by simp)) ?_; intro A3 c3 wf hg3; have HG := Lib.hid (((HW.out.below ((Below.refl _ _).alloc (Nat.le_refl _) _)).push hg3).is HX.out); clear hg3)
          clear p2 m0 m1 m2 m3 m4
          have HE := Lib.hid (H.out.below HG.out.bel)
          have p2 := HE.out.p.at_ 2 rfl
          have pf := HE.out.p.2.2 2
          go_upto_region 25 with fail
          have HE2 := Lib.hid (HE.out.put2 (y' := .slice A3 (n' + 1) c3))
          have HGl := Lib.hid HG.out.len
          have HG2 := Lib.hid (HG.out.own.aside w.heap.size 2 (.slice A3 (n' + 1) c3) (Nat.lt_of_le_of_lt (by omega) H.out.big))
          clear p2 pf HE HG
          generalize (wf.setCell ⟨w.heap.size, 2, none⟩ (.slice A3 (n' + 1) c3)) = wg at *
          obtain ⟨p0, p1, p2⟩ := results3 HE2.out.p
          obtain ⟨m0, m1, m2, m3, m4⟩ := results5 HE2.out.m
          obtain ⟨r0, r1, r2⟩ := results3 HE2.out.r
          obtain ⟨s0, s1, s2, s3, s4⟩ := results5 HE2.out.z
          have y0 := HE2.out.r.2.2 0
          have y1 := HE2.out.r.2.2 1
          have y2 := HE2.out.r.2.2 2
          have z0 := HE2.out.z.2.2 0
          have z1 := HE2.out.z.2.2 1
          have z2 := HE2.out.z.2.2 2
          have z3 := HE2.out.z.2.2 3
          have z4 := HE2.out.z.2.2 4
          go_wp2_with fail
          go_region
          go_wp2
          obtain ⟨c0, c1, c2⟩ := results3 ((HE2.out.r.set3 (.int .i64 who) (.slice A n cap) (.slice A3 (n' + 1) c3)).other5 (b := w.heap.size + 1 + 1 + 1) (x := .int .i64 2) (y := .int .i64 who) (z := .int .i64 mq) (u := .string ⟨#[]⟩) (v := .int .i64 0) (by omega))
          obtain ⟨d0, d1, d2, d3, d4⟩ := results5 ((HE2.out.z.other3 (b := w.heap.size + 1 + 1) (x := .int .i64 who) (y := .slice A n cap) (z := .slice A3 (n' + 1) c3) (by omega)).set5 (.int .i64 2) (.int .i64 who) (.int .i64 mq) (.string ⟨#[]⟩) (.int .i64 0))
          refine ⟨rfl, .tuple #[.agg #[.int .i64 who, .slice A n cap, .slice A3 (n' + 1) c3], .agg #[.int .i64 2, .int .i64 who, .int .i64 mq, .string ⟨#[]⟩, .int .i64 0], .bool true], ?_, gives_new HT.out ((HG2.out.aside3 (w.heap.size + 1 + 1) (.int .i64 who) (.slice A n cap) (.slice A3 (n' + 1) c3) (Nat.lt_of_le_of_lt (by omega) H.out.big)).aside5 (w.heap.size + 1 + 1 + 1) (.int .i64 2) (.int .i64 who) (.int .i64 mq) (.string ⟨#[]⟩) (.int .i64 0) H.out.big) HGl.out (below_set5 (below_set3 HE2.out.bel _ _ _ _ (by omega)) _ _ _ _ _ _ (by omega)) H.out.bel.size⟩
          simp [results, Try.results26, go_sem, c0, c1, c2, d0, d1, d2, d3, d4]
end Go.Proofs.Ythganbbiclmgpaa
