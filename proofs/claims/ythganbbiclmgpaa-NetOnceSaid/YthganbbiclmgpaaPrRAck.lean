/- The document's Hear of an ack. -/
import Derived.Test.YthganbbiclmgpaaPrROff2
import Derived.Test.YthganbbiclmgpaaPrRHear
namespace Go.Proofs.Ythganbbiclmgpaa
open Go.RowKit
namespace Pr
/-- Its ack is there. -/
def ackL : List Out → Nat → List Out
  | [], _ => []
  | x :: xs, 0 => ⟨x.m, true⟩ :: xs
  | x :: xs, j + 1 => x :: ackL xs j
theorem ack_length : ∀ (l : List Out) (j : Nat), (ackL l j).length = l.length
  | [], _ => rfl
  | _ :: _, 0 => rfl
  | x :: xs, j + 1 => by simp [ackL, ack_length xs j]
theorem flatO_ack : ∀ (l : List Out) (j : Nat), j < l.length → (flatO l).set (j * 6 + 5) (.bool true) = flatO (ackL l j)
  | [], j, h => by simp at h
  | x :: xs, 0, _ => by
    show (x.cells ++ flatO xs).set 5 (.bool true) = (Out.cells ⟨x.m, true⟩) ++ flatO xs
    rw [List.set_append_left _ _ (by simp [Out.cells])]
    rfl
  | x :: xs, j + 1, h => by
    have h3 : x.cells.length = 6 := rfl
    show (x.cells ++ flatO xs).set ((j + 1) * 6 + 5) (.bool true) = x.cells ++ flatO (ackL xs j)
    rw [List.set_append_right _ _ (by rw [h3]; omega), h3, show (j + 1) * 6 + 5 - 6 = j * 6 + 5 by omega, flatO_ack xs j (by simpa using h)]
end Pr
/-- What Hear gives behind an ack of its own. -/
def GivesRAck (who : Int) (B : Option Addr) (k c : Nat) (l : List Pr.Out) (j : Nat) (w : World) (e : Ending) (w' : World) : Prop :=
  ∃ A' cap', e = .returned (.tuple #[.agg #[.int .i64 who, .slice A' l.length cap', .slice B k c], .agg #[.int .i64 0, .int .i64 0, .int .i64 0, .string ⟨#[]⟩, .int .i64 0], .bool false]) ∧ Below w.heap.size w w' ∧ FreshO w A' l.length cap' (Pr.ackL l j) w'
/-- The row and the boxes behind the append and the two stores. -/
theorem ack_next {w w1 v : World} {who : Int} {y y' z : Value} {ms rs zs : List Value} {g c3 j : Nat} {l : List Pr.Out} (H : HBox w w1 [.int .i64 who, y, z] ms rs zs) (hb : Below w1.heap.size w1 v) (ho : OwnC 6 v w1.heap.size 89 (some ⟨g, 0, none⟩) l.length c3 (Pr.flatO l)) (hj : j < l.length) :
    HBox w ((v.setCell ⟨w.heap.size, 1, none⟩ y').setCell ⟨g, j * 6 + 5, none⟩ (.bool true)) [.int .i64 who, y', z] ms rs zs ∧ FreshO w1 (some ⟨g, 0, none⟩) l.length c3 (Pr.ackL l j) ((v.setCell ⟨w.heap.size, 1, none⟩ y').setCell ⟨g, j * 6 + 5, none⟩ (.bool true)) := by
  have hg := (ho.blk g rfl).1
  have hbig := H.big
  have HV := H.below hb
  have hs := hb.size
  refine ⟨⟨(HV.p.set 1 y' (by simp)).other (by omega), (HV.m.other (by omega)).other (by omega), (HV.r.other (by omega)).other (by omega), (HV.z.other (by omega)).other (by omega), below_set (below_set HV.bel _ _ (Nat.le_refl _)) _ _ (by show _ ≤ g; omega), by simpa [World.setCell] using HV.big⟩, ?_⟩
  have h1 := ho.aside w.heap.size 1 y' (by omega)
  have h2 := (World.ownsRow.stored h1 (j * 6 + 5) (.bool true)).1
  rw [Pr.flatO_ack l j hj] at h2
  exact fresh_of (Nat.le_refl _) h2 rfl (Pr.ack_length l j).symm (by omega)
set_option maxRecDepth 100000 in
set_option maxHeartbeats 4000000 in
theorem rhear_ack (who : Int) (A B : Option Addr) (cap k c j : Nat) (l : List Pr.Out) (s : ByteArray) (mn : Int) (w : World) (h : RdO w A l.length l) (hl : l.length ≤ 1000) (hj : j < l.length) :
    Calls Try.prog 26 #[.agg #[.int .i64 who, .slice A l.length cap, .slice B k c], .agg #[.int .i64 2, .int .i64 who, .int .i64 (j : Int), .string s, .int .i64 mn]] w (GivesRAck who B k c l j w) := by
  have H := Lib.hid (hbox_new w #[.int .i64 who, .slice A l.length cap, .slice B k c] #[.int .i64 2, .int .i64 who, .int .i64 (j : Int), .string s, .int .i64 mn] #[.int .i64 0, .slice none 0 0, .slice none 0 0] #[.int .i64 0, .int .i64 0, .int .i64 0, .string ⟨#[]⟩, .int .i64 0] 54 59 54 59)
  have HR := Lib.hid h
  obtain ⟨b, o, hA, _, _⟩ := h.2.2 (by omega)
  subst hA
  clear h
  obtain ⟨⟨mj, d⟩, hx⟩ : ∃ x, l[j]? = some x := ⟨_, List.getElem?_eq_getElem hj⟩
  have t1 : (who != who) = false := by simp
  have t2 : ¬ (j : Int) < 0 := by omega
  have t3 : (j : Int) < (l.length : Int) := by omega
  go_enter Try.func26, Try.ntmps26
  go_upto_region 1 with fail
  generalize ((((w.alloc (.cells #[.int .i64 who, .slice (some ⟨b, o, none⟩) l.length cap, .slice B k c] 54)).alloc (.cells #[.int .i64 2, .int .i64 who, .int .i64 (j : Int), .string s, .int .i64 mn] 59)).alloc (.cells #[.int .i64 0, .slice none 0 0, .slice none 0 0] 54)).alloc (.cells #[.int .i64 0, .int .i64 0, .int .i64 0, .string ⟨#[]⟩, .int .i64 0] 59)) = w1 at *
  obtain ⟨p0, p1, p2⟩ := results3 H.out.p
  obtain ⟨m0, m1, m2, m3, m4⟩ := results5 H.out.m
  have hE : Below w1.heap.size w1 (w1.alloc (.cells #[] 89)) := (Below.refl _ _).alloc (Nat.le_refl _) _
  have OC := Lib.hid (OwnC.empty 6 w1 89 w1.heap.size (Nat.le_refl _))
  have RL := Lib.hid ((HR.out.below H.out.bel).below hE).2
  have hl1 : 0 + l.length ≤ 1000000 := by omega
  have hle := hE.size
  have hbig : w.heap.size + 1 + 1 + 1 < w1.heap.size := H.out.big
  have u1 := (H.out.below hE).p.at_ 1 rfl
  have HE := Lib.hid hE
  clear hE
  go_upto_region 7 with (at_builtin; refine wpList_appC manyO rfl (.tmp 32) (.tmp 34) rfl rfl OC.out ⟨b, o, none⟩ l.length cap (Pr.flatO l) (Pr.flatO_one l) rfl RL.out hl1 hle ?_; intro A3 c3 v3 hg3; obtain ⟨T1, T2, T3⟩ := first_app6 HE.out (Nat.le_refl _) hg3; obtain ⟨g, hA3, hg1, hg2⟩ := T2.form (by omega); subst hA3; have f0 := T2.frozenAt; have ec : v3.cell? ⟨g, j * 6 + 5, none⟩ = some (.bool d) := (World.ownsRow.cellAt T2 (j * 6 + 5) (by omega)).trans (Pr.flatO_at hx (j := 5) rfl); clear hg3; have HT1 := Lib.hid T1; have HT2 := Lib.hid T2; clear T1 T2 T3; have v1 := (H.out.below HT1.out).p.at_ 1 rfl; have v2 := (H.out.below HT1.out).m.at_ 2 rfl; have vf := (H.out.below HT1.out).p.2.2 1)
  have HX := Lib.hid (ack_next (y' := .slice (some ⟨g, 0, none⟩) l.length c3) H.out HT1.out HT2.out hj)
  clear p0 p1 p2 m0 m1 m2 m3 m4 u1 v1 v2 vf f0 ec HT1 HT2 t1 t2 t3 HE OC RL H
  generalize ((v3.setCell ⟨w.heap.size, 1, none⟩ (.slice (some ⟨g, 0, none⟩) l.length c3)).setCell ⟨g, j * 6 + 5, none⟩ (.bool true)) = v6 at *
  obtain ⟨p0, p1, p2⟩ := results3 HX.out.1.p
  obtain ⟨r0, r1, r2⟩ := results3 HX.out.1.r
  obtain ⟨s0, s1, s2, s3, s4⟩ := results5 HX.out.1.z
  have y0 := HX.out.1.r.2.2 0
  have y1 := HX.out.1.r.2.2 1
  have y2 := HX.out.1.r.2.2 2
  have z0 := HX.out.1.z.2.2 0
  have z1 := HX.out.1.z.2.2 1
  have z2 := HX.out.1.z.2.2 2
  have z3 := HX.out.1.z.2.2 3
  have z4 := HX.out.1.z.2.2 4
  go_wp2
  obtain ⟨c0, c1, c2⟩ := results3 ((HX.out.1.r.set3 (.int .i64 who) (.slice (some ⟨g, 0, none⟩) l.length c3) (.slice B k c)).other5 (b := w.heap.size + 1 + 1 + 1) (x := .int .i64 0) (y := .int .i64 0) (z := .int .i64 0) (u := .string ⟨#[]⟩) (v := .int .i64 0) (by omega))
  obtain ⟨d0, d1, d2, d3, d4⟩ := results5 ((HX.out.1.z.other3 (b := w.heap.size + 1 + 1) (x := .int .i64 who) (y := .slice (some ⟨g, 0, none⟩) l.length c3) (z := .slice B k c) (by omega)).set5 (.int .i64 0) (.int .i64 0) (.int .i64 0) (.string ⟨#[]⟩) (.int .i64 0))
  refine ⟨rfl, .tuple #[.agg #[.int .i64 who, .slice (some ⟨g, 0, none⟩) l.length c3, .slice B k c], .agg #[.int .i64 0, .int .i64 0, .int .i64 0, .string ⟨#[]⟩, .int .i64 0], .bool false], ?_, some ⟨g, 0, none⟩, c3, rfl, below_set5 (below_set3 HX.out.1.bel _ _ _ _ (by omega)) _ _ _ _ _ _ (by omega), (HX.out.2.store8 _ _ (by omega) (by omega) _ _ _ _ _ _ _ _).weak (by omega)⟩
  simp [results, Try.results26, go_sem, c0, c1, c2, d0, d1, d2, d3, d4]
end Go.Proofs.Ythganbbiclmgpaa
