/- A peer's Offer where it may be. -/
import Derived.Test.YthganbbiclmgpaaPrOff
namespace Go.Proofs.Ythganbbiclmgpaa
open Go.RowKit
/-- What Offer gives. -/
def GivesOffer (g b1 b2 b3 : Nat) (who : Int) (S O G : List Pr.Mg) (m : Pr.Mg) (w : World) (e : Ending) (w' : World) : Prop :=
  e = .returned (.tuple #[.agg m.cells.toArray, .int .i64 0]) ∧ Peer w' g b1 b2 b3 who (Pr.ins m S) (Pr.ins m O) G ∧ PCh b1 b2 b3 w w'
theorem off_next {w w1 : World} {g b1 b2 b3 : Nat} {who : Int} {S O G : List Pr.Mg} {m : Pr.Mg} {zs : List Value} (hb : Below w.heap.size w w1) (hP : Peer w1 g b1 b2 b3 who S O G) (hR : Holds w1 w.heap.size zs) {cs : List Value} (hm : m.cells = cs) :
    Below w.heap.size w (w1.alloc (.cells cs.toArray 59)).drew ∧ Peer (w1.alloc (.cells cs.toArray 59)).drew g b1 b2 b3 who S O G ∧ Holds (w1.alloc (.cells cs.toArray 59)).drew w1.heap.size m.cells ∧ Holds (w1.alloc (.cells cs.toArray 59)).drew w.heap.size zs ∧
      (b1 < w1.heap.size ∧ b2 < w1.heap.size) ∧ w.heap.size < w1.heap.size := by
  have h1 : Below w1.heap.size w1 (w1.alloc (.cells cs.toArray 59)).drew := ((Below.refl _ _).alloc (Nat.le_refl _) _).drew
  subst hm
  exact ⟨hb.trans (h1.mono hb.size), hP.below h1, Holds.new w1 m.cells.toArray 59, hR.below h1, ⟨hP.sent.lt, hP.open_.lt⟩, hR.1⟩
theorem Peer.low {w w' : World} {B g b1 b2 b3 : Nat} {who : Int} {S O G : List Pr.Mg} (h : Peer w g b1 b2 b3 who S O G) (hb : Below B w w') (hB : g < B ∧ b1 < B ∧ b2 < B ∧ b3 < B) : Peer w' g b1 b2 b3 who S O G :=
  ⟨⟨Nat.lt_of_lt_of_le h.box.1 hb.size, fun i v hv => (hb.cell (p := ⟨g, i, none⟩) hB.1).trans (h.box.2.1 i v hv), fun i => (hb.frozen (p := ⟨g, i, none⟩) hB.1).trans (h.box.2.2 i)⟩,
    h.sent.block (hb.block _ hB.2.1), h.open_.block (hb.block _ hB.2.2.1), h.got.block (hb.block _ hB.2.2.2), h.far⟩
theorem off_end {w w1 w3 : World} {g b1 b2 b3 : Nat} {who : Int} {S O G : List Pr.Mg} {m : Pr.Mg} {F : Nat → Nat → World} {s1 s2 : Value} {zs : List Value} (hb : Below w.heap.size w w3) (hP : Peer w3 g b1 b2 b3 who S O G) (hM : Holds w3 w1.heap.size m.cells) (hR : Holds w3 w.heap.size zs)
    (hF : Steps2 w3.drew b1 b2 m S O F s1 s2) (hlt : g < w.heap.size ∧ b1 < w.heap.size ∧ b2 < w.heap.size ∧ b3 < w.heap.size) (hfar : b1 ≠ b2 ∧ b1 ≠ b3 ∧ b2 ≠ b3 ∧ g ≠ b1 ∧ g ≠ b2 ∧ g ≠ b3) (hw : w.heap.size < w1.heap.size) :
    (∀ w6, Below w.heap.size (F 2 2) w6 → PCh b1 b2 b3 w w6) ∧ (∀ w6, Below w.heap.size (F 2 2) w6 → Peer w6 g b1 b2 b3 who (Pr.ins m S) (Pr.ins m O) G) ∧ Holds (F 2 2) w1.heap.size m.cells ∧ Holds (F 2 2) w.heap.size zs := by
  have hc := hF.ch b3
  have hP5 : Peer (F 2 2) g b1 b2 b3 who (Pr.ins m S) (Pr.ins m O) G :=
    ⟨hc.holds (w := w3.drew) hP.box hfar.2.2.2.1 hfar.2.2.2.2.1 hfar.2.2.2.2.2, hF.sent, hF.open_, hP.got.block (hF.other b3 (Ne.symm hfar.2.1) (Ne.symm hfar.2.2.1)), hfar⟩
  refine ⟨fun w6 h6 => ?_, fun w6 h6 => hP5.low h6 hlt, hc.holds (w := w3.drew) hM (by omega) (by omega) (by omega), hc.holds (w := w3.drew) hR (by omega) (by omega) (by omega)⟩
  have h1 := (PCh.of_below (b1 := b1) (b2 := b2) (b3 := b3) (hb.drew)).trans hc
  exact ⟨h6.os.trans h1.os, h6.tape.trans h1.tape, h6.output.trans h1.output, Nat.le_trans h1.size h6.size, fun k hk p q r => (h6.block k hk).trans (h1.block k hk p q r)⟩
set_option maxRecDepth 100000 in
set_option maxHeartbeats 4000000 in
theorem offer_ok (g b1 b2 b3 : Nat) (who : Int) (S O G : List Pr.Mg) (key : ByteArray) (n : Int) (w : World) (h : Peer w g b1 b2 b3 who S O G) (hw : 0 < who) (k1 : 1 ≤ key.size) (k2 : key.size ≤ 16) (k3 : 1 ≤ n) (k4 : n ≤ 1125899906842624)
    (hS : S.length ≤ 1000) (hO : O.length < 64) (n1 : Pr.hasq S (S.length : Int) = false) (n2 : Pr.hasq O (S.length : Int) = false) :
    Calls Try.prog 23 #[.pointer (some ⟨g, 0, none⟩), .string key, .int .i64 n] w (GivesOffer g b1 b2 b3 who S O G ⟨1, who, S.length, key, n⟩ w) := by
  have HB0 := Lib.hid (show Below w.heap.size w (w.alloc (.cells #[.int .i64 0, .int .i64 0, .int .i64 0, .string ⟨#[]⟩, .int .i64 0] 59)) from (Below.refl _ _).alloc (Nat.le_refl _) _)
  have hP := h.below HB0.out
  have HP := Lib.hid hP
  have Hm := Lib.hid (pmade_any g who _ _ _ _ hP.box hw)
  have Hbx := Lib.hid (Holds.new w #[.int .i64 0, .int .i64 0, .int .i64 0, .string ⟨#[]⟩, .int .i64 0] 59)
  have hlt : g < w.heap.size ∧ b1 < w.heap.size ∧ b2 < w.heap.size ∧ b3 < w.heap.size := ⟨h.box.1, h.sent.lt, h.open_.lt, h.got.lt⟩
  have HLT := Lib.hid hlt
  have HF := Lib.hid h.far
  have N1 := Lib.hid n1
  have N2 := Lib.hid n2
  have q1 : ¬ (key.size : Int) < 1 := by omega
  have q2 : ¬ (16 : Int) < (key.size : Int) := by omega
  have q3 : ¬ n < 1 := by omega
  have q4 : ¬ 1125899906842624 < n := by omega
  have q5 : ¬ (64 : Int) ≤ (O.length : Int) := by omega
  clear h hP hlt n1 n2
  go_enter Try.func23, Try.ntmps23
  go_wp2_with fail
  generalize (w.alloc (.cells #[.int .i64 0, .int .i64 0, .int .i64 0, .string ⟨#[]⟩, .int .i64 0] 59)) = w1 at *
  refine Hm.out.mono ?_
  rintro e w2 ⟨rfl, rfl⟩
  clear Hm
  have c0 := HP.out.box.at_ 0 rfl
  have c1 := HP.out.box.at_ 1 rfl
  have c2 := HP.out.box.at_ 2 rfl
  have hlen2 := HP.out.open_.len_run 3
  go_upto_region 7 with fail
  clear q1 q2 q3 q4 q5 hlen2 c2
  have hlen1 := HP.out.sent.len_run 3
  have hlen1d := Bk.len_run (w := w1.drew) (HP.out.sent.block rfl) 3
  have hlenA : ∀ o, (Builtin.len_ #[80] 3 #[.map (some b1)]).run Try.prog (w1.alloc o).drew = .ok (.int .i64 (S.length : Nat)) (w1.alloc o).drew := fun o => Bk.len_run (w := (w1.alloc o).drew) ((HP.out.sent.below ((Below.refl _ _).alloc (Nat.le_refl _) o)).block rfl) 3
  have cA0 : ∀ o, (w1.alloc o).cell? ⟨g, 0, none⟩ = some (.int .i64 who) := fun o => (HP.out.box.alloc o).at_ 0 rfl
  have cA1 : ∀ o, (w1.alloc o).cell? ⟨g, 1, none⟩ = some (.map (some b1)) := fun o => (HP.out.box.alloc o).at_ 1 rfl
  go_region
  clear hlen1 hlen1d hlenA cA0 cA1 c0 c1
  have hQ : Q64 (S.length : Int) := by constructor <;> omega
  have HN := Lib.hid (off_next HB0.out HP.out Hbx.out (m := ⟨1, who, S.length, key, n⟩) (cs := [.int .i64 1, .int .i64 who, .int .i64 (S.length : Int), .string key, .int .i64 n]) rfl)
  generalize (w1.alloc (.cells #[.int .i64 1, .int .i64 who, .int .i64 (S.length : Int), .string key, .int .i64 n] 59)).drew = w3 at *
  obtain ⟨hb3, hP3, hM3, hR3, hz1, hz2⟩ := HN.out
  clear HP Hbx HN
  obtain ⟨F, s1, s2, hF⟩ := steps2 (w := w3.drew) (m := ⟨1, who, S.length, key, n⟩) (hP3.sent.block rfl) (hP3.open_.block rfl) HF.out.1 (by omega) (by omega) hQ N1.out N2.out
  have HF2 := Lib.hid hF
  have e10 := hF.e1 0
  have e20 := hF.e2 0
  rw [hF.start] at e10 e20
  have e1 := hF.e1
  have e2 := hF.e2
  have t1 : ∀ j, (Instr.entryStore 80 (.map (some b1)) s1 (.agg #[.int .i64 1, .int .i64 who, .int .i64 (S.length : Int), .string key, .int .i64 n])).run Try.prog (F 1 j) = .ok () (F 2 j) := hF.t1
  have t2 : ∀ j, (Instr.entryStore 80 (.map (some b2)) s2 (.agg #[.int .i64 1, .int .i64 who, .int .i64 (S.length : Int), .string key, .int .i64 n])).run Try.prog (F j 1) = .ok () (F j 2) := hF.t2
  have cg : ∀ i j o, (F i j).cell? ⟨g, o, none⟩ = w3.cell? ⟨g, o, none⟩ := fun i j o => hF.cell i j g o HF.out.2.2.2.1 HF.out.2.2.2.2.1
  have cm : ∀ i j o, (F i j).cell? ⟨w1.heap.size, o, none⟩ = w3.cell? ⟨w1.heap.size, o, none⟩ := fun i j o => hF.cell i j _ o (by omega) (by omega)
  have g1 := hP3.box.at_ 1 rfl
  have g2 := hP3.box.at_ 2 rfl
  have m0 := hM3.at_ 0 rfl
  have m1 := hM3.at_ 1 rfl
  have m2 := hM3.at_ 2 rfl
  have m3 := hM3.at_ 3 rfl
  have m4 := hM3.at_ 4 rfl
  have HP3 := Lib.hid hP3
  have HM3 := Lib.hid hM3
  have HR3 := Lib.hid hR3
  have HB3 := Lib.hid hb3
  clear hF hP3 hM3 hR3 hb3 hQ
  go_wp2_with fail
  go_region_held3 (fun W => W.cell? ⟨g, 1, none⟩ = some (.map (some b1)) ∧ W.cell? ⟨g, 2, none⟩ = some (.map (some b2)) ∧ W.cell? ⟨w1.heap.size, 0, none⟩ = some (.int .i64 1) ∧ W.cell? ⟨w1.heap.size, 1, none⟩ = some (.int .i64 who) ∧ W.cell? ⟨w1.heap.size, 2, none⟩ = some (.int .i64 (S.length : Int)) ∧ W.cell? ⟨w1.heap.size, 3, none⟩ = some (.string key) ∧ W.cell? ⟨w1.heap.size, 4, none⟩ = some (.int .i64 n)) (go_keep) (fail)
  have HE := Lib.hid (off_end HB3.out HP3.out HM3.out HR3.out HF2.out HLT.out HF.out (by omega))
  clear e10 e20 e1 e2 t1 t2 cg cm g1 g2 m0 m1 m2 m3 m4
  generalize F 2 2 = w5 at *
  obtain ⟨hb5, hP5, hM5, hR5⟩ := HE.out
  obtain ⟨m0, m1, m2, m3, m4⟩ := results5 hM5
  obtain ⟨r0, r1, r2, r3, r4⟩ := results5 hR5
  have z0 := hR5.2.2 0
  have z1 := hR5.2.2 1
  have z2 := hR5.2.2 2
  have z3 := hR5.2.2 3
  have z4 := hR5.2.2 4
  have HX := Lib.hid (And.intro hb5 (And.intro hP5 hR5))
  clear hb5 hP5 hM5 hR5
  go_wp2
  obtain ⟨hb5, hP5, hR5⟩ := HX.out
  obtain ⟨c0, c1, c2, c3, c4⟩ := results5 (hR5.set5 (.int .i64 1) (.int .i64 who) (.int .i64 (S.length : Int)) (.string key) (.int .i64 n))
  refine ⟨rfl, .tuple #[.agg #[.int .i64 1, .int .i64 who, .int .i64 (S.length : Int), .string key, .int .i64 n], .int .i64 0], ?_, rfl, hP5 _ (below_set5 (Below.refl _ _) _ _ _ _ _ _ (Nat.le_refl _)), hb5 _ (below_set5 (Below.refl _ _) _ _ _ _ _ _ (Nat.le_refl _))⟩
  simp [results, Try.results23, go_sem, c0, c1, c2, c3, c4]
end Go.Proofs.Ythganbbiclmgpaa
