/- The document's Offer of what may not be, or where too many wait. -/
import Derived.Test.YthganbbiclmgpaaPrRef1
import Derived.Test.YthganbbiclmgpaaMlRefs
namespace Go.Proofs.Ythganbbiclmgpaa
open Go.RowKit
theorem three_boxes (w : World) (a b c : Array Value) (ta tb tc : TypeId) : Holds (((w.alloc (.cells a ta)).alloc (.cells b tb)).alloc (.cells c tc)) w.heap.size a.toList ∧ Holds (((w.alloc (.cells a ta)).alloc (.cells b tb)).alloc (.cells c tc)) (w.heap.size + 1) b.toList ∧ Holds (((w.alloc (.cells a ta)).alloc (.cells b tb)).alloc (.cells c tc)) (w.heap.size + 1 + 1) c.toList ∧ Below w.heap.size w (((w.alloc (.cells a ta)).alloc (.cells b tb)).alloc (.cells c tc)) := by
  have e1 : (w.alloc (.cells a ta)).heap.size = w.heap.size + 1 := by simp
  have e2 : ((w.alloc (.cells a ta)).alloc (.cells b tb)).heap.size = w.heap.size + 1 + 1 := by simp
  refine ⟨((Holds.new w a ta).alloc _).alloc _, ?_, ?_, (((Below.refl _ _).alloc (Nat.le_refl _) _).alloc (by omega) _).alloc (by omega) _⟩
  · have h := (Holds.new (w.alloc (.cells a ta)) b tb).alloc (.cells c tc)
    rw [e1] at h
    exact h
  · have h := Holds.new ((w.alloc (.cells a ta)).alloc (.cells b tb)) c tc
    rw [e2] at h
    exact h
theorem Holds.other5 {w : World} {b c : Nat} {cs : List Value} {x y z u v : Value} (k : Holds w c cs) (h : c ≠ b) : Holds (((((w.setCell ⟨b, 0, none⟩ x).setCell ⟨b, 1, none⟩ y).setCell ⟨b, 2, none⟩ z).setCell ⟨b, 3, none⟩ u).setCell ⟨b, 4, none⟩ v) c cs := ((k.other3 h).other h).other h
set_option maxRecDepth 100000 in
set_option maxHeartbeats 4000000 in
theorem roffer_arg (who : Int) (A B : Option Addr) (cap k c : Nat) (l : List Pr.Out) (key : ByteArray) (n : Int) (w : World) (hno : ¬ (1 ≤ key.size ∧ key.size ≤ 16 ∧ 1 ≤ n ∧ n ≤ 1125899906842624)) :
    Calls Try.prog 24 #[.agg #[.int .i64 who, .slice A l.length cap, .slice B k c], .string key, .int .i64 n] w fun e w' => e = .returned (.tuple #[.agg #[.int .i64 who, .slice A l.length cap, .slice B k c], .agg #[.int .i64 0, .int .i64 0, .int .i64 0, .string ⟨#[]⟩, .int .i64 0], .int .i64 1]) ∧ Below w.heap.size w w' := by
  have H3 := Lib.hid (three_boxes w #[.int .i64 who, .slice A l.length cap, .slice B k c] #[.int .i64 0, .slice none 0 0, .slice none 0 0] #[.int .i64 0, .int .i64 0, .int .i64 0, .string ⟨#[]⟩, .int .i64 0] 54 54 59)
  have key4 : ((key.size : Int) < 1) ∨ (¬ (key.size : Int) < 1 ∧ (16 : Int) < (key.size : Int)) ∨ (¬ (key.size : Int) < 1 ∧ ¬ (16 : Int) < (key.size : Int) ∧ n < 1) ∨ (¬ (key.size : Int) < 1 ∧ ¬ (16 : Int) < (key.size : Int) ∧ ¬ n < 1 ∧ 1125899906842624 < n) := by omega
  clear hno
  rcases key4 with k1 | ⟨k1, k2⟩ | ⟨k1, k2, k3⟩ | ⟨k1, k2, k3, k4⟩
  all_goals
    go_enter Try.func24, Try.ntmps24
    go_upto_region 1 with fail
    generalize (((w.alloc (.cells #[.int .i64 who, .slice A l.length cap, .slice B k c] 54)).alloc (.cells #[.int .i64 0, .slice none 0 0, .slice none 0 0] 54)).alloc (.cells #[.int .i64 0, .int .i64 0, .int .i64 0, .string ⟨#[]⟩, .int .i64 0] 59)) = w1 at *
    obtain ⟨hp, hr, hm, hb⟩ := H3.out
    have HB := Lib.hid hb
    have HPm := Lib.hid hp
    have HRm := Lib.hid hr
    have HMm := Lib.hid hm
    obtain ⟨p0, p1, p2⟩ := results3 hp
    obtain ⟨r0, r1, r2⟩ := results3 hr
    obtain ⟨m0, m1, m2, m3, m4⟩ := results5 hm
    have y0 := hr.2.2 0
    have y1 := hr.2.2 1
    have y2 := hr.2.2 2
    have z0 := hm.2.2 0
    have z1 := hm.2.2 1
    have z2 := hm.2.2 2
    have z3 := hm.2.2 3
    have z4 := hm.2.2 4
    clear hp hr hm hb H3
    go_wp2
    obtain ⟨c0, c1, c2⟩ := results3 ((HRm.out.set3 (.int .i64 who) (.slice A l.length cap) (.slice B k c)).other5 (b := w.heap.size + 1 + 1) (x := .int .i64 0) (y := .int .i64 0) (z := .int .i64 0) (u := .string ⟨#[]⟩) (v := .int .i64 0) (by omega))
    obtain ⟨d0, d1, d2, d3, d4⟩ := results5 ((HMm.out.other3 (b := w.heap.size + 1) (x := .int .i64 who) (y := .slice A l.length cap) (z := .slice B k c) (by omega)).set5 (.int .i64 0) (.int .i64 0) (.int .i64 0) (.string ⟨#[]⟩) (.int .i64 0))
    refine ⟨rfl, .tuple #[.agg #[.int .i64 who, .slice A l.length cap, .slice B k c], .agg #[.int .i64 0, .int .i64 0, .int .i64 0, .string ⟨#[]⟩, .int .i64 0], .int .i64 1], ?_, rfl, below_set5 (below_set3 HB.out _ _ _ _ (by omega)) _ _ _ _ _ _ (by omega)⟩
    simp [results, Try.results24, go_sem, c0, c1, c2, d0, d1, d2, d3, d4]
set_option maxRecDepth 100000 in
set_option maxHeartbeats 4000000 in
theorem roffer_crowd (who : Int) (A B : Option Addr) (cap k c : Nat) (l : List Pr.Out) (key : ByteArray) (n : Int) (w : World) (k1 : 1 ≤ key.size) (k2 : key.size ≤ 16) (k3 : 1 ≤ n) (k4 : n ≤ 1125899906842624) (h : RdO w A l.length l) (hl : l.length ≤ 1000) (ho : 64 ≤ (Pr.openL l).length) :
    Calls Try.prog 24 #[.agg #[.int .i64 who, .slice A l.length cap, .slice B k c], .string key, .int .i64 n] w fun e w' => e = .returned (.tuple #[.agg #[.int .i64 who, .slice A l.length cap, .slice B k c], .agg #[.int .i64 0, .int .i64 0, .int .i64 0, .string ⟨#[]⟩, .int .i64 0], .int .i64 214]) ∧ Below w.heap.size w w' := by
  have H3 := Lib.hid (three_boxes w #[.int .i64 who, .slice A l.length cap, .slice B k c] #[.int .i64 0, .slice none 0 0, .slice none 0 0] #[.int .i64 0, .int .i64 0, .int .i64 0, .string ⟨#[]⟩, .int .i64 0] 54 54 59)
  have HA := Lib.hid (fun wx hx => ragain_any who A B cap k c l wx hx hl)
  have HR := Lib.hid h
  have q1 : ¬ (key.size : Int) < 1 := by omega
  have q2 : ¬ (16 : Int) < (key.size : Int) := by omega
  have q3 : ¬ n < 1 := by omega
  have q4 : ¬ 1125899906842624 < n := by omega
  have q5 : (64 : Int) ≤ ((Pr.openL l).length : Int) := by omega
  clear h k1 k2 k3 k4
  go_enter Try.func24, Try.ntmps24
  go_upto_region 1 with fail
  generalize (((w.alloc (.cells #[.int .i64 who, .slice A l.length cap, .slice B k c] 54)).alloc (.cells #[.int .i64 0, .slice none 0 0, .slice none 0 0] 54)).alloc (.cells #[.int .i64 0, .int .i64 0, .int .i64 0, .string ⟨#[]⟩, .int .i64 0] 59)) = w1 at *
  obtain ⟨p0, p1, p2⟩ := results3 H3.out.1
  go_wp2_with fail
  refine (HA.out w1 (HR.out.below H3.out.2.2.2)).mono ?_
  intro e w2 hg
  obtain ⟨A2, c2, rfl, h1, h2, h3, h4⟩ := hg
  have HPm := Lib.hid (H3.out.1.below h2)
  have HRm := Lib.hid (H3.out.2.1.below h2)
  have HMm := Lib.hid (H3.out.2.2.1.below h2)
  have HB := Lib.hid (below_next H3.out.2.2.2 h2)
  clear p0 p1 p2 h1 h2 h3 h4 H3
  obtain ⟨p0, p1, p2⟩ := results3 HPm.out
  obtain ⟨r0, r1, r2⟩ := results3 HRm.out
  obtain ⟨m0, m1, m2, m3, m4⟩ := results5 HMm.out
  have y0 := HRm.out.2.2 0
  have y1 := HRm.out.2.2 1
  have y2 := HRm.out.2.2 2
  have z0 := HMm.out.2.2 0
  have z1 := HMm.out.2.2 1
  have z2 := HMm.out.2.2 2
  have z3 := HMm.out.2.2 3
  have z4 := HMm.out.2.2 4
  go_wp2
  obtain ⟨c0, c1, c2⟩ := results3 ((HRm.out.set3 (.int .i64 who) (.slice A l.length cap) (.slice B k c)).other5 (b := w.heap.size + 1 + 1) (x := .int .i64 0) (y := .int .i64 0) (z := .int .i64 0) (u := .string ⟨#[]⟩) (v := .int .i64 0) (by omega))
  obtain ⟨d0, d1, d2, d3, d4⟩ := results5 ((HMm.out.other3 (b := w.heap.size + 1) (x := .int .i64 who) (y := .slice A l.length cap) (z := .slice B k c) (by omega)).set5 (.int .i64 0) (.int .i64 0) (.int .i64 0) (.string ⟨#[]⟩) (.int .i64 0))
  refine ⟨rfl, .tuple #[.agg #[.int .i64 who, .slice A l.length cap, .slice B k c], .agg #[.int .i64 0, .int .i64 0, .int .i64 0, .string ⟨#[]⟩, .int .i64 0], .int .i64 214], ?_, rfl, below_set5 (below_set3 HB.out _ _ _ _ (by omega)) _ _ _ _ _ _ (by omega)⟩
  simp [results, Try.results24, go_sem, c0, c1, c2, d0, d1, d2, d3, d4]
end Go.Proofs.Ythganbbiclmgpaa
