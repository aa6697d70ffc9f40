/- A net's At, Len, Take, Lose and Twin. -/
import Derived.Test.YthganbbiclmgpaaMlOps
namespace Go.Proofs.Ythganbbiclmgpaa
open Go.RowKit
theorem Moved.shift {g cap : Nat} {A : Option Addr} {l l' : List Ml.M} {w w3 : World} (h : NetIs w g A cap l) (ho : OwnC 3 w3 (g + 1) 28 A l'.length cap (Ml.flat l')) (hg : w.grownBy w3 (Value.slice A l.length cap).ownBlock) :
    Moved g A cap l w A cap l' (w3.setCell ⟨g, 1, none⟩ (.slice A l'.length cap)) := by
  have hown : ∀ k, (Value.slice A l.length cap).ownBlock = some k → g + 1 ≤ k ∧ k < w.heap.size := fun k hk => h.row.blk k hk
  have hbx := (h.box.grown hg (fun e => by have := (hown _ e).1; omega)).set 1 (.slice A l'.length cap) (by simp)
  refine ⟨⟨hbx, ?_⟩, ⟨hg.os, hg.tape, hg.output, by simpa [World.setCell] using hg.size, fun k h1 h2 h3 => ?_⟩, fun k hk => .inl ?_⟩
  · exact ho.grown (grown_setCell w3 ⟨g, 1, none⟩ _) (.inr fun g' e e2 => by
      injection e with e
      have e : g = g' := e
      have := (ho.blk _ e2).1
      omega)
  · rw [Below.heap_setCell _ _ _ _ (fun e => h2 e)]
    exact hg.block k h1 (Ne.symm h3)
  · cases A with
    | none => cases hk
    | some a => exact hk
theorem results3 {w : World} {b : Nat} {x y z : Value} (h : Holds w b [x, y, z]) : w.cell? ⟨b, 0, none⟩ = some x ∧ w.cell? ⟨b, 1, none⟩ = some y ∧ w.cell? ⟨b, 2, none⟩ = some z := ⟨h.at_ 0 rfl, h.at_ 1 rfl, h.at_ 2 rfl⟩
theorem below_set {B : Nat} {z w : World} (h : Below B z w) (p : Addr) (v : Value) (hp : B ≤ p.block) : Below B z (w.setCell p v) :=
  h.trans ⟨rfl, rfl, rfl, by simp [World.setCell], fun k hk => Below.heap_setCell _ _ _ _ (fun e => by omega)⟩
theorem below_set3 {B : Nat} {z w : World} (h : Below B z w) (b : Nat) (x y v : Value) (hb : B ≤ b) : Below B z (((w.setCell ⟨b, 0, none⟩ x).setCell ⟨b, 1, none⟩ y).setCell ⟨b, 2, none⟩ v) :=
  below_set (below_set (below_set h _ _ hb) _ _ hb) _ _ hb
theorem Moved.store {g cap cap' : Nat} {A A' : Option Addr} {l l' : List Ml.M} {w w' : World} (h : Moved g A cap l w A' cap' l' w') (b i : Nat) (v : Value) (h1 : w.heap.size ≤ b) (h2 : g ≠ b) (h3 : (Value.slice A' l'.length cap').ownBlock ≠ some b) : Moved g A cap l w A' cap' l' (w'.setCell ⟨b, i, none⟩ v) :=
  ⟨⟨h.net.box.other h2, h.net.row.grown (grown_setCell w' ⟨b, i, none⟩ v) (.inr fun g' e e2 => h3 (e2.trans e.symm))⟩,
   ⟨h.ch.os, h.ch.tape, h.ch.output, by simpa [World.setCell] using h.ch.size, fun k e1 e2 e3 => by
     rw [Below.heap_setCell _ _ _ _ (fun e => by have e : k = b := e.symm ▸ rfl; omega)]
     exact h.ch.block k e1 e2 e3⟩, h.blk⟩
theorem Moved.store3 {g cap cap' : Nat} {A A' : Option Addr} {l l' : List Ml.M} {w w' : World} (h : Moved g A cap l w A' cap' l' w') (b : Nat) (x y z : Value) (h1 : w.heap.size ≤ b) (h2 : g ≠ b) (h3 : (Value.slice A' l'.length cap').ownBlock ≠ some b) : Moved g A cap l w A' cap' l' (((w'.setCell ⟨b, 0, none⟩ x).setCell ⟨b, 1, none⟩ y).setCell ⟨b, 2, none⟩ z) :=
  ((h.store b 0 x h1 h2 h3).store b 1 y h1 h2 h3).store b 2 z h1 h2 h3
namespace Ml
theorem at_in {l : List M} {k : Nat} {x : M} (h : l[k]? = some x) : atM l (k : Int) = x := by
  have hk := (List.getElem?_eq_some_iff.1 h).1
  unfold atM
  rw [if_pos (by omega), Int.toNat_natCast, h]
  rfl
theorem at_out {l : List M} {i : Int} (h : ¬ (0 ≤ i ∧ i < l.length)) : atM l i = zero := by unfold atM; rw [if_neg h]
end Ml
set_option maxRecDepth 100000 in
theorem has_any (g cap : Nat) (A : Option Addr) (l : List Ml.M) (i : Int) (w : World) (h : NetIs w g A cap l) :
    Calls Try.prog 36 #[.pointer (some ⟨g, 0, none⟩), .int .i64 i] w fun e w' => e = .returned (.int .i64 (Ml.hasE l i)) ∧ w = w' := by
  have c1 := h.box.at_ 1 rfl
  have Hm := Lib.hid (ismade_any g true _ w h.box)
  clear h
  unfold Ml.hasE
  by_cases h1 : i < 0
  · rw [if_neg (by omega)]
    go_enter Try.func36, Try.ntmps36
    go_wp2_with fail
    refine Hm.out.mono ?_
    rintro e w1 ⟨rfl, rfl⟩
    go_wp2
    go_ret
    exact ⟨rfl, rfl⟩
  · by_cases h2 : (l.length : Int) ≤ i
    · rw [if_neg (by omega)]
      go_enter Try.func36, Try.ntmps36
      go_wp2_with fail
      refine Hm.out.mono ?_
      rintro e w1 ⟨rfl, rfl⟩
      go_wp2
      go_ret
      exact ⟨rfl, rfl⟩
    · rw [if_pos (by omega)]
      go_enter Try.func36, Try.ntmps36
      go_wp2_with fail
      refine Hm.out.mono ?_
      rintro e w1 ⟨rfl, rfl⟩
      go_wp2
      go_ret
      exact ⟨rfl, rfl⟩
set_option maxRecDepth 100000 in
theorem len_any (g cap : Nat) (A : Option Addr) (l : List Ml.M) (w : World) (h : NetIs w g A cap l) :
    Calls Try.prog 20 #[.pointer (some ⟨g, 0, none⟩)] w fun e w' => e = .returned (.int .i64 (l.length : Int)) ∧ w = w' := by
  have c1 := h.box.at_ 1 rfl
  have Hm := Lib.hid (ismade_any g true _ w h.box)
  clear h
  go_enter Try.func20, Try.ntmps20
  go_wp2_with fail
  refine Hm.out.mono ?_
  rintro e w1 ⟨rfl, rfl⟩
  go_wp2
  go_ret
  exact ⟨rfl, rfl⟩
set_option maxRecDepth 100000 in
set_option maxHeartbeats 2000000 in
theorem at_any (g cap : Nat) (A : Option Addr) (l : List Ml.M) (i : Int) (w : World) (h : NetIs w g A cap l) :
    Calls Try.prog 17 #[.pointer (some ⟨g, 0, none⟩), .int .i64 i] w fun e w' => e = .returned (.tuple #[.agg (Ml.cells (Ml.atM l i)).toArray, .int .i64 (Ml.hasE l i)]) ∧ Below w.heap.size w w' := by
  have hb0 : Below w.heap.size w (w.alloc (.cells #[.int .i64 0, .int .i64 0, .string ⟨#[]⟩] 28)) := (Below.refl _ _).alloc (Nat.le_refl _) _
  have H0 := Lib.hid (h.below hb0)
  have HB0 := Lib.hid hb0
  have Hbx := Lib.hid (Holds.new w #[.int .i64 0, .int .i64 0, .string ⟨#[]⟩] 28)
  clear h hb0
  go_enter Try.func17, Try.ntmps17
  go_wp2_with fail
  generalize (w.alloc (.cells #[.int .i64 0, .int .i64 0, .string ⟨#[]⟩] 28)) = w1 at *
  refine (has_any g cap A l i w1 H0.out).mono ?_
  rintro e w2 ⟨rfl, rfl⟩
  have z0 := Hbx.out.2.2 0
  have z1 := Hbx.out.2.2 1
  have z2 := Hbx.out.2.2 2
  obtain ⟨b0, b1, b2⟩ := results3 Hbx.out
  by_cases hi : 0 ≤ i ∧ i < l.length
  · obtain ⟨k, rfl⟩ := Int.eq_ofNat_of_zero_le hi.1
    have hkl : k < l.length := by omega
    have hkli : (k : Int) < (l.length : Int) := by omega
    obtain ⟨x, hx⟩ : ∃ x, l[k]? = some x := ⟨_, List.getElem?_eq_getElem hkl⟩
    have E0 := Lib.hid (show Ml.hasE l (k : Int) = 0 by unfold Ml.hasE; rw [if_pos hi])
    have E1 := Lib.hid (Ml.at_in hx)
    rw [E0.out]
    obtain ⟨b, o, rfl, hbl, hcell⟩ := H0.out.rd.at_ hx
    obtain ⟨f, t, s⟩ := x
    have c1 := H0.out.box.at_ 1 rfl
    have e0 : w1.cell? ⟨b, o + k * 3, none⟩ = some (.int .i64 f) := hcell 0 _ rfl
    have e1 : w1.cell? ⟨b, o + k * 3 + 1, none⟩ = some (.int .i64 t) := hcell 1 _ rfl
    have e2 : w1.cell? ⟨b, o + k * 3 + 2, none⟩ = some (.string s) := hcell 2 _ rfl
    clear hx hcell hi
    go_wp2
    obtain ⟨c0, c1, c2⟩ := results3 (Hbx.out.set3 (.int .i64 f) (.int .i64 t) (.string s))
    refine ⟨rfl, .tuple #[.agg #[.int .i64 f, .int .i64 t, .string s], .int .i64 0], ?_, ?_⟩
    · simp [results, Try.results17, go_sem, c0, c1, c2]
    · exact ⟨by rw [E0.out, E1.out]; rfl, below_set3 HB0.out _ _ _ _ (Nat.le_refl _)⟩
  · have E0 := Lib.hid (show Ml.hasE l i = 5 by unfold Ml.hasE; rw [if_neg hi])
    have E1 := Lib.hid (Ml.at_out hi)
    rw [E0.out]
    clear hi
    go_wp2
    obtain ⟨c0, c1, c2⟩ := results3 (Hbx.out.set3 (.int .i64 0) (.int .i64 0) (.string ⟨#[]⟩))
    refine ⟨rfl, .tuple #[.agg #[.int .i64 0, .int .i64 0, .string ⟨#[]⟩], .int .i64 5], ?_, ?_⟩
    · simp [results, Try.results17, go_sem, c0, c1, c2]
    · exact ⟨by rw [E0.out, E1.out]; rfl, below_set3 HB0.out _ _ _ _ (Nat.le_refl _)⟩
set_option maxRecDepth 100000 in
set_option maxHeartbeats 4000000 in
theorem rowtake_any (g cap k : Nat) (A : Option Addr) (l : List Ml.M) (w : World) (h : NetIs w g A cap l) (hk : k < l.length) (hl : l.length ≤ 1000) :
    Calls Try.prog 37 #[.pointer (some ⟨g, 1, none⟩), .int .i64 (k : Int)] w (GivesNet g A cap l w (.agg (Ml.cells (Ml.atM l k)).toArray) (Ml.cut l k)) := by
  obtain ⟨x, hx⟩ : ∃ x, l[k]? = some x := ⟨_, List.getElem?_eq_getElem hk⟩
  have E1 := Lib.hid (Ml.at_in hx)
  have HN := Lib.hid h
  obtain ⟨b, hA, hbg, hbw⟩ := h.row.form (by omega)
  subst hA
  obtain ⟨b', o, e, _, hcell⟩ := h.rd.at_ hx
  injection e with e
  injection e with e1 e2
  subst e1 e2
  obtain ⟨f, t, s⟩ := x
  have hb1 : Below w.heap.size w ((w.alloc (.cells #[.int .i64 0, .int .i64 0, .string ⟨#[]⟩] 28)).alloc (.cells #[.int .i64 f, .int .i64 t, .string s] 28)) := ((Below.refl _ _).alloc (Nat.le_refl _) _).alloc (by simp) _
  have hb0 : Below w.heap.size w (w.alloc (.cells #[.int .i64 0, .int .i64 0, .string ⟨#[]⟩] 28)) := (Below.refl _ _).alloc (Nat.le_refl _) _
  have c0 := (h.below hb0).box.at_ 1 rfl
  have e0 : (w.alloc (.cells #[.int .i64 0, .int .i64 0, .string ⟨#[]⟩] 28)).cell? ⟨b, k * 3, none⟩ = some (.int .i64 f) := by have := (hb0.cell (p := ⟨b, 0 + (k * 3 + 0), none⟩) hbw).trans (hcell 0 _ rfl); rwa [Nat.zero_add] at this
  have e1 : (w.alloc (.cells #[.int .i64 0, .int .i64 0, .string ⟨#[]⟩] 28)).cell? ⟨b, k * 3 + 1, none⟩ = some (.int .i64 t) := by have := (hb0.cell (p := ⟨b, 0 + (k * 3 + 1), none⟩) hbw).trans (hcell 1 _ rfl); rwa [Nat.zero_add] at this
  have e2 : (w.alloc (.cells #[.int .i64 0, .int .i64 0, .string ⟨#[]⟩] 28)).cell? ⟨b, k * 3 + 2, none⟩ = some (.string s) := by have := (hb0.cell (p := ⟨b, 0 + (k * 3 + 2), none⟩) hbw).trans (hcell 2 _ rfl); rwa [Nat.zero_add] at this
  have hki : (k : Int) < (l.length : Int) := by omega
  have hx0 := (Holds.new w #[.int .i64 0, .int .i64 0, .string ⟨#[]⟩] 28).alloc (.cells #[.int .i64 f, .int .i64 t, .string s] 28)
  have hx1 := Holds.new (w.alloc (.cells #[.int .i64 0, .int .i64 0, .string ⟨#[]⟩] 28)) #[.int .i64 f, .int .i64 t, .string s] 28
  rw [show (w.alloc (.cells #[.int .i64 0, .int .i64 0, .string ⟨#[]⟩] 28)).heap.size = w.heap.size + 1 by simp] at hx1
  have H1 := Lib.hid (h.below hb1)
  have HB1 := Lib.hid hb1
  have X0 := Lib.hid hx0
  have X1 := Lib.hid hx1
  clear h hb0 hb1 hx0 hx1 hcell hx
  go_enter Try.func37, Try.ntmps37
  go_upto_region 2 with fail
  clear c0 e0 e1 e2
  generalize hW : ((w.alloc (.cells #[.int .i64 0, .int .i64 0, .string ⟨#[]⟩] 28)).alloc (.cells #[.int .i64 f, .int .i64 t, .string s] 28)) = w1 at *
  clear hW
  have c1 := H1.out.box.at_ 1 rfl
  have hk1 : (k : Int) + 1 ≤ 1000 := by omega
  have hwr : IntKind.i64.wrap ((k : Int) + 1) = (k : Int) + 1 := by rw [IntKind.wrap_i64]; omega
  go_wp2_with fail
  refine (delete_any (g + 1) b cap k l w1 H1.out.row hk (by omega)).mono ?_
  rintro e w3 ⟨rfl, ho, hg⟩
  have hlen := Lib.hid (Ml.cut_length hk)
  have ho2 : OwnC 3 w3 (g + 1) 28 (some ⟨b, 0, none⟩) (Ml.cut l k).length cap (Ml.flat (Ml.cut l k)) := by rw [hlen.out]; exact ho
  have hM := Moved.shift H1.out ho2 hg
  rw [hlen.out] at hM
  have HM := Lib.hid hM
  have hne0 : (some b : Option Nat) ≠ some w.heap.size := fun e => by injection e with e; omega
  have hne1 : (some b : Option Nat) ≠ some (w.heap.size + 1) := fun e => by injection e with e; omega
  have hneg : (some b : Option Nat) ≠ some g := fun e => by injection e with e; omega
  have c3 := (H1.out.box.grown hg hneg).at_ 1 rfl
  have z3 := (H1.out.box.grown hg hneg).2.2 1
  have Y0 := X0.out.grown hg hne0
  have Y1 := X1.out.grown hg hne1
  have Z0 := Lib.hid (Y0.other (b := g) (i := 1) (v := .slice (some ⟨b, 0, none⟩) (l.length - 1) cap) (by omega))
  have Z1 := Lib.hid (Y1.other (b := g) (i := 1) (v := .slice (some ⟨b, 0, none⟩) (l.length - 1) cap) (by omega))
  clear hM ho ho2 hg Y0 Y1 c1
  go_upto_region 3 with fail
  generalize (w3.setCell ⟨g, 1, none⟩ (.slice (some ⟨b, 0, none⟩) (l.length - 1) cap)) = w4 at *
  have y0 := Z1.out.at_ 0 rfl
  have y1 := Z1.out.at_ 1 rfl
  have y2 := Z1.out.at_ 2 rfl
  have v0 := Z0.out.2.2 0
  have v1 := Z0.out.2.2 1
  have v2 := Z0.out.2.2 2
  obtain ⟨b0, b1, b2⟩ := results3 Z0.out
  go_wp2
  obtain ⟨r0, r1, r2⟩ := results3 (Z0.out.set3 (.int .i64 f) (.int .i64 t) (.string s))
  refine ⟨rfl, .agg #[.int .i64 f, .int .i64 t, .string s], ?_, ?_⟩
  · simp [results, Try.results37, go_sem, r0, r1, r2]
  · refine ⟨by rw [E1.out]; rfl, _, _, (Moved.after HN.out HB1.out HM.out).store3 w.heap.size _ _ _ (Nat.le_refl _) (by omega) (fun e => ?_)⟩
    have : b = w.heap.size := by injection e
    omega
theorem Holds.moved {g cap cap' b : Nat} {A A' : Option Addr} {l l' : List Ml.M} {w w' : World} {cs : List Value} (k : Holds w b cs) (hm : Moved g A cap l w A' cap' l' w') (h1 : b ≠ g) (h2 : (Value.slice A l.length cap).ownBlock ≠ some b) : Holds w' b cs :=
  ⟨Nat.lt_of_lt_of_le k.1 hm.ch.size, fun i v h => (hm.ch.cell k.1 h1 h2).trans (k.2.1 i v h), fun i => (World.frozen?_of_block (a := ⟨b, i, none⟩) (hm.ch.block b k.1 h1 h2)).trans (k.2.2 i)⟩
theorem NetIs.own {g cap : Nat} {A : Option Addr} {l : List Ml.M} {w : World} (h : NetIs w g A cap l) : ∀ k, (Value.slice A l.length cap).ownBlock = some k → g + 1 ≤ k ∧ k < w.heap.size := fun k hk => h.row.blk k hk
set_option maxRecDepth 100000 in
set_option maxHeartbeats 4000000 in
theorem take_any (g cap : Nat) (A : Option Addr) (l : List Ml.M) (i : Int) (w : World) (h : NetIs w g A cap l) (hl : l.length ≤ 1000) :
    Calls Try.prog 12 #[.pointer (some ⟨g, 0, none⟩), .int .i64 i] w (GivesNet g A cap l w (.tuple #[.agg (Ml.cells (Ml.atM l i)).toArray, .int .i64 (Ml.hasE l i)]) (Ml.takeL l i)) := by
  have hb0 : Below w.heap.size w (w.alloc (.cells #[.int .i64 0, .int .i64 0, .string ⟨#[]⟩] 28)) := (Below.refl _ _).alloc (Nat.le_refl _) _
  have H0 := Lib.hid (h.below hb0)
  have HB0 := Lib.hid hb0
  have HN := Lib.hid h
  have Hbx := Lib.hid (Holds.new w #[.int .i64 0, .int .i64 0, .string ⟨#[]⟩] 28)
  have hgw := h.box.1
  have HO := Lib.hid h.own
  clear h hb0
  go_enter Try.func12, Try.ntmps12
  go_wp2_with fail
  generalize (w.alloc (.cells #[.int .i64 0, .int .i64 0, .string ⟨#[]⟩] 28)) = w1 at *
  refine (has_any g cap A l i w1 H0.out).mono ?_
  rintro e w2 ⟨rfl, rfl⟩
  by_cases hi : 0 ≤ i ∧ i < l.length
  · obtain ⟨k, rfl⟩ := Int.eq_ofNat_of_zero_le hi.1
    have hkl : k < l.length := by omega
    have E0 := Lib.hid (show Ml.hasE l (k : Int) = 0 by unfold Ml.hasE; rw [if_pos hi])
    have E1 := Lib.hid (show Ml.takeL l (k : Int) = Ml.cut l k by unfold Ml.takeL; rw [if_pos hi, Int.toNat_natCast])
    rw [E0.out]
    clear hi
    go_wp2_with fail
    refine (rowtake_any g cap k A l w1 H0.out hkl hl).mono ?_
    rintro e w3 ⟨he, A3, c3, hm⟩
    have HM := Lib.hid hm
    have B3 := Lib.hid (Hbx.out.moved hm (by omega) (fun e => by have := (HO.out _ e).2; omega))
    clear hm
    have z0 := B3.out.2.2 0
    have z1 := B3.out.2.2 1
    have z2 := B3.out.2.2 2
    obtain ⟨b0, b1, b2⟩ := results3 B3.out
    obtain ⟨x, hx⟩ : ∃ x, Ml.atM l (k : Int) = x := ⟨_, rfl⟩
    rw [hx] at he
    have HX := Lib.hid hx
    clear hx
    obtain ⟨f, t, s⟩ := x
    have he : e = .returned (.agg #[.int .i64 f, .int .i64 t, .string s]) := he
    subst he
    go_wp2
    obtain ⟨c0, c1, c2⟩ := results3 (B3.out.set3 (.int .i64 f) (.int .i64 t) (.string s))
    refine ⟨rfl, .tuple #[.agg #[.int .i64 f, .int .i64 t, .string s], .int .i64 0], ?_, ?_⟩
    · simp [results, Try.results12, go_sem, c0, c1, c2]
    · rw [E0.out, E1.out, HX.out]
      refine ⟨rfl, _, _, (Moved.after HN.out HB0.out HM.out).store3 w.heap.size _ _ _ (Nat.le_refl _) (by omega) (fun e => ?_)⟩
      have h1 := Hbx.out.1
      rcases HM.out.blk _ e with e2 | e2
      · have := (HO.out _ e2).2
        omega
      · omega
  · have E0 := Lib.hid (show Ml.hasE l i = 5 by unfold Ml.hasE; rw [if_neg hi])
    have E1 := Lib.hid (Ml.at_out hi)
    have E2 := Lib.hid (show Ml.takeL l i = l by unfold Ml.takeL; rw [if_neg hi])
    rw [E0.out]
    clear hi
    have z0 := Hbx.out.2.2 0
    have z1 := Hbx.out.2.2 1
    have z2 := Hbx.out.2.2 2
    obtain ⟨b0, b1, b2⟩ := results3 Hbx.out
    go_wp2
    obtain ⟨c0, c1, c2⟩ := results3 (Hbx.out.set3 (.int .i64 0) (.int .i64 0) (.string ⟨#[]⟩))
    refine ⟨rfl, .tuple #[.agg #[.int .i64 0, .int .i64 0, .string ⟨#[]⟩], .int .i64 5], ?_, ?_⟩
    · simp [results, Try.results12, go_sem, c0, c1, c2]
    · rw [E0.out, E1.out, E2.out]
      exact ⟨rfl, _, _, Moved.quiet HN.out (below_set3 HB0.out _ _ _ _ (Nat.le_refl _))⟩
end Go.Proofs.Ythganbbiclmgpaa
