/- file's both: a frame's copies, as they stand. -/
import Derived.Test.YtpggomekbahddaaFiFirst
import Derived.Test.YtpggomekbahddaaM03
import Derived.Test.YtpggomekbahddaaFiDec
namespace Go.Proofs.Ytpggomekbahddaa
open Go.RowKit Fi Fr
set_option linter.unusedVariables false
namespace Fi
def ep (l : List Nat) (b : Bool) : Int := if b then (F l 8 4 : Int) else 0
def bd (l : List Nat) (b : Bool) : List Nat := if b then (l.drop 16).take (F l 2 2) else []
/-- A copy's five cells. -/
def one (x : Int) (B : Option Addr) (b : Bool) (e : Int) (Q : Option Addr) (n c : Nat) : List Value := [.int .i64 x, .slice B 128 128, .bool b, .int .i64 e, .slice Q n c]
end Fi
theorem fis_any (f e i z : Int) (A : Option Addr) (n c : Nat) (l : List Nat) (w : World) (h : Rd w A n l) (hc : n ≤ c) (hbig : n ≤ 9223372036854775807) :
    Calls Try.prog 57 #[.slice A n c, .agg #[.int .i64 f, .int .i64 e, .int .i64 i], .int .i64 z] w fun x w' => x = .returned (.bool (isB l f e i z)) ∧ Below w.heap.size w w' := by
  cases hl : isF l with
  | true => exact is_yes f e i z A n c l w h hc hbig hl
  | false =>
    have : isB l f e i z = false := by unfold isB; rw [hl]; rfl
    rw [this]
    exact is_no f e i z A n c l w h hc hbig hl
set_option maxRecDepth 100000 in
theorem zero_one2 (w : World) : (zeroValue 94).run Try.prog w = .ok (.agg #[.int .i64 0, .slice none 0 0, .bool false, .int .i64 0, .slice none 0 0, .int .i64 0, .slice none 0 0, .bool false, .int .i64 0, .slice none 0 0]) w := by kernel_rfl
set_option maxRecDepth 100000 in
theorem zero_one1 (w : World) : (zeroValue 92).run Try.prog w = .ok (.agg #[.int .i64 0, .slice none 0 0, .bool false, .int .i64 0, .slice none 0 0]) w := by kernel_rfl
def GivesBoth (w : World) (x y : Int) (l0 l1 : List Nat) (b0 b1 : Bool) (e : Ending) (w' : World) : Prop :=
  ∃ (B0 B1 Q0 Q1 : Option Addr) (c0 c1 : Nat), e = .returned (.agg #[.int .i64 x, .slice B0 128 128, .bool b0, .int .i64 (ep l0 b0), .slice Q0 (bd l0 b0).length c0, .int .i64 y, .slice B1 128 128, .bool b1, .int .i64 (ep l1 b1), .slice Q1 (bd l1 b1).length c1]) ∧
    Rd w' B0 128 l0 ∧ Rd w' B1 128 l1 ∧ Rd w' Q0 (bd l0 b0).length (bd l0 b0) ∧ Rd w' Q1 (bd l1 b1).length (bd l1 b1) ∧ (∀ X, X = B0 ∨ X = B1 ∨ X = Q0 ∨ X = Q1 → ∀ b o, X = some ⟨b, o, none⟩ → w.heap.size ≤ b) ∧ Below w.heap.size w w' ∧ (bd l0 b0).length ≤ c0 ∧ (bd l1 b1).length ≤ c1
theorem Rd.low {w : World} {A : Option Addr} {n g g' k : Nat} {l : List Nat} (h : Rd w A n l) (hb : ∀ b o, A = some ⟨b, o, none⟩ → g < b) (hg : g' ≤ g) (u : Value) : Rd (w.setCell ⟨g', k, none⟩ u) A n l := by
  refine ⟨h.1, h.2.1, fun hn => ?_⟩
  obtain ⟨b, o, rfl, hbw, hc⟩ := h.2.2 hn
  exact ⟨b, o, rfl, by simpa [World.setCell] using hbw, fun j x hx => (World.cell?_of_block (a := ⟨b, o + j, none⟩) (Below.heap_setCell _ _ _ _ (fun e => by have := hb b o rfl; have e : g' = b := e.symm; omega))).trans (hc j x hx)⟩
theorem Rd.far {w : World} {A : Option Addr} {n g k : Nat} {l : List Nat} (h : Rd w A n l) (hb : ∀ b o, A = some ⟨b, o, none⟩ → g < b) (u : Value) : Rd (w.setCell ⟨g, k, none⟩ u) A n l := h.low hb (Nat.le_refl _) u
/-- A copy as it lies in memory. -/
def Cpy (wr : World) (g : Nat) (x : Int) (l : List Nat) (b : Bool) (B Q : Option Addr) (c : Nat) : Prop :=
  Rd wr B 128 l ∧ Rd wr Q (bd l b).length (bd l b) ∧ (∀ b o, B = some ⟨b, o, none⟩ → g < b) ∧ (∀ b o, Q = some ⟨b, o, none⟩ → g < b) ∧ (bd l b).length ≤ c
section
variable {wr w' : World} {g : Nat} {x : Int} {l : List Nat} {b : Bool} {B Q : Option Addr} {c : Nat}
theorem Cpy.below (h : Cpy wr g x l b B Q c) (hb : Below wr.heap.size wr w') : Cpy w' g x l b B Q c := ⟨h.1.below hb, h.2.1.below hb, h.2.2⟩
theorem Cpy.far (h : Cpy wr g x l b B Q c) (k : Nat) (u : Value) : Cpy (wr.setCell ⟨g, k, none⟩ u) g x l b B Q c := ⟨h.1.far h.2.2.1 u, h.2.1.far h.2.2.2.1 u, h.2.2⟩
theorem Cpy.none (h : Rd wr B 128 l) (hB : ∀ b o, B = some ⟨b, o, none⟩ → g < b) : Cpy wr g x l false B Option.none c := ⟨h, Rd.nil _ _, hB, fun _ _ e => (by cases e), Nat.zero_le _⟩
end
/-- The loop's state: the copies that are laid. -/
structure BI (w : World) (s0 : Nat) (K : List Value) (k : Nat) (x y : Int) (l0 l1 : List Nat) (b0 b1 : Bool) (wr : World) : Prop where
  below : Below s0 w wr
  box : Holds wr s0 K
  res : Holds wr (s0 + 1) [.int .i64 0, .slice none 0 0, .bool false, .int .i64 0, .slice none 0 0, .int .i64 0, .slice none 0 0, .bool false, .int .i64 0, .slice none 0 0]
  st0 : k = 0 → Holds wr (s0 + 1 + 1) [.int .i64 0, .slice none 0 0, .bool false, .int .i64 0, .slice none 0 0, .int .i64 0, .slice none 0 0, .bool false, .int .i64 0, .slice none 0 0]
  st1 : k = 1 → ∃ B Q c, Holds wr (s0 + 1 + 1) (one x B b0 (ep l0 b0) Q (bd l0 b0).length c ++ [.int .i64 0, .slice none 0 0, .bool false, .int .i64 0, .slice none 0 0]) ∧ Cpy wr (s0 + 1 + 1) x l0 b0 B Q c
  st2 : k = 2 → ∃ B Q c B' Q' c', Holds wr (s0 + 1 + 1) (one x B b0 (ep l0 b0) Q (bd l0 b0).length c ++ one y B' b1 (ep l1 b1) Q' (bd l1 b1).length c') ∧ Cpy wr (s0 + 1 + 1) x l0 b0 B Q c ∧ Cpy wr (s0 + 1 + 1) y l1 b1 B' Q' c'
set_option maxRecDepth 100000 in
set_option maxHeartbeats 4000000 in
theorem both_any (P : Pl) (A : Option Addr) (c : Nat) (kind : Int) (i : Nat) (x y : Int) (w : World) (d : Nat) (lab : Nat → Tag) (st : Dk.St) (h : IsDisk w d lab st) (hr : RdC 2 w A P.ps.length (pv P.ps)) (hok : ok P (Sp.plots st.s.length) = true)
    (hk : 1 ≤ kind ∧ kind ≤ 4) (hf : fr P (i : Int) = (x, y, 0)) (hs : st.s.length ≤ 4096 ∧ 0 < st.s.length) (hx : st.ready x = 0) (hy : st.ready y = 0) :
    Calls Try.prog 47 #[.pointer (some ⟨d, 0, none⟩), Fi.val P A c, .int .i64 kind, .int .i64 (i : Int)] w (GivesBoth w x y (st.readB x) (st.readB y) (isB (st.readB x) P.i P.e i kind) (isB (st.readB y) P.i P.e i kind)) := by
  have hep : P.e ≤ 2147483647 := (okH_iff.1 (ok_iff.1 hok).1).2.2.2.1
  have HFi := Lib.hid (fun v (hb : Below w.heap.size w v) => first_ok P A c kind P.e i x y v d lab st (h.below hb) (hr.below hb) hok hk ⟨Int.le_refl _, hep⟩ hf hs)
  have HRd := Lib.hid (fun at_ v (hb : Below w.heap.size w v) => read_any at_ v d lab st (h.below hb))
  have HX := Lib.hid hx
  have HY := Lib.hid hy
  have z2 := zero_one2
  have z1 := zero_one1
  unfold Fi.val at HFi ⊢
  clear hep h hr hok hk hf hs hx hy
  have HB0 := Lib.hid (show Below w.heap.size w (((w.alloc (.cells #[.int .i64 P.i, .int .i64 P.e, .slice A P.ps.length c] 31)).alloc (.cells #[.int .i64 0, .slice none 0 0, .bool false, .int .i64 0, .slice none 0 0, .int .i64 0, .slice none 0 0, .bool false, .int .i64 0, .slice none 0 0] 94)).alloc (.cells #[.int .i64 0, .slice none 0 0, .bool false, .int .i64 0, .slice none 0 0, .int .i64 0, .slice none 0 0, .bool false, .int .i64 0, .slice none 0 0] 94)) by repeat (first | exact Below.refl _ _ | refine Below.alloc ?_ (by simp <;> omega) _))
  have HK0 := Lib.hid (((Holds.new w #[.int .i64 P.i, .int .i64 P.e, .slice A P.ps.length c] 31).alloc (.cells #[.int .i64 0, .slice none 0 0, .bool false, .int .i64 0, .slice none 0 0, .int .i64 0, .slice none 0 0, .bool false, .int .i64 0, .slice none 0 0] 94)).alloc (.cells #[.int .i64 0, .slice none 0 0, .bool false, .int .i64 0, .slice none 0 0, .int .i64 0, .slice none 0 0, .bool false, .int .i64 0, .slice none 0 0] 94))
  have HG0 := Lib.hid (show Holds (((w.alloc (.cells #[.int .i64 P.i, .int .i64 P.e, .slice A P.ps.length c] 31)).alloc (.cells #[.int .i64 0, .slice none 0 0, .bool false, .int .i64 0, .slice none 0 0, .int .i64 0, .slice none 0 0, .bool false, .int .i64 0, .slice none 0 0] 94)).alloc (.cells #[.int .i64 0, .slice none 0 0, .bool false, .int .i64 0, .slice none 0 0, .int .i64 0, .slice none 0 0, .bool false, .int .i64 0, .slice none 0 0] 94)) (w.heap.size + 1) [.int .i64 0, .slice none 0 0, .bool false, .int .i64 0, .slice none 0 0, .int .i64 0, .slice none 0 0, .bool false, .int .i64 0, .slice none 0 0] by have := (Holds.new (w.alloc (.cells #[.int .i64 P.i, .int .i64 P.e, .slice A P.ps.length c] 31)) #[.int .i64 0, .slice none 0 0, .bool false, .int .i64 0, .slice none 0 0, .int .i64 0, .slice none 0 0, .bool false, .int .i64 0, .slice none 0 0] 94).alloc (.cells #[.int .i64 0, .slice none 0 0, .bool false, .int .i64 0, .slice none 0 0, .int .i64 0, .slice none 0 0, .bool false, .int .i64 0, .slice none 0 0] 94); simpa using this)
  have HC0 := Lib.hid (show Holds (((w.alloc (.cells #[.int .i64 P.i, .int .i64 P.e, .slice A P.ps.length c] 31)).alloc (.cells #[.int .i64 0, .slice none 0 0, .bool false, .int .i64 0, .slice none 0 0, .int .i64 0, .slice none 0 0, .bool false, .int .i64 0, .slice none 0 0] 94)).alloc (.cells #[.int .i64 0, .slice none 0 0, .bool false, .int .i64 0, .slice none 0 0, .int .i64 0, .slice none 0 0, .bool false, .int .i64 0, .slice none 0 0] 94)) (w.heap.size + 1 + 1) [.int .i64 0, .slice none 0 0, .bool false, .int .i64 0, .slice none 0 0, .int .i64 0, .slice none 0 0, .bool false, .int .i64 0, .slice none 0 0] by have := Holds.new ((w.alloc (.cells #[.int .i64 P.i, .int .i64 P.e, .slice A P.ps.length c] 31)).alloc (.cells #[.int .i64 0, .slice none 0 0, .bool false, .int .i64 0, .slice none 0 0, .int .i64 0, .slice none 0 0, .bool false, .int .i64 0, .slice none 0 0] 94)) #[.int .i64 0, .slice none 0 0, .bool false, .int .i64 0, .slice none 0 0, .int .i64 0, .slice none 0 0, .bool false, .int .i64 0, .slice none 0 0] 94; simpa using this)
  obtain ⟨l0, hl0⟩ : ∃ l, l = st.readB x := ⟨_, rfl⟩
  obtain ⟨l1, hl1⟩ : ∃ l, l = st.readB y := ⟨_, rfl⟩
  rw [← hl0, ← hl1]
  have HL0 := Lib.hid hl0
  have HL1 := Lib.hid hl1
  clear hl0 hl1
  obtain ⟨b0, hb0⟩ : ∃ b, b = isB l0 P.i P.e i kind := ⟨_, rfl⟩
  obtain ⟨b1, hb1⟩ : ∃ b, b = isB l1 P.i P.e i kind := ⟨_, rfl⟩
  rw [← hb0, ← hb1]
  have HE0 := Lib.hid hb0
  have HE1 := Lib.hid hb1
  clear hb0 hb1
  go_enter Try.func47, Try.ntmps47
  go_wp2_with fail
  refine (HFi.out _ HB0.out).mono ?_
  rintro e v0 ⟨rfl, hb⟩
  have HI := Lib.hid (show BI w w.heap.size [.int .i64 P.i, .int .i64 P.e, .slice A P.ps.length c] 0 x y l0 l1 b0 b1 v0 from ⟨HB0.out.trans (hb.mono HB0.out.size), HK0.out.below hb, HG0.out.below hb, fun _ => HC0.out.below hb, fun e => (by cases e), fun e => by cases e⟩)
  clear hb HB0 HK0 HG0 HC0 z1 z2 HFi
  have i0 : ∀ v, (Instr.index 76 (.agg #[.int .i64 x, .int .i64 y]) (.int .i64 0)).run Try.prog v = .ok (.int .i64 x) v := fun _ => by kernel_rfl
  have i1 : ∀ v, (Instr.index 76 (.agg #[.int .i64 x, .int .i64 y]) (.int .i64 1)).run Try.prog v = .ok (.int .i64 y) v := fun _ => by kernel_rfl
  go_wp2_with fail
  go_loopw [25] (fun q wr => ∃ k : Nat, k ≤ 2 ∧ q = .int .i64 (k : Int) ∧ Hid (BI w w.heap.size [.int .i64 P.i, .int .i64 P.e, .slice A P.ps.length c] k x y l0 l1 b0 b1 wr)) (fun q _ => 2 - (intOf q).toNat)
  case atStart => exact ⟨0, by omega, rfl, HI⟩
  case round =>
    clear HI
    obtain ⟨k, hk, rfl, HI⟩ := hrel
    by_cases hk0 : k = 0
    · subst hk0
      have hC := HI.out.st0 rfl
      have hB := HI.out.below
      have hK := HI.out.box
      have hG := HI.out.res
      have HC := Lib.hid hC
      have HK := Lib.hid hK
      have HG := Lib.hid hG
      have HBw := Lib.hid hB
      clear hC hB hK hG
      go_wp2_with fail
      refine (HRd.out x wr HBw.out).mono ?_
      rintro e v1 ⟨Bn, n1, c1, he, hr, hb, hn, hbuf⟩
      obtain ⟨rfl, rfl, rfl, hbuf⟩ := hbuf HX.out
      rw [HX.out] at he
      rw [← HL0.out] at hr
      subst he
      have hlt := HC.out.1
      have HNe := Lib.hid (show ∀ b o, some (⟨wr.heap.size, 0, none⟩ : Addr) = some ⟨b, o, none⟩ → w.heap.size + 1 + 1 < b from fun b o e => by injection e with e; injection e with e; omega)
      have HR1 := Lib.hid hr
      have HB1 := Lib.hid (HBw.out.trans (hb.mono HBw.out.size))
      have HK1 := Lib.hid (HK.out.below hb)
      have HG1 := Lib.hid (HG.out.below hb)
      have hC1 := HC.out.below hb
      have HC1 := Lib.hid hC1
      have f0 := hC1.2.2 0
      have f1 := hC1.2.2 1
      have f2 := hC1.2.2 2
      have f3 := hC1.2.2 3
      have f4 := hC1.2.2 4
      have c0 := hC1.at_ 0 rfl
      have c1 := hC1.at_ 1 rfl
      have c2 := hC1.at_ 2 rfl
      have c3 := hC1.at_ 3 rfl
      have c4 := hC1.at_ 4 rfl
      clear hr hb hn hbuf hlt hC1 HC HK HG HBw
      generalize wr.heap.size = gb at *
      go_wp2_with fail
      refine (must_ok _).mono ?_
      rintro e v' ⟨rfl, rfl⟩
      have hk2 := (((((HK1.out.other (b := w.heap.size + 1 + 1) (i := 0) (v := .int .i64 x) (by omega)).other (b := w.heap.size + 1 + 1) (i := 1) (v := .slice (some ⟨gb, 0, none⟩) 128 128) (by omega)).other (b := w.heap.size + 1 + 1) (i := 2) (v := .bool false) (by omega)).other (b := w.heap.size + 1 + 1) (i := 3) (v := .int .i64 0) (by omega)).other (b := w.heap.size + 1 + 1) (i := 4) (v := .slice none 0 0) (by omega))
      have hg2 := (((((HG1.out.other (b := w.heap.size + 1 + 1) (i := 0) (v := .int .i64 x) (by omega)).other (b := w.heap.size + 1 + 1) (i := 1) (v := .slice (some ⟨gb, 0, none⟩) 128 128) (by omega)).other (b := w.heap.size + 1 + 1) (i := 2) (v := .bool false) (by omega)).other (b := w.heap.size + 1 + 1) (i := 3) (v := .int .i64 0) (by omega)).other (b := w.heap.size + 1 + 1) (i := 4) (v := .slice none 0 0) (by omega))
      have hc2 := (((((HC1.out.set 0 (.int .i64 x) (by simp)).set 1 (.slice (some ⟨gb, 0, none⟩) 128 128) (by simp)).set 2 (.bool false) (by simp)).set 3 (.int .i64 0) (by simp)).set 4 (.slice none 0 0) (by simp))
      have HR2 := Lib.hid (show Rd (((((v1.setCell ⟨w.heap.size + 1 + 1, 0, none⟩ (.int .i64 x)).setCell ⟨w.heap.size + 1 + 1, 1, none⟩ (.slice (some ⟨gb, 0, none⟩) 128 128)).setCell ⟨w.heap.size + 1 + 1, 2, none⟩ (.bool false)).setCell ⟨w.heap.size + 1 + 1, 3, none⟩ (.int .i64 0)).setCell ⟨w.heap.size + 1 + 1, 4, none⟩ (.slice none 0 0)) _ 128 l0 from (((((HR1.out.far HNe.out (.int .i64 x)).far HNe.out (.slice (some ⟨gb, 0, none⟩) 128 128)).far HNe.out (.bool false)).far HNe.out (.int .i64 0)).far HNe.out (.slice none 0 0)))
      have HB2 := Lib.hid ((((((HB1.out.setCell (p := ⟨w.heap.size + 1 + 1, 0, none⟩) (by show w.heap.size ≤ w.heap.size + 1 + 1; omega) (.int .i64 x)).setCell (p := ⟨w.heap.size + 1 + 1, 1, none⟩) (by show w.heap.size ≤ w.heap.size + 1 + 1; omega) (.slice (some ⟨gb, 0, none⟩) 128 128)).setCell (p := ⟨w.heap.size + 1 + 1, 2, none⟩) (by show w.heap.size ≤ w.heap.size + 1 + 1; omega) (.bool false)).setCell (p := ⟨w.heap.size + 1 + 1, 3, none⟩) (by show w.heap.size ≤ w.heap.size + 1 + 1; omega) (.int .i64 0)).setCell (p := ⟨w.heap.size + 1 + 1, 4, none⟩) (by show w.heap.size ≤ w.heap.size + 1 + 1; omega) (.slice none 0 0)))
      have HK2 := Lib.hid hk2
      have HG2 := Lib.hid hg2
      have HC2 := Lib.hid hc2
      have y0 := hk2.at_ 0 rfl
      have y1 := hk2.at_ 1 rfl
      clear hk2 hg2 hc2 HK1 HG1 HC1 HR1 HB1
      go_wp2_with fail
      clear y0 y1 f0 f1 f2 f3 f4 c0 c1 c2 c3 c4
      have HIs := Lib.hid (fis_any P.i P.e i kind (some ⟨gb, 0, none⟩) 128 128 l0 _ HR2.out (by omega) (by omega))
      rw [← HE0.out] at HIs
      refine HIs.out.mono ?_
      generalize (((((v1.setCell ⟨w.heap.size + 1 + 1, 0, none⟩ (.int .i64 x)).setCell ⟨w.heap.size + 1 + 1, 1, none⟩ (.slice (some ⟨gb, 0, none⟩) 128 128)).setCell ⟨w.heap.size + 1 + 1, 2, none⟩ (.bool false)).setCell ⟨w.heap.size + 1 + 1, 3, none⟩ (.int .i64 0)).setCell ⟨w.heap.size + 1 + 1, 4, none⟩ (.slice none 0 0)) = v2 at *
      rintro e v3 ⟨rfl, hb⟩
      have HB3 := Lib.hid (HB2.out.trans (hb.mono HB2.out.size))
      have HK3 := Lib.hid (HK2.out.below hb)
      have HG3 := Lib.hid (HG2.out.below hb)
      have HC3 := Lib.hid (HC2.out.below hb)
      have HR3 := Lib.hid (HR2.out.below hb)
      clear hb HB2 HK2 HG2 HC2 HR2 HIs
      cases hbk : b0 with
      | false =>
        have HY9 := Lib.hid (Cpy.none (x := x) (c := 0) HR3.out HNe.out)
        have HI9 := Lib.hid (show BI w w.heap.size [.int .i64 P.i, .int .i64 P.e, .slice A P.ps.length c] 1 x y l0 l1 false b1 v3 from ⟨HB3.out, HK3.out, HG3.out, fun e => (by cases e), fun _ => ⟨_, _, _, HC3.out, HY9.out⟩, fun e => (by cases e)⟩)
        go_wp2_with fail
        go_roundw
        case rel => exact ⟨1, by omega, by go_num, (by rw [hbk]; exact HI9)⟩
        case measure => simp [intOf]
      | true =>
        have hF : isF l0 = true := by have h9 := HE0.out; rw [hbk] at h9; unfold isB at h9; cases hh : isF l0 with | true => rfl | false => rw [hh] at h9; cases h9
        have HDe := Lib.hid (decode_newF (some ⟨gb, 0, none⟩) 128 128 l0 v3 HR3.out (by omega) hF)
        have hep : ep l0 true = (F l0 8 4 : Int) := rfl
        have hbd : bd l0 true = (l0.drop 16).take (F l0 2 2) := rfl
        rw [← hep, ← hbd] at HDe
        generalize (F l0 4 4 : Int) = q4 at *
        generalize (F l0 12 4 : Int) = q12 at *
        generalize (F l0 1 1 : Int) = q1 at *
        clear hF hep hbd
        generalize hE9 : ep l0 true = E9 at *
        have HE9 := Lib.hid hE9
        clear hE9
        go_wp2_with fail
        refine HDe.out.mono ?_
        rintro e v4 ⟨Qn, cq, rfl, hq, hnq, hb, hcq⟩
        have HCq := Lib.hid hcq
        clear hcq
        have hlt := HC3.out.1
        have HNq := Lib.hid (show ∀ b o, Qn = some ⟨b, o, none⟩ → w.heap.size + 1 + 1 < b from fun b o e => by have := hnq b o e; omega)
        have hst := Holds.new v4 #[.int .i64 q4, .int .i64 E9, .int .i64 q12] 89
        have hb5 := hb.alloc hb.size (.cells #[.int .i64 q4, .int .i64 E9, .int .i64 q12] 89)
        have HB4 := Lib.hid (HB3.out.trans (hb5.mono HB3.out.size))
        have HK4 := Lib.hid (HK3.out.below hb5)
        have HG4 := Lib.hid (HG3.out.below hb5)
        have hC4 := HC3.out.below hb5
        have HC4 := Lib.hid hC4
        have HR4 := Lib.hid (HR3.out.below hb5)
        have HQ4 := Lib.hid (hq.alloc (.cells #[.int .i64 q4, .int .i64 E9, .int .i64 q12] 89))
        have u1 := hst.at_ 1 rfl
        have hne : v4.heap.size ≠ w.heap.size + 1 + 1 := by have := hb.size; omega
        have f2 := hC4.2.2 2
        have f3 := hC4.2.2 3
        have f4 := hC4.2.2 4
        have c2 := hC4.at_ 2 rfl
        have c3 := hC4.at_ 3 rfl
        have c4 := hC4.at_ 4 rfl
        clear hq hnq hb hlt hst hb5 hC4 HB3 HK3 HG3 HC3 HR3 HDe
        go_upto_region 10 with fail
        generalize (v4.alloc (.cells #[.int .i64 q4, .int .i64 E9, .int .i64 q12] 89)) = v5 at *
        generalize v4.heap.size = sb at *
        have HC6 := Lib.hid ((((HC4.out.set 2 (.bool true) (by simp)).set 3 (.int .i64 E9) (by simp)).set 4 (.slice Qn (bd l0 true).length cq) (by simp)))
        have HK6 := Lib.hid ((((HK4.out.other (b := w.heap.size + 1 + 1) (i := 2) (v := .bool true) (by omega)).other (b := w.heap.size + 1 + 1) (i := 3) (v := .int .i64 E9) (by omega)).other (b := w.heap.size + 1 + 1) (i := 4) (v := .slice Qn (bd l0 true).length cq) (by omega)))
        have HG6 := Lib.hid ((((HG4.out.other (b := w.heap.size + 1 + 1) (i := 2) (v := .bool true) (by omega)).other (b := w.heap.size + 1 + 1) (i := 3) (v := .int .i64 E9) (by omega)).other (b := w.heap.size + 1 + 1) (i := 4) (v := .slice Qn (bd l0 true).length cq) (by omega)))
        have HR6 := Lib.hid (show Rd (((v5.setCell ⟨w.heap.size + 1 + 1, 2, none⟩ (.bool true)).setCell ⟨w.heap.size + 1 + 1, 3, none⟩ (.int .i64 E9)).setCell ⟨w.heap.size + 1 + 1, 4, none⟩ (.slice Qn (bd l0 true).length cq)) _ 128 l0 from (((HR4.out.far HNe.out (.bool true)).far HNe.out (.int .i64 E9)).far HNe.out (.slice Qn (bd l0 true).length cq)))
        have HQ6 := Lib.hid (show Rd (((v5.setCell ⟨w.heap.size + 1 + 1, 2, none⟩ (.bool true)).setCell ⟨w.heap.size + 1 + 1, 3, none⟩ (.int .i64 E9)).setCell ⟨w.heap.size + 1 + 1, 4, none⟩ (.slice Qn (bd l0 true).length cq)) _ _ (bd l0 true) from (((HQ4.out.far HNq.out (.bool true)).far HNq.out (.int .i64 E9)).far HNq.out (.slice Qn (bd l0 true).length cq)))
        have HB6 := Lib.hid ((((HB4.out.setCell (p := ⟨w.heap.size + 1 + 1, 2, none⟩) (by show w.heap.size ≤ w.heap.size + 1 + 1; omega) (.bool true)).setCell (p := ⟨w.heap.size + 1 + 1, 3, none⟩) (by show w.heap.size ≤ w.heap.size + 1 + 1; omega) (.int .i64 E9)).setCell (p := ⟨w.heap.size + 1 + 1, 4, none⟩) (by show w.heap.size ≤ w.heap.size + 1 + 1; omega) (.slice Qn (bd l0 true).length cq)))
        have HY9 := Lib.hid (show Cpy (((v5.setCell ⟨w.heap.size + 1 + 1, 2, none⟩ (.bool true)).setCell ⟨w.heap.size + 1 + 1, 3, none⟩ (.int .i64 E9)).setCell ⟨w.heap.size + 1 + 1, 4, none⟩ (.slice Qn (bd l0 true).length cq)) (w.heap.size + 1 + 1) x l0 true (some ⟨gb, 0, none⟩) Qn cq from ⟨HR6.out, HQ6.out, HNe.out, HNq.out, HCq.out⟩)
        clear HR6 HQ6 HC4 HK4 HG4 HR4 HQ4 HB4
        go_region
        all_goals (generalize (((v5.setCell ⟨w.heap.size + 1 + 1, 2, none⟩ (.bool true)).setCell ⟨w.heap.size + 1 + 1, 3, none⟩ (.int .i64 E9)).setCell ⟨w.heap.size + 1 + 1, 4, none⟩ (.slice Qn (bd l0 true).length cq)) = v6 at *)
        all_goals (have HI9 := Lib.hid (show BI w w.heap.size [.int .i64 P.i, .int .i64 P.e, .slice A P.ps.length c] 1 x y l0 l1 true b1 v6.drew from ⟨HB6.out.drew, HK6.out, HG6.out, fun e => (by cases e), fun _ => ⟨_, _, _, (by rw [← HE9.out] at HC6; exact HC6.out), HY9.out⟩, fun e => (by cases e)⟩))
        all_goals (go_wp2_with fail)
        all_goals (go_roundw)
        case rel => exact ⟨1, by omega, by go_num, (by rw [hbk]; exact HI9)⟩
        case measure => simp [intOf]
    by_cases hk1 : k = 1
    · subst hk1
      obtain ⟨B0, Q0, c0, hC, hY⟩ := HI.out.st1 rfl
      have HY0 := Lib.hid hY
      have hC : Holds wr (w.heap.size + 1 + 1) [.int .i64 x, .slice B0 128 128, .bool b0, .int .i64 (ep l0 b0), .slice Q0 (bd l0 b0).length c0, .int .i64 0, .slice none 0 0, .bool false, .int .i64 0, .slice none 0 0] := hC
      have hB := HI.out.below
      have hK := HI.out.box
      have hG := HI.out.res
      have HC := Lib.hid hC
      have HK := Lib.hid hK
      have HG := Lib.hid hG
      have HBw := Lib.hid hB
      clear hC hB hK hG hY
      go_wp2_with fail
      refine (HRd.out y wr HBw.out).mono ?_
      rintro e v1 ⟨Bn, n1, c1, he, hr, hb, hn, hbuf⟩
      obtain ⟨rfl, rfl, rfl, hbuf⟩ := hbuf HY.out
      rw [HY.out] at he
      rw [← HL1.out] at hr
      subst he
      have hlt := HC.out.1
      have HNe := Lib.hid (show ∀ b o, some (⟨wr.heap.size, 0, none⟩ : Addr) = some ⟨b, o, none⟩ → w.heap.size + 1 + 1 < b from fun b o e => by injection e with e; injection e with e; omega)
      have HR1 := Lib.hid hr
      have HB1 := Lib.hid (HBw.out.trans (hb.mono HBw.out.size))
      have HK1 := Lib.hid (HK.out.below hb)
      have HG1 := Lib.hid (HG.out.below hb)
      have hC1 := HC.out.below hb
      have HY1 := Lib.hid (HY0.out.below hb)
      have HC1 := Lib.hid hC1
      have f0 := hC1.2.2 5
      have f1 := hC1.2.2 6
      have f2 := hC1.2.2 7
      have f3 := hC1.2.2 8
      have f4 := hC1.2.2 9
      have c0 := hC1.at_ 5 rfl
      have c1 := hC1.at_ 6 rfl
      have c2 := hC1.at_ 7 rfl
      have c3 := hC1.at_ 8 rfl
      have c4 := hC1.at_ 9 rfl
      clear hr hb hn hbuf hlt hC1 HC HK HG HBw HY0
      generalize wr.heap.size = gb at *
      go_wp2_with fail
      refine (must_ok _).mono ?_
      rintro e v' ⟨rfl, rfl⟩
      have hk2 := (((((HK1.out.other (b := w.heap.size + 1 + 1) (i := 5) (v := .int .i64 y) (by omega)).other (b := w.heap.size + 1 + 1) (i := 6) (v := .slice (some ⟨gb, 0, none⟩) 128 128) (by omega)).other (b := w.heap.size + 1 + 1) (i := 7) (v := .bool false) (by omega)).other (b := w.heap.size + 1 + 1) (i := 8) (v := .int .i64 0) (by omega)).other (b := w.heap.size + 1 + 1) (i := 9) (v := .slice none 0 0) (by omega))
      have hg2 := (((((HG1.out.other (b := w.heap.size + 1 + 1) (i := 5) (v := .int .i64 y) (by omega)).other (b := w.heap.size + 1 + 1) (i := 6) (v := .slice (some ⟨gb, 0, none⟩) 128 128) (by omega)).other (b := w.heap.size + 1 + 1) (i := 7) (v := .bool false) (by omega)).other (b := w.heap.size + 1 + 1) (i := 8) (v := .int .i64 0) (by omega)).other (b := w.heap.size + 1 + 1) (i := 9) (v := .slice none 0 0) (by omega))
      have hc2 := (((((HC1.out.set 5 (.int .i64 y) (by simp)).set 6 (.slice (some ⟨gb, 0, none⟩) 128 128) (by simp)).set 7 (.bool false) (by simp)).set 8 (.int .i64 0) (by simp)).set 9 (.slice none 0 0) (by simp))
      have HR2 := Lib.hid (show Rd (((((v1.setCell ⟨w.heap.size + 1 + 1, 5, none⟩ (.int .i64 y)).setCell ⟨w.heap.size + 1 + 1, 6, none⟩ (.slice (some ⟨gb, 0, none⟩) 128 128)).setCell ⟨w.heap.size + 1 + 1, 7, none⟩ (.bool false)).setCell ⟨w.heap.size + 1 + 1, 8, none⟩ (.int .i64 0)).setCell ⟨w.heap.size + 1 + 1, 9, none⟩ (.slice none 0 0)) _ 128 l1 from (((((HR1.out.far HNe.out (.int .i64 y)).far HNe.out (.slice (some ⟨gb, 0, none⟩) 128 128)).far HNe.out (.bool false)).far HNe.out (.int .i64 0)).far HNe.out (.slice none 0 0)))
      have HB2 := Lib.hid ((((((HB1.out.setCell (p := ⟨w.heap.size + 1 + 1, 5, none⟩) (by show w.heap.size ≤ w.heap.size + 1 + 1; omega) (.int .i64 y)).setCell (p := ⟨w.heap.size + 1 + 1, 6, none⟩) (by show w.heap.size ≤ w.heap.size + 1 + 1; omega) (.slice (some ⟨gb, 0, none⟩) 128 128)).setCell (p := ⟨w.heap.size + 1 + 1, 7, none⟩) (by show w.heap.size ≤ w.heap.size + 1 + 1; omega) (.bool false)).setCell (p := ⟨w.heap.size + 1 + 1, 8, none⟩) (by show w.heap.size ≤ w.heap.size + 1 + 1; omega) (.int .i64 0)).setCell (p := ⟨w.heap.size + 1 + 1, 9, none⟩) (by show w.heap.size ≤ w.heap.size + 1 + 1; omega) (.slice none 0 0)))
      have HY2 := Lib.hid ((((((HY1.out.far 5 (.int .i64 y)).far 6 (.slice (some ⟨gb, 0, none⟩) 128 128)).far 7 (.bool false)).far 8 (.int .i64 0)).far 9 (.slice none 0 0)))
      have HK2 := Lib.hid hk2
      have HG2 := Lib.hid hg2
      have HC2 := Lib.hid hc2
      have y0 := hk2.at_ 0 rfl
      have y1 := hk2.at_ 1 rfl
      clear hk2 hg2 hc2 HK1 HG1 HC1 HR1 HB1 HY1
      go_wp2_with fail
      clear y0 y1 f0 f1 f2 f3 f4 c1 c2 c3 c4
      have HIs := Lib.hid (fis_any P.i P.e i kind (some ⟨gb, 0, none⟩) 128 128 l1 _ HR2.out (by omega) (by omega))
      rw [← HE1.out] at HIs
      refine HIs.out.mono ?_
      generalize (((((v1.setCell ⟨w.heap.size + 1 + 1, 5, none⟩ (.int .i64 y)).setCell ⟨w.heap.size + 1 + 1, 6, none⟩ (.slice (some ⟨gb, 0, none⟩) 128 128)).setCell ⟨w.heap.size + 1 + 1, 7, none⟩ (.bool false)).setCell ⟨w.heap.size + 1 + 1, 8, none⟩ (.int .i64 0)).setCell ⟨w.heap.size + 1 + 1, 9, none⟩ (.slice none 0 0)) = v2 at *
      rintro e v3 ⟨rfl, hb⟩
      have HB3 := Lib.hid (HB2.out.trans (hb.mono HB2.out.size))
      have HK3 := Lib.hid (HK2.out.below hb)
      have HG3 := Lib.hid (HG2.out.below hb)
      have HC3 := Lib.hid (HC2.out.below hb)
      have HR3 := Lib.hid (HR2.out.below hb)
      have HY3 := Lib.hid (HY2.out.below hb)
      clear hb HB2 HK2 HG2 HC2 HR2 HIs HY2
      cases hbk : b1 with
      | false =>
        have HY9 := Lib.hid (Cpy.none (x := y) (c := 0) HR3.out HNe.out)
        have HI9 := Lib.hid (show BI w w.heap.size [.int .i64 P.i, .int .i64 P.e, .slice A P.ps.length c] 2 x y l0 l1 b0 false v3 from ⟨HB3.out, HK3.out, HG3.out, fun e => (by cases e), fun e => (by cases e), fun _ => ⟨_, _, _, _, _, _, HC3.out, HY3.out, HY9.out⟩⟩)
        go_wp2_with fail
        go_roundw
        case rel => exact ⟨2, by omega, by go_num, (by rw [hbk]; exact HI9)⟩
        case measure => simp [intOf]
      | true =>
        have hF : isF l1 = true := by have h9 := HE1.out; rw [hbk] at h9; unfold isB at h9; cases hh : isF l1 with | true => rfl | false => rw [hh] at h9; cases h9
        have HDe := Lib.hid (decode_newF (some ⟨gb, 0, none⟩) 128 128 l1 v3 HR3.out (by omega) hF)
        have hep : ep l1 true = (F l1 8 4 : Int) := rfl
        have hbd : bd l1 true = (l1.drop 16).take (F l1 2 2) := rfl
        rw [← hep, ← hbd] at HDe
        generalize (F l1 4 4 : Int) = q4 at *
        generalize (F l1 12 4 : Int) = q12 at *
        generalize (F l1 1 1 : Int) = q1 at *
        clear hF hep hbd
        generalize hE9 : ep l1 true = E9 at *
        have HE9 := Lib.hid hE9
        clear hE9
        go_wp2_with fail
        refine HDe.out.mono ?_
        rintro e v4 ⟨Qn, cq, rfl, hq, hnq, hb, hcq⟩
        have HCq := Lib.hid hcq
        clear hcq
        have hlt := HC3.out.1
        have HNq := Lib.hid (show ∀ b o, Qn = some ⟨b, o, none⟩ → w.heap.size + 1 + 1 < b from fun b o e => by have := hnq b o e; omega)
        have hst := Holds.new v4 #[.int .i64 q4, .int .i64 E9, .int .i64 q12] 89
        have hb5 := hb.alloc hb.size (.cells #[.int .i64 q4, .int .i64 E9, .int .i64 q12] 89)
        have HB4 := Lib.hid (HB3.out.trans (hb5.mono HB3.out.size))
        have HK4 := Lib.hid (HK3.out.below hb5)
        have HG4 := Lib.hid (HG3.out.below hb5)
        have hC4 := HC3.out.below hb5
        have HC4 := Lib.hid hC4
        have HR4 := Lib.hid (HR3.out.below hb5)
        have HQ4 := Lib.hid (hq.alloc (.cells #[.int .i64 q4, .int .i64 E9, .int .i64 q12] 89))
        have HY4 := Lib.hid (HY3.out.below hb5)
        have u1 := hst.at_ 1 rfl
        have hne : v4.heap.size ≠ w.heap.size + 1 + 1 := by have := hb.size; omega
        have f2 := hC4.2.2 7
        have f3 := hC4.2.2 8
        have f4 := hC4.2.2 9
        have c2 := hC4.at_ 7 rfl
        have c3 := hC4.at_ 8 rfl
        have c4 := hC4.at_ 9 rfl
        clear hq hnq hb hlt hst hb5 hC4 HB3 HK3 HG3 HC3 HR3 HDe HY3
        go_upto_region 10 with fail
        generalize (v4.alloc (.cells #[.int .i64 q4, .int .i64 E9, .int .i64 q12] 89)) = v5 at *
        generalize v4.heap.size = sb at *
        have HC6 := Lib.hid ((((HC4.out.set 7 (.bool true) (by simp)).set 8 (.int .i64 E9) (by simp)).set 9 (.slice Qn (bd l1 true).length cq) (by simp)))
        have HK6 := Lib.hid ((((HK4.out.other (b := w.heap.size + 1 + 1) (i := 7) (v := .bool true) (by omega)).other (b := w.heap.size + 1 + 1) (i := 8) (v := .int .i64 E9) (by omega)).other (b := w.heap.size + 1 + 1) (i := 9) (v := .slice Qn (bd l1 true).length cq) (by omega)))
        have HG6 := Lib.hid ((((HG4.out.other (b := w.heap.size + 1 + 1) (i := 7) (v := .bool true) (by omega)).other (b := w.heap.size + 1 + 1) (i := 8) (v := .int .i64 E9) (by omega)).other (b := w.heap.size + 1 + 1) (i := 9) (v := .slice Qn (bd l1 true).length cq) (by omega)))
        have HR6 := Lib.hid (show Rd (((v5.setCell ⟨w.heap.size + 1 + 1, 7, none⟩ (.bool true)).setCell ⟨w.heap.size + 1 + 1, 8, none⟩ (.int .i64 E9)).setCell ⟨w.heap.size + 1 + 1, 9, none⟩ (.slice Qn (bd l1 true).length cq)) _ 128 l1 from (((HR4.out.far HNe.out (.bool true)).far HNe.out (.int .i64 E9)).far HNe.out (.slice Qn (bd l1 true).length cq)))
        have HQ6 := Lib.hid (show Rd (((v5.setCell ⟨w.heap.size + 1 + 1, 7, none⟩ (.bool true)).setCell ⟨w.heap.size + 1 + 1, 8, none⟩ (.int .i64 E9)).setCell ⟨w.heap.size + 1 + 1, 9, none⟩ (.slice Qn (bd l1 true).length cq)) _ _ (bd l1 true) from (((HQ4.out.far HNq.out (.bool true)).far HNq.out (.int .i64 E9)).far HNq.out (.slice Qn (bd l1 true).length cq)))
        have HB6 := Lib.hid ((((HB4.out.setCell (p := ⟨w.heap.size + 1 + 1, 7, none⟩) (by show w.heap.size ≤ w.heap.size + 1 + 1; omega) (.bool true)).setCell (p := ⟨w.heap.size + 1 + 1, 8, none⟩) (by show w.heap.size ≤ w.heap.size + 1 + 1; omega) (.int .i64 E9)).setCell (p := ⟨w.heap.size + 1 + 1, 9, none⟩) (by show w.heap.size ≤ w.heap.size + 1 + 1; omega) (.slice Qn (bd l1 true).length cq)))
        have HY6 := Lib.hid ((((HY4.out.far 7 (.bool true)).far 8 (.int .i64 E9)).far 9 (.slice Qn (bd l1 true).length cq)))
        have HY9 := Lib.hid (show Cpy (((v5.setCell ⟨w.heap.size + 1 + 1, 7, none⟩ (.bool true)).setCell ⟨w.heap.size + 1 + 1, 8, none⟩ (.int .i64 E9)).setCell ⟨w.heap.size + 1 + 1, 9, none⟩ (.slice Qn (bd l1 true).length cq)) (w.heap.size + 1 + 1) y l1 true (some ⟨gb, 0, none⟩) Qn cq from ⟨HR6.out, HQ6.out, HNe.out, HNq.out, HCq.out⟩)
        clear HR6 HQ6 HC4 HK4 HG4 HR4 HQ4 HB4 HY4
        go_region
        all_goals (generalize (((v5.setCell ⟨w.heap.size + 1 + 1, 7, none⟩ (.bool true)).setCell ⟨w.heap.size + 1 + 1, 8, none⟩ (.int .i64 E9)).setCell ⟨w.heap.size + 1 + 1, 9, none⟩ (.slice Qn (bd l1 true).length cq)) = v6 at *)
        all_goals (have HI9 := Lib.hid (show BI w w.heap.size [.int .i64 P.i, .int .i64 P.e, .slice A P.ps.length c] 2 x y l0 l1 b0 true v6.drew from ⟨HB6.out.drew, HK6.out, HG6.out, fun e => (by cases e), fun e => (by cases e), fun _ => ⟨_, _, _, _, _, _, (by rw [← HE9.out] at HC6; exact HC6.out), HY6.out, HY9.out⟩⟩))
        all_goals (go_wp2_with fail)
        all_goals (go_roundw)
        case rel => exact ⟨2, by omega, by go_num, (by rw [hbk]; exact HI9)⟩
        case measure => simp [intOf]
    have hk2 : k = 2 := by omega
    subst hk2
    obtain ⟨B, Q, cq, B', Q', cq', hC, hY0, hY1⟩ := HI.out.st2 rfl
    have hC : Holds wr (w.heap.size + 1 + 1) [.int .i64 x, .slice B 128 128, .bool b0, .int .i64 (ep l0 b0), .slice Q (bd l0 b0).length cq, .int .i64 y, .slice B' 128 128, .bool b1, .int .i64 (ep l1 b1), .slice Q' (bd l1 b1).length cq'] := hC
    have c0 := hC.at_ 0 rfl
    have c1 := hC.at_ 1 rfl
    have c2 := hC.at_ 2 rfl
    have c3 := hC.at_ 3 rfl
    have c4 := hC.at_ 4 rfl
    have c5 := hC.at_ 5 rfl
    have c6 := hC.at_ 6 rfl
    have c7 := hC.at_ 7 rfl
    have c8 := hC.at_ 8 rfl
    have c9 := hC.at_ 9 rfl
    have hG := HI.out.res
    have f0 := hG.2.2 0
    have f1 := hG.2.2 1
    have f2 := hG.2.2 2
    have f3 := hG.2.2 3
    have f4 := hG.2.2 4
    have f5 := hG.2.2 5
    have f6 := hG.2.2 6
    have f7 := hG.2.2 7
    have f8 := hG.2.2 8
    have f9 := hG.2.2 9
    have e0 := hG.at_ 0 rfl
    have e1 := hG.at_ 1 rfl
    have e2 := hG.at_ 2 rfl
    have e3 := hG.at_ 3 rfl
    have e4 := hG.at_ 4 rfl
    have e5 := hG.at_ 5 rfl
    have e6 := hG.at_ 6 rfl
    have e7 := hG.at_ 7 rfl
    have e8 := hG.at_ 8 rfl
    have e9 := hG.at_ 9 rfl
    have hlt := hC.1
    have HRs := Lib.hid (((((((((((hG.set 0 (.int .i64 x) (by simp)).set 1 (.slice B 128 128) (by simp)).set 2 (.bool b0) (by simp)).set 3 (.int .i64 (ep l0 b0)) (by simp)).set 4 (.slice Q (bd l0 b0).length cq) (by simp)).set 5 (.int .i64 y) (by simp)).set 6 (.slice B' 128 128) (by simp)).set 7 (.bool b1) (by simp)).set 8 (.int .i64 (ep l1 b1)) (by simp)).set 9 (.slice Q' (bd l1 b1).length cq') (by simp)))
    have HBf := Lib.hid (((((((((((HI.out.below.setCell (p := ⟨w.heap.size + 1, 0, none⟩) (by show w.heap.size ≤ w.heap.size + 1; omega) (.int .i64 x)).setCell (p := ⟨w.heap.size + 1, 1, none⟩) (by show w.heap.size ≤ w.heap.size + 1; omega) (.slice B 128 128)).setCell (p := ⟨w.heap.size + 1, 2, none⟩) (by show w.heap.size ≤ w.heap.size + 1; omega) (.bool b0)).setCell (p := ⟨w.heap.size + 1, 3, none⟩) (by show w.heap.size ≤ w.heap.size + 1; omega) (.int .i64 (ep l0 b0))).setCell (p := ⟨w.heap.size + 1, 4, none⟩) (by show w.heap.size ≤ w.heap.size + 1; omega) (.slice Q (bd l0 b0).length cq)).setCell (p := ⟨w.heap.size + 1, 5, none⟩) (by show w.heap.size ≤ w.heap.size + 1; omega) (.int .i64 y)).setCell (p := ⟨w.heap.size + 1, 6, none⟩) (by show w.heap.size ≤ w.heap.size + 1; omega) (.slice B' 128 128)).setCell (p := ⟨w.heap.size + 1, 7, none⟩) (by show w.heap.size ≤ w.heap.size + 1; omega) (.bool b1)).setCell (p := ⟨w.heap.size + 1, 8, none⟩) (by show w.heap.size ≤ w.heap.size + 1; omega) (.int .i64 (ep l1 b1))).setCell (p := ⟨w.heap.size + 1, 9, none⟩) (by show w.heap.size ≤ w.heap.size + 1; omega) (.slice Q' (bd l1 b1).length cq')))
    have HY0 := Lib.hid hY0
    have HY1 := Lib.hid hY1
    have HLt := Lib.hid hlt
    have r0 := HRs.out.at_ 0 rfl
    have r1 := HRs.out.at_ 1 rfl
    have r2 := HRs.out.at_ 2 rfl
    have r3 := HRs.out.at_ 3 rfl
    have r4 := HRs.out.at_ 4 rfl
    have r5 := HRs.out.at_ 5 rfl
    have r6 := HRs.out.at_ 6 rfl
    have r7 := HRs.out.at_ 7 rfl
    have r8 := HRs.out.at_ 8 rfl
    have r9 := HRs.out.at_ 9 rfl
    clear hC hY0 hY1 hG hlt
    go_wp2_with fail
    refine bodyPost_ret (v := .agg #[.int .i64 x, .slice B 128 128, .bool b0, .int .i64 (ep l0 b0), .slice Q (bd l0 b0).length cq, .int .i64 y, .slice B' 128 128, .bool b1, .int .i64 (ep l1 b1), .slice Q' (bd l1 b1).length cq']) ?_ rfl ?_
    · simp [results, Try.results47, go_sem, r0, r1, r2, r3, r4, r5, r6, r7, r8, r9]
    · have H0 := HY0.out
      have H1 := HY1.out
      exact ⟨B, B', Q, Q', cq, cq', rfl, ((((((((((H0.1.low (g' := w.heap.size + 1) H0.2.2.1 (by omega) (.int .i64 x)).low (g' := w.heap.size + 1) H0.2.2.1 (by omega) (.slice B 128 128)).low (g' := w.heap.size + 1) H0.2.2.1 (by omega) (.bool b0)).low (g' := w.heap.size + 1) H0.2.2.1 (by omega) (.int .i64 (ep l0 b0))).low (g' := w.heap.size + 1) H0.2.2.1 (by omega) (.slice Q (bd l0 b0).length cq)).low (g' := w.heap.size + 1) H0.2.2.1 (by omega) (.int .i64 y)).low (g' := w.heap.size + 1) H0.2.2.1 (by omega) (.slice B' 128 128)).low (g' := w.heap.size + 1) H0.2.2.1 (by omega) (.bool b1)).low (g' := w.heap.size + 1) H0.2.2.1 (by omega) (.int .i64 (ep l1 b1))).low (g' := w.heap.size + 1) H0.2.2.1 (by omega) (.slice Q' (bd l1 b1).length cq')), ((((((((((H1.1.low (g' := w.heap.size + 1) H1.2.2.1 (by omega) (.int .i64 x)).low (g' := w.heap.size + 1) H1.2.2.1 (by omega) (.slice B 128 128)).low (g' := w.heap.size + 1) H1.2.2.1 (by omega) (.bool b0)).low (g' := w.heap.size + 1) H1.2.2.1 (by omega) (.int .i64 (ep l0 b0))).low (g' := w.heap.size + 1) H1.2.2.1 (by omega) (.slice Q (bd l0 b0).length cq)).low (g' := w.heap.size + 1) H1.2.2.1 (by omega) (.int .i64 y)).low (g' := w.heap.size + 1) H1.2.2.1 (by omega) (.slice B' 128 128)).low (g' := w.heap.size + 1) H1.2.2.1 (by omega) (.bool b1)).low (g' := w.heap.size + 1) H1.2.2.1 (by omega) (.int .i64 (ep l1 b1))).low (g' := w.heap.size + 1) H1.2.2.1 (by omega) (.slice Q' (bd l1 b1).length cq')), ((((((((((H0.2.1.low (g' := w.heap.size + 1) H0.2.2.2.1 (by omega) (.int .i64 x)).low (g' := w.heap.size + 1) H0.2.2.2.1 (by omega) (.slice B 128 128)).low (g' := w.heap.size + 1) H0.2.2.2.1 (by omega) (.bool b0)).low (g' := w.heap.size + 1) H0.2.2.2.1 (by omega) (.int .i64 (ep l0 b0))).low (g' := w.heap.size + 1) H0.2.2.2.1 (by omega) (.slice Q (bd l0 b0).length cq)).low (g' := w.heap.size + 1) H0.2.2.2.1 (by omega) (.int .i64 y)).low (g' := w.heap.size + 1) H0.2.2.2.1 (by omega) (.slice B' 128 128)).low (g' := w.heap.size + 1) H0.2.2.2.1 (by omega) (.bool b1)).low (g' := w.heap.size + 1) H0.2.2.2.1 (by omega) (.int .i64 (ep l1 b1))).low (g' := w.heap.size + 1) H0.2.2.2.1 (by omega) (.slice Q' (bd l1 b1).length cq')), ((((((((((H1.2.1.low (g' := w.heap.size + 1) H1.2.2.2.1 (by omega) (.int .i64 x)).low (g' := w.heap.size + 1) H1.2.2.2.1 (by omega) (.slice B 128 128)).low (g' := w.heap.size + 1) H1.2.2.2.1 (by omega) (.bool b0)).low (g' := w.heap.size + 1) H1.2.2.2.1 (by omega) (.int .i64 (ep l0 b0))).low (g' := w.heap.size + 1) H1.2.2.2.1 (by omega) (.slice Q (bd l0 b0).length cq)).low (g' := w.heap.size + 1) H1.2.2.2.1 (by omega) (.int .i64 y)).low (g' := w.heap.size + 1) H1.2.2.2.1 (by omega) (.slice B' 128 128)).low (g' := w.heap.size + 1) H1.2.2.2.1 (by omega) (.bool b1)).low (g' := w.heap.size + 1) H1.2.2.2.1 (by omega) (.int .i64 (ep l1 b1))).low (g' := w.heap.size + 1) H1.2.2.2.1 (by omega) (.slice Q' (bd l1 b1).length cq')), (by rintro X (rfl | rfl | rfl | rfl) b o e <;> first | (have := H0.2.2.1 b o e; omega) | (have := H1.2.2.1 b o e; omega) | (have := H0.2.2.2.1 b o e; omega) | (have := H1.2.2.2.1 b o e; omega)), HBf.out, H0.2.2.2.2, H1.2.2.2.2⟩
end Go.Proofs.Ytpggomekbahddaa
