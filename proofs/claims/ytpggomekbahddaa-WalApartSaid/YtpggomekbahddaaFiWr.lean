/- file.Write: both copies of a frame. -/
import Derived.Test.YtpggomekbahddaaFiCnt
import Derived.Test.YtpggomekbahddaaFrE
namespace Go.Proofs.Ytpggomekbahddaa
open Go.RowKit Fi Fr
set_option linter.unusedVariables false
theorem Chg.holds {lab : Nat → Tag} {w v : World} (h : Chg lab w v) {b : Nat} {cs : List Value} (k : Holds w b cs) (hl : lab b = .no) : Holds v b cs :=
  ⟨Nat.lt_of_lt_of_le k.1 h.size, fun i y hy => (World.cell?_of_block (a := ⟨b, i, none⟩) (h.block b k.1 hl)).trans (k.2.1 i y hy), fun i => (World.frozen?_of_block (a := ⟨b, i, none⟩) (h.block b k.1 hl)).trans (k.2.2 i)⟩
theorem Chg.rd {lab : Nat → Tag} {w v : World} {A : Option Addr} {n : Nat} {l : List Nat} (h : Chg lab w v) (k : Rd w A n l) (hl : ∀ b o, A = some ⟨b, o, none⟩ → lab b = .no) : Rd v A n l := by
  refine ⟨k.1, k.2.1, fun hn => ?_⟩
  obtain ⟨b, o, rfl, hb, hc⟩ := k.2.2 hn
  exact ⟨b, o, rfl, Nat.lt_of_lt_of_le hb h.size, fun j x hx => (World.cell?_of_block (a := ⟨b, o + j, none⟩) (h.block b hb (hl b o rfl))).trans (hc j x hx)⟩
theorem Left.refl {lab : Nat → Tag} {d : Nat} {st : Dk.St} {w : World} (h : IsDisk w d lab st) : Left lab d st w w := ⟨lab, h, Chg.refl _ _, Lab.refl _ _⟩
theorem Left.pre {lab : Nat → Tag} {d : Nat} {st : Dk.St} {w w1 w' : World} (hb : Below w.heap.size w w1) (h : Left lab d st w1 w') : Left lab d st w w' := by
  obtain ⟨lab', h1, h2, h3⟩ := h
  exact ⟨lab', h1, (Chg.of_below hb).trans (Lab.refl _ _) h2, fun k hk => h3 k (Nat.lt_of_lt_of_le hk hb.size)⟩
theorem Left.then_ {lab lab1 : Nat → Tag} {d : Nat} {st : Dk.St} {w w1 w' : World} (hc : Chg lab w w1) (hl : Lab w lab lab1) (h : Left lab1 d st w1 w') : Left lab d st w w' := by
  obtain ⟨lab', h1, h2, h3⟩ := h
  exact ⟨lab', h1, hc.trans hl h2, hl.trans h3 hc.size⟩
/-- A cell of a block that no label names is written. -/
theorem Left.cell {lab : Nat → Tag} {d b j : Nat} {u : Value} {st : Dk.St} {w w1 w' : World} (h : Left lab d st w1 w') (hw : Below w.heap.size w w1) (hb1 : w.heap.size ≤ b) (hb : b < w1.heap.size) (hl : lab b = .no) : Left lab d st w (w'.setCell ⟨b, j, none⟩ u) := by
  obtain ⟨lab', h1, h2, h3⟩ := h
  have hlb : lab' b = .no := (h3 b hb).trans hl
  refine ⟨lab', h1.keep (by simp [World.setCell]) fun k hk => Below.heap_setCell _ _ _ _ (fun e => hk (by rw [show k = b from e]; exact hlb)), ?_, fun k hk => h3 k (Nat.lt_of_lt_of_le hk hw.size)⟩
  have h2' := (Chg.of_below hw).trans (Lab.refl _ lab) h2
  exact ⟨h2'.os, h2'.tape, h2'.output, by simpa [World.setCell] using h2'.size, fun k hk e => (Below.heap_setCell _ _ _ _ (fun e2 => by have e2 : k = b := e2; omega)).trans (h2'.block k hk e)⟩
set_option maxRecDepth 100000 in
set_option maxHeartbeats 4000000 in
theorem fwrite_any (P : Pl) (A : Option Addr) (c : Nat) (kind epoch f i : Nat) (hP : P.i = (f : Int)) (x y : Int) (w : World) (d : Nat) (lab : Nat → Tag) (st : Dk.St) (k : Nat) (hlow : st.low k) (hk9 : k ≤ 900) (h : IsDisk w d lab st) (hr : RdC 2 w A P.ps.length (pv P.ps)) (hok : ok P (Sp.plots st.s.length) = true)
    (hkd : 1 ≤ kind ∧ kind ≤ 4) (he : P.e ≤ (epoch : Int) ∧ epoch ≤ 2147483647) (hi : i ≤ 2147483647) (hf : fr P (i : Int) = (x, y, 0)) (hs : st.s.length ≤ 4096 ∧ 0 < st.s.length) (C : Option Addr) (cc : Nat) (p : List Nat) (hp : Rd w C p.length p) (hpl : p.length ≤ 108)
    (hx : st.ready x = 0) (hy : (st.write x (frame kind f epoch i p)).ready y = 0) :
    Calls Try.prog 28 #[.pointer (some ⟨d, 0, none⟩), Fi.val P A c, .int .i64 (kind : Int), .int .i64 (epoch : Int), .int .i64 (i : Int), .slice C p.length cc] w fun e w' => e = .returned (.int .i64 0) ∧ Left lab d ((st.write x (frame kind f epoch i p)).write y (frame kind f epoch i p)) w w' := by
  obtain ⟨p1, p2, p3, p4, p5, p6⟩ := okH_iff.1 (ok_iff.1 hok).1
  have hoS : okS (f : Int) (epoch : Int) (i : Int) = true := okS_iff.2 ⟨by omega, by omega, by omega⟩
  have hoK : okK (kind : Int) = true := okK_iff.2 ⟨by omega, by omega⟩
  have HFi := Lib.hid (fun v (hb : Below w.heap.size w v) => first_ok P A c (kind : Int) (epoch : Int) i x y v d lab st (h.below hb) (hr.below hb) hok ⟨by omega, by omega⟩ ⟨he.1, by omega⟩ hf hs)
  have HEn := Lib.hid (fun v (hb : Below w.heap.size w v) => encode_new f epoch i kind C cc p v hoS hoK (hp.below hb) hpl)
  have hfl : (frame kind f epoch i p).length = 128 := frame_len (by omega)
  obtain ⟨F, hF⟩ : ∃ F, F = frame kind f epoch i p := ⟨_, rfl⟩
  rw [← hF] at HEn hy hfl ⊢
  have HFl := Lib.hid hfl
  have HX := Lib.hid (show st.writeE x F.length = 0 by unfold Dk.St.writeE; rw [if_pos hx, if_pos hfl])
  have HY := Lib.hid (show (st.write x F).writeE y F.length = 0 by unfold Dk.St.writeE; rw [if_pos hy, if_pos hfl])
  have HD := Lib.hid h
  have HLow := Lib.hid hlow
  unfold Fi.val at HFi ⊢
  rw [hP] at HFi ⊢
  clear p1 p2 p3 p4 p5 p6 hoS hoK h hr hok hkd he hi hf hs hp hpl hx hy hF hfl hlow
  have z2 : ∀ v, (zeroValue 76).run Try.prog v = .ok (.agg #[.int .i64 0, .int .i64 0]) v := fun v => by kernel_rfl
  have HB0 := Lib.hid (show Below w.heap.size w ((w.alloc (.cells #[.int .i64 (f : Int), .int .i64 P.e, .slice A P.ps.length c] 31)).alloc (.cells #[.int .i64 0] 26)) by repeat (first | exact Below.refl _ _ | refine Below.alloc ?_ (by simp <;> omega) _))
  have HE0 := Lib.hid (show Holds ((w.alloc (.cells #[.int .i64 (f : Int), .int .i64 P.e, .slice A P.ps.length c] 31)).alloc (.cells #[.int .i64 0] 26)) (w.heap.size + 1) [.int .i64 0] by have := Holds.new (w.alloc (.cells #[.int .i64 (f : Int), .int .i64 P.e, .slice A P.ps.length c] 31)) #[.int .i64 0] 26; simpa using this)
  have HK0 := Lib.hid ((Holds.new w #[.int .i64 (f : Int), .int .i64 P.e, .slice A P.ps.length c] 31).alloc (.cells #[.int .i64 0] 26))
  go_enter_defers Try.func28, Try.ntmps28
  go_wp2_with fail
  refine (HFi.out _ HB0.out).mono ?_
  rintro e v0 ⟨rfl, hb⟩
  have hA := Holds.new v0 #[.int .i64 x, .int .i64 y] 76
  have hb1 := hb.alloc hb.size (.cells #[.int .i64 x, .int .i64 y] 76)
  have HB1 := Lib.hid (HB0.out.trans (hb1.mono HB0.out.size))
  have HE1 := Lib.hid (HE0.out.below hb1)
  have hK1 := HK0.out.below hb1
  have HA1 := Lib.hid hA
  have y0 := hK1.at_ 0 rfl
  have hlt := (HE0.out.below hb).1
  have HLt := Lib.hid hlt
  clear hA hb hb1 hK1 HB0 HE0 HK0 HFi hlt
  go_wp2_with fail
  refine (HEn.out _ HB1.out).mono ?_
  generalize (v0.alloc (.cells #[.int .i64 x, .int .i64 y] 76)) = v1 at *
  generalize v0.heap.size = ga at *
  rintro e v2 ⟨A2, c2, rfl, hr2, hc2, hn2, hb2⟩
  have hE2 := HE1.out.below hb2
  have hA2 := HA1.out.below hb2
  have HB2 := Lib.hid (HB1.out.trans (hb2.mono HB1.out.size))
  have HN2 := Lib.hid (show ∀ b o, A2 = some ⟨b, o, none⟩ → w.heap.size + 1 < b from fun b o e => by have h1 := hn2 b o e; have h2 := HE1.out.1; omega)
  have HE3 := Lib.hid (hE2.set 0 (.int .i64 0) (by simp))
  have hA3 := hA2.other (b := w.heap.size + 1) (i := 0) (v := .int .i64 0) (by have := HLt.out; omega)
  have HA3 := Lib.hid hA3
  have HR3 := Lib.hid (hr2.far (k := 0) HN2.out (.int .i64 0))
  have HB3 := Lib.hid (HB2.out.setCell (p := ⟨w.heap.size + 1, 0, none⟩) (by show w.heap.size ≤ w.heap.size + 1; omega) (.int .i64 0))
  have f0 := hE2.2.2 0
  have d0 := hE2.at_ 0 rfl
  have d1 := HE3.out.at_ 0 rfl
  rw [HFl.out] at HR3 hc2 ⊢
  clear hr2 hn2 hb2 hE2 hA2 HE1 HA1 HB1 y0 HB2
  go_wp2_with fail
  generalize (v2.setCell ⟨w.heap.size + 1, 0, none⟩ (.int .i64 0)) = v3 at *
  clear f0 d0
  refine (must_ok _).mono ?_
  rintro e v' ⟨rfl, rfl⟩
  have a0 := HA3.out.at_ 0 rfl
  have a1 := HA3.out.at_ 1 rfl
  have i0 : ∀ v, (Instr.index 76 (.agg #[.int .i64 x, .int .i64 y]) (.int .i64 0)).run Try.prog v = .ok (.int .i64 x) v := fun _ => by kernel_rfl
  have i1 : ∀ v, (Instr.index 76 (.agg #[.int .i64 x, .int .i64 y]) (.int .i64 1)).run Try.prog v = .ok (.int .i64 y) v := fun _ => by kernel_rfl
  have HD3 := Lib.hid (HD.out.below HB3.out)
  have HNo := Lib.hid (show ∀ b, w.heap.size ≤ b → lab b = .no from fun b hb => HD.out.new_ hb)
  clear d1 hA3
  go_wp2_with fail
  refine wp_loop_rounds 3 ?_
  rw [rounds_succ]
  clear a0 a1
  go_wp2_with fail
  refine (write_any x A2 128 c2 k F v3 d lab st HD3.out HR3.out HLow.out (by omega) (by omega)).mono ?_
  rintro e v4 ⟨rfl, lab4, hD4, hC4, hL4⟩
  rw [HX.out]
  have HD4 := Lib.hid hD4
  have HC4 := Lib.hid hC4
  have HL4 := Lib.hid hL4
  have HR4 := Lib.hid (hC4.rd HR3.out (fun b o e => HNo.out b (by have := HN2.out b o e; omega)))
  have HE4 := Lib.hid (hC4.holds HE3.out (HNo.out _ (by omega)))
  clear hD4 hC4 hL4
  go_wp2_with fail
  refine (must_ok _).mono ?_
  rintro e v' ⟨rfl, rfl⟩
  go_wp2_with fail
  rw [rounds_succ]
  go_wp2_with fail
  refine (write_any y A2 128 c2 (k + 1) F v4 d lab4 _ HD4.out HR4.out (low_write HLow.out _ _) (by omega) (by omega)).mono ?_
  rintro e v5 ⟨rfl, lab5, hD5, hC5, hL5⟩
  rw [HY.out]
  have hl4 : lab4 (w.heap.size + 1) = .no := (HL4.out _ HE3.out.1).trans (HNo.out _ (by omega))
  have hE5 := hC5.holds HE4.out hl4
  have f5 := hE5.2.2 0
  have d5 := hE5.at_ 0 rfl
  have HE6 := Lib.hid (hE5.set 0 (.int .i64 0) (by simp))
  have HLf := Lib.hid (Left.cell (j := 0) (u := .int .i64 0) (Left.then_ HC4.out HL4.out ⟨lab5, hD5, hC5, hL5⟩) HB3.out (show w.heap.size ≤ w.heap.size + 1 by omega) HE3.out.1 (HNo.out _ (by omega)))
  clear hD5 hC5 hL5 hl4 hE5
  go_wp2_with fail
  refine (must_ok _).mono ?_
  rintro e v' ⟨rfl, rfl⟩
  go_wp2_with fail
  rw [rounds_succ]
  go_wp2_with fail
  refine leaves_cons (f := 40) (args := #[.pointer (some ⟨w.heap.size + 1, 0, none⟩)]) (by simp) (by simp [go_sem]) ?_
  refine (idle_write _ _).mono ?_
  rintro e u' w6 ⟨rfl, rfl, rfl⟩
  have r0 := HE6.out.at_ 0 rfl
  simp only [settle]
  refine ⟨.int .i64 0, ?_, ?_⟩
  · simp [results, Try.results28, go_sem, r0]
  · exact ⟨rfl, HLf.out⟩
end Go.Proofs.Ytpggomekbahddaa
