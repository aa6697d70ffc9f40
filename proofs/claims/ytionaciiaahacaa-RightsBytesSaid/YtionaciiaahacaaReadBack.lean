/- What ReadAccount and ReadHold of package rights make of bytes. -/
import Derived.Test.YtionaciiaahacaaAccBytes
import Derived.Test.YtionaciiaahacaaTaken
namespace Go.Proofs.Ytionaciiaahacaa
open Go.RowKit
set_option linter.unusedVariables false
namespace Ac
def readA (l : List Nat) : Int × Int × Int × Int :=
  match just 3 l with
  | some [f, h, q] => if okA f h q then ((f : Int), (h : Int), (q : Int), 0) else (0, 0, 0, 206)
  | _ => (0, 0, 0, 206)
def readH (l : List Nat) : Int × Int × Int :=
  match just 2 l with
  | some [n, u] => if okH n u then ((n : Int), (u : Int), 0) else (0, 0, 206)
  | _ => (0, 0, 206)
end Ac
theorem Holds.grown {w w' : World} {b c : Nat} {cs : List Value} (k : Holds w c cs) (hg : w.grownBy w' (some b)) (h : c ≠ b) : Holds w' c cs := by
  have hne : some c ≠ some b := fun e => h (by injection e)
  exact ⟨Nat.lt_of_lt_of_le k.1 hg.size, fun i v hv => (hg.cell_far ⟨c, i, none⟩ k.1 hne).trans (k.2.1 i v hv), fun i => (hg.frozen_far ⟨c, i, none⟩ k.1 hne).trans (k.2.2 i)⟩
theorem below_grown {w v w' : World} {b : Nat} (hb : Below w.heap.size w v) (hg : v.grownBy w' (some b)) (h : w.heap.size ≤ b) : Below w.heap.size w w' :=
  ⟨hg.os.trans hb.os, hg.tape.trans hb.tape, hg.output.trans hb.output, Nat.le_trans hb.size hg.size, fun k hk => (hg.block k (Nat.lt_of_lt_of_le hk hb.size) (fun e => by injection e with e; omega)).trans (hb.block k hk)⟩
/-- Three new blocks, one behind the other. -/
theorem three_new (w : World) (c1 c2 c3 : Array Value) (t1 t2 t3 : TypeId) :
    let v := ((w.alloc (.cells c1 t1)).alloc (.cells c2 t2)).alloc (.cells c3 t3)
    Below w.heap.size w v ∧ v.heap.size = w.heap.size + 3 ∧ Holds v w.heap.size c1.toList ∧ Holds v (w.heap.size + 1) c2.toList ∧ ∀ j, v.cell? ⟨w.heap.size + 1 + 1, j, none⟩ = c3[j]? := by
  have e1 : (w.alloc (.cells c1 t1)).heap.size = w.heap.size + 1 := by simp
  have e2 : ((w.alloc (.cells c1 t1)).alloc (.cells c2 t2)).heap.size = w.heap.size + 1 + 1 := by simp
  refine ⟨(((Below.refl _ _).alloc (Nat.le_refl _) _).alloc (by omega) _).alloc (by omega) _, by simp, ((Holds.new w c1 t1).alloc _).alloc _, ?_, fun j => ?_⟩
  · have := (Holds.new (w.alloc (.cells c1 t1)) c2 t2).alloc (.cells c3 t3)
    rwa [e1] at this
  · have := World.cell?_alloc_mark ((w.alloc (.cells c1 t1)).alloc (.cells c2 t2)) c3 t3 (0, 0) j
    rwa [e2] at this
set_option maxRecDepth 100000 in
theorem readacc_any (A : Option Addr) (n cap : Nat) (lb : List Nat) (w : World) (hl : Rd w A n lb) (hc : n ≤ cap) (hn : n ≤ 1000) :
    Calls Try.prog 38 #[.slice A n cap] w (GivesAcc w (Ac.readA lb)) := by
  go_enter Try.func38, Try.ntmps38
  go_wp2_with fail
  obtain ⟨hB, hS, h0, h1, h2⟩ := three_new w #[.int .i64 0, .int .i64 0, .int .i64 0] #[.int .i64 0, .int .i64 0, .int .i64 0] #[.pointer (some { block := w.heap.size + 1, off := 0 }), .pointer (some { block := w.heap.size + 1, off := 1 }), .pointer (some { block := w.heap.size + 1, off := 2 })] 23 23 62
  generalize ((w.alloc (.cells #[.int .i64 0, .int .i64 0, .int .i64 0] 23)).alloc (.cells #[.int .i64 0, .int .i64 0, .int .i64 0] 23)).alloc (.cells #[.pointer (some { block := w.heap.size + 1, off := 0 }), .pointer (some { block := w.heap.size + 1, off := 1 }), .pointer (some { block := w.heap.size + 1, off := 2 })] 62) = v at *
  have hT := take_any A n cap (w.heap.size + 1 + 1) (w.heap.size + 1) 3 lb [.int .i64 0, .int .i64 0, .int .i64 0] v (hl.below hB) hc hn (by
    intro j hj
    rw [h2]
    match j, hj with
    | 0, _ => rfl
    | 1, _ => rfl
    | 2, _ => rfl) (by omega) (by omega) h1 rfl (by omega) (by
    intro h b o hA
    obtain ⟨b', o', hA', hb', _⟩ := hl.2.2 h
    rw [hA] at hA'
    injection hA' with e
    injection e with e _
    omega)
  refine hT.mono ?_
  rintro e v3 ⟨xs, rfl, hX, hlen, hys, hg⟩
  have hz := h0.grown hg (by omega)
  have hb3 := below_grown hB hg (by omega)
  clear hT hg hB hS h0 h1 h2
  rcases hj : Ac.just 3 lb with _ | ys
  · have e1 : Ac.readA lb = (0, 0, 0, 206) := by unfold Ac.readA; rw [hj]
    have E1 := Lib.hid e1
    clear hys hj e1
    have hz0 := hz.at_ 0 rfl
    have hz1 := hz.at_ 1 rfl
    have hz2 := hz.at_ 2 rfl
    have f0 := hz.2.2 0
    have f1 := hz.2.2 1
    have f2 := hz.2.2 2
    have ho : takeOk (none : Option (List Nat)) = false := rfl
    go_wp2_with fail
    have hs3 := hz.set3 (.int .i64 0) (.int .i64 0) (.int .i64 0)
    have c0 := hs3.at_ 0 rfl
    have c1 := hs3.at_ 1 rfl
    have c2 := hs3.at_ 2 rfl
    exact bodyPost_ret (v := .tuple #[.agg #[.int .i64 0, .int .i64 0, .int .i64 0], .int .i64 206]) (by simp [results, Try.results38, go_sem, c0, c1, c2]) rfl ⟨(by rw [E1.out]; rfl), ((hb3.setCell (Nat.le_refl _) _).setCell (Nat.le_refl _) _).setCell (Nat.le_refl _) _⟩
  · have hxs := hys ys hj
    subst hxs
    rw [List.length_map] at hlen
    obtain ⟨f, h, q, rfl⟩ : ∃ f h q, ys = [f, h, q] := by
      match ys, hlen with
      | [f, h, q], _ => exact ⟨f, h, q, rfl⟩
    have ho : takeOk (some [f, h, q] : Option (List Nat)) = true := rfl
    have hz0 := hz.at_ 0 rfl
    have hz1 := hz.at_ 1 rfl
    have hz2 := hz.at_ 2 rfl
    have f0 := hz.2.2 0
    have f1 := hz.2.2 1
    have f2 := hz.2.2 2
    have a0 : v3.cell? ⟨w.heap.size + 1, 0, none⟩ = some (.int .i64 (f : Int)) := hX.at_ 0 rfl
    have a1 : v3.cell? ⟨w.heap.size + 1, 1, none⟩ = some (.int .i64 (h : Int)) := hX.at_ 1 rfl
    have a2 : v3.cell? ⟨w.heap.size + 1, 2, none⟩ = some (.int .i64 (q : Int)) := hX.at_ 2 rfl
    have l0 := hz.1
    have l1 := hX.1
    rcases hk : Ac.okA f h q with _ | _
    · have e1 : Ac.readA lb = (0, 0, 0, 206) := by unfold Ac.readA; rw [hj]; show (if _ then _ else _) = _; rw [hk]; rfl
      have E1 := Lib.hid e1
      have hcn := fun w' => check_no hk w'
      unfold acc at hcn
      have Hc := Lib.hid hcn
      clear hys hj e1 hcn hk
      go_wp2_with fail
      refine (Hc.out _).mono ?_
      rintro e v4 ⟨rfl, rfl⟩
      go_wp2_with fail
      have hs3 := (hz.set3 (.int .i64 0) (.int .i64 0) (.int .i64 0)).alloc (.cells #[.int .i64 (f : Int), .int .i64 (h : Int), .int .i64 (q : Int)] 23)
      have c0 := hs3.at_ 0 rfl
      have c1 := hs3.at_ 1 rfl
      have c2 := hs3.at_ 2 rfl
      exact bodyPost_ret (v := .tuple #[.agg #[.int .i64 0, .int .i64 0, .int .i64 0], .int .i64 206]) (by simp [results, Try.results38, go_sem, c0, c1, c2]) rfl ⟨(by rw [E1.out]; rfl), (((hb3.setCell (Nat.le_refl _) _).setCell (Nat.le_refl _) _).setCell (Nat.le_refl _) _).alloc (by simp <;> omega) _⟩
    · have e1 : Ac.readA lb = (↑f, ↑h, ↑q, 0) := by unfold Ac.readA; rw [hj]; show (if _ then _ else _) = _; rw [hk]; rfl
      have E1 := Lib.hid e1
      have hcn := fun w' => check_yes hk w'
      unfold acc at hcn
      have Hc := Lib.hid hcn
      clear hys hj e1 hcn hk
      go_wp2_with fail
      refine (Hc.out _).mono ?_
      rintro e v4 ⟨rfl, rfl⟩
      go_wp2_with fail
      have hs3 := (hz.set3 (.int .i64 f) (.int .i64 h) (.int .i64 q)).alloc (.cells #[.int .i64 (f : Int), .int .i64 (h : Int), .int .i64 (q : Int)] 23)
      have c0 := hs3.at_ 0 rfl
      have c1 := hs3.at_ 1 rfl
      have c2 := hs3.at_ 2 rfl
      exact bodyPost_ret (v := .tuple #[.agg #[.int .i64 f, .int .i64 h, .int .i64 q], .int .i64 0]) (by simp [results, Try.results38, go_sem, c0, c1, c2]) rfl ⟨(by rw [E1.out]; rfl), (((hb3.setCell (Nat.le_refl _) _).setCell (Nat.le_refl _) _).setCell (Nat.le_refl _) _).alloc (by simp <;> omega) _⟩
def GivesHo (w : World) (r : Int × Int × Int) (e : Ending) (w' : World) : Prop :=
  e = .returned (.tuple #[hold r.1 r.2.1, .int .i64 r.2.2]) ∧ Below w.heap.size w w'
theorem Holds.set2 {w : World} {b : Nat} {x y : Value} (k : Holds w b [x, y]) (x' y' : Value) : Holds ((w.setCell ⟨b, 0, none⟩ x').setCell ⟨b, 1, none⟩ y') b [x', y'] :=
  (k.set 0 x' (by simp)).set 1 y' (by simp)
set_option maxRecDepth 100000 in
theorem readhold_any (A : Option Addr) (n cap : Nat) (lb : List Nat) (w : World) (hl : Rd w A n lb) (hc : n ≤ cap) (hn : n ≤ 1000) :
    Calls Try.prog 40 #[.slice A n cap] w (GivesHo w (Ac.readH lb)) := by
  go_enter Try.func40, Try.ntmps40
  go_wp2_with fail
  obtain ⟨hB, hS, h0, h1, h2⟩ := three_new w #[.int .i64 0, .int .i64 0] #[.int .i64 0, .int .i64 0] #[.pointer (some { block := w.heap.size + 1, off := 0 }), .pointer (some { block := w.heap.size + 1, off := 1 })] 25 25 62
  generalize ((w.alloc (.cells #[.int .i64 0, .int .i64 0] 25)).alloc (.cells #[.int .i64 0, .int .i64 0] 25)).alloc (.cells #[.pointer (some { block := w.heap.size + 1, off := 0 }), .pointer (some { block := w.heap.size + 1, off := 1 })] 62) = v at *
  have hT := take_any A n cap (w.heap.size + 1 + 1) (w.heap.size + 1) 2 lb [.int .i64 0, .int .i64 0] v (hl.below hB) hc hn (by
    intro j hj
    rw [h2]
    match j, hj with
    | 0, _ => rfl
    | 1, _ => rfl) (by omega) (by omega) h1 rfl (by omega) (by
    intro h b o hA
    obtain ⟨b', o', hA', hb', _⟩ := hl.2.2 h
    rw [hA] at hA'
    injection hA' with e
    injection e with e _
    omega)
  refine hT.mono ?_
  rintro e v3 ⟨xs, rfl, hX, hlen, hys, hg⟩
  have hz := h0.grown hg (by omega)
  have hb3 := below_grown hB hg (by omega)
  clear hT hg hB hS h0 h1 h2
  rcases hj : Ac.just 2 lb with _ | ys
  · have e1 : Ac.readH lb = (0, 0, 206) := by unfold Ac.readH; rw [hj]
    have E1 := Lib.hid e1
    clear hys hj e1
    have hz0 := hz.at_ 0 rfl
    have hz1 := hz.at_ 1 rfl
    have f0 := hz.2.2 0
    have f1 := hz.2.2 1
    have ho : takeOk (none : Option (List Nat)) = false := rfl
    go_wp2_with fail
    have hs3 := hz.set2 (.int .i64 0) (.int .i64 0)
    have c0 := hs3.at_ 0 rfl
    have c1 := hs3.at_ 1 rfl
    exact bodyPost_ret (v := .tuple #[.agg #[.int .i64 0, .int .i64 0], .int .i64 206]) (by simp [results, Try.results40, go_sem, c0, c1]) rfl ⟨(by rw [E1.out]; rfl), (hb3.setCell (Nat.le_refl _) _).setCell (Nat.le_refl _) _⟩
  · have hxs := hys ys hj
    subst hxs
    rw [List.length_map] at hlen
    obtain ⟨f, h, rfl⟩ : ∃ f h, ys = [f, h] := by
      match ys, hlen with
      | [f, h], _ => exact ⟨f, h, rfl⟩
    have ho : takeOk (some [f, h] : Option (List Nat)) = true := rfl
    have hz0 := hz.at_ 0 rfl
    have hz1 := hz.at_ 1 rfl
    have f0 := hz.2.2 0
    have f1 := hz.2.2 1
    have a0 : v3.cell? ⟨w.heap.size + 1, 0, none⟩ = some (.int .i64 (f : Int)) := hX.at_ 0 rfl
    have a1 : v3.cell? ⟨w.heap.size + 1, 1, none⟩ = some (.int .i64 (h : Int)) := hX.at_ 1 rfl
    have l0 := hz.1
    have l1 := hX.1
    rcases hk : Ac.okH f h with _ | _
    · have e1 : Ac.readH lb = (0, 0, 206) := by unfold Ac.readH; rw [hj]; show (if _ then _ else _) = _; rw [hk]; rfl
      have E1 := Lib.hid e1
      have hcn := fun w' => hold_no hk w'
      unfold hold at hcn
      have Hc := Lib.hid hcn
      clear hys hj e1 hcn hk
      go_wp2_with fail
      refine (Hc.out _).mono ?_
      rintro e v4 ⟨rfl, rfl⟩
      go_wp2_with fail
      have hs3 := (hz.set2 (.int .i64 0) (.int .i64 0)).alloc (.cells #[.int .i64 (f : Int), .int .i64 (h : Int)] 25)
      have c0 := hs3.at_ 0 rfl
      have c1 := hs3.at_ 1 rfl
      exact bodyPost_ret (v := .tuple #[.agg #[.int .i64 0, .int .i64 0], .int .i64 206]) (by simp [results, Try.results40, go_sem, c0, c1]) rfl ⟨(by rw [E1.out]; rfl), ((hb3.setCell (Nat.le_refl _) _).setCell (Nat.le_refl _) _).alloc (by simp <;> omega) _⟩
    · have e1 : Ac.readH lb = (↑f, ↑h, 0) := by unfold Ac.readH; rw [hj]; show (if _ then _ else _) = _; rw [hk]; rfl
      have E1 := Lib.hid e1
      have hcn := fun w' => hold_yes hk w'
      unfold hold at hcn
      have Hc := Lib.hid hcn
      clear hys hj e1 hcn hk
      go_wp2_with fail
      refine (Hc.out _).mono ?_
      rintro e v4 ⟨rfl, rfl⟩
      go_wp2_with fail
      have hs3 := (hz.set2 (.int .i64 f) (.int .i64 h)).alloc (.cells #[.int .i64 (f : Int), .int .i64 (h : Int)] 25)
      have c0 := hs3.at_ 0 rfl
      have c1 := hs3.at_ 1 rfl
      exact bodyPost_ret (v := .tuple #[.agg #[.int .i64 f, .int .i64 h], .int .i64 0]) (by simp [results, Try.results40, go_sem, c0, c1]) rfl ⟨(by rw [E1.out]; rfl), ((hb3.setCell (Nat.le_refl _) _).setCell (Nat.le_refl _) _).alloc (by simp <;> omega) _⟩
end Go.Proofs.Ytionaciiaahacaa
