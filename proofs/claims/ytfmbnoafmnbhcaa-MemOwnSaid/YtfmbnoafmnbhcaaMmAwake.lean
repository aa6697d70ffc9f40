/- The chapter's example, walked. -/
import Derived.Test.YtfmbnoafmnbhcaaMmLPut
namespace Go.Proofs.Ytfmbnoafmnbhcaa
open Go.RowKit
namespace Bk
def ex1 : P := (⟨⟨#[97]⟩, 1, false, []⟩, none, 0, 0)
def ex2 : P := (⟨⟨#[97]⟩, 3, false, []⟩, none, 0, 0)
def ex3 : P := (⟨⟨#[98]⟩, 3, false, []⟩, none, 0, 0)
def ex4 : P := (⟨⟨#[99]⟩, 2, false, []⟩, none, 0, 0)
theorem ex_laid2 : laid ex2 [ex1] = [ex2, ex1] := by
  have h : lt ex2 ex1 := by unfold lt; decide
  simp [laid, h]
theorem ex_laid3 : laid ex3 [ex2, ex1] = [ex2, ex1, ex3] := by
  have h1 : ¬ lt ex3 ex2 := by unfold lt; decide
  have h2 : ¬ lt ex3 ex1 := by unfold lt; decide
  simp [laid, h1, h2]
theorem ex_e1 : rputE [] 0 ex1 = 0 := by
  unfold rputE
  rw [if_neg (by decide), if_neg]
  rintro (h | ⟨y, hy, _⟩)
  · exact absurd h (by decide)
  · cases hy
theorem ex_e2 : rputE [ex1] 1 ex2 = 0 := by
  unfold rputE
  rw [if_neg (by decide), if_neg]
  rintro (h | ⟨y, hy, _, h⟩)
  · exact absurd h (by decide)
  · rcases List.mem_singleton.1 hy with rfl
    exact absurd h (by decide)
theorem ex_e3 : rputE [ex2, ex1] 3 ex3 = 0 := by
  unfold rputE
  rw [if_neg (by decide), if_neg]
  rintro (h | ⟨y, hy, h, _⟩)
  · exact absurd h (by decide)
  · simp only [List.mem_cons, List.not_mem_nil, or_false] at hy
    rcases hy with rfl | rfl <;> exact absurd (congrArg (fun b => b.data) h) (by decide)
theorem ex_e4 : rputE [ex2, ex1, ex3] 3 ex4 = 101 := by
  unfold rputE
  rw [if_neg (by decide), if_pos (.inl (by decide))]
theorem ex_at (w : World) : At w ex1 ∧ At w ex2 ∧ At w ex3 ∧ At w ex4 :=
  ⟨⟨Rd.nil _ _, Nat.le_refl 0, by decide, by decide, by decide, by decide⟩, ⟨Rd.nil _ _, Nat.le_refl 0, by decide, by decide, by decide, by decide⟩, ⟨Rd.nil _ _, Nat.le_refl 0, by decide, by decide, by decide, by decide⟩, ⟨Rd.nil _ _, Nat.le_refl 0, by decide, by decide, by decide, by decide⟩⟩
theorem three {l : List P} {a b c : En} (h : l.map (fun z => z.1) = [a, b, c]) : ∃ x y z, l = [x, y, z] ∧ x.1 = a ∧ y.1 = b ∧ z.1 = c := by
  match l, h with
  | [x, y, z], h =>
    simp only [List.map_cons, List.map_nil, List.cons.injEq, and_true] at h
    exact ⟨x, y, z, rfl, h.1, h.2.1, h.2.2⟩
theorem ex_get {T : Tr} {top : Int} (hI : Inv T top) (h : T.row.map (fun z => z.1) = [ex2.1, ex1.1, ex3.1]) : ∃ x, pick ⟨#[97]⟩ (T.from_ (want ⟨#[97]⟩ 2)) = some x ∧ x.1 = ex1.1 := by
  obtain ⟨x, y, z, hr, hx, hy, hz⟩ := three h
  rw [Tr.from_row _ T hI.1, hr]
  refine ⟨y, ?_, hy⟩
  have h1 : cmp x.1 (want ⟨#[97]⟩ 2) < 0 := by rw [hx]; decide
  have h2 : ¬ cmp y.1 (want ⟨#[97]⟩ 2) < 0 := by rw [hy]; decide
  rw [List.filter_cons_of_neg (by simp [h1]), List.filter_cons_of_pos (by simp [h2])]
  have : y.1.key = ⟨#[97]⟩ := by rw [hy]; rfl
  simp [pick, this]
end Bk
/-- How a Mem stands against a plain row. -/
structure Ms (S : Nat → Prop) (w : World) (m : Nat) (T : Bk.Tr) (top : Int) (es : List Bk.P) (k : Nat) : Prop where
  mem : Bk.IsM S w m T top
  same : es.map (fun z => z.1) = T.row.map (fun z => z.1)
  inv : Bk.Inv T top
  few : T.size ≤ k
  low : Bk.bytes T.row ≤ k * 3000000
theorem Ms.below {S : Nat → Prop} {w w' : World} {m : Nat} {T : Bk.Tr} {top : Int} {es : List Bk.P} {k : Nat} (h : Ms S w m T top es k) (hb : Below w.heap.size w w') : Ms S w' m T top es k := ⟨h.mem.below hb, h.same, h.inv, h.few, h.low⟩
/-- One put that goes well. -/
def GivesYes (S : Nat → Prop) (w : World) (m : Nat) (es : List Bk.P) (k : Nat) (x : Bk.P) (e : Ending) (w' : World) : Prop := e = .returned (.int .i64 0) ∧ ∃ T', Ms S w' m T' x.1.seq (Bk.laid x es) (k + 1) ∧ w.grownBy w' (some m)
theorem put_yes {S : Nat → Prop} {w : World} {m : Nat} {T : Bk.Tr} {top : Int} {es : List Bk.P} {k : Nat} (x : Bk.P) (h : Ms S w m T top es k) (hS : ∀ k, S k → k < w.heap.size) (hx : Bk.At w x) (he : Bk.rputE es top x = 0) (hk : k ≤ 1000) :
    Calls Try.prog 29 #[.pointer (some ⟨m, 0, none⟩), .agg (Bk.cells x).toArray] w (GivesYes S w m es k x) := by
  have h0 := h.few
  have h1 := h.low
  have e := Bk.putE_eq h.inv h.same x
  refine (put_any S m T top x w h.mem hS hx (by omega) (by omega)).mono ?_
  rintro e' w' ⟨he', T', top', hM, hg, hno, hyes⟩
  have hp : Bk.putE T top x = 0 := by rw [e]; exact he
  refine ⟨by rw [he', hp], ?_⟩
  obtain ⟨V, c, rfl, rfl⟩ := hyes hp
  obtain ⟨hI, _⟩ := Bk.inv_ins (y := (x.1, V, x.2.2.1, c)) h.inv hp rfl
  refine ⟨_, ⟨hM, ?_, hI, by rw [Bk.Tr.ins_size]; omega, ?_⟩, hg⟩
  · rw [Bk.Tr.ins_row _ T h.inv.1]
    exact Bk.laid_map (x := x) (y := (x.1, V, x.2.2.1, c)) rfl h.same
  · rw [Bk.bytes_ins]
    have h2 : Bk.size1 ((x.1, V, x.2.2.1, c) : Bk.P) = Bk.size1 x := rfl
    have h3 := hx.2.2.1
    have h4 := hx.2.2.2.2.2
    rw [h2, Nat.succ_mul]
    unfold Bk.size1
    omega
/-- One that is refused. -/
theorem put_nay {S : Nat → Prop} {w : World} {m : Nat} {T : Bk.Tr} {top : Int} {es : List Bk.P} {k : Nat} {r : Int} (x : Bk.P) (h : Ms S w m T top es k) (hS : ∀ k, S k → k < w.heap.size) (hx : Bk.At w x) (he : Bk.rputE es top x = r) (hr : r ≠ 0) (hk : k ≤ 1000) :
    Calls Try.prog 29 #[.pointer (some ⟨m, 0, none⟩), .agg (Bk.cells x).toArray] w fun e w' => e = .returned (.int .i64 r) ∧ Ms S w' m T top es k ∧ w.grownBy w' (some m) := by
  have h0 := h.few
  have h1 := h.low
  have e := Bk.putE_eq h.inv h.same x
  refine (put_any S m T top x w h.mem hS hx (by omega) (by omega)).mono ?_
  rintro e' w' ⟨he', T', top', hM, hg, hno, hyes⟩
  have hp : Bk.putE T top x = r := by rw [e]; exact he
  obtain ⟨rfl, rfl⟩ := hno (by rw [hp]; exact hr)
  exact ⟨by rw [he', hp], ⟨hM, h.same, h.inv, h.few, h.low⟩, hg⟩
set_option maxRecDepth 100000 in
set_option maxHeartbeats 4000000 in
theorem awake_any (w : World) : Calls Try.prog 14 #[] w fun e w' => e = .returned (.bool true) ∧ Below w.heap.size w w' := by
  have St := Lib.hid (fun (u : World) (hu : w.heap.size + 1 ≤ u.heap.size) => (fun k (hk : k = w.heap.size) => (by omega : k < u.heap.size)))
  go_enter Try.func14, Try.ntmps14
  go_wp2_with fail
  refine (new_any w).mono ?_
  rintro e w1 ⟨rfl, hM, hb1⟩
  have HB1 := Lib.hid hb1
  have H1 := Lib.hid (show Ms (fun k => k = w.heap.size) w1 w.heap.size .leaf 0 [] 0 from ⟨hM, rfl, Bk.inv_leaf, Nat.le_refl 0, Nat.le_refl 0⟩)
  have HS1 := Lib.hid (show w.heap.size + 1 ≤ w1.heap.size from hM.choose_spec.1.1)
  clear hM hb1
  go_wp2_with fail
  refine (show Calls _ _ _ _ _ from put_yes Bk.ex1 H1.out (St.out w1 HS1.out) (Bk.ex_at w1).1 Bk.ex_e1 (by omega)).mono ?_
  rintro e w2 ⟨rfl, T2, hM, hg⟩
  have H2 := Lib.hid hM
  have HG2 := Lib.hid hg
  have HS2 := Lib.hid (show w.heap.size + 1 ≤ w2.heap.size from hM.mem.choose_spec.1.1)
  clear hM hg
  go_wp2_with fail
  refine (show Calls _ _ _ _ _ from put_yes Bk.ex2 H2.out (St.out w2 HS2.out) (Bk.ex_at w2).2.1 Bk.ex_e2 (by omega)).mono ?_
  rintro e w3 ⟨rfl, T3, hM, hg⟩
  rw [show Bk.laid Bk.ex1 [] = [Bk.ex1] from rfl, Bk.ex_laid2] at hM
  have H3 := Lib.hid hM
  have HG3 := Lib.hid (grown_trans HG2.out hg)
  have HS3 := Lib.hid (show w.heap.size + 1 ≤ w3.heap.size from hM.mem.choose_spec.1.1)
  clear hM hg
  go_wp2_with fail
  refine (show Calls _ _ _ _ _ from put_yes Bk.ex3 H3.out (St.out w3 HS3.out) (Bk.ex_at w3).2.2.1 Bk.ex_e3 (by omega)).mono ?_
  rintro e w4 ⟨rfl, T4, hM, hg⟩
  rw [Bk.ex_laid3] at hM
  have H4 := Lib.hid hM
  have HG4 := Lib.hid (grown_trans HG3.out hg)
  have HS4 := Lib.hid (show w.heap.size + 1 ≤ w4.heap.size from hM.mem.choose_spec.1.1)
  clear hM hg
  go_wp2_with fail
  refine (show Calls _ _ _ _ _ from put_nay Bk.ex4 H4.out (St.out w4 HS4.out) (Bk.ex_at w4).2.2.2 Bk.ex_e4 (by decide) (by omega)).mono ?_
  rintro e w5 ⟨rfl, hM, hg⟩
  have H5 := Lib.hid hM
  have HG5 := Lib.hid (grown_trans HG4.out hg)
  clear hM hg
  have HB5 := Lib.hid (HB1.out.grown HG5.out HB1.out.size (fun g e => by injection e with e; omega))
  have hl5 := H5.out.few
  go_wp2_with fail
  refine (all_any _ _ T4 3 w5 H5.out.mem H5.out.inv (by rw [T4.row_size]; omega)).mono ?_
  rintro e w6 ⟨B6, c6, es6, rfl, h6, h7, h8⟩
  have HB6 := Lib.hid (below_next HB5.out h8)
  have H6 := Lib.hid (H5.out.below h8)
  obtain ⟨x, y, z, rfl, hx, hy, hz⟩ := Bk.three (h6.trans H5.out.same.symm)
  have HE6 := Lib.hid h7
  clear h6 h7 h8
  have HX := Lib.hid (And.intro hx (And.intro hy hz))
  clear hx hy hz
  go_wp2_with fail
  refine (get_any _ _ T4 3 ⟨#[97]⟩ 2 w6 H6.out.mem).mono ?_
  rintro e w7 ⟨⟨⟨qk, qs, qd, qv⟩, qV, qn, qc⟩, he, hq, _, _, hb7⟩
  obtain ⟨x7, hp7, hx7⟩ := Bk.ex_get H5.out.inv H5.out.same.symm
  rw [hp7] at he hq
  have he : e = .returned (.tuple #[.agg #[.string qk, .int .i64 qs, .bool qd, .slice qV qn qc], .bool true]) := he
  subst he
  have hqs : qs = 1 := (congrArg Bk.En.seq (hq.trans hx7))
  subst hqs
  have HE7 := Lib.hid (HE6.out.below hb7)
  have HB7 := Lib.hid (below_next HB6.out hb7)
  clear hq hp7 hx7 hb7 hl5
  have hrd := HE7.out.rde
  obtain ⟨b0, o0, rfl, hbl, hc0⟩ := hrd.at_ (k := 0) rfl
  obtain ⟨b1, o1, e1, _, hc1⟩ := hrd.at_ (k := 1) (v := y) rfl
  obtain ⟨b2, o2, e2, _, hc2⟩ := hrd.at_ (k := 2) (v := z) rfl
  injection e1 with e1
  injection e1 with e11 e12
  subst e11 e12
  injection e2 with e2
  injection e2 with e21 e22
  subst e21 e22
  have f0 : w7.cell? ⟨b0, o0 + 1, none⟩ = some (.int .i64 3) := (hc0 1 _ rfl).trans (by rw [HX.out.1]; rfl)
  have f1 : w7.cell? ⟨b0, o0 + 4 + 1, none⟩ = some (.int .i64 1) := (hc1 1 _ rfl).trans (by rw [HX.out.2.1]; rfl)
  have f2 : w7.cell? ⟨b0, o0 + 8, none⟩ = some (.string ⟨#[98]⟩) := (hc2 0 _ rfl).trans (by rw [HX.out.2.2]; rfl)
  have e98 := byt_same (⟨#[98]⟩ : ByteArray)
  clear hc0 hc1 hc2 hrd hbl
  go_wp2
  go_ret
  exact ⟨rfl, HB7.out.alloc HB7.out.size _⟩
end Go.Proofs.Ytfmbnoafmnbhcaa
