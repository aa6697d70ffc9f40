/- Edits done in two rows, plain. EditParts: edits in two rows make what they make in one. -/
import Derived.Test.YthfcjlndaajkfaaTEdApply
import Derived.Test.YthfcjlndaajkfaaTEdPr1
import Derived.Test.YthfcjlndaajkfaaTEdLSaV
import Derived.Test.YthfcjlndaajkfaaTEdLTa
import Derived.Deep.CutBlock
import Derived.Deep.DeepCutAuto
namespace Go.Proofs.Ythfcjlndaajkfaa
namespace Ed
/-- What may be done alone: what stands behind it goes on from what it made. -/
theorem go_app : ∀ (l l2 : List Et) (v : Ve) (i : Nat), (go v l i).2.2 = 0 → (go v l i).1.ok = true ∧ go v (l ++ l2) i = go (go v l i).1 l2 (i + l.length)
  | [], l2, v, i, h => by
    have e : go v [] i = if v.ok then (v, 0, 0) else (noV, i, 150) := rfl
    rw [e] at h ⊢
    cases hv : v.ok with
    | true => rw [if_pos rfl]; exact ⟨hv, rfl⟩
    | false => rw [hv] at h; exact absurd h (by simp)
  | x :: r, l2, v, i, h => by
    rw [List.cons_append, go_cons, go_cons, List.length_cons]
    rw [go_cons] at h
    cases hx : x.ok with
    | false => rw [hx] at h; exact absurd h (by simp)
    | true =>
      rw [hx] at h
      rw [if_pos rfl] at h ⊢
      cases hd : do1 v x with
      | none => rw [hd] at h; exact absurd h (by simp)
      | some v' =>
        rw [hd] at h
        have ih := go_app r l2 v' (i + 1) h
        dsimp only at ih ⊢
        rw [show i + (r.length + 1) = i + 1 + r.length by omega]
        rw [if_pos rfl]
        exact ih
/-- From which number on edits are counted tells in the number alone. -/
theorem go_shift : ∀ (l : List Et) (v : Ve) (i k : Nat), (go v l (i + k)).1 = (go v l i).1 ∧ (go v l (i + k)).2.2 = (go v l i).2.2 ∧ ((go v l i).2.2 ≠ 0 → (go v l (i + k)).2.1 = (go v l i).2.1 + k)
  | [], v, i, k => by
    have e : ∀ j, go v [] j = if v.ok then (v, 0, 0) else (noV, j, 150) := fun _ => rfl
    rw [e, e]
    cases v.ok with
    | true => rw [if_pos rfl, if_pos rfl]; exact ⟨rfl, rfl, fun h => absurd rfl h⟩
    | false => exact ⟨rfl, rfl, fun _ => rfl⟩
  | x :: r, v, i, k => by
    rw [go_cons, go_cons]
    cases hx : x.ok with
    | false => exact ⟨rfl, rfl, fun _ => rfl⟩
    | true =>
      rw [if_pos rfl, if_pos rfl]
      cases hd : do1 v x with
      | none => exact ⟨rfl, rfl, fun _ => rfl⟩
      | some v' =>
        dsimp only
        rw [show i + k + 1 = i + 1 + k by omega]
        exact go_shift r v' (i + 1) k
/-- Edits in two rows, where the first may be done alone. -/
theorem apply_parts (v : Ve) (l : List Et) (k : Nat) (hk : k ≤ l.length) (h : (apply v (l.take k)).2.2 = 0) :
    (apply v l).1 = (apply (apply v (l.take k)).1 (l.drop k)).1 ∧ (apply v l).2.2 = (apply (apply v (l.take k)).1 (l.drop k)).2.2 ∧ ((apply (apply v (l.take k)).1 (l.drop k)).2.2 ≠ 0 → (apply v l).2.1 = (apply (apply v (l.take k)).1 (l.drop k)).2.1 + k) := by
  unfold apply at h ⊢
  cases hv : v.ok with
  | false => rw [hv] at h; exact absurd h (by simp)
  | true =>
    rw [hv] at h
    rw [if_pos rfl] at h
    rw [if_pos rfl, if_pos rfl]
    obtain ⟨h1, h2⟩ := go_app (l.take k) (l.drop k) v 0 h
    rw [List.take_append_drop, List.length_take, Nat.min_eq_left hk] at h2
    rw [if_pos h1, h2]
    exact go_shift (l.drop k) _ 0 k
end Ed
end Go.Proofs.Ythfcjlndaajkfaa
namespace Go.Proofs.Ythfcjlndaajkfaa
open Go.RowKit
set_option linter.unusedVariables false
set_option linter.unusedSimpArgs false
/-- The version and the edits that the statement looks at, plain. -/
def Ed.vOf (nx sq : Int) (L : List (Ed.Lg × List (Int × Int))) (M : List (Pk.Tb × List (Int × Int))) : Ed.Ve := ⟨nx, sq, ((L.take 34).map Ed.cutL).map Ed.loOf, ((M.take 130).map Ed.cutT).map Ed.taOf⟩
def Ed.esOf (E : List Ed.Ex) : List Ed.Et := ((E.take 260).map Ed.cutE).map Ed.etOf
theorem Ed.go_at : ∀ (l : List Ed.Et) (v : Ed.Ve) (i : Nat), (Ed.go v l i).2.1 ≤ i + l.length
  | [], v, i => by
    show (if v.ok then (v, 0, 0) else (Ed.noV, i, 150)).2.1 ≤ i + 0
    split
    · exact Nat.zero_le _
    · exact Nat.le_refl _
  | e :: r, v, i => by
    rw [Ed.go_cons, List.length_cons]
    split
    · split
      · have := Ed.go_at r ‹Ed.Ve› (i + 1); omega
      · show i ≤ _; omega
    · show i ≤ _; omega
theorem Ed.apply_at (v : Ed.Ve) (l : List Ed.Et) : (Ed.apply v l).2.1 ≤ l.length := by
  unfold Ed.apply
  split
  · have := Ed.go_at l v 0; omega
  · exact Nat.zero_le _
/-- A version of the call's own behind a box of its own. -/
def AtV (base ab : Nat) (v : Ed.Ve) (W : World) : Prop := ∃ A n c L B m d M, Holds W ab [.int .i64 v.nx, .int .i64 v.sq, .slice A n c, .slice B m d] ∧ OwV W base A n c L B m d M ∧ L.map Ed.loOf = v.ls ∧ M.map Ed.taOf = v.ts ∧ base ≤ ab
theorem AtV.below {base ab : Nat} {v : Ed.Ve} {W W' : World} (h : AtV base ab v W) (hb : Below W.heap.size W W') : AtV base ab v W' := by
  obtain ⟨A, n, c, L, B, m, d, M, h1, h2, h3, h4, h5⟩ := h
  exact ⟨A, n, c, L, B, m, d, M, h1.below hb, h2.below hb, h3, h4, h5⟩
theorem Prt.rls {w : World} {nx sq : Int} {A : Option Addr} {n c1 : Nat} {A1 : Option Addr} {B1 : Option Addr} {m' d' : Nat} {Q : Option Addr} {q' qc : Nat} {L : List (Ed.Lg × List (Int × Int))} {l2 l3 : List Value} {W : World} (h : Prt w nx sq A1 (min n 34) c1 B1 m' d' Q q' qc (Ed.lflat ((L.take (min n 34)).map fun x => (Ed.cutL x).1)) l2 l3 W) (hL : RdLs w A n L) : RdLs W A1 (min n 34) ((L.take 34).map Ed.cutL) := rdls_cut hL h.bel h.ol
theorem Prt.rts {w : World} {nx sq : Int} {A1 : Option Addr} {n' c1 : Nat} {B : Option Addr} {m d1 : Nat} {B1 : Option Addr} {Q : Option Addr} {q' qc : Nat} {M : List (Pk.Tb × List (Int × Int))} {l1 l3 : List Value} {W : World} (h : Prt w nx sq A1 n' c1 B1 (min m 130) d1 Q q' qc l1 (Pk.flat ((M.take (min m 130)).map fun x => (Ed.cutT x).1)) l3 W) (hM : RdTs w B m M) : RdTs W B1 (min m 130) ((M.take 130).map Ed.cutT) := rdts_cut hM h.bel h.ot
theorem Prt.res {w : World} {nx sq : Int} {A1 : Option Addr} {n' c1 : Nat} {B1 : Option Addr} {m' d' : Nat} {Q Q1 : Option Addr} {q qc1 : Nat} {E : List Ed.Ex} {l1 l2 : List Value} {W : World} (h : Prt w nx sq A1 n' c1 B1 m' d' Q1 (min q 260) qc1 l1 l2 (Ed.eflat ((E.take (min q 260)).map fun x => (Ed.cutE x).1)) W) (hE : RdEs w Q q E) : RdEs W Q1 (min q 260) ((E.take 260).map Ed.cutE) := rdes_cut hE h.bel h.oe
set_option maxRecDepth 100000 in
set_option maxHeartbeats 16000000 in
theorem parts_any (nx sq : Int) (A : Option Addr) (n c : Nat) (B : Option Addr) (m d : Nat) (L : List (Ed.Lg × List (Int × Int))) (M : List (Pk.Tb × List (Int × Int))) (Q : Option Addr) (q qc : Nat) (E : List Ed.Ex) (cut : Nat) (w : World) (hL : RdLs w A n L) (hM : RdTs w B m M) (hE : RdEs w Q q E) (hn : n ≤ 9223372036854775807) (hm : m ≤ 9223372036854775807) (hq : q ≤ 9223372036854775807) (hc : cut < 18446744073709551616) :
    Calls Try.prog 5 #[.agg #[.int .i64 nx, .int .i64 sq, .slice A n c, .slice B m d], .slice Q q qc, .int .u64 (cut : Int)] w fun e w' => e = .returned (.bool true) ∧ Below w.heap.size w w' := by
  have HL0 := Lib.hid hL
  have HM0 := Lib.hid hM
  have HE0 := Lib.hid hE
  have hbu : Below w.heap.size w (w.alloc (.cells #[.int .i64 nx, .int .i64 sq, .slice A n c, .slice B m d] 25)) := (Below.refl _ _).alloc (Nat.le_refl _) _
  have HBu := Lib.hid hbu
  have HXu := Lib.hid (Holds.new w #[.int .i64 nx, .int .i64 sq, .slice A n c, .slice B m d] 25)
  have hsu : (w.alloc (.cells #[.int .i64 nx, .int .i64 sq, .slice A n c, .slice B m d] 25)).heap.size = w.heap.size + 1 := by simp
  have HSu := Lib.hid hsu
  clear hL hM hE hbu hsu
  go_enter Try.func5, Try.ntmps5
  go_upto_region 1 with fail
  generalize (w.alloc (.cells #[.int .i64 nx, .int .i64 sq, .slice A n c, .slice B m d] 25)) = u at *
  replace HXu : Hid (Holds u w.heap.size [.int .i64 nx, .int .i64 sq, .slice A n c, .slice B m d]) := HXu
  have C1 := Lib.hid (awake_any u)
  go_wp2_with fail
  refine C1.out.mono ?_
  clear C1
  rintro e v1 ⟨rfl, hb1⟩
  have HX1 := Lib.hid (HXu.out.below hb1)
  have HB1 := Lib.hid (below_next HBu.out hb1)
  have HS1 := Lib.hid (show w.heap.size + 1 ≤ v1.heap.size by have := hb1.size; have := HSu.out; omega)
  clear hb1 HXu HBu HSu
  have x0 := HX1.out.at_ 0 rfl
  have x1 := HX1.out.at_ 1 rfl
  have x2 := HX1.out.at_ 2 rfl
  have x3 := HX1.out.at_ 3 rfl
  have C2 := Lib.hid (lversion_any nx sq A n c B m d L M v1 (HL0.out.below HB1.out) (HM0.out.below HB1.out) hn hm)
  go_wp2_with fail
  refine C2.out.mono ?_
  clear C2 x0 x1 x2 x3
  rintro e v2 ⟨A1, c1, B1, d1, rfl, _, _, hb2, hol, hot⟩
  have C3 := Lib.hid (ledits_any Q q qc E v2 (HE0.out.below (below_next HB1.out hb2)) hq)
  go_wp2_with fail
  refine C3.out.mono ?_
  clear C3
  rintro e v3 ⟨Q1, qc1, rfl, hqc, _, hb3, hoe⟩
  have HX3 := Lib.hid ((HX1.out.below hb2).below hb3)
  have HB3 := Lib.hid (below_next (below_next HB1.out hb2) hb3)
  have HOl := Lib.hid ((hol.below hb3).base_ HS1.out)
  have HOt := Lib.hid ((hot.below hb3).base_ HS1.out)
  have HOe := Lib.hid (hoe.base_ (Nat.le_trans HS1.out hb2.size))
  have HS3 := Lib.hid (show w.heap.size + 1 ≤ v3.heap.size from Nat.le_trans HS1.out (Nat.le_trans hb2.size hb3.size))
  clear hb2 hb3 hol hot hoe HX1 HB1 HS1
  have x0 := HX3.out.at_ 0 rfl
  have x1 := HX3.out.at_ 1 rfl
  have x2 := HX3.out.at_ 2 rfl
  have x3 := HX3.out.at_ 3 rfl
  have f0 := HX3.out.2.2 0
  have f1 := HX3.out.2.2 1
  have f2 := HX3.out.2.2 2
  have f3 := HX3.out.2.2 3
  have HG := Lib.hid ((grown_cell v3 w.heap.size 0 (.int .i64 nx)).trans ((grown_cell _ w.heap.size 1 (.int .i64 sq)).trans ((grown_cell _ w.heap.size 2 (.slice A1 (min n 34) c1)).trans (grown_cell _ w.heap.size 3 (.slice B1 (min m 130) d1)))))
  have HP := Lib.hid (show Prt w nx sq A1 (min n 34) c1 B1 (min m 130) d1 Q1 (min q 260) qc1 (Ed.lflat ((L.take (min n 34)).map fun x => (Ed.cutL x).1)) (Pk.flat ((M.take (min m 130)).map fun x => (Ed.cutT x).1)) (Ed.eflat ((E.take (min q 260)).map fun x => (Ed.cutE x).1)) ((((v3.setCell ⟨w.heap.size, 0, none⟩ (.int .i64 nx)).setCell ⟨w.heap.size, 1, none⟩ (.int .i64 sq)).setCell ⟨w.heap.size, 2, none⟩ (.slice A1 (min n 34) c1)).setCell ⟨w.heap.size, 3, none⟩ (.slice B1 (min m 130) d1)) from ⟨(((HX3.out.set 0 (.int .i64 nx) (by simp)).set 1 (.int .i64 sq) (by simp)).set 2 (.slice A1 (min n 34) c1) (by simp)).set 3 (.slice B1 (min m 130) d1) (by simp),
    HOl.out.grown HG.out (.inr fun g hg e => by injection hg with hg; have := (HOl.out.blk g e).1; omega), HOt.out.grown HG.out (.inr fun g hg e => by injection hg with hg; have := (HOt.out.blk g e).1; omega), HOe.out.grown HG.out (.inr fun g hg e => by injection hg with hg; have := (HOe.out.blk g e).1; omega), HB3.out.grown HG.out HB3.out.size (fun g e => by injection e with e; omega)⟩)
  have HS4 := Lib.hid (show w.heap.size + 1 ≤ ((((v3.setCell ⟨w.heap.size, 0, none⟩ (.int .i64 nx)).setCell ⟨w.heap.size, 1, none⟩ (.int .i64 sq)).setCell ⟨w.heap.size, 2, none⟩ (.slice A1 (min n 34) c1)).setCell ⟨w.heap.size, 3, none⟩ (.slice B1 (min m 130) d1)).heap.size from Nat.le_trans HS3.out HG.out.size)
  go_upto_region 4 with fail
  clear x0 x1 x2 x3 f0 f1 f2 f3 HG HX3 HB3 HOl HOt HOe HS3
  generalize (((v3.setCell ⟨w.heap.size, 0, none⟩ (.int .i64 nx)).setCell ⟨w.heap.size, 1, none⟩ (.int .i64 sq)).setCell ⟨w.heap.size, 2, none⟩ (.slice A1 (min n 34) c1)).setCell ⟨w.heap.size, 3, none⟩ (.slice B1 (min m 130) d1) = v4 at *
  have HR := Lib.hid (fun (W : World) (h : Prt w nx sq A1 (min n 34) c1 B1 (min m 130) d1 Q1 (min q 260) qc1 (Ed.lflat ((L.take (min n 34)).map fun x => (Ed.cutL x).1)) (Pk.flat ((M.take (min m 130)).map fun x => (Ed.cutT x).1)) (Ed.eflat ((E.take (min q 260)).map fun x => (Ed.cutE x).1)) W) => And.intro (h.rls HL0.out) (And.intro (h.rts HM0.out) (h.res HE0.out)))
  have hq1 : min q 260 ≤ 260 := Nat.min_le_right _ _
  have hn1 : min n 34 ≤ 34 := Nat.min_le_right _ _
  have hm1 : min m 130 ≤ 130 := Nat.min_le_right _ _
  clear HL0 HM0 HE0
  generalize (Ed.lflat ((L.take (min n 34)).map fun x => (Ed.cutL x).1)) = l1 at *
  generalize (Pk.flat ((M.take (min m 130)).map fun x => (Ed.cutT x).1)) = l2 at *
  generalize (Ed.eflat ((E.take (min q 260)).map fun x => (Ed.cutE x).1)) = l3 at *
  generalize min q 260 = q1 at *
  generalize min n 34 = n1 at *
  generalize min m 130 = m1 at *
  generalize (L.take 34).map Ed.cutL = L1 at *
  generalize (M.take 130).map Ed.cutT = M1 at *
  generalize (E.take 260).map Ed.cutE = E1 at *
  clear hn hm hq
  have hkk : wrap64 ((cut : Int) % ((q1 : Int) + 1)) = ((cut % (q1 + 1) : Nat) : Int) := by
    rw [show ((cut : Int) % ((q1 : Int) + 1)) = ((cut % (q1 + 1) : Nat) : Int) by push_cast; rfl]
    have h2 := Nat.mod_lt cut (show 0 < q1 + 1 by omega)
    unfold wrap64
    omega
  have hk : cut % (q1 + 1) ≤ q1 := by have := Nat.mod_lt cut (show 0 < q1 + 1 by omega); omega
  go_upto_region 5 with fail
  rw [hkk]
  clear hkk
  generalize cut % (q1 + 1) = k at *
  clear hc
  have HPt := Lib.hid (Ed.apply_parts ⟨nx, sq, L1.map Ed.loOf, M1.map Ed.taOf⟩ (E1.map Ed.etOf) k (by rw [List.length_map]; have := (HR.out v4 HP.out).2.2.1; omega))
  rw [← List.map_take, ← List.map_drop] at HPt
  have HC5 := Lib.hid (fun (W : World) (hW : Below v4.heap.size v4 W) => apply_any nx sq A1 n1 c1 B1 m1 d1 L1 M1 Q1 k qc1 (E1.take k) W (HR.out W (HP.out.below hW)).1 (HR.out W (HP.out.below hW)).2.1 ((HR.out W (HP.out.below hW)).2.2.take hk) (by omega))
  have HC9 := Lib.hid (fun (W : World) (hW : Below v4.heap.size v4 W) => apply_any nx sq A1 n1 c1 B1 m1 d1 L1 M1 Q1 q1 qc1 E1 W (HR.out W (HP.out.below hW)).1 (HR.out W (HP.out.below hW)).2.1 (HR.out W (HP.out.below hW)).2.2 (by omega))
  have HE8 := Lib.hid (fun (W : World) (hW : Below v4.heap.size v4 W) => (HR.out W (HP.out.below hW)).2.2.from_ hk hqc)
  have HX4 := Lib.hid (fun (W : World) (hW : Below v4.heap.size v4 W) => (HP.out.below hW).box)
  have hBz := HP.out.bel
  have HBl := Lib.hid hBz
  clear HR HP hBz
  generalize Ed.apply ⟨nx, sq, L1.map Ed.loOf, M1.map Ed.taOf⟩ ((E1.take k).map Ed.etOf) = r1 at *
  generalize Ed.apply ⟨nx, sq, L1.map Ed.loOf, M1.map Ed.taOf⟩ (E1.map Ed.etOf) = r3 at *
  go_cut [8, 9, 10] from 30 to 38 (fun s8 s9 s10 W => ∃ ab, s8 = .pointer (some ⟨ab, 0, none⟩) ∧ s9 = .int .i64 (r1.2.1 : Int) ∧ s10 = .int .i64 (r1.2.2 : Int) ∧ Hid (AtV v4.heap.size ab r1.1 W) ∧ Hid (Below v4.heap.size v4 W))
  case first =>
    have hrun := fun (W : World) => run_toE Q1 q1 qc1 k hk hqc W
    have hbd : Below v4.heap.size v4 v4.drew := (Below.refl _ _).drew
    refine wp_region_T (fun W => W.cell? ⟨w.heap.size, 0, none⟩ = some (.int .i64 nx) ∧ W.cell? ⟨w.heap.size, 1, none⟩ = some (.int .i64 sq) ∧ W.cell? ⟨w.heap.size, 2, none⟩ = some (.slice A1 n1 c1) ∧ W.cell? ⟨w.heap.size, 3, none⟩ = some (.slice B1 m1 d1)) (fun W => True) 99 (by kernel_rfl) ?_
    have hS0 := Lib.hid (show v4.drew.cell? ⟨w.heap.size, 0, none⟩ = some (.int .i64 nx) ∧ v4.drew.cell? ⟨w.heap.size, 1, none⟩ = some (.int .i64 sq) ∧ v4.drew.cell? ⟨w.heap.size, 2, none⟩ = some (.slice A1 n1 c1) ∧ v4.drew.cell? ⟨w.heap.size, 3, none⟩ = some (.slice B1 m1 d1) from ⟨(HX4.out _ hbd).at_ 0 rfl, (HX4.out _ hbd).at_ 1 rfl, (HX4.out _ hbd).at_ 2 rfl, (HX4.out _ hbd).at_ 3 rfl⟩)
    refine wpAnyT_take (i := 0) (v := ?_) rfl (by kernel_rfl) (by kernel_rfl) (by kernel_rfl) rfl (fun _ _ _ h => h) (Or.inl ⟨by rfl, ?_⟩) hS0.out (fun _ => trivial) ?_
    rotate_left
    · intro W hSW; (try dsimp only at hSW); go_simp; (try with_reducible rfl)
    try simp only [Act.put, List.setIfInBounds_toArray, List.set_cons_zero, List.set_cons_succ, List.getElem_toArray, List.getElem_cons_zero, List.getElem_cons_succ]
    refine wpAnyT_take (i := 1) (v := ?_) rfl (by kernel_rfl) (by kernel_rfl) (by kernel_rfl) rfl (fun _ _ _ h => h) (Or.inl ⟨by rfl, ?_⟩) hS0.out (fun _ => trivial) ?_
    rotate_left
    · intro W hSW; (try dsimp only at hSW); go_simp; (try with_reducible rfl)
    try simp only [Act.put, List.setIfInBounds_toArray, List.set_cons_zero, List.set_cons_succ, List.getElem_toArray, List.getElem_cons_zero, List.getElem_cons_succ]
    refine wpAnyT_take (i := 2) (v := ?_) rfl (by kernel_rfl) (by kernel_rfl) (by kernel_rfl) rfl (fun _ _ _ h => h) (Or.inl ⟨by rfl, ?_⟩) hS0.out (fun _ => trivial) ?_
    rotate_left
    · intro W hSW; (try dsimp only at hSW); go_simp; (try with_reducible rfl)
    try simp only [Act.put, List.setIfInBounds_toArray, List.set_cons_zero, List.set_cons_succ, List.getElem_toArray, List.getElem_cons_zero, List.getElem_cons_succ]
    refine wpAnyT_take (i := 3) (v := ?_) rfl (by kernel_rfl) (by kernel_rfl) (by kernel_rfl) rfl (fun _ _ _ h => h) (Or.inl ⟨by rfl, ?_⟩) hS0.out (fun _ => trivial) ?_
    rotate_left
    · intro W hSW; (try dsimp only at hSW); go_simp; (try with_reducible rfl)
    try simp only [Act.put, List.setIfInBounds_toArray, List.set_cons_zero, List.set_cons_succ, List.getElem_toArray, List.getElem_cons_zero, List.getElem_cons_succ]
    refine wpAnyT_two (i := 4) (j := 9) (by kernel_rfl) rfl rfl (fun K hK => ?_) (fun K hK => ?_)
    · try simp only [Act.put, List.setIfInBounds_toArray, List.set_cons_zero, List.set_cons_succ, List.getElem_toArray, List.getElem_cons_zero, List.getElem_cons_succ]
      rw [if_pos (by rfl)]
      go_simp
      refine (HC5.out _ hbd).mono ?_
      rintro e v5 ⟨A5, n5, c5, L5, B5, m5, d5, M5, rfl, hO5, hl5, ht5, hb5⟩
      have hb05 := below_next hbd hb5
      have hS5 := Lib.hid (show v5.cell? ⟨w.heap.size, 0, none⟩ = some (.int .i64 nx) ∧ v5.cell? ⟨w.heap.size, 1, none⟩ = some (.int .i64 sq) ∧ v5.cell? ⟨w.heap.size, 2, none⟩ = some (.slice A1 n1 c1) ∧ v5.cell? ⟨w.heap.size, 3, none⟩ = some (.slice B1 m1 d1) from ⟨(HX4.out _ hb05).at_ 0 rfl, (HX4.out _ hb05).at_ 1 rfl, (HX4.out _ hb05).at_ 2 rfl, (HX4.out _ hb05).at_ 3 rfl⟩)
      refine hK.out _ _ hS5.out (fun _ => trivial) ?_
      clear hK
      try simp only [Act.put, List.setIfInBounds_toArray, List.set_cons_zero, List.set_cons_succ, List.getElem_toArray, List.getElem_cons_zero, List.getElem_cons_succ]
      refine wpAnyT_take (i := 5) (v := ?_) rfl (by kernel_rfl) (by kernel_rfl) (by kernel_rfl) rfl (fun _ _ _ h => h) (Or.inl ⟨by rfl, ?_⟩) hS5.out (fun _ => trivial) ?_
      rotate_left
      · intro W hSW; (try dsimp only at hSW); go_simp; (try with_reducible rfl)
      try simp only [Act.put, List.setIfInBounds_toArray, List.set_cons_zero, List.set_cons_succ, List.getElem_toArray, List.getElem_cons_zero, List.getElem_cons_succ]
      refine wpAnyT_take (i := 6) (v := ?_) rfl (by kernel_rfl) (by kernel_rfl) (by kernel_rfl) rfl (fun _ _ _ h => h) (Or.inl ⟨by rfl, ?_⟩) hS5.out (fun _ => trivial) ?_
      rotate_left
      · intro W hSW; (try dsimp only at hSW); go_simp; (try with_reducible rfl)
      try simp only [Act.put, List.setIfInBounds_toArray, List.set_cons_zero, List.set_cons_succ, List.getElem_toArray, List.getElem_cons_zero, List.getElem_cons_succ]
      refine wpAnyT_take (i := 7) (v := ?_) rfl (by kernel_rfl) (by kernel_rfl) (by kernel_rfl) rfl (fun _ _ _ h => h) (Or.inl ⟨by rfl, ?_⟩) hS5.out (fun _ => trivial) ?_
      rotate_left
      · intro W hSW; (try dsimp only at hSW); go_simp; (try with_reducible rfl)
      try simp only [Act.put, List.setIfInBounds_toArray, List.set_cons_zero, List.set_cons_succ, List.getElem_toArray, List.getElem_cons_zero, List.getElem_cons_succ]
      refine wpAnyT_take (i := 8) (v := ?_) rfl (by kernel_rfl) (by kernel_rfl) (by kernel_rfl) rfl (fun _ _ _ h => h) (Or.inl ⟨by rfl, ?_⟩) hS5.out (fun _ => trivial) ?_
      rotate_left
      · intro W hSW; (try dsimp only at hSW); go_simp; (try with_reducible rfl)
      try simp only [Act.put, List.setIfInBounds_toArray, List.set_cons_zero, List.set_cons_succ, List.getElem_toArray, List.getElem_cons_zero, List.getElem_cons_succ]
      refine wpAnyT_one (i := 9) (by kernel_rfl) rfl (fun K hK => ?_)
      try simp only [Act.put, List.setIfInBounds_toArray, List.set_cons_zero, List.set_cons_succ, List.getElem_toArray, List.getElem_cons_zero, List.getElem_cons_succ]
      rw [if_pos (by rfl)]
      go_simp
      have hal : Below v5.heap.size v5 (v5.alloc (.cells #[.int .i64 0, .int .i64 0, .slice none 0 0, .slice none 0 0] 25)) := (Below.refl _ _).alloc (Nat.le_refl _) _
      have hS6 := Lib.hid (show (v5.alloc (.cells #[.int .i64 0, .int .i64 0, .slice none 0 0, .slice none 0 0] 25)).cell? ⟨w.heap.size, 0, none⟩ = some (.int .i64 nx) ∧ (v5.alloc (.cells #[.int .i64 0, .int .i64 0, .slice none 0 0, .slice none 0 0] 25)).cell? ⟨w.heap.size, 1, none⟩ = some (.int .i64 sq) ∧ (v5.alloc (.cells #[.int .i64 0, .int .i64 0, .slice none 0 0, .slice none 0 0] 25)).cell? ⟨w.heap.size, 2, none⟩ = some (.slice A1 n1 c1) ∧ (v5.alloc (.cells #[.int .i64 0, .int .i64 0, .slice none 0 0, .slice none 0 0] 25)).cell? ⟨w.heap.size, 3, none⟩ = some (.slice B1 m1 d1) from ⟨((HX4.out _ (below_next hb05 hal))).at_ 0 rfl, ((HX4.out _ (below_next hb05 hal))).at_ 1 rfl, ((HX4.out _ (below_next hb05 hal))).at_ 2 rfl, ((HX4.out _ (below_next hb05 hal))).at_ 3 rfl⟩)
      refine hK.out _ _ hS6.out (fun _ => trivial) ?_
      clear hK
      try simp only [Act.put, List.setIfInBounds_toArray, List.set_cons_zero, List.set_cons_succ, List.getElem_toArray, List.getElem_cons_zero, List.getElem_cons_succ]
      refine wpAnyT_one (i := 10) (by kernel_rfl) rfl (fun K hK => ?_)
      try simp only [Act.put, List.setIfInBounds_toArray, List.set_cons_zero, List.set_cons_succ, List.getElem_toArray, List.getElem_cons_zero, List.getElem_cons_succ]
      rw [if_pos (by rfl)]
      have hN := Lib.hid (Holds.new v5 #[.int .i64 0, .int .i64 0, .slice none 0 0, .slice none 0 0] 25)
      have z0 := hN.out.at_ 0 rfl
      have z1 := hN.out.at_ 1 rfl
      have z2 := hN.out.at_ 2 rfl
      have z3 := hN.out.at_ 3 rfl
      have g0 := hN.out.2.2 0
      have g1 := hN.out.2.2 1
      have g2 := hN.out.2.2 2
      have g3 := hN.out.2.2 3
      go_simp
      have hW : Below v5.heap.size v5 (v5.alloc (.cells #[.int .i64 r1.1.nx, .int .i64 r1.1.sq, .slice A5 n5 c5, .slice B5 m5 d5] 25)) := (Below.refl _ _).alloc (Nat.le_refl _) _
      have hH : Holds (v5.alloc (.cells #[.int .i64 r1.1.nx, .int .i64 r1.1.sq, .slice A5 n5 c5, .slice B5 m5 d5] 25)) v5.heap.size [.int .i64 r1.1.nx, .int .i64 r1.1.sq, .slice A5 n5 c5, .slice B5 m5 d5] := Holds.new v5 #[.int .i64 r1.1.nx, .int .i64 r1.1.sq, .slice A5 n5 c5, .slice B5 m5 d5] 25
      have hS7 := Lib.hid (show (v5.alloc (.cells #[.int .i64 r1.1.nx, .int .i64 r1.1.sq, .slice A5 n5 c5, .slice B5 m5 d5] 25)).cell? ⟨w.heap.size, 0, none⟩ = some (.int .i64 nx) ∧ (v5.alloc (.cells #[.int .i64 r1.1.nx, .int .i64 r1.1.sq, .slice A5 n5 c5, .slice B5 m5 d5] 25)).cell? ⟨w.heap.size, 1, none⟩ = some (.int .i64 sq) ∧ (v5.alloc (.cells #[.int .i64 r1.1.nx, .int .i64 r1.1.sq, .slice A5 n5 c5, .slice B5 m5 d5] 25)).cell? ⟨w.heap.size, 2, none⟩ = some (.slice A1 n1 c1) ∧ (v5.alloc (.cells #[.int .i64 r1.1.nx, .int .i64 r1.1.sq, .slice A5 n5 c5, .slice B5 m5 d5] 25)).cell? ⟨w.heap.size, 3, none⟩ = some (.slice B1 m1 d1) from ⟨((HX4.out _ (below_next hb05 hW))).at_ 0 rfl, ((HX4.out _ (below_next hb05 hW))).at_ 1 rfl, ((HX4.out _ (below_next hb05 hW))).at_ 2 rfl, ((HX4.out _ (below_next hb05 hW))).at_ 3 rfl⟩)
      refine hK.out _ _ hS7.out (fun _ => trivial) ?_
      clear hK z0 z1 z2 z3 g0 g1 g2 g3 hN
      have HF := Lib.hid (show AtV v4.heap.size v5.heap.size r1.1 (v5.alloc (.cells #[.int .i64 r1.1.nx, .int .i64 r1.1.sq, .slice A5 n5 c5, .slice B5 m5 d5] 25)) ∧ Below v4.heap.size v4 (v5.alloc (.cells #[.int .i64 r1.1.nx, .int .i64 r1.1.sq, .slice A5 n5 c5, .slice B5 m5 d5] 25)) from ⟨⟨A5, n5, c5, L5, B5, m5, d5, M5, hH, (hO5.below hW).base_ hbd.size, hl5, ht5, hb05.size⟩, below_next hb05 hW⟩)
      clear hH hW hal hS6 hS5
      try simp only [Act.put, List.setIfInBounds_toArray, List.set_cons_zero, List.set_cons_succ, List.getElem_toArray, List.getElem_cons_zero, List.getElem_cons_succ]
      generalize (v5.alloc (.cells #[.int .i64 r1.1.nx, .int .i64 r1.1.sq, .slice A5 n5 c5, .slice B5 m5 d5] 25)) = v9 at *
      refine wpAnyT_take (i := 11) (v := ?_) rfl (by kernel_rfl) (by kernel_rfl) (by kernel_rfl) rfl (fun _ _ _ h => h) (Or.inl ⟨by rfl, ?_⟩) hS7.out (fun _ => trivial) ?_
      rotate_left
      · intro W hSW; (try dsimp only at hSW); go_simp; (try with_reducible rfl)
      try simp only [Act.put, List.setIfInBounds_toArray, List.set_cons_zero, List.set_cons_succ, List.getElem_toArray, List.getElem_cons_zero, List.getElem_cons_succ]
      refine wpAnyT_take (i := 12) (v := ?_) rfl (by kernel_rfl) (by kernel_rfl) (by kernel_rfl) rfl (fun _ _ _ h => h) (Or.inl ⟨by rfl, ?_⟩) hS7.out (fun _ => trivial) ?_
      rotate_left
      · intro W hSW; (try dsimp only at hSW); go_simp; (try with_reducible rfl)
      try simp only [Act.put, List.setIfInBounds_toArray, List.set_cons_zero, List.set_cons_succ, List.getElem_toArray, List.getElem_cons_zero, List.getElem_cons_succ]
      refine wpAnyT_done (by kernel_rfl) ?_ _
      go_wp2
      go_meet
      case rel => exact ⟨v5.heap.size, rfl, rfl, rfl, Lib.hid HF.out.1, Lib.hid HF.out.2⟩
    · try simp only [Act.put, List.setIfInBounds_toArray, List.set_cons_zero, List.set_cons_succ, List.getElem_toArray, List.getElem_cons_zero, List.getElem_cons_succ]
      rw [if_pos (by rfl)]
      go_simp
      have hal : Below v4.heap.size v4 (v4.drew.alloc (.cells #[.int .i64 0, .int .i64 0, .slice none 0 0, .slice none 0 0] 25)) := hbd.alloc hbd.size _
      have hS6 := Lib.hid (show (v4.drew.alloc (.cells #[.int .i64 0, .int .i64 0, .slice none 0 0, .slice none 0 0] 25)).cell? ⟨w.heap.size, 0, none⟩ = some (.int .i64 nx) ∧ (v4.drew.alloc (.cells #[.int .i64 0, .int .i64 0, .slice none 0 0, .slice none 0 0] 25)).cell? ⟨w.heap.size, 1, none⟩ = some (.int .i64 sq) ∧ (v4.drew.alloc (.cells #[.int .i64 0, .int .i64 0, .slice none 0 0, .slice none 0 0] 25)).cell? ⟨w.heap.size, 2, none⟩ = some (.slice A1 n1 c1) ∧ (v4.drew.alloc (.cells #[.int .i64 0, .int .i64 0, .slice none 0 0, .slice none 0 0] 25)).cell? ⟨w.heap.size, 3, none⟩ = some (.slice B1 m1 d1) from ⟨((HX4.out _ hal)).at_ 0 rfl, ((HX4.out _ hal)).at_ 1 rfl, ((HX4.out _ hal)).at_ 2 rfl, ((HX4.out _ hal)).at_ 3 rfl⟩)
      refine hK.out _ _ hS6.out (fun _ => trivial) ?_
      clear hK
      try simp only [Act.put, List.setIfInBounds_toArray, List.set_cons_zero, List.set_cons_succ, List.getElem_toArray, List.getElem_cons_zero, List.getElem_cons_succ]
      refine wpAnyT_one (i := 4) (by kernel_rfl) rfl (fun K hK => ?_)
      try simp only [Act.put, List.setIfInBounds_toArray, List.set_cons_zero, List.set_cons_succ, List.getElem_toArray, List.getElem_cons_zero, List.getElem_cons_succ]
      rw [if_pos (by rfl)]
      go_simp
      refine (HC5.out _ hal).mono ?_
      rintro e v5 ⟨A5, n5, c5, L5, B5, m5, d5, M5, rfl, hO5, hl5, ht5, hb5⟩
      have hb05 := below_next hal hb5
      have hN := Lib.hid (show Holds v5 v4.heap.size [.int .i64 0, .int .i64 0, .slice none 0 0, .slice none 0 0] from (Holds.new v4.drew #[.int .i64 0, .int .i64 0, .slice none 0 0, .slice none 0 0] 25).below hb5)
      have hS5 := Lib.hid (show v5.cell? ⟨w.heap.size, 0, none⟩ = some (.int .i64 nx) ∧ v5.cell? ⟨w.heap.size, 1, none⟩ = some (.int .i64 sq) ∧ v5.cell? ⟨w.heap.size, 2, none⟩ = some (.slice A1 n1 c1) ∧ v5.cell? ⟨w.heap.size, 3, none⟩ = some (.slice B1 m1 d1) from ⟨(HX4.out _ hb05).at_ 0 rfl, (HX4.out _ hb05).at_ 1 rfl, (HX4.out _ hb05).at_ 2 rfl, (HX4.out _ hb05).at_ 3 rfl⟩)
      refine hK.out _ _ hS5.out (fun _ => trivial) ?_
      clear hK
      try simp only [Act.put, List.setIfInBounds_toArray, List.set_cons_zero, List.set_cons_succ, List.getElem_toArray, List.getElem_cons_zero, List.getElem_cons_succ]
      refine wpAnyT_take (i := 5) (v := ?_) rfl (by kernel_rfl) (by kernel_rfl) (by kernel_rfl) rfl (fun _ _ _ h => h) (Or.inl ⟨by rfl, ?_⟩) hS5.out (fun _ => trivial) ?_
      rotate_left
      · intro W hSW; (try dsimp only at hSW); go_simp; (try with_reducible rfl)
      try simp only [Act.put, List.setIfInBounds_toArray, List.set_cons_zero, List.set_cons_succ, List.getElem_toArray, List.getElem_cons_zero, List.getElem_cons_succ]
      refine wpAnyT_take (i := 6) (v := ?_) rfl (by kernel_rfl) (by kernel_rfl) (by kernel_rfl) rfl (fun _ _ _ h => h) (Or.inl ⟨by rfl, ?_⟩) hS5.out (fun _ => trivial) ?_
      rotate_left
      · intro W hSW; (try dsimp only at hSW); go_simp; (try with_reducible rfl)
      try simp only [Act.put, List.setIfInBounds_toArray, List.set_cons_zero, List.set_cons_succ, List.getElem_toArray, List.getElem_cons_zero, List.getElem_cons_succ]
      refine wpAnyT_take (i := 7) (v := ?_) rfl (by kernel_rfl) (by kernel_rfl) (by kernel_rfl) rfl (fun _ _ _ h => h) (Or.inl ⟨by rfl, ?_⟩) hS5.out (fun _ => trivial) ?_
      rotate_left
      · intro W hSW; (try dsimp only at hSW); go_simp; (try with_reducible rfl)
      try simp only [Act.put, List.setIfInBounds_toArray, List.set_cons_zero, List.set_cons_succ, List.getElem_toArray, List.getElem_cons_zero, List.getElem_cons_succ]
      refine wpAnyT_take (i := 8) (v := ?_) rfl (by kernel_rfl) (by kernel_rfl) (by kernel_rfl) rfl (fun _ _ _ h => h) (Or.inl ⟨by rfl, ?_⟩) hS5.out (fun _ => trivial) ?_
      rotate_left
      · intro W hSW; (try dsimp only at hSW); go_simp; (try with_reducible rfl)
      try simp only [Act.put, List.setIfInBounds_toArray, List.set_cons_zero, List.set_cons_succ, List.getElem_toArray, List.getElem_cons_zero, List.getElem_cons_succ]
      refine wpAnyT_one (i := 10) (by kernel_rfl) rfl (fun K hK => ?_)
      try simp only [Act.put, List.setIfInBounds_toArray, List.set_cons_zero, List.set_cons_succ, List.getElem_toArray, List.getElem_cons_zero, List.getElem_cons_succ]
      rw [if_pos (by rfl)]
      have z0 := hN.out.at_ 0 rfl
      have z1 := hN.out.at_ 1 rfl
      have z2 := hN.out.at_ 2 rfl
      have z3 := hN.out.at_ 3 rfl
      have g0 := hN.out.2.2 0
      have g1 := hN.out.2.2 1
      have g2 := hN.out.2.2 2
      have g3 := hN.out.2.2 3
      go_simp
      have hG := ((grown_cell v5 v4.heap.size 0 (.int .i64 r1.1.nx)).trans ((grown_cell _ v4.heap.size 1 (.int .i64 r1.1.sq)).trans ((grown_cell _ v4.heap.size 2 (.slice A5 n5 c5)).trans (grown_cell _ v4.heap.size 3 (.slice B5 m5 d5)))))
      have hW : Below v4.heap.size v4 ((((v5.setCell ⟨v4.heap.size, 0, none⟩ (.int .i64 r1.1.nx)).setCell ⟨v4.heap.size, 1, none⟩ (.int .i64 r1.1.sq)).setCell ⟨v4.heap.size, 2, none⟩ (.slice A5 n5 c5)).setCell ⟨v4.heap.size, 3, none⟩ (.slice B5 m5 d5)) := hb05.grown hG hb05.size (fun g e => by injection e with e; omega)
      have hH : Holds ((((v5.setCell ⟨v4.heap.size, 0, none⟩ (.int .i64 r1.1.nx)).setCell ⟨v4.heap.size, 1, none⟩ (.int .i64 r1.1.sq)).setCell ⟨v4.heap.size, 2, none⟩ (.slice A5 n5 c5)).setCell ⟨v4.heap.size, 3, none⟩ (.slice B5 m5 d5)) v4.heap.size [.int .i64 r1.1.nx, .int .i64 r1.1.sq, .slice A5 n5 c5, .slice B5 m5 d5] := ((((hN.out).set 0 (.int .i64 r1.1.nx) (by simp)).set 1 (.int .i64 r1.1.sq) (by simp)).set 2 (.slice A5 n5 c5) (by simp)).set 3 (.slice B5 m5 d5) (by simp)
      have hS7 := Lib.hid (show ((((v5.setCell ⟨v4.heap.size, 0, none⟩ (.int .i64 r1.1.nx)).setCell ⟨v4.heap.size, 1, none⟩ (.int .i64 r1.1.sq)).setCell ⟨v4.heap.size, 2, none⟩ (.slice A5 n5 c5)).setCell ⟨v4.heap.size, 3, none⟩ (.slice B5 m5 d5)).cell? ⟨w.heap.size, 0, none⟩ = some (.int .i64 nx) ∧ ((((v5.setCell ⟨v4.heap.size, 0, none⟩ (.int .i64 r1.1.nx)).setCell ⟨v4.heap.size, 1, none⟩ (.int .i64 r1.1.sq)).setCell ⟨v4.heap.size, 2, none⟩ (.slice A5 n5 c5)).setCell ⟨v4.heap.size, 3, none⟩ (.slice B5 m5 d5)).cell? ⟨w.heap.size, 1, none⟩ = some (.int .i64 sq) ∧ ((((v5.setCell ⟨v4.heap.size, 0, none⟩ (.int .i64 r1.1.nx)).setCell ⟨v4.heap.size, 1, none⟩ (.int .i64 r1.1.sq)).setCell ⟨v4.heap.size, 2, none⟩ (.slice A5 n5 c5)).setCell ⟨v4.heap.size, 3, none⟩ (.slice B5 m5 d5)).cell? ⟨w.heap.size, 2, none⟩ = some (.slice A1 n1 c1) ∧ ((((v5.setCell ⟨v4.heap.size, 0, none⟩ (.int .i64 r1.1.nx)).setCell ⟨v4.heap.size, 1, none⟩ (.int .i64 r1.1.sq)).setCell ⟨v4.heap.size, 2, none⟩ (.slice A5 n5 c5)).setCell ⟨v4.heap.size, 3, none⟩ (.slice B5 m5 d5)).cell? ⟨w.heap.size, 3, none⟩ = some (.slice B1 m1 d1) from ⟨((HX4.out _ hW)).at_ 0 rfl, ((HX4.out _ hW)).at_ 1 rfl, ((HX4.out _ hW)).at_ 2 rfl, ((HX4.out _ hW)).at_ 3 rfl⟩)
      refine hK.out _ _ hS7.out (fun _ => trivial) ?_
      clear hK z0 z1 z2 z3 g0 g1 g2 g3 hN
      have hO9 := hO5.grown hG (fun g e => by injection e with e; simp; omega)
      have HF := Lib.hid (show AtV v4.heap.size v4.heap.size r1.1 ((((v5.setCell ⟨v4.heap.size, 0, none⟩ (.int .i64 r1.1.nx)).setCell ⟨v4.heap.size, 1, none⟩ (.int .i64 r1.1.sq)).setCell ⟨v4.heap.size, 2, none⟩ (.slice A5 n5 c5)).setCell ⟨v4.heap.size, 3, none⟩ (.slice B5 m5 d5)) ∧ Below v4.heap.size v4 ((((v5.setCell ⟨v4.heap.size, 0, none⟩ (.int .i64 r1.1.nx)).setCell ⟨v4.heap.size, 1, none⟩ (.int .i64 r1.1.sq)).setCell ⟨v4.heap.size, 2, none⟩ (.slice A5 n5 c5)).setCell ⟨v4.heap.size, 3, none⟩ (.slice B5 m5 d5)) from ⟨⟨A5, n5, c5, L5, B5, m5, d5, M5, hH, hO9.base_ hal.size, hl5, ht5, Nat.le_refl _⟩, hW⟩)
      clear hH hW hG hO9 hal hS6 hS5
      try simp only [Act.put, List.setIfInBounds_toArray, List.set_cons_zero, List.set_cons_succ, List.getElem_toArray, List.getElem_cons_zero, List.getElem_cons_succ]
      generalize ((((v5.setCell ⟨v4.heap.size, 0, none⟩ (.int .i64 r1.1.nx)).setCell ⟨v4.heap.size, 1, none⟩ (.int .i64 r1.1.sq)).setCell ⟨v4.heap.size, 2, none⟩ (.slice A5 n5 c5)).setCell ⟨v4.heap.size, 3, none⟩ (.slice B5 m5 d5)) = v9 at *
      refine wpAnyT_take (i := 11) (v := ?_) rfl (by kernel_rfl) (by kernel_rfl) (by kernel_rfl) rfl (fun _ _ _ h => h) (Or.inl ⟨by rfl, ?_⟩) hS7.out (fun _ => trivial) ?_
      rotate_left
      · intro W hSW; (try dsimp only at hSW); go_simp; (try with_reducible rfl)
      try simp only [Act.put, List.setIfInBounds_toArray, List.set_cons_zero, List.set_cons_succ, List.getElem_toArray, List.getElem_cons_zero, List.getElem_cons_succ]
      refine wpAnyT_take (i := 12) (v := ?_) rfl (by kernel_rfl) (by kernel_rfl) (by kernel_rfl) rfl (fun _ _ _ h => h) (Or.inl ⟨by rfl, ?_⟩) hS7.out (fun _ => trivial) ?_
      rotate_left
      · intro W hSW; (try dsimp only at hSW); go_simp; (try with_reducible rfl)
      try simp only [Act.put, List.setIfInBounds_toArray, List.set_cons_zero, List.set_cons_succ, List.getElem_toArray, List.getElem_cons_zero, List.getElem_cons_succ]
      refine wpAnyT_done (by kernel_rfl) ?_ _
      go_wp2
      go_meet
      case rel => exact ⟨v4.heap.size, rfl, rfl, rfl, Lib.hid HF.out.1, Lib.hid HF.out.2⟩
  case rest =>
    obtain ⟨ab, rfl, rfl, rfl, HA5, HB5⟩ := hcut
    rename World => w5
    obtain ⟨A5, n5, c5, L5, B5, m5, d5, M5, hX5, hO5, hl5, ht5, hab⟩ := HA5.out
    have HX8 := Lib.hid (fun (W : World) (hW : Below w5.heap.size w5 W) => hX5.below hW)
    have HC8 := Lib.hid (fun (W : World) (hW : Below w5.heap.size w5 W) => show Calls Try.prog 10 #[.agg #[.int .i64 r1.1.nx, .int .i64 r1.1.sq, .slice A5 n5 c5, .slice B5 m5 d5], .slice (behindE Q1 qc1 k) (q1 - k) (qc1 - k)] W (GivesAp W (Ed.apply r1.1 ((E1.drop k).map Ed.etOf))) from by
      have h := apply_any r1.1.nx r1.1.sq A5 n5 c5 B5 m5 d5 L5 M5 (behindE Q1 qc1 k) (q1 - k) (qc1 - k) (E1.drop k) W (hO5.below hW).ls.rd (hO5.below hW).ts.rd (HE8.out W (below_next HB5.out hW)) (by omega)
      rw [hl5, ht5] at h
      exact h)
    have HI2 := Lib.hid (Ed.apply_at r1.1 ((E1.drop k).map Ed.etOf))
    have HEl := Lib.hid (show ((E1.drop k).map Ed.etOf).length ≤ 260 by rw [List.length_map, (HE8.out w5 HB5.out).1]; omega)
    have HBd5 := Lib.hid (below_next HBl.out HB5.out)
    generalize Ed.apply r1.1 ((E1.drop k).map Ed.etOf) = r2 at *
    clear hX5 hO5 hl5 ht5 hab HA5 HE8
    by_cases he : r1.2.2 = 0
    case neg =>
      have g : ((r1.2.2 : Int) != 0) = true := by rw [bne_iff_ne]; omega
      clear he
      go_wp2
      go_ret
      exact ⟨rfl, HBd5.out⟩
    have g : ((r1.2.2 : Int) != 0) = false := by rw [he]; rfl
    have HQt := Lib.hid (HPt.out he)
    clear he HPt
    go_upto_region 8 with fail
    clear g
    go_cut [11, 12, 13] from 41 to 49 (fun s8 s9 s10 W => ∃ ab, s8 = .pointer (some ⟨ab, 0, none⟩) ∧ s9 = .int .i64 (r2.2.1 : Int) ∧ s10 = .int .i64 (r2.2.2 : Int) ∧ Hid (AtV w5.heap.size ab r2.1 W) ∧ Hid (Below w5.heap.size w5 W))
    case first =>
      have hrun := fun (W : World) => run_fromE Q1 q1 qc1 k hk hqc W
      have hbd : Below w5.heap.size w5 w5.drew := (Below.refl _ _).drew
      refine wp_region_T (fun W => W.cell? ⟨ab, 0, none⟩ = some (.int .i64 r1.1.nx) ∧ W.cell? ⟨ab, 1, none⟩ = some (.int .i64 r1.1.sq) ∧ W.cell? ⟨ab, 2, none⟩ = some (.slice A5 n5 c5) ∧ W.cell? ⟨ab, 3, none⟩ = some (.slice B5 m5 d5)) (fun W => True) 99 (by kernel_rfl) ?_
      have hS0 := Lib.hid (show w5.drew.cell? ⟨ab, 0, none⟩ = some (.int .i64 r1.1.nx) ∧ w5.drew.cell? ⟨ab, 1, none⟩ = some (.int .i64 r1.1.sq) ∧ w5.drew.cell? ⟨ab, 2, none⟩ = some (.slice A5 n5 c5) ∧ w5.drew.cell? ⟨ab, 3, none⟩ = some (.slice B5 m5 d5) from ⟨(HX8.out _ hbd).at_ 0 rfl, (HX8.out _ hbd).at_ 1 rfl, (HX8.out _ hbd).at_ 2 rfl, (HX8.out _ hbd).at_ 3 rfl⟩)
      refine wpAnyT_take (i := 0) (v := ?_) rfl (by kernel_rfl) (by kernel_rfl) (by kernel_rfl) rfl (fun _ _ _ h => h) (Or.inl ⟨by rfl, ?_⟩) hS0.out (fun _ => trivial) ?_
      rotate_left
      · intro W hSW; (try dsimp only at hSW); go_simp; (try with_reducible rfl)
      try simp only [Act.put, List.setIfInBounds_toArray, List.set_cons_zero, List.set_cons_succ, List.getElem_toArray, List.getElem_cons_zero, List.getElem_cons_succ]
      refine wpAnyT_take (i := 1) (v := ?_) rfl (by kernel_rfl) (by kernel_rfl) (by kernel_rfl) rfl (fun _ _ _ h => h) (Or.inl ⟨by rfl, ?_⟩) hS0.out (fun _ => trivial) ?_
      rotate_left
      · intro W hSW; (try dsimp only at hSW); go_simp; (try with_reducible rfl)
      try simp only [Act.put, List.setIfInBounds_toArray, List.set_cons_zero, List.set_cons_succ, List.getElem_toArray, List.getElem_cons_zero, List.getElem_cons_succ]
      refine wpAnyT_take (i := 2) (v := ?_) rfl (by kernel_rfl) (by kernel_rfl) (by kernel_rfl) rfl (fun _ _ _ h => h) (Or.inl ⟨by rfl, ?_⟩) hS0.out (fun _ => trivial) ?_
      rotate_left
      · intro W hSW; (try dsimp only at hSW); go_simp; (try with_reducible rfl)
      try simp only [Act.put, List.setIfInBounds_toArray, List.set_cons_zero, List.set_cons_succ, List.getElem_toArray, List.getElem_cons_zero, List.getElem_cons_succ]
      refine wpAnyT_take (i := 3) (v := ?_) rfl (by kernel_rfl) (by kernel_rfl) (by kernel_rfl) rfl (fun _ _ _ h => h) (Or.inl ⟨by rfl, ?_⟩) hS0.out (fun _ => trivial) ?_
      rotate_left
      · intro W hSW; (try dsimp only at hSW); go_simp; (try with_reducible rfl)
      try simp only [Act.put, List.setIfInBounds_toArray, List.set_cons_zero, List.set_cons_succ, List.getElem_toArray, List.getElem_cons_zero, List.getElem_cons_succ]
      refine wpAnyT_two (i := 4) (j := 9) (by kernel_rfl) rfl rfl (fun K hK => ?_) (fun K hK => ?_)
      · try simp only [Act.put, List.setIfInBounds_toArray, List.set_cons_zero, List.set_cons_succ, List.getElem_toArray, List.getElem_cons_zero, List.getElem_cons_succ]
        rw [if_pos (by rfl)]
        go_simp
        refine (HC8.out _ hbd).mono ?_
        rintro e v5 ⟨A6, n6, c6, L6, B6, m6, d6, M6, rfl, hO5, hl5, ht5, hb5⟩
        have hb05 := below_next hbd hb5
        have hS5 := Lib.hid (show v5.cell? ⟨ab, 0, none⟩ = some (.int .i64 r1.1.nx) ∧ v5.cell? ⟨ab, 1, none⟩ = some (.int .i64 r1.1.sq) ∧ v5.cell? ⟨ab, 2, none⟩ = some (.slice A5 n5 c5) ∧ v5.cell? ⟨ab, 3, none⟩ = some (.slice B5 m5 d5) from ⟨(HX8.out _ hb05).at_ 0 rfl, (HX8.out _ hb05).at_ 1 rfl, (HX8.out _ hb05).at_ 2 rfl, (HX8.out _ hb05).at_ 3 rfl⟩)
        refine hK.out _ _ hS5.out (fun _ => trivial) ?_
        clear hK
        try simp only [Act.put, List.setIfInBounds_toArray, List.set_cons_zero, List.set_cons_succ, List.getElem_toArray, List.getElem_cons_zero, List.getElem_cons_succ]
        refine wpAnyT_take (i := 5) (v := ?_) rfl (by kernel_rfl) (by kernel_rfl) (by kernel_rfl) rfl (fun _ _ _ h => h) (Or.inl ⟨by rfl, ?_⟩) hS5.out (fun _ => trivial) ?_
        rotate_left
        · intro W hSW; (try dsimp only at hSW); go_simp; (try with_reducible rfl)
        try simp only [Act.put, List.setIfInBounds_toArray, List.set_cons_zero, List.set_cons_succ, List.getElem_toArray, List.getElem_cons_zero, List.getElem_cons_succ]
        refine wpAnyT_take (i := 6) (v := ?_) rfl (by kernel_rfl) (by kernel_rfl) (by kernel_rfl) rfl (fun _ _ _ h => h) (Or.inl ⟨by rfl, ?_⟩) hS5.out (fun _ => trivial) ?_
        rotate_left
        · intro W hSW; (try dsimp only at hSW); go_simp; (try with_reducible rfl)
        try simp only [Act.put, List.setIfInBounds_toArray, List.set_cons_zero, List.set_cons_succ, List.getElem_toArray, List.getElem_cons_zero, List.getElem_cons_succ]
        refine wpAnyT_take (i := 7) (v := ?_) rfl (by kernel_rfl) (by kernel_rfl) (by kernel_rfl) rfl (fun _ _ _ h => h) (Or.inl ⟨by rfl, ?_⟩) hS5.out (fun _ => trivial) ?_
        rotate_left
        · intro W hSW; (try dsimp only at hSW); go_simp; (try with_reducible rfl)
        try simp only [Act.put, List.setIfInBounds_toArray, List.set_cons_zero, List.set_cons_succ, List.getElem_toArray, List.getElem_cons_zero, List.getElem_cons_succ]
        refine wpAnyT_take (i := 8) (v := ?_) rfl (by kernel_rfl) (by kernel_rfl) (by kernel_rfl) rfl (fun _ _ _ h => h) (Or.inl ⟨by rfl, ?_⟩) hS5.out (fun _ => trivial) ?_
        rotate_left
        · intro W hSW; (try dsimp only at hSW); go_simp; (try with_reducible rfl)
        try simp only [Act.put, List.setIfInBounds_toArray, List.set_cons_zero, List.set_cons_succ, List.getElem_toArray, List.getElem_cons_zero, List.getElem_cons_succ]
        refine wpAnyT_one (i := 9) (by kernel_rfl) rfl (fun K hK => ?_)
        try simp only [Act.put, List.setIfInBounds_toArray, List.set_cons_zero, List.set_cons_succ, List.getElem_toArray, List.getElem_cons_zero, List.getElem_cons_succ]
        rw [if_pos (by rfl)]
        go_simp
        have hal : Below v5.heap.size v5 (v5.alloc (.cells #[.int .i64 0, .int .i64 0, .slice none 0 0, .slice none 0 0] 25)) := (Below.refl _ _).alloc (Nat.le_refl _) _
        have hS6 := Lib.hid (show (v5.alloc (.cells #[.int .i64 0, .int .i64 0, .slice none 0 0, .slice none 0 0] 25)).cell? ⟨ab, 0, none⟩ = some (.int .i64 r1.1.nx) ∧ (v5.alloc (.cells #[.int .i64 0, .int .i64 0, .slice none 0 0, .slice none 0 0] 25)).cell? ⟨ab, 1, none⟩ = some (.int .i64 r1.1.sq) ∧ (v5.alloc (.cells #[.int .i64 0, .int .i64 0, .slice none 0 0, .slice none 0 0] 25)).cell? ⟨ab, 2, none⟩ = some (.slice A5 n5 c5) ∧ (v5.alloc (.cells #[.int .i64 0, .int .i64 0, .slice none 0 0, .slice none 0 0] 25)).cell? ⟨ab, 3, none⟩ = some (.slice B5 m5 d5) from ⟨((HX8.out _ (below_next hb05 hal))).at_ 0 rfl, ((HX8.out _ (below_next hb05 hal))).at_ 1 rfl, ((HX8.out _ (below_next hb05 hal))).at_ 2 rfl, ((HX8.out _ (below_next hb05 hal))).at_ 3 rfl⟩)
        refine hK.out _ _ hS6.out (fun _ => trivial) ?_
        clear hK
        try simp only [Act.put, List.setIfInBounds_toArray, List.set_cons_zero, List.set_cons_succ, List.getElem_toArray, List.getElem_cons_zero, List.getElem_cons_succ]
        refine wpAnyT_one (i := 10) (by kernel_rfl) rfl (fun K hK => ?_)
        try simp only [Act.put, List.setIfInBounds_toArray, List.set_cons_zero, List.set_cons_succ, List.getElem_toArray, List.getElem_cons_zero, List.getElem_cons_succ]
        rw [if_pos (by rfl)]
        have hN := Lib.hid (Holds.new v5 #[.int .i64 0, .int .i64 0, .slice none 0 0, .slice none 0 0] 25)
        have z0 := hN.out.at_ 0 rfl
        have z1 := hN.out.at_ 1 rfl
        have z2 := hN.out.at_ 2 rfl
        have z3 := hN.out.at_ 3 rfl
        have g0 := hN.out.2.2 0
        have g1 := hN.out.2.2 1
        have g2 := hN.out.2.2 2
        have g3 := hN.out.2.2 3
        go_simp
        have hW : Below v5.heap.size v5 (v5.alloc (.cells #[.int .i64 r2.1.nx, .int .i64 r2.1.sq, .slice A6 n6 c6, .slice B6 m6 d6] 25)) := (Below.refl _ _).alloc (Nat.le_refl _) _
        have hH : Holds (v5.alloc (.cells #[.int .i64 r2.1.nx, .int .i64 r2.1.sq, .slice A6 n6 c6, .slice B6 m6 d6] 25)) v5.heap.size [.int .i64 r2.1.nx, .int .i64 r2.1.sq, .slice A6 n6 c6, .slice B6 m6 d6] := Holds.new v5 #[.int .i64 r2.1.nx, .int .i64 r2.1.sq, .slice A6 n6 c6, .slice B6 m6 d6] 25
        have hS7 := Lib.hid (show (v5.alloc (.cells #[.int .i64 r2.1.nx, .int .i64 r2.1.sq, .slice A6 n6 c6, .slice B6 m6 d6] 25)).cell? ⟨ab, 0, none⟩ = some (.int .i64 r1.1.nx) ∧ (v5.alloc (.cells #[.int .i64 r2.1.nx, .int .i64 r2.1.sq, .slice A6 n6 c6, .slice B6 m6 d6] 25)).cell? ⟨ab, 1, none⟩ = some (.int .i64 r1.1.sq) ∧ (v5.alloc (.cells #[.int .i64 r2.1.nx, .int .i64 r2.1.sq, .slice A6 n6 c6, .slice B6 m6 d6] 25)).cell? ⟨ab, 2, none⟩ = some (.slice A5 n5 c5) ∧ (v5.alloc (.cells #[.int .i64 r2.1.nx, .int .i64 r2.1.sq, .slice A6 n6 c6, .slice B6 m6 d6] 25)).cell? ⟨ab, 3, none⟩ = some (.slice B5 m5 d5) from ⟨((HX8.out _ (below_next hb05 hW))).at_ 0 rfl, ((HX8.out _ (below_next hb05 hW))).at_ 1 rfl, ((HX8.out _ (below_next hb05 hW))).at_ 2 rfl, ((HX8.out _ (below_next hb05 hW))).at_ 3 rfl⟩)
        refine hK.out _ _ hS7.out (fun _ => trivial) ?_
        clear hK z0 z1 z2 z3 g0 g1 g2 g3 hN
        have HF := Lib.hid (show AtV w5.heap.size v5.heap.size r2.1 (v5.alloc (.cells #[.int .i64 r2.1.nx, .int .i64 r2.1.sq, .slice A6 n6 c6, .slice B6 m6 d6] 25)) ∧ Below w5.heap.size w5 (v5.alloc (.cells #[.int .i64 r2.1.nx, .int .i64 r2.1.sq, .slice A6 n6 c6, .slice B6 m6 d6] 25)) from ⟨⟨A6, n6, c6, L6, B6, m6, d6, M6, hH, (hO5.below hW).base_ hbd.size, hl5, ht5, hb05.size⟩, below_next hb05 hW⟩)
        clear hH hW hal hS6 hS5
        try simp only [Act.put, List.setIfInBounds_toArray, List.set_cons_zero, List.set_cons_succ, List.getElem_toArray, List.getElem_cons_zero, List.getElem_cons_succ]
        generalize (v5.alloc (.cells #[.int .i64 r2.1.nx, .int .i64 r2.1.sq, .slice A6 n6 c6, .slice B6 m6 d6] 25)) = v9 at *
        refine wpAnyT_take (i := 11) (v := ?_) rfl (by kernel_rfl) (by kernel_rfl) (by kernel_rfl) rfl (fun _ _ _ h => h) (Or.inl ⟨by rfl, ?_⟩) hS7.out (fun _ => trivial) ?_
        rotate_left
        · intro W hSW; (try dsimp only at hSW); go_simp; (try with_reducible rfl)
        try simp only [Act.put, List.setIfInBounds_toArray, List.set_cons_zero, List.set_cons_succ, List.getElem_toArray, List.getElem_cons_zero, List.getElem_cons_succ]
        refine wpAnyT_take (i := 12) (v := ?_) rfl (by kernel_rfl) (by kernel_rfl) (by kernel_rfl) rfl (fun _ _ _ h => h) (Or.inl ⟨by rfl, ?_⟩) hS7.out (fun _ => trivial) ?_
        rotate_left
        · intro W hSW; (try dsimp only at hSW); go_simp; (try with_reducible rfl)
        try simp only [Act.put, List.setIfInBounds_toArray, List.set_cons_zero, List.set_cons_succ, List.getElem_toArray, List.getElem_cons_zero, List.getElem_cons_succ]
        refine wpAnyT_done (by kernel_rfl) ?_ _
        go_wp2
        go_meet
        case rel => exact ⟨v5.heap.size, rfl, rfl, rfl, Lib.hid HF.out.1, Lib.hid HF.out.2⟩
      · try simp only [Act.put, List.setIfInBounds_toArray, List.set_cons_zero, List.set_cons_succ, List.getElem_toArray, List.getElem_cons_zero, List.getElem_cons_succ]
        rw [if_pos (by rfl)]
        go_simp
        have hal : Below w5.heap.size w5 (w5.drew.alloc (.cells #[.int .i64 0, .int .i64 0, .slice none 0 0, .slice none 0 0] 25)) := hbd.alloc hbd.size _
        have hS6 := Lib.hid (show (w5.drew.alloc (.cells #[.int .i64 0, .int .i64 0, .slice none 0 0, .slice none 0 0] 25)).cell? ⟨ab, 0, none⟩ = some (.int .i64 r1.1.nx) ∧ (w5.drew.alloc (.cells #[.int .i64 0, .int .i64 0, .slice none 0 0, .slice none 0 0] 25)).cell? ⟨ab, 1, none⟩ = some (.int .i64 r1.1.sq) ∧ (w5.drew.alloc (.cells #[.int .i64 0, .int .i64 0, .slice none 0 0, .slice none 0 0] 25)).cell? ⟨ab, 2, none⟩ = some (.slice A5 n5 c5) ∧ (w5.drew.alloc (.cells #[.int .i64 0, .int .i64 0, .slice none 0 0, .slice none 0 0] 25)).cell? ⟨ab, 3, none⟩ = some (.slice B5 m5 d5) from ⟨((HX8.out _ hal)).at_ 0 rfl, ((HX8.out _ hal)).at_ 1 rfl, ((HX8.out _ hal)).at_ 2 rfl, ((HX8.out _ hal)).at_ 3 rfl⟩)
        refine hK.out _ _ hS6.out (fun _ => trivial) ?_
        clear hK
        try simp only [Act.put, List.setIfInBounds_toArray, List.set_cons_zero, List.set_cons_succ, List.getElem_toArray, List.getElem_cons_zero, List.getElem_cons_succ]
        refine wpAnyT_one (i := 4) (by kernel_rfl) rfl (fun K hK => ?_)
        try simp only [Act.put, List.setIfInBounds_toArray, List.set_cons_zero, List.set_cons_succ, List.getElem_toArray, List.getElem_cons_zero, List.getElem_cons_succ]
        rw [if_pos (by rfl)]
        go_simp
        refine (HC8.out _ hal).mono ?_
        rintro e v5 ⟨A6, n6, c6, L6, B6, m6, d6, M6, rfl, hO5, hl5, ht5, hb5⟩
        have hb05 := below_next hal hb5
        have hN := Lib.hid (show Holds v5 w5.heap.size [.int .i64 0, .int .i64 0, .slice none 0 0, .slice none 0 0] from (Holds.new w5.drew #[.int .i64 0, .int .i64 0, .slice none 0 0, .slice none 0 0] 25).below hb5)
        have hS5 := Lib.hid (show v5.cell? ⟨ab, 0, none⟩ = some (.int .i64 r1.1.nx) ∧ v5.cell? ⟨ab, 1, none⟩ = some (.int .i64 r1.1.sq) ∧ v5.cell? ⟨ab, 2, none⟩ = some (.slice A5 n5 c5) ∧ v5.cell? ⟨ab, 3, none⟩ = some (.slice B5 m5 d5) from ⟨(HX8.out _ hb05).at_ 0 rfl, (HX8.out _ hb05).at_ 1 rfl, (HX8.out _ hb05).at_ 2 rfl, (HX8.out _ hb05).at_ 3 rfl⟩)
        refine hK.out _ _ hS5.out (fun _ => trivial) ?_
        clear hK
        try simp only [Act.put, List.setIfInBounds_toArray, List.set_cons_zero, List.set_cons_succ, List.getElem_toArray, List.getElem_cons_zero, List.getElem_cons_succ]
        refine wpAnyT_take (i := 5) (v := ?_) rfl (by kernel_rfl) (by kernel_rfl) (by kernel_rfl) rfl (fun _ _ _ h => h) (Or.inl ⟨by rfl, ?_⟩) hS5.out (fun _ => trivial) ?_
        rotate_left
        · intro W hSW; (try dsimp only at hSW); go_simp; (try with_reducible rfl)
        try simp only [Act.put, List.setIfInBounds_toArray, List.set_cons_zero, List.set_cons_succ, List.getElem_toArray, List.getElem_cons_zero, List.getElem_cons_succ]
        refine wpAnyT_take (i := 6) (v := ?_) rfl (by kernel_rfl) (by kernel_rfl) (by kernel_rfl) rfl (fun _ _ _ h => h) (Or.inl ⟨by rfl, ?_⟩) hS5.out (fun _ => trivial) ?_
        rotate_left
        · intro W hSW; (try dsimp only at hSW); go_simp; (try with_reducible rfl)
        try simp only [Act.put, List.setIfInBounds_toArray, List.set_cons_zero, List.set_cons_succ, List.getElem_toArray, List.getElem_cons_zero, List.getElem_cons_succ]
        refine wpAnyT_take (i := 7) (v := ?_) rfl (by kernel_rfl) (by kernel_rfl) (by kernel_rfl) rfl (fun _ _ _ h => h) (Or.inl ⟨by rfl, ?_⟩) hS5.out (fun _ => trivial) ?_
        rotate_left
        · intro W hSW; (try dsimp only at hSW); go_simp; (try with_reducible rfl)
        try simp only [Act.put, List.setIfInBounds_toArray, List.set_cons_zero, List.set_cons_succ, List.getElem_toArray, List.getElem_cons_zero, List.getElem_cons_succ]
        refine wpAnyT_take (i := 8) (v := ?_) rfl (by kernel_rfl) (by kernel_rfl) (by kernel_rfl) rfl (fun _ _ _ h => h) (Or.inl ⟨by rfl, ?_⟩) hS5.out (fun _ => trivial) ?_
        rotate_left
        · intro W hSW; (try dsimp only at hSW); go_simp; (try with_reducible rfl)
        try simp only [Act.put, List.setIfInBounds_toArray, List.set_cons_zero, List.set_cons_succ, List.getElem_toArray, List.getElem_cons_zero, List.getElem_cons_succ]
        refine wpAnyT_one (i := 10) (by kernel_rfl) rfl (fun K hK => ?_)
        try simp only [Act.put, List.setIfInBounds_toArray, List.set_cons_zero, List.set_cons_succ, List.getElem_toArray, List.getElem_cons_zero, List.getElem_cons_succ]
        rw [if_pos (by rfl)]
        have z0 := hN.out.at_ 0 rfl
        have z1 := hN.out.at_ 1 rfl
        have z2 := hN.out.at_ 2 rfl
        have z3 := hN.out.at_ 3 rfl
        have g0 := hN.out.2.2 0
        have g1 := hN.out.2.2 1
        have g2 := hN.out.2.2 2
        have g3 := hN.out.2.2 3
        go_simp
        have hG := ((grown_cell v5 w5.heap.size 0 (.int .i64 r2.1.nx)).trans ((grown_cell _ w5.heap.size 1 (.int .i64 r2.1.sq)).trans ((grown_cell _ w5.heap.size 2 (.slice A6 n6 c6)).trans (grown_cell _ w5.heap.size 3 (.slice B6 m6 d6)))))
        have hW : Below w5.heap.size w5 ((((v5.setCell ⟨w5.heap.size, 0, none⟩ (.int .i64 r2.1.nx)).setCell ⟨w5.heap.size, 1, none⟩ (.int .i64 r2.1.sq)).setCell ⟨w5.heap.size, 2, none⟩ (.slice A6 n6 c6)).setCell ⟨w5.heap.size, 3, none⟩ (.slice B6 m6 d6)) := hb05.grown hG hb05.size (fun g e => by injection e with e; omega)
        have hH : Holds ((((v5.setCell ⟨w5.heap.size, 0, none⟩ (.int .i64 r2.1.nx)).setCell ⟨w5.heap.size, 1, none⟩ (.int .i64 r2.1.sq)).setCell ⟨w5.heap.size, 2, none⟩ (.slice A6 n6 c6)).setCell ⟨w5.heap.size, 3, none⟩ (.slice B6 m6 d6)) w5.heap.size [.int .i64 r2.1.nx, .int .i64 r2.1.sq, .slice A6 n6 c6, .slice B6 m6 d6] := ((((hN.out).set 0 (.int .i64 r2.1.nx) (by simp)).set 1 (.int .i64 r2.1.sq) (by simp)).set 2 (.slice A6 n6 c6) (by simp)).set 3 (.slice B6 m6 d6) (by simp)
        have hS7 := Lib.hid (show ((((v5.setCell ⟨w5.heap.size, 0, none⟩ (.int .i64 r2.1.nx)).setCell ⟨w5.heap.size, 1, none⟩ (.int .i64 r2.1.sq)).setCell ⟨w5.heap.size, 2, none⟩ (.slice A6 n6 c6)).setCell ⟨w5.heap.size, 3, none⟩ (.slice B6 m6 d6)).cell? ⟨ab, 0, none⟩ = some (.int .i64 r1.1.nx) ∧ ((((v5.setCell ⟨w5.heap.size, 0, none⟩ (.int .i64 r2.1.nx)).setCell ⟨w5.heap.size, 1, none⟩ (.int .i64 r2.1.sq)).setCell ⟨w5.heap.size, 2, none⟩ (.slice A6 n6 c6)).setCell ⟨w5.heap.size, 3, none⟩ (.slice B6 m6 d6)).cell? ⟨ab, 1, none⟩ = some (.int .i64 r1.1.sq) ∧ ((((v5.setCell ⟨w5.heap.size, 0, none⟩ (.int .i64 r2.1.nx)).setCell ⟨w5.heap.size, 1, none⟩ (.int .i64 r2.1.sq)).setCell ⟨w5.heap.size, 2, none⟩ (.slice A6 n6 c6)).setCell ⟨w5.heap.size, 3, none⟩ (.slice B6 m6 d6)).cell? ⟨ab, 2, none⟩ = some (.slice A5 n5 c5) ∧ ((((v5.setCell ⟨w5.heap.size, 0, none⟩ (.int .i64 r2.1.nx)).setCell ⟨w5.heap.size, 1, none⟩ (.int .i64 r2.1.sq)).setCell ⟨w5.heap.size, 2, none⟩ (.slice A6 n6 c6)).setCell ⟨w5.heap.size, 3, none⟩ (.slice B6 m6 d6)).cell? ⟨ab, 3, none⟩ = some (.slice B5 m5 d5) from ⟨((HX8.out _ hW)).at_ 0 rfl, ((HX8.out _ hW)).at_ 1 rfl, ((HX8.out _ hW)).at_ 2 rfl, ((HX8.out _ hW)).at_ 3 rfl⟩)
        refine hK.out _ _ hS7.out (fun _ => trivial) ?_
        clear hK z0 z1 z2 z3 g0 g1 g2 g3 hN
        have hO9 := hO5.grown hG (fun g e => by injection e with e; simp; omega)
        have HF := Lib.hid (show AtV w5.heap.size w5.heap.size r2.1 ((((v5.setCell ⟨w5.heap.size, 0, none⟩ (.int .i64 r2.1.nx)).setCell ⟨w5.heap.size, 1, none⟩ (.int .i64 r2.1.sq)).setCell ⟨w5.heap.size, 2, none⟩ (.slice A6 n6 c6)).setCell ⟨w5.heap.size, 3, none⟩ (.slice B6 m6 d6)) ∧ Below w5.heap.size w5 ((((v5.setCell ⟨w5.heap.size, 0, none⟩ (.int .i64 r2.1.nx)).setCell ⟨w5.heap.size, 1, none⟩ (.int .i64 r2.1.sq)).setCell ⟨w5.heap.size, 2, none⟩ (.slice A6 n6 c6)).setCell ⟨w5.heap.size, 3, none⟩ (.slice B6 m6 d6)) from ⟨⟨A6, n6, c6, L6, B6, m6, d6, M6, hH, hO9.base_ hal.size, hl5, ht5, Nat.le_refl _⟩, hW⟩)
        clear hH hW hG hO9 hal hS6 hS5
        try simp only [Act.put, List.setIfInBounds_toArray, List.set_cons_zero, List.set_cons_succ, List.getElem_toArray, List.getElem_cons_zero, List.getElem_cons_succ]
        generalize ((((v5.setCell ⟨w5.heap.size, 0, none⟩ (.int .i64 r2.1.nx)).setCell ⟨w5.heap.size, 1, none⟩ (.int .i64 r2.1.sq)).setCell ⟨w5.heap.size, 2, none⟩ (.slice A6 n6 c6)).setCell ⟨w5.heap.size, 3, none⟩ (.slice B6 m6 d6)) = v9 at *
        refine wpAnyT_take (i := 11) (v := ?_) rfl (by kernel_rfl) (by kernel_rfl) (by kernel_rfl) rfl (fun _ _ _ h => h) (Or.inl ⟨by rfl, ?_⟩) hS7.out (fun _ => trivial) ?_
        rotate_left
        · intro W hSW; (try dsimp only at hSW); go_simp; (try with_reducible rfl)
        try simp only [Act.put, List.setIfInBounds_toArray, List.set_cons_zero, List.set_cons_succ, List.getElem_toArray, List.getElem_cons_zero, List.getElem_cons_succ]
        refine wpAnyT_take (i := 12) (v := ?_) rfl (by kernel_rfl) (by kernel_rfl) (by kernel_rfl) rfl (fun _ _ _ h => h) (Or.inl ⟨by rfl, ?_⟩) hS7.out (fun _ => trivial) ?_
        rotate_left
        · intro W hSW; (try dsimp only at hSW); go_simp; (try with_reducible rfl)
        try simp only [Act.put, List.setIfInBounds_toArray, List.set_cons_zero, List.set_cons_succ, List.getElem_toArray, List.getElem_cons_zero, List.getElem_cons_succ]
        refine wpAnyT_done (by kernel_rfl) ?_ _
        go_wp2
        go_meet
        case rel => exact ⟨w5.heap.size, rfl, rfl, rfl, Lib.hid HF.out.1, Lib.hid HF.out.2⟩
    case rest =>
      obtain ⟨ac, rfl, rfl, rfl, HA8, HB8⟩ := hcut
      rename World => w8
      obtain ⟨A6, n6, c6, L6, B6, m6, d6, M6, hX6, hO6, hl6, ht6, hac⟩ := HA8.out
      have HBd8 := Lib.hid (below_next HB5.out HB8.out)
      have y0 := (HX4.out w8 HBd8.out).at_ 0 rfl
      have y1 := (HX4.out w8 HBd8.out).at_ 1 rfl
      have y2 := (HX4.out w8 HBd8.out).at_ 2 rfl
      have y3 := (HX4.out w8 HBd8.out).at_ 3 rfl
      have C9 := Lib.hid (HC9.out w8 HBd8.out)
      have HX6 := Lib.hid hX6
      have HO6 := Lib.hid hO6
      have HL6 := Lib.hid hl6
      have HT6 := Lib.hid ht6
      clear HC8 HX8 HC5 HC9 HX4 HA8 hX6 hO6 hl6 ht6 hac
      go_wp2_with fail
      refine C9.out.mono ?_
      clear C9 y0 y1 y2 y3
      rintro e v9 ⟨A9, n9, c9, L9, B9, m9, d9, M9, rfl, hO9, hl9, ht9, hb9⟩
      have hal : Below v9.heap.size v9 (v9.alloc (.cells #[.int .i64 r3.1.nx, .int .i64 r3.1.sq, .slice A9 n9 c9, .slice B9 m9 d9] 25)) := (Below.refl _ _).alloc (Nat.le_refl _) _
      have HXn := Lib.hid (Holds.new v9 #[.int .i64 r3.1.nx, .int .i64 r3.1.sq, .slice A9 n9 c9, .slice B9 m9 d9] 25)
      have HX6n := Lib.hid ((HX6.out.below hb9).below hal)
      have HO6n := Lib.hid ((HO6.out.below hb9).below hal)
      have HO9n := Lib.hid (hO9.below hal)
      have HBn := Lib.hid (below_next (below_next (below_next HBd5.out HB8.out) hb9) hal)
      have HL9 := Lib.hid hl9
      have HT9 := Lib.hid ht9
      clear hal hO9 hl9 ht9 hb9
      go_upto_region 10 with fail
      generalize (v9.alloc (.cells #[.int .i64 r3.1.nx, .int .i64 r3.1.sq, .slice A9 n9 c9, .slice B9 m9 d9] 25)) = z at *
      generalize v9.heap.size = ad at *
      replace HXn : Hid (Holds z ad [.int .i64 r3.1.nx, .int .i64 r3.1.sq, .slice A9 n9 c9, .slice B9 m9 d9]) := HXn
      by_cases hf : r2.2.2 = 0
      case neg =>
        have g : ((r2.2.2 : Int) != 0) = true := by rw [bne_iff_ne]; omega
        have g1 : ((r3.2.2 : Int) == (r2.2.2 : Int)) = true := by rw [HQt.out.2.1]; simp
        have hi := HI2.out
        have hel := HEl.out
        have hb1 : -9223372036854775808 ≤ (r2.2.1 : Int) + (k : Int) := by omega
        have hb2 : (r2.2.1 : Int) + (k : Int) ≤ 9223372036854775807 := by omega
        have g2 : ((r3.2.1 : Int) == (r2.2.1 : Int) + (k : Int)) = true := by rw [HQt.out.2.2 hf]; simp
        clear hf hi hel
        go_wp2
        go_ret
        exact ⟨rfl, HBn.out⟩
      have g : ((r2.2.2 : Int) != 0) = false := by rw [hf]; rfl
      have g1 : ((r3.2.2 : Int) == 0) = true := by rw [HQt.out.2.1, hf]; rfl
      have HEq := Lib.hid (show r2.1 = r3.1 from HQt.out.1.symm)
      clear hf
      have x0 := HX6n.out.at_ 0 rfl
      have x1 := HX6n.out.at_ 1 rfl
      have x2 := HX6n.out.at_ 2 rfl
      have x3 := HX6n.out.at_ 3 rfl
      have y0 := HXn.out.at_ 0 rfl
      have y1 := HXn.out.at_ 1 rfl
      have y2 := HXn.out.at_ 2 rfl
      have y3 := HXn.out.at_ 3 rfl
      have C10 := Lib.hid (rsame_any r2.1.nx r2.1.sq A6 n6 c6 B6 m6 d6 L6 M6 r3.1.nx r3.1.sq A9 n9 c9 B9 m9 d9 L9 M9 z HO6n.out.ls.rd HO6n.out.ts.rd HO9n.out.ls.rd HO9n.out.ts.rd (by have := HO6n.out.ls.row.fits; have := HO6n.out.ls.row.capLe; omega) (by have := HO6n.out.ts.row.fits; have := HO6n.out.ts.row.capLe; omega) (by have := HO9n.out.ls.row.fits; have := HO9n.out.ls.row.capLe; omega) (by have := HO9n.out.ts.row.fits; have := HO9n.out.ts.row.capLe; omega))
      rw [show (⟨r2.1.nx, r2.1.sq, L6.map Ed.loOf, M6.map Ed.taOf⟩ : Ed.Ve).eq ⟨r3.1.nx, r3.1.sq, L9.map Ed.loOf, M9.map Ed.taOf⟩ = true from Ed.Ve.eq_iff.2 (by rw [HL6.out, HT6.out, HL9.out, HT9.out]; exact HEq.out)] at C10
      go_wp2_with fail
      refine C10.out.mono ?_
      rintro e v10 ⟨rfl, hb10⟩
      have HBe := Lib.hid (below_next HBn.out hb10)
      clear hb10 x0 x1 x2 x3 y0 y1 y2 y3 C10
      go_wp2
      go_ret
      exact ⟨rfl, HBe.out⟩
end Go.Proofs.Ythfcjlndaajkfaa
