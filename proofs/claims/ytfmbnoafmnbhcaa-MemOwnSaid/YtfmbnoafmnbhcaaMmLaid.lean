/- The document's Laid: one laid into a sorted row. -/
import Derived.Test.YtfmbnoafmnbhcaaMmFew
import Derived.Test.YtfmbnoafmnbhcaaMmTree
import Derived.Deep.DeepCutAuto
namespace Go.Proofs.Ytfmbnoafmnbhcaa
open Go.RowKit
namespace Bk
theorem laid_in {x : P} {A : List P} (h : ∃ z ∈ A, lt x z) (B : List P) : laid x (A ++ B) = laid x A ++ B := by
  induction A with
  | nil => obtain ⟨z, hz, _⟩ := h; cases hz
  | cons a A ih =>
    simp only [List.cons_append, laid]
    split
    · rfl
    · rename_i hn
      rw [ih]
      · rfl
      · obtain ⟨z, hz, hl⟩ := h
        rcases List.mem_cons.1 hz with rfl | hz
        · exact absurd hl hn
        · exact ⟨z, hz, hl⟩
theorem laid_none {x : P} {A : List P} (h : ∀ z ∈ A, ¬ lt x z) : laid x A = A ++ [x] := by
  have := laid_back h []
  rw [List.append_nil] at this
  exact this
/-- What has been laid out when so many have been looked at. -/
def part (x : P) (es : List P) (k : Nat) (d : Bool) : List P := if d then laid x (es.take k) else es.take k
def state (x : P) (es : List P) (k : Nat) (d : Bool) : Prop := if d then ∃ z ∈ es.take k, lt x z else ∀ z ∈ es.take k, ¬ lt x z
theorem part_true {x y : P} {es : List P} {k : Nat} (hy : es[k]? = some y) (h : state x es k true) : part x es (k + 1) true = part x es k true ++ [y] ∧ state x es (k + 1) true := by
  have e : es.take (k + 1) = es.take k ++ [y] := by rw [List.take_add_one, hy]; rfl
  obtain ⟨z, hz, hl⟩ := h
  exact ⟨by show laid x (es.take (k + 1)) = _; rw [e, laid_in ⟨z, hz, hl⟩]; rfl, z, by rw [e]; exact List.mem_append_left _ hz, hl⟩
theorem part_now {x y : P} {es : List P} {k : Nat} (hy : es[k]? = some y) (h : state x es k false) (hl : lt x y) : part x es (k + 1) true = (part x es k false ++ [x]) ++ [y] ∧ state x es (k + 1) true := by
  have e : es.take (k + 1) = es.take k ++ [y] := by rw [List.take_add_one, hy]; rfl
  refine ⟨?_, y, by rw [e]; exact List.mem_append_right _ List.mem_cons_self, hl⟩
  show laid x (es.take (k + 1)) = (es.take k ++ [x]) ++ [y]
  rw [e, laid_back h]
  simp [laid, hl]
theorem part_later {x y : P} {es : List P} {k : Nat} (hy : es[k]? = some y) (h : state x es k false) (hl : ¬ lt x y) : part x es (k + 1) false = part x es k false ++ [y] ∧ state x es (k + 1) false := by
  have e : es.take (k + 1) = es.take k ++ [y] := by rw [List.take_add_one, hy]; rfl
  refine ⟨e, fun z hz => ?_⟩
  rw [e] at hz
  rcases List.mem_append.1 hz with hz | hz
  · exact h z hz
  · rcases List.mem_singleton.1 hz with rfl
    exact hl
theorem flat_snoc (l : List P) (y : P) : flat (l ++ [y]) = flat l ++ cells y := by rw [flat_append]; simp [flat]
end Bk
/-- The row that Laid hands back. -/
def GivesLaid (w : World) (es : List Bk.P) (e : Ending) (w' : World) : Prop :=
  ∃ (B : Option Addr) (c : Nat), e = .returned (.slice B es.length c) ∧ es.length ≤ c ∧ OwnC 4 w' w.heap.size 24 B es.length c (Bk.flat es) ∧ Below w.heap.size w w'
/-- Whether x is ahead of y, as a value. -/
theorem rahead_is (p q : Bk.P) (w : World) : Calls Try.prog 10 #[.agg (Bk.cells p).toArray, .agg (Bk.cells q).toArray] w fun e w' => e = .returned (.bool (decide (Bk.lt p q))) ∧ Below w.heap.size w w' := by
  refine (rahead_any p q w).mono ?_
  rintro e w' ⟨t, rfl, h2, h3⟩
  refine ⟨?_, h3⟩
  by_cases h : Bk.lt p q
  · rw [decide_eq_true h, h2.2 h]
  · rw [decide_eq_false h]
    cases t with
    | false => rfl
    | true => exact absurd (h2.1 rfl) h
theorem laid_step {w v u w6 : World} {B B6 : Option Addr} {m cap cap6 : Nat} {vs : List Value} {y : Bk.P} (_h : w.heap.size ≤ v.heap.size) (hu : Below v.heap.size v u) (hO : OwnC 4 u v.heap.size 24 B m cap vs) (hg : GrewC 4 (u.alloc (.cells (Bk.cells y).toArray 24)) w6 v.heap.size 24 B B6 m cap (m + 1) cap6 (vs ++ Bk.cells y)) :
    OwnC 4 w6 v.heap.size 24 B6 (m + 1) cap6 (vs ++ Bk.cells y) ∧ Below v.heap.size v w6 :=
  ⟨hg.own, hg.below (hu.alloc hu.size _) (by have := hu.size; simp; omega) (fun g e => (hO.blk g e).1)⟩
theorem laid_step2 {v u w6 : World} {B B6 : Option Addr} {m cap cap6 : Nat} {vs : List Value} {y : Bk.P} (h : OwnC 4 u v.heap.size 24 B m cap vs ∧ Below v.heap.size v u) (hg : GrewC 4 (u.alloc (.cells (Bk.cells y).toArray 24)) w6 v.heap.size 24 B B6 m cap (m + 1) cap6 (vs ++ Bk.cells y)) :
    OwnC 4 w6 v.heap.size 24 B6 (m + 1) cap6 (vs ++ Bk.cells y) ∧ Below v.heap.size v w6 :=
  ⟨hg.own, hg.below (h.2.alloc h.2.size _) (by have := h.2.size; simp; omega) (fun g e => (h.1.blk g e).1)⟩
theorem laid_cells {w v u : World} {b o k : Nat} {y : Bk.P} {x0 x1 x2 x3 : Value} (hB : Below w.heap.size w v) (hu : Below v.heap.size v u) (hb : b < w.heap.size) (hc : ∀ (j : Nat) x, (Bk.cells y)[j]? = some x → w.cell? ⟨b, o + (k * 4 + j), none⟩ = some x) (hz : Holds v w.heap.size [x0, x1, x2, x3]) :
    u.cell? ⟨b, o + k * 4, none⟩ = some (.string y.1.key) ∧ u.cell? ⟨b, o + k * 4 + 1, none⟩ = some (.int .i64 y.1.seq) ∧ u.cell? ⟨b, o + k * 4 + 2, none⟩ = some (.bool y.1.del) ∧ u.cell? ⟨b, o + k * 4 + 3, none⟩ = some (.slice y.2.1 y.2.2.1 y.2.2.2) ∧
    u.cell? ⟨w.heap.size, 0, none⟩ = some x0 ∧ u.cell? ⟨w.heap.size, 1, none⟩ = some x1 ∧ u.cell? ⟨w.heap.size, 2, none⟩ = some x2 ∧ u.cell? ⟨w.heap.size, 3, none⟩ = some x3 := by
  have h := hB.trans (hu.mono hB.size)
  have z := fun i => hu.cell (p := ⟨w.heap.size, i, none⟩) hz.1
  exact ⟨(h.cell (p := ⟨b, o + k * 4, none⟩) hb).trans (hc 0 _ rfl), (h.cell (p := ⟨b, o + k * 4 + 1, none⟩) hb).trans (hc 1 _ rfl), (h.cell (p := ⟨b, o + k * 4 + 2, none⟩) hb).trans (hc 2 _ rfl), (h.cell (p := ⟨b, o + k * 4 + 3, none⟩) hb).trans (hc 3 _ rfl), (z 0).trans (hz.2.1 0 _ rfl), (z 1).trans (hz.2.1 1 _ rfl), (z 2).trans (hz.2.1 2 _ rfl), (z 3).trans (hz.2.1 3 _ rfl)⟩
set_option maxRecDepth 100000 in
set_option maxHeartbeats 8000000 in
theorem rlaid_any (A : Option Addr) (n c : Nat) (es : List Bk.P) (x : Bk.P) (w : World) (hr : RdE w A n es) (hn : n ≤ 100000) :
    Calls Try.prog 37 #[.slice A n c, .agg (Bk.cells x).toArray] w (GivesLaid w (Bk.laid x es)) := by
  have Ah := Lib.hid (fun (y : Bk.P) (u : World) => rahead_is x y u)
  have HR := Lib.hid hr
  have HL := Lib.hid hr.1
  clear hr
  obtain ⟨xx, hxx⟩ : ∃ xx, xx = x := ⟨_, rfl⟩
  have HXX := Lib.hid hxx
  clear hxx
  obtain ⟨⟨key, seq, del, val⟩, V, vn, vc⟩ := x
  show Calls _ _ #[.slice A n c, .agg #[.string key, .int .i64 seq, .bool del, .slice V vn vc]] _ _
  rw [← HXX.out] at Ah ⊢
  have HB := Lib.hid (show Below w.heap.size w (w.alloc (.cells #[Value.string key, .int .i64 seq, .bool del, .slice V vn vc] 24)) from (Below.refl _ _).alloc (Nat.le_refl _) _)
  have HZ := Lib.hid (Holds.new w #[Value.string key, .int .i64 seq, .bool del, .slice V vn vc] 24)
  go_enter Try.func37, Try.ntmps37
  go_upto_region 3 with (fail)
  generalize (w.alloc (.cells #[Value.string key, .int .i64 seq, .bool del, .slice V vn vc] 24)) = v at HB HZ ⊢
  go_wp2_with fail
  go_loopw [5, 6, 7] (fun o d ii wr => ∃ (k m : Nat) (B : Option Addr) (cap : Nat) (dd : Bool), k ≤ n ∧ m ≤ k + 1 ∧ ii = .int .i64 (k : Int) ∧ d = .bool dd ∧ o = .slice B m cap ∧ Hid (m = (Bk.part xx es k dd).length) ∧ Hid (Bk.state xx es k dd) ∧ Hid (OwnC 4 wr v.heap.size 24 B m cap (Bk.flat (Bk.part xx es k dd))) ∧ Hid (Below v.heap.size v wr)) (fun _ _ ii _ => n - (intOf ii).toNat)
  case atStart => exact ⟨0, 0, none, 0, false, by omega, by omega, rfl, rfl, rfl, Lib.hid rfl, Lib.hid (fun z hz => by cases hz), Lib.hid (OwnC.none_ _ _ _ _), Lib.hid (Below.refl _ _)⟩
  case round =>
    rename_i wr hrel
    obtain ⟨k, m, B, cap, dd, hk, hmk, rfl, rfl, rfl, HM, HSt, HO, HW⟩ := hrel
    by_cases hlt : k < n
    · have hki : (k : Int) < (n : Int) := by omega
      obtain ⟨y, hy⟩ : ∃ y, es[k]? = some y := ⟨_, List.getElem?_eq_getElem (by rw [HL.out]; omega)⟩
      obtain ⟨b, o, rfl, hbl, hcell⟩ := HR.out.at_ hy
      have HY := Lib.hid hy
      have hin := Lib.hid hbl
      have HCell := Lib.hid hcell
      clear hy
      obtain ⟨yy, hyy⟩ : ∃ yy, yy = y := ⟨_, rfl⟩
      have HYY := Lib.hid hyy
      clear hyy
      obtain ⟨⟨key2, seq2, del2, val2⟩, V2, n2, c2⟩ := y
      rw [← HYY.out] at HY
      have HWw := Lib.hid (HB.out.trans (HW.out.mono HB.out.size))
      have hsz := HW.out.size
      -- what is read in any later world
      have HCl := Lib.hid (fun (u : World) (hu : Below v.heap.size v u) => laid_cells HB.out hu hbl hcell HZ.out)
      clear hcell hbl
      have hvw := HWw.out.size
      cases dd with
      | true =>
        obtain ⟨p1, p2⟩ := Bk.part_true HY.out HSt.out
        have HP := Lib.hid (And.intro p1 p2)
        clear p1 p2
        have q := HCl.out _ HW.out
        go_wp2_with fail
        have HBd := Lib.hid (show Below wr.heap.size wr wr.drew from (Below.refl _ _).drew)
        refine region_class (fun u => Below wr.heap.size wr u) (by kernel_rfl) (by kernel_rfl) HBd.out ?_
        repeat (go_big_quiet_step ((first | (intro _; with_reducible rfl))))
        refine wpQuiet_nil ?_
        intro v9 hv9
        clear q
        have HV := Lib.hid (below_next HW.out hv9)
        have q := HCl.out _ HV.out
        have HO9 := Lib.hid (HO.out.below hv9)
        clear hv9
        go_wp2_with (at_builtin; refine wpList_appC manyE rfl (.tmp 28) (.tmp 33) rfl rfl (HO9.out.alloc _) ⟨v9.heap.size, 0, none⟩ 1 1 (Bk.cells (⟨key2, seq2, del2, val2⟩, V2, n2, c2)) (Bk.cells_one _) rfl (rdc_new 4 v9 _ _ 1 rfl (0, 0)) (by omega) (by have := HV.out.size; simp; omega) ?_; intro B6 cap6 w6 hg6)
        have HF := Lib.hid (laid_step (y := (⟨key2, seq2, del2, val2⟩, V2, n2, c2)) HB.out.size HV.out HO9.out hg6)
        clear hg6
        go_roundw
        case rel => exact ⟨k + 1, m + 1, B6, cap6, true, by omega, by omega, by go_num, rfl, rfl, Lib.hid (by rw [HP.out.1, List.length_append, ← HM.out]; rfl), Lib.hid HP.out.2, Lib.hid (by rw [HP.out.1, Bk.flat_snoc, HYY.out]; exact HF.out.1), Lib.hid HF.out.2⟩
        case measure => simp [intOf]; omega
      | false =>
        have Ah2 : Hid (∀ u, Calls Try.prog 10 #[.agg #[.string key, .int .i64 seq, .bool del, .slice V vn vc], .agg #[.string key2, .int .i64 seq2, .bool del2, .slice V2 n2 c2]] u fun e w' => e = .returned (.bool (decide (Bk.lt xx yy))) ∧ Below u.heap.size u w') := Lib.hid (fun u => by have h := Ah.out yy u; rw [HYY.out, HXX.out] at h; rw [HYY.out, HXX.out]; exact h)
        have hmk2 : m ≤ k := by rw [HM.out]; show (es.take k).length ≤ k; rw [List.length_take]; omega
        by_cases hl : Bk.lt xx yy
        · obtain ⟨p1, p2⟩ := Bk.part_now HY.out HSt.out hl
          have HP := Lib.hid (And.intro p1 p2)
          clear p1 p2
          rw [decide_eq_true hl] at Ah2
          clear hl
          have q := HCl.out _ HW.out
          go_wp2_with fail
          have HBd := Lib.hid (show Below wr.heap.size wr wr.drew from (Below.refl _ _).drew)
          refine region_class (fun u => Below wr.heap.size wr u) (by kernel_rfl) (by kernel_rfl) HBd.out ?_
          repeat (go_big_quiet_step ((first | (intro _; with_reducible rfl) | (intro hq; exact calls_class hq (Ah2.out _)) | (intro hq; obtain ⟨e0, e1, e2, e3, e4, e5, e6, e7⟩ := HCl.out _ (below_next HW.out hq); simp [e0, e1, e2, e3, e4, e5, e6, e7, Result.andThen]; with_reducible rfl))))
          refine wpQuiet_nil ?_
          intro v9 hv9
          clear q
          have HV := Lib.hid (below_next HW.out hv9)
          have q := HCl.out _ HV.out
          have HO9 := Lib.hid (HO.out.below hv9)
          clear hv9
          go_upto_region 9 with (first | (at_builtin; refine wpList_appC manyE rfl (.tmp 24) (.tmp 26) rfl rfl (HO9.out.alloc _) ⟨v9.heap.size, 0, none⟩ 1 1 (Bk.cells (⟨key, seq, del, val⟩, V, vn, vc)) (Bk.cells_one _) rfl (rdc_new 4 v9 _ _ 1 rfl (0, 0)) (by omega) (by have := HV.out.size; simp; omega) ?_; intro B5 cap5 w5 hg5))
          have HF5 := Lib.hid (laid_step (y := (⟨key, seq, del, val⟩, V, vn, vc)) HB.out.size HV.out HO9.out hg5)
          clear hg5 q
          have q := HCl.out _ HF5.out.2
          go_wp2_with (at_builtin; refine wpList_appC manyE rfl (.tmp 28) (.tmp 33) rfl rfl (HF5.out.1.alloc _) ⟨w5.heap.size, 0, none⟩ 1 1 (Bk.cells (⟨key2, seq2, del2, val2⟩, V2, n2, c2)) (Bk.cells_one _) rfl (rdc_new 4 w5 _ _ 1 rfl (0, 0)) (by omega) (by have := HF5.out.2.size; simp; omega) ?_; intro B6 cap6 w6 hg6)
          have HF := Lib.hid (laid_step2 (y := (⟨key2, seq2, del2, val2⟩, V2, n2, c2)) HF5.out hg6)
          clear hg6
          go_roundw
          case rel => exact ⟨k + 1, m + 1 + 1, B6, cap6, true, by omega, by omega, by go_num, rfl, rfl, Lib.hid (by rw [HP.out.1, List.length_append, List.length_append, ← HM.out]; rfl), Lib.hid HP.out.2, Lib.hid (by rw [HP.out.1, Bk.flat_snoc, Bk.flat_snoc, HYY.out, HXX.out]; exact HF.out.1), Lib.hid HF.out.2⟩
          case measure => simp [intOf]; omega
        · obtain ⟨p1, p2⟩ := Bk.part_later HY.out HSt.out hl
          have HP := Lib.hid (And.intro p1 p2)
          clear p1 p2
          rw [decide_eq_false hl] at Ah2
          clear hl
          have q := HCl.out _ HW.out
          go_wp2_with fail
          have HBd := Lib.hid (show Below wr.heap.size wr wr.drew from (Below.refl _ _).drew)
          refine region_class (fun u => Below wr.heap.size wr u) (by kernel_rfl) (by kernel_rfl) HBd.out ?_
          repeat (go_big_quiet_step ((first | (intro _; with_reducible rfl) | (intro hq; exact calls_class hq (Ah2.out _)) | (intro hq; obtain ⟨e0, e1, e2, e3, e4, e5, e6, e7⟩ := HCl.out _ (below_next HW.out hq); simp [e0, e1, e2, e3, e4, e5, e6, e7, Result.andThen]; with_reducible rfl))))
          refine wpQuiet_nil ?_
          intro v9 hv9
          clear q
          have HV := Lib.hid (below_next HW.out hv9)
          have q := HCl.out _ HV.out
          have HO9 := Lib.hid (HO.out.below hv9)
          clear hv9
          go_wp2_with (at_builtin; refine wpList_appC manyE rfl (.tmp 28) (.tmp 33) rfl rfl (HO9.out.alloc _) ⟨v9.heap.size, 0, none⟩ 1 1 (Bk.cells (⟨key2, seq2, del2, val2⟩, V2, n2, c2)) (Bk.cells_one _) rfl (rdc_new 4 v9 _ _ 1 rfl (0, 0)) (by omega) (by have := HV.out.size; simp; omega) ?_; intro B6 cap6 w6 hg6)
          have HF := Lib.hid (laid_step (y := (⟨key2, seq2, del2, val2⟩, V2, n2, c2)) HB.out.size HV.out HO9.out hg6)
          clear hg6
          go_roundw
          case rel => exact ⟨k + 1, m + 1, B6, cap6, false, by omega, by omega, by go_num, rfl, rfl, Lib.hid (by rw [HP.out.1, List.length_append, ← HM.out]; rfl), Lib.hid HP.out.2, Lib.hid (by rw [HP.out.1, Bk.flat_snoc, HYY.out]; exact HF.out.1), Lib.hid HF.out.2⟩
          case measure => simp [intOf]; omega
    · have hkn : k = n := by omega
      subst hkn
      have htk : es.take k = es := by rw [List.take_of_length_le (by rw [HL.out]; omega)]
      have hnk : ¬ (k : Int) < (k : Int) := by omega
      clear hlt
      have z0 := (HW.out.cell (p := ⟨w.heap.size, 0, none⟩) HZ.out.1).trans (HZ.out.2.1 0 _ rfl)
      have z1 := (HW.out.cell (p := ⟨w.heap.size, 1, none⟩) HZ.out.1).trans (HZ.out.2.1 1 _ rfl)
      have z2 := (HW.out.cell (p := ⟨w.heap.size, 2, none⟩) HZ.out.1).trans (HZ.out.2.1 2 _ rfl)
      have z3 := (HW.out.cell (p := ⟨w.heap.size, 3, none⟩) HZ.out.1).trans (HZ.out.2.1 3 _ rfl)
      have HWw := Lib.hid (HB.out.trans (HW.out.mono HB.out.size))
      cases dd with
      | true =>
        have HE := Lib.hid (show m = (Bk.laid xx es).length ∧ OwnC 4 wr w.heap.size 24 B m cap (Bk.flat (Bk.laid xx es)) from by
          have h1 := HM.out
          have h2 := HO.out.base_ HB.out.size
          unfold Bk.part at h1 h2
          rw [htk, if_pos rfl] at h1 h2
          exact ⟨h1, h2⟩)
        clear HM HO htk
        go_wp2
        go_ret
        obtain ⟨h1, h2⟩ := HE.out
        subst h1
        exact ⟨B, cap, rfl, h2.fits, h2, HWw.out⟩
      | false =>
        have HE := Lib.hid (show m + 1 = (Bk.laid xx es).length ∧ Bk.laid xx es = es ++ [xx] ∧ OwnC 4 wr v.heap.size 24 B m cap (Bk.flat es) from by
          have h1 := HM.out
          have h2 := HO.out
          have h3 := HSt.out
          unfold Bk.part at h1 h2
          unfold Bk.state at h3
          simp only [Bool.false_eq_true, if_false, htk] at h1 h2 h3
          have h4 := Bk.laid_none h3
          exact ⟨by rw [h4, h1, List.length_append]; rfl, h4, h2⟩)
        clear HM HO htk
        have hsz := HW.out.size
        go_wp2_with (at_builtin; refine wpList_appC manyE rfl (.tmp 37) (.tmp 39) rfl rfl (HE.out.2.2.alloc _) ⟨wr.heap.size, 0, none⟩ 1 1 (Bk.cells (⟨key, seq, del, val⟩, V, vn, vc)) (Bk.cells_one _) rfl (rdc_new 4 wr _ _ 1 rfl (0, 0)) (by omega) (by simp; omega) ?_; intro B6 cap6 w6 hg6)
        have HF := Lib.hid (laid_step (y := (⟨key, seq, del, val⟩, V, vn, vc)) HB.out.size HW.out HE.out.2.2 hg6)
        clear hg6
        go_ret
        have h4 : OwnC 4 w6 w.heap.size 24 B6 (m + 1) cap6 (Bk.flat (Bk.laid xx es)) := by
          rw [HE.out.2.1, Bk.flat_snoc, HXX.out]
          exact HF.out.1.base_ HB.out.size
        have h1 := HE.out.1
        rw [h1] at h4 ⊢
        exact ⟨B6, cap6, rfl, h4.fits, h4, HB.out.trans (HF.out.2.mono HB.out.size)⟩
end Go.Proofs.Ytfmbnoafmnbhcaa
