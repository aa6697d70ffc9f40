/- The law's put: all of some entries, into both. -/
import Derived.Test.YtfmbnoafmnbhcaaMmTwin
import Derived.Test.YtfmbnoafmnbhcaaMmFewN
import Derived.Deep.RegionHeld3
import Derived.Deep.DeepCutAuto
namespace Go.Proofs.Ytfmbnoafmnbhcaa
open Go.RowKit
theorem Bk.IsT.mono {S T : Nat → Prop} (hST : ∀ k, S k → T k) {w : World} : ∀ {p : Option Addr} {t : Bk.Tr}, Bk.IsT T w p t → Bk.IsT S w p t
  | _, .leaf, h => h
  | _, .node _ _ _, ⟨b, pl, pr, hp, hb, hn, hc, hx, hl, hr⟩ => ⟨b, pl, pr, hp, hb, fun e => hn (hST _ e), hc, ⟨hx.1, fun h0 g o e hs => hx.2 h0 g o e (hST _ hs)⟩, IsT.mono hST hl, IsT.mono hST hr⟩
theorem RdS.mono {S T : Nat → Prop} (hST : ∀ k, S k → T k) {w : World} {A : Option Addr} {n : Nat} {es : List Bk.P} (h : RdS T w A n es) : RdS S w A n es :=
  ⟨h.rd, fun h0 g o e hs => h.av h0 g o e (hST _ hs), fun q hq h0 g o e hs => h.vals q hq h0 g o e (hST _ hs)⟩
/-- More blocks that came later. -/
theorem Av.later {S T : Nat → Prop} {w : World} {A : Option Addr} {n : Nat} {l : List Nat} (hr : Rd w A n l) (h : Av S A n) (hT : ∀ k, T k → S k ∨ w.heap.size ≤ k) : Av T A n := fun h0 g o e hs => by
  rcases hT g hs with h1 | h1
  · exact h h0 g o e h1
  · obtain ⟨b', o', e', hb', _⟩ := hr.2.2 h0
    rw [e] at e'
    injection e' with e'
    injection e' with e'
    omega
theorem RdS.later {S T : Nat → Prop} {w : World} {A : Option Addr} {n : Nat} {es : List Bk.P} (h : RdS S w A n es) (hT : ∀ k, T k → S k ∨ w.heap.size ≤ k) : RdS T w A n es :=
  ⟨h.rd, fun h0 g o e hs => by
    rcases hT g hs with h1 | h1
    · exact h.av h0 g o e h1
    · obtain ⟨b', o', e', hb', _⟩ := h.rd.2.1.2 h0
      rw [e] at e'
      injection e' with e'
      injection e' with e'
      omega, fun q hq => Av.later (h.rd.2.2 q hq).1 (h.vals q hq) hT⟩
theorem Bk.IsT.later {S T : Nat → Prop} {w : World} (hT : ∀ k, T k → S k ∨ w.heap.size ≤ k) : ∀ {p : Option Addr} {t : Bk.Tr}, Bk.IsT S w p t → Bk.IsT T w p t
  | _, .leaf, h => h
  | _, .node _ _ _, ⟨b, pl, pr, hp, hb, hn, hc, hx, hl, hr⟩ => ⟨b, pl, pr, hp, hb, fun e => (hT _ e).elim hn (fun e => by omega), hc, ⟨hx.1, Av.later hx.1.1 hx.2 hT⟩, IsT.later hT hl, IsT.later hT hr⟩
theorem Tw.mono {S T : Nat → Prop} {w : World} {m : Nat} {t : Bk.Tr} {top : Int} {A : Option Addr} {es : List Bk.P} {k : Nat} (h : Tw T w m t top A es k) (hST : ∀ k, S k → T k) (hm : S m) : Tw S w m t top A es k := by
  obtain ⟨p, h1, h2, _⟩ := h.mem
  exact ⟨⟨p, h1, h2.mono hST, hm⟩, h.row.mono hST, h.same, h.inv, h.few, h.low⟩
/-- A store into one of the blocks that they avoid. -/
theorem Tw.set {S : Nat → Prop} {w : World} {m : Nat} {t : Bk.Tr} {top : Int} {A : Option Addr} {es : List Bk.P} {k : Nat} (h : Tw S w m t top A es k) (b i : Nat) (v : Value) (hb : S b) (hne : m ≠ b) : Tw S (w.setCell ⟨b, i, none⟩ v) m t top A es k := by
  obtain ⟨p, h1, h2, h3⟩ := h.mem
  have hs : Sm S w (w.setCell ⟨b, i, none⟩ v) := Sm.of_grown (grown_setCell w ⟨b, i, none⟩ v) hb
  exact ⟨⟨p, h1.other hne, h2.sm hs, h3⟩, h.row.sm hs, h.same, h.inv, h.few, h.low⟩
/-- An entry of a row, at its place. -/
theorem RdS.cells {S : Nat → Prop} {w : World} {A : Option Addr} {n k : Nat} {es : List Bk.P} {y : Bk.P} (h : RdS S w A n es) (hy : es[k]? = some y) : ∃ b o, A = some ⟨b, o, none⟩ ∧ b < w.heap.size ∧ ¬ S b ∧ (w.cell? ⟨b, o + k * 4, none⟩ = some (.string y.1.key) ∧ w.cell? ⟨b, o + k * 4 + 1, none⟩ = some (.int .i64 y.1.seq) ∧ w.cell? ⟨b, o + k * 4 + 2, none⟩ = some (.bool y.1.del) ∧ w.cell? ⟨b, o + k * 4 + 3, none⟩ = some (.slice y.2.1 y.2.2.1 y.2.2.2)) ∧ Bk.AtS S w y := by
  obtain ⟨b, o, hA, hb, hc⟩ := h.rd.at_ hy
  have hk : k < n := by rw [← h.rd.1]; exact (List.getElem?_eq_some_iff.1 hy).1
  exact ⟨b, o, hA, hb, h.av (by omega) b o hA, ⟨hc 0 _ rfl, hc 1 _ rfl, hc 2 _ rfl, hc 3 _ rfl⟩, h.rd.2.2 y (List.mem_of_getElem? hy), h.vals y (List.mem_of_getElem? hy)⟩
/-- What the law's put hands back. -/
def GivesLPut (S : Nat → Prop) (w : World) (m : Nat) (e : Ending) (w' : World) : Prop :=
  ∃ (A : Option Addr) (c : Nat) (es : List Bk.P) (T : Bk.Tr) (top : Int), e = .returned (.tuple #[.agg #[.slice A es.length c, .int .i64 top], .bool true]) ∧ Tw S w' m T top A es 80 ∧ w.grownBy w' (some m)
/-- What is known of the document's Put's result where it lies in a box. -/
structure InBox (S : Nat → Prop) (w5 W : World) (g : Nat) (A : Option Addr) (c : Nat) (es es' : List Bk.P) (top rtop : Int) (x : Bk.P) : Prop where
  box : Holds W g [.slice A es'.length c, .int .i64 rtop]
  row : RdS S W A es'.length es'
  below : Below w5.heap.size w5 W
  no : Bk.rputE es top x ≠ 0 → es' = es ∧ rtop = top
  yes : Bk.rputE es top x = 0 → es' = Bk.laid x es ∧ rtop = x.1.seq
  new : w5.heap.size ≤ g
theorem inbox_two {S : Nat → Prop} {w5 u W : World} {A : Option Addr} {c : Nat} {es es' : List Bk.P} {top rtop : Int} {x : Bk.P} {z0 z1 : Value} {g : Nat} (hu : Below w5.heap.size w5 u) (hW : Below u.heap.size u W) (_hS : ∀ k, S k → k < w5.heap.size) (hb : Holds W g [z0, z1]) (hg : w5.heap.size ≤ g) (hR : RdS S W A es'.length es') (hav : Av (fun k => k = g) A es'.length ∧ ∀ q ∈ es', Av (fun k => k = g) q.2.1 q.2.2.1)
    (hno : Bk.rputE es top x ≠ 0 → es' = es ∧ rtop = top) (hyes : Bk.rputE es top x = 0 → es' = Bk.laid x es ∧ rtop = x.1.seq) :
    InBox S w5 ((W.setCell ⟨g, 0, none⟩ (.slice A es'.length c)).setCell ⟨g, 1, none⟩ (.int .i64 rtop)) g A c es es' top rtop x := by
  have hR2 : RdS (fun k => k = g) W A es'.length es' := ⟨hR.rd, hav.1, hav.2⟩
  have hs : Sm (fun k => k = g) W ((W.setCell ⟨g, 0, none⟩ (.slice A es'.length c)).setCell ⟨g, 1, none⟩ (.int .i64 rtop)) := (Sm.of_grown (S := fun k => k = g) (grown_setCell W ⟨g, 0, none⟩ _) rfl).trans (Sm.of_grown (S := fun k => k = g) (grown_setCell _ ⟨g, 1, none⟩ _) rfl)
  exact ⟨hb.set2 _ _, ⟨(hR2.sm hs).rd, hR.av, hR.vals⟩, below_set (below_set (below_next hu hW) _ _ hg) _ _ hg, hno, hyes, hg⟩
theorem lput_cells {w5 u : World} {b6 : Nat} {z0 z1 : Value} {bx ox k : Nat} {y0 y1 y2 y3 : Value} (hB : Holds w5 b6 [z0, z1]) (hc : w5.cell? ⟨bx, ox + k * 4, none⟩ = some y0 ∧ w5.cell? ⟨bx, ox + k * 4 + 1, none⟩ = some y1 ∧ w5.cell? ⟨bx, ox + k * 4 + 2, none⟩ = some y2 ∧ w5.cell? ⟨bx, ox + k * 4 + 3, none⟩ = some y3) (hb : bx < w5.heap.size) (hu : Below w5.heap.size w5 u) :
    u.cell? ⟨b6, 0, none⟩ = some z0 ∧ u.cell? ⟨b6, 1, none⟩ = some z1 ∧ u.cell? ⟨bx, ox + k * 4, none⟩ = some y0 ∧ u.cell? ⟨bx, ox + k * 4 + 1, none⟩ = some y1 ∧ u.cell? ⟨bx, ox + k * 4 + 2, none⟩ = some y2 ∧ u.cell? ⟨bx, ox + k * 4 + 3, none⟩ = some y3 :=
  ⟨(hu.cell (p := ⟨b6, 0, none⟩) hB.1).trans (hB.2.1 0 _ rfl), (hu.cell (p := ⟨b6, 1, none⟩) hB.1).trans (hB.2.1 1 _ rfl), (hu.cell (p := ⟨bx, ox + k * 4, none⟩) hb).trans hc.1, (hu.cell (p := ⟨bx, ox + k * 4 + 1, none⟩) hb).trans hc.2.1, (hu.cell (p := ⟨bx, ox + k * 4 + 2, none⟩) hb).trans hc.2.2.1, (hu.cell (p := ⟨bx, ox + k * 4 + 3, none⟩) hb).trans hc.2.2.2⟩
theorem lput_keep {w5 u : World} {b6 : Nat} {z0 z1 : Value} {bx ox k : Nat} {y0 y1 y2 y3 : Value} (h : u.cell? ⟨b6, 0, none⟩ = some z0 ∧ u.cell? ⟨b6, 1, none⟩ = some z1 ∧ u.cell? ⟨bx, ox + k * 4, none⟩ = some y0 ∧ u.cell? ⟨bx, ox + k * 4 + 1, none⟩ = some y1 ∧ u.cell? ⟨bx, ox + k * 4 + 2, none⟩ = some y2 ∧ u.cell? ⟨bx, ox + k * 4 + 3, none⟩ = some y3) (hB : b6 < w5.heap.size) (hb : bx < w5.heap.size) (u0 u1 : Value) :
    ((u.setCell ⟨w5.heap.size, 0, none⟩ u0).setCell ⟨w5.heap.size, 1, none⟩ u1).cell? ⟨b6, 0, none⟩ = some z0 ∧ ((u.setCell ⟨w5.heap.size, 0, none⟩ u0).setCell ⟨w5.heap.size, 1, none⟩ u1).cell? ⟨b6, 1, none⟩ = some z1 ∧ ((u.setCell ⟨w5.heap.size, 0, none⟩ u0).setCell ⟨w5.heap.size, 1, none⟩ u1).cell? ⟨bx, ox + k * 4, none⟩ = some y0 ∧ ((u.setCell ⟨w5.heap.size, 0, none⟩ u0).setCell ⟨w5.heap.size, 1, none⟩ u1).cell? ⟨bx, ox + k * 4 + 1, none⟩ = some y1 ∧ ((u.setCell ⟨w5.heap.size, 0, none⟩ u0).setCell ⟨w5.heap.size, 1, none⟩ u1).cell? ⟨bx, ox + k * 4 + 2, none⟩ = some y2 ∧ ((u.setCell ⟨w5.heap.size, 0, none⟩ u0).setCell ⟨w5.heap.size, 1, none⟩ u1).cell? ⟨bx, ox + k * 4 + 3, none⟩ = some y3 := by
  have e : ∀ (b i : Nat), b < w5.heap.size → ((u.setCell ⟨w5.heap.size, 0, none⟩ u0).setCell ⟨w5.heap.size, 1, none⟩ u1).cell? ⟨b, i, none⟩ = u.cell? ⟨b, i, none⟩ := fun b i h => by
    rw [World.cell?_setCell_other _ _ _ _ (fun e => by injection e with e _; omega), World.cell?_setCell_other _ _ _ _ (fun e => by injection e with e _; omega)]
  obtain ⟨h1, h2, h3, h4, h5, h6⟩ := h
  exact ⟨(e _ _ hB).trans h1, (e _ _ hB).trans h2, (e _ _ hb).trans h3, (e _ _ hb).trans h4, (e _ _ hb).trans h5, (e _ _ hb).trans h6⟩
theorem grown_set {w u : World} {m b : Nat} (h : w.grownBy u (some m)) (hb : w.heap.size ≤ b) (i : Nat) (v : Value) : w.grownBy (u.setCell ⟨b, i, none⟩ v) (some m) :=
  ⟨h.os, h.tape, h.output, by simpa [World.setCell] using h.size, fun k hk hne => (Below.heap_setCell _ _ _ _ (fun e => by have e : k = b := e; omega)).trans (h.block k hk hne)⟩
theorem av_new {S : Nat → Prop} {w : World} {A : Option Addr} {n g : Nat} {es : List Bk.P} (h : RdS S w A n es) (hg : w.heap.size ≤ g) : Av (fun k => k = g) A n ∧ ∀ q ∈ es, Av (fun k => k = g) q.2.1 q.2.2.1 :=
  have h2 : RdS (fun k => k = g) w A n es := (RdS.mono (S := fun _ => False) (fun _ e => e.elim) h).later (fun k e => .inr (by rw [e]; exact hg))
  ⟨h2.av, h2.vals⟩
set_option maxRecDepth 100000 in
set_option maxHeartbeats 8000000 in
theorem lput_any (S : Nat → Prop) (m : Nat) (B : Option Addr) (n cc : Nat) (xs : List Bk.P) (w : World) (hM : Bk.IsM S w m .leaf 0) (hS : ∀ k, S k → k < w.heap.size) (hr : RdS S w B n xs) (hn : n ≤ 80) :
    Calls Try.prog 16 #[.pointer (some ⟨m, 0, none⟩), .slice B n cc] w (GivesLPut S w m) := by
  have hSm : S m := hM.choose_spec.2.2
  have hmlt := hS m hSm
  obtain ⟨U, hU⟩ : ∃ U : Nat → Prop, U = fun k => S k ∨ k = w.heap.size ∨ k = w.heap.size + 1 := ⟨_, rfl⟩
  have HUl := Lib.hid (show ∀ k, U k → S k ∨ w.heap.size ≤ k from fun k h => by
    have h : S k ∨ k = w.heap.size ∨ k = w.heap.size + 1 := by rw [hU] at h; exact h
    rcases h with h | h | h
    · exact .inl h
    · exact .inr (by omega)
    · exact .inr (by omega))
  have HUs := Lib.hid (show (∀ k, S k → U k) ∧ U w.heap.size ∧ U (w.heap.size + 1) ∧ (∀ k, U k → k < w.heap.size + 2) from by
    subst hU
    exact ⟨fun k h => .inl h, .inr (.inl rfl), .inr (.inr rfl), fun k h => by rcases h with h | h | h
                                                                              · have := hS k h; omega
                                                                              · omega
                                                                              · omega⟩)
  clear hU
  have HR := Lib.hid (hr.later HUl.out)
  have HL := Lib.hid hr.rd.1
  have HSm := Lib.hid hSm
  have HM0 := Lib.hid hM
  clear hM hS hr hSm
  have HB := Lib.hid (show Below w.heap.size w ((w.alloc (.cells #[Value.slice none 0 0, .int .i64 0] 34)).alloc (.cells #[Value.slice none 0 0, .int .i64 0] 34)) from ((Below.refl _ _).alloc (Nat.le_refl _) _).alloc (by simp) _)
  have HZ := Lib.hid (show Holds ((w.alloc (.cells #[Value.slice none 0 0, .int .i64 0] 34)).alloc (.cells #[Value.slice none 0 0, .int .i64 0] 34)) w.heap.size [.slice none 0 0, .int .i64 0] ∧ Holds ((w.alloc (.cells #[Value.slice none 0 0, .int .i64 0] 34)).alloc (.cells #[Value.slice none 0 0, .int .i64 0] 34)) (w.heap.size + 1) [.slice none 0 0, .int .i64 0] by
    have h1 := Holds.new w #[Value.slice none 0 0, .int .i64 0] 34
    have h2 := Holds.new (w.alloc (.cells #[Value.slice none 0 0, .int .i64 0] 34)) #[Value.slice none 0 0, .int .i64 0] 34
    rw [World.size_alloc] at h2
    exact ⟨h1.alloc _, h2⟩)
  go_enter Try.func16, Try.ntmps16
  go_wp2_with fail
  generalize (w.alloc (.cells #[Value.slice none 0 0, .int .i64 0] 34)).alloc (.cells #[Value.slice none 0 0, .int .i64 0] 34) = v at HB HZ ⊢
  have HSz := Lib.hid (show w.heap.size + 1 < v.heap.size from HZ.out.2.1)
  go_loopw [7] (fun ii wr => ∃ (k : Nat) (A : Option Addr) (c : Nat) (es : List Bk.P) (T : Bk.Tr) (top : Int), k ≤ n ∧ ii = .int .i64 (k : Int) ∧ Hid (Tw U wr m T top A es k) ∧ Hid (Holds wr (w.heap.size + 1) [.slice A es.length c, .int .i64 top] ∧ Holds wr w.heap.size [.slice none 0 0, .int .i64 0] ∧ w.grownBy wr (some m) ∧ w.heap.size + 2 ≤ wr.heap.size)) (fun ii _ => n - (intOf ii).toNat)
  case atStart =>
    refine ⟨0, none, 0, [], .leaf, 0, by omega, rfl, Lib.hid ⟨?_, ⟨⟨rfl, RdC.nil 4 _ _, (fun p hp => by cases hp)⟩, (fun h0 => by cases h0), (fun q hq => by cases hq)⟩, rfl, Bk.inv_leaf, Nat.le_refl 0, Nat.le_refl 0⟩, Lib.hid ⟨HZ.out.2, HZ.out.1, grown_any HB.out _, by have := HSz.out; omega⟩⟩
    obtain ⟨p, h1, h2, h3⟩ := HM0.out.below HB.out
    exact ⟨p, h1, h2, HUs.out.1 m h3⟩
  case round =>
    rename_i wr hrel
    obtain ⟨k, A, c, es, T, top, hk, rfl, HT, HW⟩ := hrel
    by_cases hlt : k < n
    · have hki : (k : Int) < (n : Int) := by omega
      obtain ⟨y, hy⟩ : ∃ y, xs[k]? = some y := ⟨_, List.getElem?_eq_getElem (by rw [HL.out]; omega)⟩
      have HXr := Lib.hid (HR.out.sm (Sm.of_grown HW.out.2.2.1 (HUs.out.1 m HSm.out)))
      obtain ⟨bx, ox, rfl, hblx, hnSx, hcx, hAtx⟩ := HXr.out.cells hy
      obtain ⟨c0, c1, c2', c3⟩ := hcx
      have HUr := Lib.hid (show ∀ k, U k → k < wr.heap.size from fun k h => by have := HUs.out.2.2.2 k h; have := HW.out.2.2.2; omega)
      have hlen := HT.out.len
      have hfew := HT.out.few
      have hlow := HT.out.low
      have hrs := T.row_size
      have Pt := Lib.hid (put_any U m T top y wr HT.out.mem HUr.out hAtx.1 (by omega) (by omega))
      have HAt := Lib.hid hAtx
      have HPE := Lib.hid (Bk.putE_eq HT.out.inv HT.out.same y)
      have HY := Lib.hid hy
      have hln : es.length ≤ 100000 := by omega
      clear hfew hlow hrs hlen hy hAtx
      have HLn := Lib.hid hln
      clear hln
      obtain ⟨⟨key, seq, del, val⟩, V, vn, vc⟩ := y
      obtain ⟨r, hr⟩ : ∃ r, r = Bk.rputE es top (⟨key, seq, del, val⟩, V, vn, vc) := ⟨_, rfl⟩
      have HRE := Lib.hid hr
      clear hr
      have Pt2 : Hid (Calls Try.prog 29 #[.pointer (some ⟨m, 0, none⟩), .agg #[.string key, .int .i64 seq, .bool del, .slice V vn vc]] wr fun e w' => e = .returned (.int .i64 r) ∧ ∃ T' top', Bk.IsM U w' m T' top' ∧ wr.grownBy w' (some m) ∧ (Bk.putE T top (⟨key, seq, del, val⟩, V, vn, vc) ≠ 0 → T' = T ∧ top' = top) ∧ (Bk.putE T top (⟨key, seq, del, val⟩, V, vn, vc) = 0 → ∃ V' c', T' = Bk.Tr.ins (⟨key, seq, del, val⟩, V', vn, c') T ∧ top' = seq)) := Lib.hid (by have h := Pt.out; unfold GivesPut at h; rw [HPE.out, ← HRE.out] at h; rw [HPE.out, ← HRE.out]; exact h)
      clear Pt
      go_upto_region 6 with (go_at_call 29; refine Pt2.out.mono ?_; rintro e w5 ⟨rfl, T', top', hM', hg', hno, hyes⟩)
      have HP := Lib.hid (And.intro hM' (And.intro hno hyes))
      have HG := Lib.hid hg'
      clear hM' hno hyes hg' c0 c1 c2' c3
      have HX5 := Lib.hid (HXr.out.sm (Sm.of_grown HG.out (HUs.out.1 m HSm.out)))
      have HR5 := Lib.hid (HT.out.row.sm (Sm.of_grown HG.out (HUs.out.1 m HSm.out)))
      have HA5 := Lib.hid (HAt.out.sm (Sm.of_grown HG.out (HUs.out.1 m HSm.out)))
      have HU5 := Lib.hid (fun k h => Nat.lt_of_lt_of_le (HUr.out k h) HG.out.size)
      have hmne1 : m ≠ w.heap.size + 1 := by omega
      have hmne0 : m ≠ w.heap.size := by omega
      have HBx := Lib.hid (And.intro (HW.out.1.grown HG.out (fun e => by injection e with e; omega)) (HW.out.2.1.grown HG.out (fun e => by injection e with e; omega)))
      have hcx5 := HX5.out.cells HY.out
      obtain ⟨b', o', hA', _, _, hc5, _⟩ := hcx5
      injection hA' with hA'
      injection hA' with e1 e2
      subst e1 e2
      have HC5 := Lib.hid hc5
      have Rp := Lib.hid (fun (u : World) (hu : Below w5.heap.size w5 u) => rput_any U A es.length c es top (⟨key, seq, del, val⟩, V, vn, vc) u (levelS HU5.out hu) (HR5.out.below hu) (HA5.out.sm (.of_below hu)) HLn.out)
      have Rp2 : Hid (∀ u, Below w5.heap.size w5 u → Calls Try.prog 30 #[.agg #[.slice A es.length c, .int .i64 top], .agg #[.string key, .int .i64 seq, .bool del, .slice V vn vc]] u (GivesRPut U u es top (⟨key, seq, del, val⟩, V, vn, vc))) := Lib.hid Rp.out
      clear Rp
      have Rp3 : Hid (Calls Try.prog 30 #[.agg #[.slice A es.length c, .int .i64 top], .agg #[.string key, .int .i64 seq, .bool del, .slice V vn vc]] (w5.alloc (.cells #[Value.slice none 0 0, .int .i64 0] 34)).drew (GivesRPut (fun k => U k ∨ k = w5.heap.size) (w5.alloc (.cells #[Value.slice none 0 0, .int .i64 0] 34)).drew es top (⟨key, seq, del, val⟩, V, vn, vc))) := Lib.hid (by
        have hD : Below w5.heap.size w5 (w5.alloc (.cells #[Value.slice none 0 0, .int .i64 0] 34)).drew := ((Below.refl _ _).alloc (Nat.le_refl _) _).drew
        have hT : ∀ k, (U k ∨ k = w5.heap.size) → U k ∨ w5.heap.size ≤ k := fun k h => h.imp id (fun e => by omega)
        exact rput_any (fun k => U k ∨ k = w5.heap.size) A es.length c es top (⟨key, seq, del, val⟩, V, vn, vc) _ (fun k h => h.elim (levelS HU5.out hD k) (fun e => by rw [e]; simp)) ((HR5.out.later hT).below hD) (Bk.AtS.sm ⟨HA5.out.1, Av.later HA5.out.1.1 HA5.out.2 hT⟩ (.of_below hD)) HLn.out)
      have HCl := Lib.hid (fun (u : World) (hu : Below w5.heap.size w5 u) => lput_cells HBx.out.1 HC5.out (Nat.lt_of_lt_of_le hblx HG.out.size) hu)
      have q := HCl.out _ (Below.refl _ _)
      have HD := Lib.hid (show Below w5.heap.size w5 w5.drew from (Below.refl _ _).drew)
      have HDa := Lib.hid (show Below w5.heap.size w5 (w5.alloc (.cells #[Value.slice none 0 0, .int .i64 0] 34)).drew from ((Below.refl _ _).alloc (Nat.le_refl _) _).drew)
      go_cut [9, 10] from 24 to 33 (fun t9 t10 W => ∃ (g9 : Nat) (A' : Option Addr) (c' : Nat) (es' : List Bk.P) (rtop : Int), t9 = .pointer (some ⟨g9, 0, none⟩) ∧ t10 = .int .i64 r ∧ Hid (InBox U w5 W g9 A' c' es es' top rtop (⟨key, seq, del, val⟩, V, vn, vc)))
      case first =>
        go_region_held3 (fun wx => wx.cell? ⟨w.heap.size + 1, 0, none⟩ = some (.slice A es.length c) ∧ wx.cell? ⟨w.heap.size + 1, 1, none⟩ = some (.int .i64 top) ∧ wx.cell? ⟨bx, ox + k * 4, none⟩ = some (.string key) ∧ wx.cell? ⟨bx, ox + k * 4 + 1, none⟩ = some (.int .i64 seq) ∧ wx.cell? ⟨bx, ox + k * 4 + 2, none⟩ = some (.bool del) ∧ wx.cell? ⟨bx, ox + k * 4 + 3, none⟩ = some (.slice V vn vc)) (first | exact q | exact HCl.out _ hb6 | exact HCl.out _ HDa.out | exact HCl.out _ (hb6.alloc hb6.size _) | exact HKs.out _ _) (first
          | (go_at_call 30; (with_reducible refine (Rp2.out _ HD.out).mono ?_); rintro e v6 ⟨A', c', es', rtop, he, hR', hb6', hno', hyes'⟩; rw [← HRE.out] at he; subst he; have hb6 := below_next HD.out hb6'; have HO := Lib.hid (And.intro hR' (And.intro hb6' (And.intro hno' hyes'))); clear hR' hb6' hno' hyes')
          | (go_at_call 30; (with_reducible refine Rp3.out.mono ?_); rintro e v6 ⟨A', c', es', rtop, he, hR', hb6', hno', hyes'⟩; rw [← HRE.out] at he; subst he; have hb6 := below_next HDa.out hb6'; have HN6 := Lib.hid ((Holds.new w5 #[Value.slice none 0 0, .int .i64 0] 34).drew.below hb6'); have n0 := HN6.out.2.1 0 _ rfl; have n1 := HN6.out.2.1 1 _ rfl; have nf := HN6.out.2.2; have HKs := Lib.hid (fun (u0 u1 : Value) => lput_keep (HCl.out _ hb6) HBx.out.1.1 (Nat.lt_of_lt_of_le hblx HG.out.size) u0 u1); have HO := Lib.hid (And.intro hR' (And.intro hb6' (And.intro hno' hyes'))); clear hR' hb6' hno' hyes'))
        · go_wp2_with fail
          go_meet
          case rel =>
            have ha := (Below.refl v6.heap.size v6).alloc (Nat.le_refl _) (.cells #[Value.slice A' es'.length c', .int .i64 rtop] 34)
            exact ⟨v6.heap.size, A', c', es', rtop, rfl, rfl, Lib.hid ⟨Holds.new v6 #[Value.slice A' es'.length c', .int .i64 rtop] 34, HO.out.1.below ha, below_next hb6 ha, HO.out.2.2.1, HO.out.2.2.2, hb6.size⟩⟩
        · go_wp2_with fail
          go_meet
          case rel =>
            exact ⟨w5.heap.size, A', c', es', rtop, rfl, rfl, Lib.hid (inbox_two HDa.out HO.out.2.1 HU5.out HN6.out (Nat.le_refl _) (HO.out.1.mono (fun k h => .inl h)) ⟨(HO.out.1.mono (S := fun k => k = w5.heap.size) (fun k h => .inr h)).av, (HO.out.1.mono (S := fun k => k = w5.heap.size) (fun k h => .inr h)).vals⟩ HO.out.2.2.1 HO.out.2.2.2)⟩
      case rest =>
        obtain ⟨g9, A', c', es', rtop, rfl, rfl, HI⟩ := hcut
        have HTn := Lib.hid (HT.out.put HAt.out.1 HP.out.1 HP.out.2.1 HP.out.2.2 HI.out.row HI.out.below HI.out.no HI.out.yes)
        have HB6 := Lib.hid (HBx.out.1.below HI.out.below)
        have HB4 := Lib.hid (HBx.out.2.below HI.out.below)
        have p0 := HI.out.box.2.1 0 _ rfl
        have p1 := HI.out.box.2.1 1 _ rfl
        have s0 := HB6.out.2.1 0 _ rfl
        have s1 := HB6.out.2.1 1 _ rfl
        have sf := HB6.out.2.2
        have HGw := Lib.hid (grown_trans (grown_trans HW.out.2.2.1 HG.out) (grown_any HI.out.below (some m)))
        have HSw := Lib.hid (show w.heap.size + 2 ≤ wc.heap.size by have a1 := HW.out.2.2.2; have a2 := HG.out.size; have a3 := HI.out.below.size; omega)
        clear q
        go_wp2
        go_roundw
        case rel => exact ⟨k + 1, A', c', es', T', top', by omega, by go_num, Lib.hid ((HTn.out.1.set _ 0 _ HUs.out.2.2.1 hmne1).set _ 1 _ HUs.out.2.2.1 hmne1), Lib.hid ⟨by have h := HB6.out.set2 (.slice A' es'.length c') (.int .i64 rtop); rw [HTn.out.2] at h ⊢; exact h, (HB4.out.other (by omega)).other (by omega), grown_set (grown_set HGw.out (by omega) _ _) (by omega) _ _, by simpa [World.setCell] using HSw.out⟩⟩
        case measure => simp [intOf]; omega
    · have hkn : k = n := by omega
      subst hkn
      have hnk : ¬ (k : Int) < (k : Int) := by omega
      clear hlt
      have p0 := HW.out.1.2.1 0 _ rfl
      have p1 := HW.out.1.2.1 1 _ rfl
      have s0 := HW.out.2.1.2.1 0 _ rfl
      have s1 := HW.out.2.1.2.1 1 _ rfl
      have sf := HW.out.2.1.2.2
      go_wp2
      have hmne0 : m ≠ w.heap.size := by omega
      have HE := Lib.hid (HW.out.2.1.set2 (.slice A es.length c) (.int .i64 top))
      have HTe := Lib.hid (((HT.out.set _ 0 (.slice A es.length c) HUs.out.2.1 hmne0).set _ 1 (.int .i64 top) HUs.out.2.1 hmne0))
      have HGe := Lib.hid (grown_set (grown_set (b := w.heap.size) HW.out.2.2.1 (Nat.le_refl _) 0 (.slice A es.length c)) (Nat.le_refl _) 1 (.int .i64 top))
      clear p0 p1 s0 s1 sf
      generalize ((wr.setCell ⟨w.heap.size, 0, none⟩ (.slice A es.length c)).setCell ⟨w.heap.size, 1, none⟩ (.int .i64 top)) = u at HE HTe HGe ⊢
      have t0 := HE.out.2.1 0 _ rfl
      have t1 := HE.out.2.1 1 _ rfl
      refine bodyPost_ret (v := .tuple #[.agg #[.slice A es.length c, .int .i64 top], .bool true]) (by simp [results, Try.results16, go_sem, t0, t1]) rfl ⟨A, c, es, T, top, rfl, (HTe.out.mono HUs.out.1 HSm.out).more (by omega), HGe.out⟩
end Go.Proofs.Ytfmbnoafmnbhcaa
