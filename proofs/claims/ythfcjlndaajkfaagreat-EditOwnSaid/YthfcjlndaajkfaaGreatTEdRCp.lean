/- The document's do: an edit of kind 4. The document's Copy: a version in memory of its own. -/
import Derived.Test.YthfcjlndaajkfaaGreatTEdRC0
namespace Go.Proofs.YthfcjlndaajkfaaGreat
open Go.RowKit
set_option linter.unusedVariables false
set_option linter.unusedSimpArgs false
theorem Ed.do1_4 {v : Ed.Ve} {e : Ed.Et} (h : e.kd = 4) : Ed.do1 v e = match Ed.find (v.ls.map (·.p.id)) e.id with | none => none | some k => match v.ls[k]? with | none => none | some l => if l.se = -1 then some { v with ls := v.ls.set k ⟨l.p, e.n⟩ } else none := by unfold Ed.do1; rw [if_neg (by omega), if_neg (by omega), if_neg (by omega), if_pos h]; rfl
theorem grown_past {w u z : World} {row : Option Nat} {b : Nat} (h : w.grownBy u row) (h2 : u.grownBy z (some b)) (hb : w.heap.size ≤ b) : w.grownBy z row :=
  ⟨h2.os.trans h.os, h2.tape.trans h.tape, h2.output.trans h.output, Nat.le_trans h.size h2.size, fun k hk hne => (h2.block k (Nat.lt_of_lt_of_le hk h.size) (fun e => by injection e with e; omega)).trans (h.block k hk hne)⟩
theorem OwnC.addr_ {s : Nat} {W : World} {base n cap : Nat} {E : TypeId} {A : Option Addr} {vs : List Value} (h : OwnC s W base E A n cap vs) (hn : 0 < n) : ∃ g, A = some ⟨g, 0, none⟩ := by
  rcases h.2 with ⟨hv, h0⟩ | ⟨g, c, cur, hv, _⟩
  · injection hv with _ h2 _; omega
  · injection hv with h1 _ _; exact ⟨g, h1⟩
/-- A log's seal is written. -/
theorem StR.seal {w : World} {base g n c m d k : Nat} {B : Option Addr} {L : List (Ed.Lg × List (Int × Int))} {M : List (Pk.Tb × List (Int × Int))} {x : Int} {y : Ed.Lg × List (Int × Int)} (h : StR w base (some ⟨g, 0, none⟩) n c L B m d M) (hy : L[k]? = some y) (hx : -9223372036854775808 ≤ x ∧ x ≤ 9223372036854775807) :
    StR (w.setCell ⟨g, k * 4 + 3, none⟩ (.int .i64 x)) base (some ⟨g, 0, none⟩) n c (L.set k (⟨y.1.id, y.1.ep, y.1.P, y.1.pn, y.1.pc, x⟩, y.2)) B m d M := by
  have hmem : ∀ z ∈ L.set k (⟨y.1.id, y.1.ep, y.1.P, y.1.pn, y.1.pc, x⟩, y.2), z ∈ L ∨ z = (⟨y.1.id, y.1.ep, y.1.P, y.1.pn, y.1.pc, x⟩, y.2) := fun z hz => List.mem_or_eq_of_mem_set hz
  have hyL : y ∈ L := List.mem_of_getElem? hy
  refine ⟨by rw [List.length_set]; exact h.ll, ?_, fun z hz => ?_, fun z hz => ?_, h.tl, ?_, fun z hz => ⟨(h.tp z hz).1, (h.tp z hz).2.setOff (fun hn e => h.to_ z hz hn g e rfl)⟩, h.to_, h.ab⟩
  · have h1 := (h.la.set1 (k * 4 + 3) (.int .i64 x)).1
    unfold Ed.lflat at h1 ⊢
    rw [Ed.flat_set (f := Ed.Lg.cells) (s := 4) (fun _ => rfl) (by omega) (x := y.1) (x' := ⟨y.1.id, y.1.ep, y.1.P, y.1.pn, y.1.pc, x⟩) (by rw [List.getElem?_map, hy]; rfl) rfl] at h1
    rw [List.map_set]
    exact h1
  · rcases hmem z hz with hz | rfl
    · exact ⟨(h.lp z hz).1, (h.lp z hz).2.setOff (fun hn e => h.lo z hz hn g e rfl)⟩
    · exact ⟨⟨(h.lp y hyL).1.1, hx⟩, (h.lp y hyL).2.setOff (fun hn e => h.lo y hyL hn g e rfl)⟩
  · rcases hmem z hz with hz | rfl
    · exact h.lo z hz
    · exact h.lo y hyL
  · exact h.ta.grown (grown_cell w g (k * 4 + 3) (.int .i64 x)) (.inr fun q hq e => by injection hq with hq; subst hq; rw [ownBlock_eq] at e; exact h.ab g rfl e)
theorem StR.past4 {w : World} {base b n c m d : Nat} {A B : Option Addr} {L L0 : List (Ed.Lg × List (Int × Int))} {M : List (Pk.Tb × List (Int × Int))} {x y z u : Value} (h : StR w base A n c L B m d M) (hb : base ≤ b) (hA : ∀ q, blkOf A = some q → q < b) (hB : ∀ q, blkOf B = some q → q < b)
    (hL : ∀ y ∈ L0, 0 < y.1.pn → ∀ q, blkOf y.1.P = some q → q < b) (hM : ∀ y ∈ M, 0 < y.1.pn → ∀ q, blkOf y.1.P = some q → q < b) (hLL : ∀ y ∈ L, ∃ y0 ∈ L0, y0.1.P = y.1.P ∧ y0.1.pn = y.1.pn) : StR ((((w.setCell ⟨b, 0, none⟩ x).setCell ⟨b, 1, none⟩ y).setCell ⟨b, 2, none⟩ z).setCell ⟨b, 3, none⟩ u) base A n c L B m d M := by
  have ho : ∀ {P : Option Addr} {pn pc : Nat} {ps : List (Int × Int)}, PairsOk w P pn pc ps → (0 < pn → ∀ q, blkOf P = some q → q < b) → PairsOk ((((w.setCell ⟨b, 0, none⟩ x).setCell ⟨b, 1, none⟩ y).setCell ⟨b, 2, none⟩ z).setCell ⟨b, 3, none⟩ u) P pn pc ps := fun hp hq =>
    (((hp.setOff (fun hn e => by have := hq hn b e; omega)).setOff (fun hn e => by have := hq hn b e; omega)).setOff (fun hn e => by have := hq hn b e; omega)).setOff (fun hn e => by have := hq hn b e; omega)
  have hr : ∀ {s : Nat} {E : TypeId} {A : Option Addr} {n c : Nat} {vs : List Value}, OwnC s w base E A n c vs → (∀ q, blkOf A = some q → q < b) → OwnC s ((((w.setCell ⟨b, 0, none⟩ x).setCell ⟨b, 1, none⟩ y).setCell ⟨b, 2, none⟩ z).setCell ⟨b, 3, none⟩ u) base E A n c vs := fun ho hq => ho.grown (grown4 w b x y z u) (.inr fun q h e => by injection h with h; subst h; rw [ownBlock_eq] at e; have := hq _ e; omega)
  exact ⟨h.ll, hr h.la hA, fun y hy => ⟨(h.lp y hy).1, ho (h.lp y hy).2 (fun hn q hq => by obtain ⟨y0, hy0, e1, e2⟩ := hLL y hy; exact hL y0 hy0 (by omega) q (by rw [e1]; exact hq))⟩, h.lo, h.tl, hr h.ta hB, fun y hy => ⟨(h.tp y hy).1, ho (h.tp y hy).2 (hM y hy)⟩, h.to_, h.ab⟩
set_option maxRecDepth 100000 in
set_option maxHeartbeats 32000000 in
theorem rdo4_any (nx sq : Int) (A : Option Addr) (n c : Nat) (B : Option Addr) (m d : Nat) (L : List (Ed.Lg × List (Int × Int))) (M : List (Pk.Tb × List (Int × Int))) (x : Ed.Ex) (w : World) {base : Nat} (hS : StR w base A n c L B m d M) (hbw : base ≤ w.heap.size) (hx : Ed.ExOk w x) (ho : (Ed.etOf x).ok = true) (hk : (Ed.etOf x).kd = 4) (hn : n ≤ 100000) (hm : m ≤ 100000) :
    Calls Tryz.prog 50 #[.agg #[.int .i64 nx, .int .i64 sq, .slice A n c, .slice B m d], .agg x.1.cells.toArray] w (GivesRDo w base A L B M x.1.P x.1.pn x.1.t.P x.1.t.pn (Ed.do1 ⟨nx, sq, L.map Ed.loOf, M.map Ed.taOf⟩ (Ed.etOf x))) := by
  obtain ⟨⟨kd, id, nn, pid, pep, P, pn, pc, ⟨tid, tep, Q, qn, qc, sz, lv, ct, lo, hi, tp⟩⟩, ps, qs⟩ := x
  have hk : kd = 4 := hk
  subst hk
  have HO := hd_ ho
  have HEx := hd_ hx
  have HS := hd_ hS
  have HW := hd_ hbw
  obtain ⟨r, hr⟩ : ∃ r, r = Ed.do1 ⟨nx, sq, L.map Ed.loOf, M.map Ed.taOf⟩ (Ed.etOf (⟨4, id, nn, pid, pep, P, pn, pc, ⟨tid, tep, Q, qn, qc, sz, lv, ct, lo, hi, tp⟩⟩, (ps, qs))) := ⟨_, rfl⟩
  rw [← hr]
  show Calls Tryz.prog 50 #[.agg #[.int .i64 nx, .int .i64 sq, .slice A n c, .slice B m d], .agg #[.int .i64 4, .int .i64 id, .int .i64 nn, .int .i64 pid, .int .i64 pep, .slice P pn pc, .int .i64 tid, .int .i64 tep, .slice Q qn qc, .int .i64 sz, .int .i64 lv, .int .i64 ct, .string lo, .string hi, .int .i64 tp]] w (GivesRDo w base A L B M P pn Q qn r)
  have HR := hd_ hr
  have hbu : Below w.heap.size w (((w.alloc (.cells #[.int .i64 nx, .int .i64 sq, .slice A n c, .slice B m d] 25)).alloc (.cells #[.int .i64 4, .int .i64 id, .int .i64 nn, .int .i64 pid, .int .i64 pep, .slice P pn pc, .int .i64 tid, .int .i64 tep, .slice Q qn qc, .int .i64 sz, .int .i64 lv, .int .i64 ct, .string lo, .string hi, .int .i64 tp] 37)).alloc (.cells #[.int .i64 0, .int .i64 0, .slice none 0 0, .slice none 0 0] 25)) := (((Below.refl _ _).alloc (Nat.le_refl _) _).alloc (by simp) _).alloc (by simp <;> omega) _
  have HBx := hd_ (show Bx3 w [.int .i64 nx, .int .i64 sq, .slice A n c, .slice B m d] [.int .i64 4, .int .i64 id, .int .i64 nn, .int .i64 pid, .int .i64 pep, .slice P pn pc, .int .i64 tid, .int .i64 tep, .slice Q qn qc, .int .i64 sz, .int .i64 lv, .int .i64 ct, .string lo, .string hi, .int .i64 tp] (((w.alloc (.cells #[.int .i64 nx, .int .i64 sq, .slice A n c, .slice B m d] 25)).alloc (.cells #[.int .i64 4, .int .i64 id, .int .i64 nn, .int .i64 pid, .int .i64 pep, .slice P pn pc, .int .i64 tid, .int .i64 tep, .slice Q qn qc, .int .i64 sz, .int .i64 lv, .int .i64 ct, .string lo, .string hi, .int .i64 tp] 37)).alloc (.cells #[.int .i64 0, .int .i64 0, .slice none 0 0, .slice none 0 0] 25)) from ⟨((Holds.new w #[.int .i64 nx, .int .i64 sq, .slice A n c, .slice B m d] 25).alloc _).alloc _, by have h := (Holds.new (w.alloc (.cells #[.int .i64 nx, .int .i64 sq, .slice A n c, .slice B m d] 25)) #[.int .i64 4, .int .i64 id, .int .i64 nn, .int .i64 pid, .int .i64 pep, .slice P pn pc, .int .i64 tid, .int .i64 tep, .slice Q qn qc, .int .i64 sz, .int .i64 lv, .int .i64 ct, .string lo, .string hi, .int .i64 tp] 37).alloc (.cells #[.int .i64 0, .int .i64 0, .slice none 0 0, .slice none 0 0] 25); simpa using h, by have h := Holds.new ((w.alloc (.cells #[.int .i64 nx, .int .i64 sq, .slice A n c, .slice B m d] 25)).alloc (.cells #[.int .i64 4, .int .i64 id, .int .i64 nn, .int .i64 pid, .int .i64 pep, .slice P pn pc, .int .i64 tid, .int .i64 tep, .slice Q qn qc, .int .i64 sz, .int .i64 lv, .int .i64 ct, .string lo, .string hi, .int .i64 tp] 37)) #[.int .i64 0, .int .i64 0, .slice none 0 0, .slice none 0 0] 25; simpa using h, hbu⟩)
  clear hS hx ho hbw hr hbu
  go_enter Tryz.func50, Tryz.ntmps50
  go_upto_region 1 with fail
  generalize (((w.alloc (.cells #[.int .i64 nx, .int .i64 sq, .slice A n c, .slice B m d] 25)).alloc (.cells #[.int .i64 4, .int .i64 id, .int .i64 nn, .int .i64 pid, .int .i64 pep, .slice P pn pc, .int .i64 tid, .int .i64 tep, .slice Q qn qc, .int .i64 sz, .int .i64 lv, .int .i64 ct, .string lo, .string hi, .int .i64 tp] 37)).alloc (.cells #[.int .i64 0, .int .i64 0, .slice none 0 0, .slice none 0 0] 25)) = u at *
  have e0 := HBx.out.e.at_ 0 rfl
  obtain ⟨ids, hids⟩ : ∃ i, i = L.map (·.1.id) := ⟨_, rfl⟩
  have HI := hd_ hids
  clear hids
  have CL := hd_ (show Calls Tryz.prog 78 #[.agg #[.int .i64 nx, .int .i64 sq, .slice A n c, .slice B m d], .int .i64 id] u (fun e w' => e = .returned (.int .i64 (Ed.at_ ids id)) ∧ Below u.heap.size u w') from by
    rw [HI.out]
    exact rlog_any nx sq A n c B m d L id u (HS.out.below HBx.out.b).rls (by omega))
  have HBp := hd_ (fun (W : World) (hW : Below u.heap.size u W) => HBx.out.below hW)
  have b0 := HBx.out.v.at_ 0 rfl
  have b1 := HBx.out.v.at_ 1 rfl
  have b2 := HBx.out.v.at_ 2 rfl
  have b3 := HBx.out.v.at_ 3 rfl
  have ei := HBx.out.e.at_ 1 rfl
  cases hf : Ed.find ids id with
  | none =>
    rw [Ed.at_none hf] at CL
    have hr1 : r = none := by
      rw [HR.out, Ed.do1_4 rfl]
      show (match Ed.find ((L.map Ed.loOf).map (·.p.id)) id with | none => none | some k => match (L.map Ed.loOf)[k]? with | none => none | some l => if l.se = -1 then some _ else none) = _
      have e1 : (L.map Ed.loOf).map (·.p.id) = ids := by rw [HI.out, List.map_map]; rfl
      rw [e1, hf]
    subst hr1
    clear HR hf
    go_wp2_with fail
    refine CL.out.mono ?_
    rintro e w3 ⟨rfl, hb3⟩
    have HB4 := hd_ (HBp.out w3 hb3)
    clear CL b0 b1 b2 b3 ei hb3 HBx HBp e0
    go_upto_region 24 with fail
    obtain ⟨b0, b1, b2, b3⟩ := HB4.out.v.all4
    obtain ⟨f0, f1, f2, f3⟩ := HB4.out.z.all4
    obtain ⟨g0, g1, g2, g3⟩ := HB4.out.z.free4
    have HZ := hd_ (show Holds ((((w3.setCell ⟨w.heap.size + 2, 0, none⟩ (.int .i64 nx)).setCell ⟨w.heap.size + 2, 1, none⟩ (.int .i64 sq)).setCell ⟨w.heap.size + 2, 2, none⟩ (.slice A n c)).setCell ⟨w.heap.size + 2, 3, none⟩ (.slice B m d)) (w.heap.size + 2) [.int .i64 nx, .int .i64 sq, .slice A n c, .slice B m d] from HB4.out.z.put4 _ _ _ _)
    have HBz := hd_ (show Below w.heap.size w ((((w3.setCell ⟨w.heap.size + 2, 0, none⟩ (.int .i64 nx)).setCell ⟨w.heap.size + 2, 1, none⟩ (.int .i64 sq)).setCell ⟨w.heap.size + 2, 2, none⟩ (.slice A n c)).setCell ⟨w.heap.size + 2, 3, none⟩ (.slice B m d)) from HB4.out.b.grown (grown4 _ _ _ _ _ _) HB4.out.b.size (fun g e => by injection e with e; omega))
    go_wp2_with fail
    clear b0 b1 b2 b3 f0 f1 f2 f3 g0 g1 g2 g3
    generalize ((((w3.setCell ⟨w.heap.size + 2, 0, none⟩ (.int .i64 nx)).setCell ⟨w.heap.size + 2, 1, none⟩ (.int .i64 sq)).setCell ⟨w.heap.size + 2, 2, none⟩ (.slice A n c)).setCell ⟨w.heap.size + 2, 3, none⟩ (.slice B m d)) = z at *
    obtain ⟨y0, y1, y2, y3⟩ := HZ.out.all4
    refine bodyPost_ret (v := .tuple #[.agg #[.int .i64 nx, .int .i64 sq, .slice A n c, .slice B m d], .bool false]) ?_ rfl (⟨nx, sq, A, n, c, L, B, m, d, M, rfl, grown_any _ HBz.out, fun v hv => (by cases hv)⟩)
    simp [results, Tryz.results50, go_sem, y0, y1, y2, y3]
  | some k =>
    rw [Ed.at_some hf] at CL
    have hk : k < n := by have := Ed.find_lt2 hf; rw [HI.out, List.length_map] at this; have h2 := HS.out.ll; omega
    have hki : (k : Int) < (n : Int) := by omega
    have hkp : (0 : Int) ≤ (k : Int) := by omega
    have hk0 : ¬ ((k : Int) < 0) := by omega
    obtain ⟨y, hy⟩ : ∃ y, L[k]? = some y := ⟨_, List.getElem?_eq_getElem (by rw [HS.out.ll]; exact hk)⟩
    obtain ⟨g, hA⟩ : ∃ g, A = some ⟨g, 0, none⟩ := HS.out.la.addr_ (by omega)
    subst hA
    have HY := hd_ hy
    have HCy := hd_ (fun (W : World) (hW : Below w.heap.size w W) => show W.cell? ⟨g, k * 4 + 3, none⟩ = some (.int .i64 y.1.se) from (HS.out.la.below hW).cellAt (Pk.flatMap_at (f := Ed.Lg.cells) (s := 4) (fun _ => rfl) (show (L.map (·.1))[k]? = some y.1 by rw [List.getElem?_map, hy]; rfl) (show (Ed.Lg.cells y.1)[3]? = _ from rfl)))
    by_cases hse : y.1.se = -1
    · have q : (y.1.se != -1) = false := by rw [hse]; rfl
      have hr1 : r = some ⟨nx, sq, (L.set k (⟨y.1.id, y.1.ep, y.1.P, y.1.pn, y.1.pc, nn⟩, y.2)).map Ed.loOf, M.map Ed.taOf⟩ := by
        rw [HR.out, Ed.do1_4 rfl]
        show (match Ed.find ((L.map Ed.loOf).map (·.p.id)) id with | none => none | some k => match (L.map Ed.loOf)[k]? with | none => none | some l => if l.se = -1 then some _ else none) = _
        have e1 : (L.map Ed.loOf).map (·.p.id) = ids := by rw [HI.out, List.map_map]; rfl
        rw [e1, hf]
        dsimp only
        rw [List.getElem?_map, hy]
        show (if y.1.se = -1 then some _ else none) = _
        rw [if_pos hse]
        exact congrArg some (by rw [List.map_set]; rfl)
      subst hr1
      clear HR hf hy hse
      go_wp2_with fail
      refine CL.out.mono ?_
      rintro e w3 ⟨rfl, hb3⟩
      have HB4 := hd_ (HBp.out w3 hb3)
      clear CL b0 b1 b2 b3 ei hb3 HBx HBp e0
      have b2 := HB4.out.v.at_ 2 rfl
      have cs := HCy.out w3 HB4.out.b
      have e2 := HB4.out.e.at_ 2 rfl
      have gs := (HS.out.la.below HB4.out.b).freeAt (k * 4 + 3)
      have HSw := hd_ (HS.out.below HB4.out.b)
      have hgb : base ≤ g ∧ g < w.heap.size := HS.out.la.lt g rfl
      have HB5 := hd_ (show Holds (w3.setCell ⟨g, k * 4 + 3, none⟩ (.int .i64 nn)) w.heap.size [.int .i64 nx, .int .i64 sq, .slice (some ⟨g, 0, none⟩) n c, .slice B m d] ∧ Holds (w3.setCell ⟨g, k * 4 + 3, none⟩ (.int .i64 nn)) (w.heap.size + 1) [.int .i64 4, .int .i64 id, .int .i64 nn, .int .i64 pid, .int .i64 pep, .slice P pn pc, .int .i64 tid, .int .i64 tep, .slice Q qn qc, .int .i64 sz, .int .i64 lv, .int .i64 ct, .string lo, .string hi, .int .i64 tp] ∧ Holds (w3.setCell ⟨g, k * 4 + 3, none⟩ (.int .i64 nn)) (w.heap.size + 2) [.int .i64 0, .int .i64 0, .slice none 0 0, .slice none 0 0] from ⟨HB4.out.v.other (by omega), HB4.out.e.other (by omega), HB4.out.z.other (by omega)⟩)
      have HSt := hd_ (HSw.out.seal (x := nn) HY.out (by have h := Ed.ok4 HO.out rfl; exact h))
      have HBb := hd_ (show w.grownBy (w3.setCell ⟨g, k * 4 + 3, none⟩ (.int .i64 nn)) (some g) from (grown_any (some g) HB4.out.b).trans (grown_cell w3 g (k * 4 + 3) (.int .i64 nn)))
      go_upto_region 37 with fail
      clear b2 cs e2 gs HB4 HSw
      generalize (w3.setCell ⟨g, k * 4 + 3, none⟩ (.int .i64 nn)) = u5 at *
      have b0 := HB5.out.1.at_ 0 rfl
      have b1 := HB5.out.1.at_ 1 rfl
      have b2 := HB5.out.1.at_ 2 rfl
      have b3 := HB5.out.1.at_ 3 rfl
      have f0 := HB5.out.2.2.at_ 0 rfl
      have f1 := HB5.out.2.2.at_ 1 rfl
      have f2 := HB5.out.2.2.at_ 2 rfl
      have f3 := HB5.out.2.2.at_ 3 rfl
      have g0 := HB5.out.2.2.2.2 0
      have g1 := HB5.out.2.2.2.2 1
      have g2 := HB5.out.2.2.2.2 2
      have g3 := HB5.out.2.2.2.2 3
      have HZ := hd_ (show Holds ((((u5.setCell ⟨w.heap.size + 2, 0, none⟩ (.int .i64 nx)).setCell ⟨w.heap.size + 2, 1, none⟩ (.int .i64 sq)).setCell ⟨w.heap.size + 2, 2, none⟩ (.slice (some ⟨g, 0, none⟩) n c)).setCell ⟨w.heap.size + 2, 3, none⟩ (.slice B m d)) (w.heap.size + 2) [.int .i64 nx, .int .i64 sq, .slice (some ⟨g, 0, none⟩) n c, .slice B m d] from HB5.out.2.2.put4 _ _ _ _)
      have hbu5 : w.heap.size + 3 ≤ u5.heap.size := HB5.out.2.2.1
      have HBz := hd_ (show w.grownBy ((((u5.setCell ⟨w.heap.size + 2, 0, none⟩ (.int .i64 nx)).setCell ⟨w.heap.size + 2, 1, none⟩ (.int .i64 sq)).setCell ⟨w.heap.size + 2, 2, none⟩ (.slice (some ⟨g, 0, none⟩) n c)).setCell ⟨w.heap.size + 2, 3, none⟩ (.slice B m d)) (some g) from grown_past HBb.out (grown4 _ _ _ _ _ _) (by omega))
      have HSz := hd_ (show StR ((((u5.setCell ⟨w.heap.size + 2, 0, none⟩ (.int .i64 nx)).setCell ⟨w.heap.size + 2, 1, none⟩ (.int .i64 sq)).setCell ⟨w.heap.size + 2, 2, none⟩ (.slice (some ⟨g, 0, none⟩) n c)).setCell ⟨w.heap.size + 2, 3, none⟩ (.slice B m d)) base (some ⟨g, 0, none⟩) n c _ B m d M from HSt.out.past4 (by have := HW.out; omega) (fun q h => by have := (HS.out.la.lt q h).2; omega) (fun q h => by have := (HS.out.ta.lt q h).2; omega) (fun y hy hn q h => by have := (HS.out.lp y hy).2.lt hn q h; omega) (fun y hy hn q h => by have := (HS.out.tp y hy).2.lt hn q h; omega) (fun y2 hy2 => by
        rcases List.mem_or_eq_of_mem_set hy2 with h | rfl
        · exact ⟨y2, h, rfl, rfl⟩
        · exact ⟨y, List.mem_of_getElem? HY.out, rfl, rfl⟩))
      go_wp2_with fail
      clear b0 b1 b2 b3 f0 f1 f2 f3 g0 g1 g2 g3
      generalize ((((u5.setCell ⟨w.heap.size + 2, 0, none⟩ (.int .i64 nx)).setCell ⟨w.heap.size + 2, 1, none⟩ (.int .i64 sq)).setCell ⟨w.heap.size + 2, 2, none⟩ (.slice (some ⟨g, 0, none⟩) n c)).setCell ⟨w.heap.size + 2, 3, none⟩ (.slice B m d)) = z at *
      have y0 := HZ.out.at_ 0 rfl
      have y1 := HZ.out.at_ 1 rfl
      have y2 := HZ.out.at_ 2 rfl
      have y3 := HZ.out.at_ 3 rfl
      refine bodyPost_ret (v := .tuple #[.agg #[.int .i64 nx, .int .i64 sq, .slice (some ⟨g, 0, none⟩) n c, .slice B m d], .bool true]) ?_ rfl ⟨nx, sq, some ⟨g, 0, none⟩, n, c, _, B, m, d, M, rfl, HBz.out, fun v hv => ⟨(Option.some.inj hv).symm, HSz.out, fun b hb hf h1 h2 => ⟨hf.1, hf.2.1, fun y2 hy2 hn => (List.mem_or_eq_of_mem_set hy2).elim (fun h => hf.2.2.1 y2 h hn) (fun e => by subst e; exact hf.2.2.1 y (List.mem_of_getElem? HY.out) hn), hf.2.2.2⟩⟩⟩
      simp [results, Tryz.results50, go_sem, y0, y1, y2, y3]
    · have q : (y.1.se != -1) = true := by rw [bne_iff_ne]; exact hse
      have hr1 : r = none := by
        rw [HR.out, Ed.do1_4 rfl]
        show (match Ed.find ((L.map Ed.loOf).map (·.p.id)) id with | none => none | some k => match (L.map Ed.loOf)[k]? with | none => none | some l => if l.se = -1 then some _ else none) = _
        have e1 : (L.map Ed.loOf).map (·.p.id) = ids := by rw [HI.out, List.map_map]; rfl
        rw [e1, hf]
        dsimp only
        rw [List.getElem?_map, hy]
        show (if y.1.se = -1 then some _ else none) = _
        rw [if_neg hse]
      subst hr1
      clear HR hf hy hse
      go_wp2_with fail
      refine CL.out.mono ?_
      rintro e w3 ⟨rfl, hb3⟩
      have HB4 := hd_ (HBp.out w3 hb3)
      clear CL b0 b1 b2 b3 ei hb3 HBx HBp e0
      have b2 := HB4.out.v.at_ 2 rfl
      have cs := HCy.out w3 HB4.out.b
      go_upto_region 24 with fail
      clear b2 cs
      obtain ⟨b0, b1, b2, b3⟩ := HB4.out.v.all4
      obtain ⟨f0, f1, f2, f3⟩ := HB4.out.z.all4
      obtain ⟨g0, g1, g2, g3⟩ := HB4.out.z.free4
      have HZ := hd_ (show Holds ((((w3.setCell ⟨w.heap.size + 2, 0, none⟩ (.int .i64 nx)).setCell ⟨w.heap.size + 2, 1, none⟩ (.int .i64 sq)).setCell ⟨w.heap.size + 2, 2, none⟩ (.slice (some ⟨g, 0, none⟩) n c)).setCell ⟨w.heap.size + 2, 3, none⟩ (.slice B m d)) (w.heap.size + 2) [.int .i64 nx, .int .i64 sq, .slice (some ⟨g, 0, none⟩) n c, .slice B m d] from HB4.out.z.put4 _ _ _ _)
      have HBz := hd_ (show Below w.heap.size w ((((w3.setCell ⟨w.heap.size + 2, 0, none⟩ (.int .i64 nx)).setCell ⟨w.heap.size + 2, 1, none⟩ (.int .i64 sq)).setCell ⟨w.heap.size + 2, 2, none⟩ (.slice (some ⟨g, 0, none⟩) n c)).setCell ⟨w.heap.size + 2, 3, none⟩ (.slice B m d)) from HB4.out.b.grown (grown4 _ _ _ _ _ _) HB4.out.b.size (fun g e => by injection e with e; omega))
      go_wp2_with fail
      clear b0 b1 b2 b3 f0 f1 f2 f3 g0 g1 g2 g3
      generalize ((((w3.setCell ⟨w.heap.size + 2, 0, none⟩ (.int .i64 nx)).setCell ⟨w.heap.size + 2, 1, none⟩ (.int .i64 sq)).setCell ⟨w.heap.size + 2, 2, none⟩ (.slice (some ⟨g, 0, none⟩) n c)).setCell ⟨w.heap.size + 2, 3, none⟩ (.slice B m d)) = z at *
      obtain ⟨y0, y1, y2, y3⟩ := HZ.out.all4
      refine bodyPost_ret (v := .tuple #[.agg #[.int .i64 nx, .int .i64 sq, .slice (some ⟨g, 0, none⟩) n c, .slice B m d], .bool false]) ?_ rfl (⟨nx, sq, some ⟨g, 0, none⟩, n, c, L, B, m, d, M, rfl, grown_any _ HBz.out, fun v hv => (by cases hv)⟩)
      simp [results, Tryz.results50, go_sem, y0, y1, y2, y3]
end Go.Proofs.YthfcjlndaajkfaaGreat
namespace Go.Proofs.YthfcjlndaajkfaaGreat
open Go.RowKit
set_option linter.unusedVariables false
set_option linter.unusedSimpArgs false
set_option maxRecDepth 100000 in
set_option maxHeartbeats 16000000 in
theorem rcopy_any (nx sq : Int) (A0 : Option Addr) (n c0 : Nat) (B0 : Option Addr) (m d0 : Nat) (L : List (Ed.Lg × List (Int × Int))) (M : List (Pk.Tb × List (Int × Int))) (w : World) (hL : RdLs w A0 n L) (hM : RdTs w B0 m M) (hn : n ≤ 100000) (hm : m ≤ 100000) (hlp : ∀ x ∈ L, x.1.pn ≤ 100000) (htp : ∀ x ∈ M, x.1.pn ≤ 100000) :
    Calls Tryz.prog 25 #[.agg #[.int .i64 nx, .int .i64 sq, .slice A0 n c0, .slice B0 m d0]] w (GivesV w nx sq n m (L.map Ed.loOf) (M.map Ed.taOf)) := by
  have HL0 := hd_ hL
  have HM0 := hd_ hM
  have Hlp := hd_ hlp
  have Htp := hd_ htp
  have hbu : Below w.heap.size w ((w.alloc (.cells #[.int .i64 nx, .int .i64 sq, .slice A0 n c0, .slice B0 m d0] 25)).alloc (.cells #[.int .i64 0, .int .i64 0, .slice none 0 0, .slice none 0 0] 25)) := ((Below.refl _ _).alloc (Nat.le_refl _) _).alloc (by simp) _
  have HBu := hd_ hbu
  have HXu := hd_ ((Holds.new w #[.int .i64 nx, .int .i64 sq, .slice A0 n c0, .slice B0 m d0] 25).alloc (.cells #[.int .i64 0, .int .i64 0, .slice none 0 0, .slice none 0 0] 25))
  have HYu := hd_ (Holds.new (w.alloc (.cells #[.int .i64 nx, .int .i64 sq, .slice A0 n c0, .slice B0 m d0] 25)) #[.int .i64 0, .int .i64 0, .slice none 0 0, .slice none 0 0] 25)
  have hsu : ((w.alloc (.cells #[.int .i64 nx, .int .i64 sq, .slice A0 n c0, .slice B0 m d0] 25)).alloc (.cells #[.int .i64 0, .int .i64 0, .slice none 0 0, .slice none 0 0] 25)).heap.size = w.heap.size + 2 := by simp
  have HSu := hd_ hsu
  clear hL hM hlp htp hbu hsu
  go_enter Tryz.func25, Tryz.ntmps25
  go_upto_region 1 with fail
  generalize ((w.alloc (.cells #[.int .i64 nx, .int .i64 sq, .slice A0 n c0, .slice B0 m d0] 25)).alloc (.cells #[.int .i64 0, .int .i64 0, .slice none 0 0, .slice none 0 0] 25)) = u at *
  replace HXu : Hid (Holds u w.heap.size [.int .i64 nx, .int .i64 sq, .slice A0 n c0, .slice B0 m d0]) := HXu
  replace HYu : Hid (Holds u (w.heap.size + 1) [.int .i64 0, .int .i64 0, .slice none 0 0, .slice none 0 0]) := hd_ (by have := HYu.out; simpa using this)
  have hal : Below u.heap.size u (u.alloc (.cells #[] 62)) := (Below.refl _ _).alloc (Nat.le_refl _) _
  have HOe := hd_ (OwnC.empty 4 u 62 u.heap.size (Nat.le_refl _))
  have HXa := hd_ (HXu.out.below hal)
  have HYa := hd_ (HYu.out.below hal)
  have HLa := hd_ ((HL0.out.below (below_next HBu.out hal)).2.1)
  have hsz := hal.size
  have HAl := hd_ hal
  have xb1 := HXa.out.at_ 2 rfl
  have hu2 : u.heap.size = w.heap.size + 2 := HSu.out
  have HU2 := hd_ hu2
  clear hu2 hal
  go_upto_region 2 with (at_builtin; refine wpList_appN manyL rfl (.tmp 5) (.tmp 7) rfl rfl HOe.out A0 n c0 _ (Ed.lflat_one _) rfl HLa.out (by omega) hsz ?_; intro A c v4 hg4; have HG4 := hd_ hg4; have xb2 : v4.cell? ⟨w.heap.size, 2, none⟩ = some (.slice A0 n c0) := (HXa.out.grown hg4.grew (fun e => by have := (HOe.out.blk _ e).1; have := HU2.out; omega)).at_ 2 rfl; have xg2 := (HXa.out.grown hg4.grew (fun e => by have := (HOe.out.blk _ e).1; have := HU2.out; omega)).2.2 2; clear hg4)
  have HX4 := hd_ (HXa.out.grown HG4.out.grew (fun e => by have := (HOe.out.blk _ e).1; have := HU2.out; omega))
  have HY4 := hd_ (HYa.out.grown HG4.out.grew (fun e => by have := (HOe.out.blk _ e).1; have := HU2.out; omega))
  have HB4 := hd_ (show Below u.heap.size u v4 from HG4.out.below HAl.out HAl.out.size (fun g h => (HOe.out.blk g h).1))
  have HO4 := hd_ (show OwnC 4 v4 (w.heap.size + 2) 62 A n c (Ed.lflat (L.map (·.1))) from by have h := HG4.out.own; rw [Nat.zero_add, List.nil_append, HU2.out] at h; exact h)
  have HMs := hd_ (show MidL w (v4.setCell ⟨w.heap.size, 2, none⟩ (.slice A n c)) nx sq (.slice B0 m d0) A n c L [] 0 from ⟨HX4.out.set 2 _ (by simp), HY4.out.other (by omega), HO4.out.past1 (by omega), rfl, rfl, (fun x hx => nomatch hx), (fun x hx => nomatch hx), (below_next HBu.out HB4.out).setCell (Nat.le_refl _) _⟩)
  try rw [Nat.zero_add]
  clear xb1 xb2 xg2 HX4 HY4 HB4 HO4 HG4 HOe HLa HXa HYa HAl hsz HXu HYu HBu HSu
  generalize v4.setCell ⟨w.heap.size, 2, none⟩ (.slice A n c) = v5 at *
  have xb3 := HMs.out.box.at_ 2 rfl
  go_wp2_with fail
  clear xb3
  go_loopw [3] (fun ii wr => ∃ (k : Nat) (F : List (Ed.Lg × List (Int × Int))), k ≤ n ∧ ii = .int .i64 (k : Int) ∧ Hid (MidL w wr nx sq (.slice B0 m d0) A n c L F k)) (fun ii _ => n - (intOf ii).toNat)
  case atStart => exact ⟨0, [], by omega, rfl, HMs⟩
  case round =>
    clear HMs
    obtain ⟨k, F, hk, rfl, HM1⟩ := hrel
    have xb0 := HM1.out.box.at_ 2 rfl
    by_cases hlt : k < n
    · have hki : (k : Int) < (n : Int) := by omega
      have hk0 : (0 : Int) ≤ (k : Int) := by omega
      obtain ⟨y, hy⟩ : ∃ y, L[k]? = some y := ⟨_, List.getElem?_eq_getElem (by rw [HL0.out.len]; exact hlt)⟩
      have hp : PairsOk w y.1.P y.1.pn y.1.pc y.2 := (HL0.out.2.2 y (List.mem_of_getElem? hy)).2
      obtain ⟨g, hAg⟩ := HM1.out.row.addr_ (by omega)
      have HPx := hd_ (hp.below HM1.out.bel)
      have hpn := Hlp.out y (List.mem_of_getElem? hy)
      have HFx := hd_ ((HL0.out.2.2 y (List.mem_of_getElem? hy)).1)
      have HY := hd_ hy
      have hkx := HM1.out.at_ hy
      clear hy hp
      subst hAg
      obtain ⟨y, ps⟩ := y
      dsimp only at hpn HPx HFx hkx
      have HC := hd_ (fun (v : World) (hv : Below wr.heap.size wr v) => show v.cell? ⟨g, k * 4 + 2, none⟩ = some (.slice y.P y.pn y.pc) from (HM1.out.row.below hv).cellAt (Pk.flatMap_at (f := Ed.Lg.cells) (s := 4) (fun _ => rfl) (j := 2) hkx rfl))
      have HBx := hd_ (fun (v : World) (hv : Below wr.heap.size wr v) => (HM1.out.below hv).box)
      clear hkx
      go_upto_region 5 with fail
      clear xb0
      have hbd : Below wr.heap.size wr wr.drew := (Below.refl _ _).drew
      have hS0 := hd_ (show wr.drew.cell? ⟨w.heap.size, 2, none⟩ = some (.slice (some ⟨g, 0, none⟩) n c) from (HBx.out _ hbd).at_ 2 rfl)
      have hT0 := hd_ (show wr.drew.cell? ⟨g, k * 4 + 2, none⟩ = some (.slice y.P y.pn y.pc) from HC.out _ hbd)
      refine wp_region_T (fun W => W.cell? ⟨w.heap.size, 2, none⟩ = some (.slice (some ⟨g, 0, none⟩) n c)) (fun W => W.cell? ⟨g, k * 4 + 2, none⟩ = some (.slice y.P y.pn y.pc)) 15 (by kernel_rfl) ?_
      refine tkT (i := 0) hS0.out (fun _ => hT0.out) ?_; try walk_nrm
      refine tkT (i := 1) hS0.out (fun _ => hT0.out) ?_; try walk_nrm
      refine tkT (i := 2) hS0.out (fun _ => hT0.out) ?_; try walk_nrm
      refine tkT (i := 4) hS0.out (fun _ => hT0.out) ?_; try walk_nrm
      refine tkT (i := 5) hS0.out (fun _ => hT0.out) ?_; try walk_nrm
      refine tkT (i := 6) hS0.out (fun _ => hT0.out) ?_; try walk_nrm
      refine tkT (i := 7) hS0.out (fun _ => hT0.out) ?_; try walk_nrm
      refine tkT (i := 8) hS0.out (fun _ => hT0.out) ?_; try walk_nrm
      refine tkT (i := 9) hS0.out (fun _ => hT0.out) ?_; try walk_nrm
      refine tkW (i := 10) hS0.out hT0.out ?_; try walk_nrm
      refine wpAnyT_one (i := 3) (by kernel_rfl) rfl (fun K hK => ?_)
      try walk_nrm
      rw [if_pos (by rfl)]
      go_simp
      have hal : Below wr.heap.size wr (wr.alloc (.cells #[] 64)).drew := ((Below.refl _ _).alloc (Nat.le_refl _) _).drew
      have HO1 := hd_ (show OwnC 2 (wr.alloc (.cells #[] 64)).drew wr.heap.size 64 (some ⟨wr.heap.size, 0, none⟩) 0 0 [] from (OwnC.empty 2 wr 64 wr.heap.size (Nat.le_refl _)).below (Below.refl _ _).drew)
      have HP1 := hd_ (HPx.out.below hal)
      have HB1 := hd_ hal
      have hS := hd_ (show (wr.alloc (.cells #[] 64)).drew.cell? ⟨w.heap.size, 2, none⟩ = some (.slice (some ⟨g, 0, none⟩) n c) from (HBx.out _ hal).at_ 2 rfl)
      have hT := hd_ (show (wr.alloc (.cells #[] 64)).drew.cell? ⟨g, k * 4 + 2, none⟩ = some (.slice y.P y.pn y.pc) from HC.out _ hal)
      refine hK.out _ _ hS.out (fun _ => hT.out) ?_
      clear hK hS hT hal
      try walk_nrm
      generalize (wr.alloc (.cells #[] 64)).drew = z1 at *
      refine wpAnyT_one (i := 11) (by kernel_rfl) rfl (fun K hK => ?_)
      refine step_appN manyPr (by rfl) 28 rfl (.tmp 20) (.tmp 27) rfl rfl HO1.out y.P y.pn y.pc (Pk.iv (Ed.fl ps)) (Pk.iv_one _) rfl HP1.out.1.2 (by omega) HB1.out.size ?_
      intro A4 c4 z2 hg
      have HB2 := hd_ (show Below wr.heap.size wr z2 from hg.below HB1.out HB1.out.size (fun g h => (HO1.out.blk g h).1))
      have HO2 := hd_ (show OwP z2 wr.heap.size A4 y.pn c4 ps from ⟨HPx.out.1.1, by have h := hg.own; rw [Nat.zero_add, List.nil_append] at h; exact h⟩)
      have hS := hd_ (show z2.cell? ⟨w.heap.size, 2, none⟩ = some (.slice (some ⟨g, 0, none⟩) n c) from (HBx.out _ HB2.out).at_ 2 rfl)
      have hT := hd_ (show z2.cell? ⟨g, k * 4 + 2, none⟩ = some (.slice y.P y.pn y.pc) from HC.out _ HB2.out)
      refine hK.out _ _ hS.out (fun _ => hT.out) ?_
      clear hK hg
      try walk_nrm
      refine tkT (i := 12) hS.out (fun _ => hT.out) ?_; try walk_nrm
      refine tkT (i := 13) hS.out (fun _ => hT.out) ?_; try walk_nrm
      refine tkT (i := 14) hS.out (fun _ => hT.out) ?_; try walk_nrm
      refine wpAnyT_one (i := 15) (by kernel_rfl) rfl (fun K hK => ?_)
      try walk_nrm
      rw [if_pos (by rfl)]
      have xq := hT.out
      have gq := (HM1.out.row.below HB2.out).freeAt (k * 4 + 2)
      go_simp
      clear xq gq
      have hgl := HM1.out.row.lt g rfl
      have HN := hd_ ((HM1.out.below HB2.out).step (x := (y, ps)) (P := A4) (pc := c4) rfl HY.out HFx.out (HO2.out.base_ (show w.heap.size + 2 ≤ wr.heap.size from HM1.out.res.1)) (fun g1 h1 h2 => by have := (HO2.out.lt g1 h1).1; have := (HM1.out.row.lt g1 h2).2; omega))
      have hS2 := hd_ (show (z2.setCell ⟨g, k * 4 + 2, none⟩ (.slice A4 y.pn c4)).cell? ⟨w.heap.size, 2, none⟩ = some (.slice (some ⟨g, 0, none⟩) n c) from HN.out.box.at_ 2 rfl)
      refine hK.out _ _ hS2.out (fun h => Bool.noConfusion (h : true = false)) ?_
      clear hK hS hT hS2
      try walk_nrm
      dsimp only at HN
      generalize (z2.setCell ⟨g, k * 4 + 2, none⟩ (.slice A4 y.pn c4)) = zf at *
      refine wpAnyT_done (by kernel_rfl) ?_ _
      go_wp2_with fail
      go_roundw
      case rel => exact ⟨k + 1, F ++ [(({ y with P := A4, pc := c4 } : Ed.Lg), ps)], by omega, by go_num, HN⟩
      case measure => simp [intOf]; omega
    · have hki : ¬ (k : Int) < (n : Int) := by omega
      have hkn : n = k := by omega
      clear hlt hk
      subst hkn
      have HLf := hd_ (show F.map Ed.loOf = L.map Ed.loOf by rw [HM1.out.lf, List.take_of_length_le (by rw [HL0.out.len]; exact Nat.le_refl _)])
      have HLs := hd_ (show OwLs wr (w.heap.size + 2) A n c F from ⟨by rw [HM1.out.fl], by have h := HM1.out.row; rw [List.drop_of_length_le (by rw [HL0.out.len]; exact Nat.le_refl _), List.append_nil] at h; exact h, HM1.out.fit, fun x hx => (HM1.out.prs x hx).1, fun x hx => (HM1.out.prs x hx).2⟩)
      obtain ⟨F0, hF0⟩ : ∃ F0, F0 = F := ⟨F, rfl⟩
      subst hF0
      have hal : Below wr.heap.size wr (wr.alloc (.cells #[] 35)) := (Below.refl _ _).alloc (Nat.le_refl _) _
      have HMa := hd_ (HM1.out.below hal)
      have HLa := hd_ (HLs.out.below hal)
      have HOe := hd_ (OwnC.empty 9 wr 35 wr.heap.size (Nat.le_refl _))
      have HTa := hd_ ((HM0.out.below HMa.out.bel).1.2.1)
      have hsz := hal.size
      have HAl := hd_ hal
      have xb1 := HMa.out.box.at_ 3 rfl
      go_upto_region 7 with (at_builtin; refine wpList_appN manyAT rfl (.tmp 32) (.tmp 34) rfl rfl HOe.out B0 m d0 _ (Pk.flat_one _) rfl HTa.out (by omega) hsz ?_; intro B d v4 hg4; have HG4 := hd_ hg4; have xb2 : v4.cell? ⟨w.heap.size, 3, none⟩ = some (.slice B0 m d0) := (HMa.out.box.grown hg4.grew (fun e => by have := (HOe.out.blk _ e).1; have := HM1.out.box.1; omega)).at_ 3 rfl; have xg2 := (HMa.out.box.grown hg4.grew (fun e => by have := (HOe.out.blk _ e).1; have := HM1.out.box.1; omega)).2.2 3; clear hg4)
      have HX4 := hd_ (HMa.out.box.grown HG4.out.grew (fun e => by have := (HOe.out.blk _ e).1; have := HM1.out.box.1; omega))
      have HY4 := hd_ (HMa.out.res.grown HG4.out.grew (fun e => by have := (HOe.out.blk _ e).1; have := HM1.out.res.1; omega))
      have HB4 := hd_ (show Below wr.heap.size wr v4 from HG4.out.below HAl.out HAl.out.size (fun g h => (HOe.out.blk g h).1))
      have HO4 := hd_ (show OwnC 9 v4 wr.heap.size 35 B m d (Pk.flat (M.map (·.1))) from by have h := HG4.out.own; rw [Nat.zero_add, List.nil_append] at h; exact h)
      have hw2 : w.heap.size + 2 ≤ wr.heap.size := HM1.out.res.1
      have HMs := hd_ (show MidT w (v4.setCell ⟨w.heap.size, 3, none⟩ (.slice B m d)) nx sq A n c F0 B m d M [] 0 from ⟨HX4.out.set 3 _ (by simp), HY4.out.other (by omega), (HO4.out.past1 (by omega)).base_ hw2, rfl, rfl, (fun x hx => nomatch hx), (fun x hx => nomatch hx), (HLs.out.below HB4.out).grown (grown_cell _ _ _ _) (fun g e h => by injection e with e; have := (HLs.out.row.lt g h).1; omega) (fun x hx g e h => by injection e with e; have := ((HLs.out.prs x hx).lt g h).1; omega), (fun g h1 h2 => by have := (HLs.out.row.lt g h1).2; have := (HO4.out.lt g h2).1; omega), (fun x hx g h1 h2 => by have := ((HLs.out.prs x hx).lt g h1).2; have := (HO4.out.lt g h2).1; omega), (below_next HM1.out.bel HB4.out).setCell (Nat.le_refl _) _⟩)
      try rw [Nat.zero_add]
      clear xb0 xb1 xb2 xg2 HX4 HY4 HB4 HO4 HG4 HOe HTa HMa HLa HAl HLs HM1 hal hsz hw2 hki
      generalize v4.setCell ⟨w.heap.size, 3, none⟩ (.slice B m d) = v5 at *
      have xb3 := HMs.out.box.at_ 3 rfl
      go_wp2_with fail
      clear xb3
      go_loopw [4] (fun ii wr => ∃ (k : Nat) (F : List (Pk.Tb × List (Int × Int))), k ≤ m ∧ ii = .int .i64 (k : Int) ∧ Hid (MidT w wr nx sq A n c F0 B m d M F k)) (fun ii _ => m - (intOf ii).toNat)
      case atStart => exact ⟨0, [], by omega, rfl, HMs⟩
      case round =>
        clear HMs
        obtain ⟨k, F, hk, rfl, HM1⟩ := hrel
        have xb0 := HM1.out.box.at_ 3 rfl
        by_cases hlt : k < m
        · have hki : (k : Int) < (m : Int) := by omega
          have hk0 : (0 : Int) ≤ (k : Int) := by omega
          obtain ⟨y, hy⟩ : ∃ y, M[k]? = some y := ⟨_, List.getElem?_eq_getElem (by rw [HM0.out.len]; exact hlt)⟩
          have hp : PairsOk w y.1.P y.1.pn y.1.pc y.2 := HM0.out.2 y (List.mem_of_getElem? hy)
          obtain ⟨g, hAg⟩ := HM1.out.row.addr_ (by omega)
          have HPx := hd_ (hp.below HM1.out.bel)
          have hpn := Htp.out y (List.mem_of_getElem? hy)
          have HFx := hd_ (HM0.out.1.2.2 y.1 (List.mem_map.2 ⟨y, List.mem_of_getElem? hy, rfl⟩))
          have HY := hd_ hy
          have hkx := HM1.out.at_ hy
          clear hy hp
          subst hAg
          obtain ⟨y, ps⟩ := y
          dsimp only at hpn HPx HFx hkx
          have HC := hd_ (fun (v : World) (hv : Below wr.heap.size wr v) => show v.cell? ⟨g, k * 9 + 2, none⟩ = some (.slice y.P y.pn y.pc) from (HM1.out.row.below hv).cellAt (Pk.flatMap_at (f := Pk.Tb.cells) (s := 9) (fun _ => rfl) (j := 2) hkx rfl))
          have HBx := hd_ (fun (v : World) (hv : Below wr.heap.size wr v) => (HM1.out.below hv).box)
          clear hkx
          go_upto_region 10 with fail
          clear xb0
          have hbd : Below wr.heap.size wr wr.drew := (Below.refl _ _).drew
          have hS0 := hd_ (show wr.drew.cell? ⟨w.heap.size, 3, none⟩ = some (.slice (some ⟨g, 0, none⟩) m d) from (HBx.out _ hbd).at_ 3 rfl)
          have hT0 := hd_ (show wr.drew.cell? ⟨g, k * 9 + 2, none⟩ = some (.slice y.P y.pn y.pc) from HC.out _ hbd)
          refine wp_region_T (fun W => W.cell? ⟨w.heap.size, 3, none⟩ = some (.slice (some ⟨g, 0, none⟩) m d)) (fun W => W.cell? ⟨g, k * 9 + 2, none⟩ = some (.slice y.P y.pn y.pc)) 15 (by kernel_rfl) ?_
          refine tkT (i := 0) hS0.out (fun _ => hT0.out) ?_; try walk_nrm
          refine tkT (i := 1) hS0.out (fun _ => hT0.out) ?_; try walk_nrm
          refine tkT (i := 2) hS0.out (fun _ => hT0.out) ?_; try walk_nrm
          refine tkT (i := 4) hS0.out (fun _ => hT0.out) ?_; try walk_nrm
          refine tkT (i := 5) hS0.out (fun _ => hT0.out) ?_; try walk_nrm
          refine tkT (i := 6) hS0.out (fun _ => hT0.out) ?_; try walk_nrm
          refine tkT (i := 7) hS0.out (fun _ => hT0.out) ?_; try walk_nrm
          refine tkT (i := 8) hS0.out (fun _ => hT0.out) ?_; try walk_nrm
          refine tkT (i := 9) hS0.out (fun _ => hT0.out) ?_; try walk_nrm
          refine tkW (i := 10) hS0.out hT0.out ?_; try walk_nrm
          refine wpAnyT_one (i := 3) (by kernel_rfl) rfl (fun K hK => ?_)
          try walk_nrm
          rw [if_pos (by rfl)]
          go_simp
          have hal : Below wr.heap.size wr (wr.alloc (.cells #[] 64)).drew := ((Below.refl _ _).alloc (Nat.le_refl _) _).drew
          have HO1 := hd_ (show OwnC 2 (wr.alloc (.cells #[] 64)).drew wr.heap.size 64 (some ⟨wr.heap.size, 0, none⟩) 0 0 [] from (OwnC.empty 2 wr 64 wr.heap.size (Nat.le_refl _)).below (Below.refl _ _).drew)
          have HP1 := hd_ (HPx.out.below hal)
          have HB1 := hd_ hal
          have hS := hd_ (show (wr.alloc (.cells #[] 64)).drew.cell? ⟨w.heap.size, 3, none⟩ = some (.slice (some ⟨g, 0, none⟩) m d) from (HBx.out _ hal).at_ 3 rfl)
          have hT := hd_ (show (wr.alloc (.cells #[] 64)).drew.cell? ⟨g, k * 9 + 2, none⟩ = some (.slice y.P y.pn y.pc) from HC.out _ hal)
          refine hK.out _ _ hS.out (fun _ => hT.out) ?_
          clear hK hS hT hal
          try walk_nrm
          generalize (wr.alloc (.cells #[] 64)).drew = z1 at *
          refine wpAnyT_one (i := 11) (by kernel_rfl) rfl (fun K hK => ?_)
          refine step_appN manyPr (by rfl) 55 rfl (.tmp 47) (.tmp 54) rfl rfl HO1.out y.P y.pn y.pc (Pk.iv (Ed.fl ps)) (Pk.iv_one _) rfl HP1.out.1.2 (by omega) HB1.out.size ?_
          intro A4 c4 z2 hg
          have HB2 := hd_ (show Below wr.heap.size wr z2 from hg.below HB1.out HB1.out.size (fun g h => (HO1.out.blk g h).1))
          have HO2 := hd_ (show OwP z2 wr.heap.size A4 y.pn c4 ps from ⟨HPx.out.1.1, by have h := hg.own; rw [Nat.zero_add, List.nil_append] at h; exact h⟩)
          have hS := hd_ (show z2.cell? ⟨w.heap.size, 3, none⟩ = some (.slice (some ⟨g, 0, none⟩) m d) from (HBx.out _ HB2.out).at_ 3 rfl)
          have hT := hd_ (show z2.cell? ⟨g, k * 9 + 2, none⟩ = some (.slice y.P y.pn y.pc) from HC.out _ HB2.out)
          refine hK.out _ _ hS.out (fun _ => hT.out) ?_
          clear hK hg
          try walk_nrm
          refine tkT (i := 12) hS.out (fun _ => hT.out) ?_; try walk_nrm
          refine tkT (i := 13) hS.out (fun _ => hT.out) ?_; try walk_nrm
          refine tkT (i := 14) hS.out (fun _ => hT.out) ?_; try walk_nrm
          refine wpAnyT_one (i := 15) (by kernel_rfl) rfl (fun K hK => ?_)
          try walk_nrm
          rw [if_pos (by rfl)]
          have xq := hT.out
          have gq := (HM1.out.row.below HB2.out).freeAt (k * 9 + 2)
          go_simp
          clear xq gq
          have hgl := HM1.out.row.lt g rfl
          have HN := hd_ ((HM1.out.below HB2.out).step (x := (y, ps)) (P := A4) (pc := c4) rfl HY.out HFx.out (HO2.out.base_ (show w.heap.size + 2 ≤ wr.heap.size from HM1.out.res.1)) (fun g1 h1 h2 => by have := (HO2.out.lt g1 h1).1; have := (HM1.out.row.lt g1 h2).2; omega) (fun g1 h1 h2 => by have := (HO2.out.lt g1 h1).1; have := (HM1.out.ls.row.lt g1 h2).2; omega))
          have hS2 := hd_ (show (z2.setCell ⟨g, k * 9 + 2, none⟩ (.slice A4 y.pn c4)).cell? ⟨w.heap.size, 3, none⟩ = some (.slice (some ⟨g, 0, none⟩) m d) from HN.out.box.at_ 3 rfl)
          refine hK.out _ _ hS2.out (fun h => Bool.noConfusion (h : true = false)) ?_
          clear hK hS hT hS2
          try walk_nrm
          dsimp only at HN
          generalize (z2.setCell ⟨g, k * 9 + 2, none⟩ (.slice A4 y.pn c4)) = zf at *
          refine wpAnyT_done (by kernel_rfl) ?_ _
          go_wp2_with fail
          go_roundw
          case rel => exact ⟨k + 1, F ++ [(({ y with P := A4, pc := c4 } : Pk.Tb), ps)], by omega, by go_num, HN⟩
          case measure => simp [intOf]; omega
        · have hki : ¬ (k : Int) < (m : Int) := by omega
          have hkn : m = k := by omega
          clear hlt hk
          subst hkn
          have HV := hd_ (show OwV wr (w.heap.size + 2) A n c F0 B m d F from ⟨HM1.out.ls, ⟨by rw [HM1.out.fl], by have h := HM1.out.row; rw [List.drop_of_length_le (by rw [HM0.out.len]; exact Nat.le_refl _), List.append_nil] at h; exact h, HM1.out.fit, fun x hx => (HM1.out.prs x hx).1, fun x hx => (HM1.out.prs x hx).2.1⟩, HM1.out.ab, HM1.out.lb, fun x hx => (HM1.out.prs x hx).2.2⟩)
          have HTf := hd_ (show F.map Ed.taOf = M.map Ed.taOf by rw [HM1.out.lf, List.take_of_length_le (by rw [HM0.out.len]; exact Nat.le_refl _)])
          have b0 := HM1.out.box.at_ 0 rfl
          have b1 := HM1.out.box.at_ 1 rfl
          have b2 := HM1.out.box.at_ 2 rfl
          have b3 := HM1.out.box.at_ 3 rfl
          have f0 := HM1.out.res.at_ 0 rfl
          have f1 := HM1.out.res.at_ 1 rfl
          have f2 := HM1.out.res.at_ 2 rfl
          have f3 := HM1.out.res.at_ 3 rfl
          have g0 := HM1.out.res.2.2 0
          have g1 := HM1.out.res.2.2 1
          have g2 := HM1.out.res.2.2 2
          have g3 := HM1.out.res.2.2 3
          have HZ := hd_ (show Holds ((((wr.setCell ⟨(w.heap.size + 1), 0, none⟩ (.int .i64 nx)).setCell ⟨(w.heap.size + 1), 1, none⟩ (.int .i64 sq)).setCell ⟨(w.heap.size + 1), 2, none⟩ (.slice A n c)).setCell ⟨(w.heap.size + 1), 3, none⟩ (.slice B m d)) (w.heap.size + 1) [.int .i64 nx, .int .i64 sq, .slice A n c, .slice B m d] from HM1.out.res.put4 _ _ _ _)
          have HBz := hd_ (show Below w.heap.size w ((((wr.setCell ⟨(w.heap.size + 1), 0, none⟩ (.int .i64 nx)).setCell ⟨(w.heap.size + 1), 1, none⟩ (.int .i64 sq)).setCell ⟨(w.heap.size + 1), 2, none⟩ (.slice A n c)).setCell ⟨(w.heap.size + 1), 3, none⟩ (.slice B m d)) from HM1.out.bel.grown (grown4 _ _ _ _ _ _) HM1.out.bel.size (fun g e => by injection e with e; omega))
          have HVz := hd_ (show OwV ((((wr.setCell ⟨(w.heap.size + 1), 0, none⟩ (.int .i64 nx)).setCell ⟨(w.heap.size + 1), 1, none⟩ (.int .i64 sq)).setCell ⟨(w.heap.size + 1), 2, none⟩ (.slice A n c)).setCell ⟨(w.heap.size + 1), 3, none⟩ (.slice B m d)) w.heap.size A n c F0 B m d F from (HV.out.grown (grown4 _ _ _ _ _ _) (fun g e => by injection e with e; omega)).base_ (by omega))
          go_wp2_with fail
          clear xb0 b0 b1 b2 b3 f0 f1 f2 f3 g0 g1 g2 g3
          generalize ((((wr.setCell ⟨(w.heap.size + 1), 0, none⟩ (.int .i64 nx)).setCell ⟨(w.heap.size + 1), 1, none⟩ (.int .i64 sq)).setCell ⟨(w.heap.size + 1), 2, none⟩ (.slice A n c)).setCell ⟨(w.heap.size + 1), 3, none⟩ (.slice B m d)) = z at *
          have y0 := HZ.out.at_ 0 rfl
          have y1 := HZ.out.at_ 1 rfl
          have y2 := HZ.out.at_ 2 rfl
          have y3 := HZ.out.at_ 3 rfl
          refine bodyPost_ret (v := .agg #[.int .i64 nx, .int .i64 sq, .slice A n c, .slice B m d]) ?_ rfl ⟨A, c, F0, B, d, F, rfl, HVz.out, HLf.out, HTf.out, HBz.out⟩
          simp [results, Tryz.results25, go_sem, y0, y1, y2, y3]
end Go.Proofs.YthfcjlndaajkfaaGreat
