/- edit.putPlace: a place's bytes behind others. edit.put: an edit's bytes behind others (no table's). Which tables may be: the document's IsTable of layer 15. append of bytes at a step of a region that draws its order. -/
import Derived.Test.YthfcjlndaajkfaaGreatG12
import Derived.Test.YthfcjlndaajkfaaGreatG02
import Derived.Test.YthfcjlndaajkfaaGreatN01
import Derived.Deep.RegionHeldLaw
namespace Go.Proofs.YthfcjlndaajkfaaGreat
open Go.RowKit
set_option linter.unusedVariables false
theorem rdi_new (w : World) (l : List Int) (E : TypeId) : RdI (w.alloc (.cells (Pk.iv l).toArray E)) (some ⟨w.heap.size, 0, none⟩) l.length l := by
  have h := Holds.new w (Pk.iv l).toArray E
  refine ⟨rfl, by unfold Pk.iv; simp, fun _ => ⟨_, 0, rfl, by simp, fun j v hv => ?_⟩⟩
  rw [Nat.zero_add]
  exact h.at_ j (by simpa using hv)
theorem off_new {w : World} {base n cap : Nat} {B : Option Addr} {bs : List Nat} (h : Own w base B n cap bs) {g : Nat} (hg : w.heap.size ≤ g) : Off (some ⟨g, 0, none⟩) B := fun b hb e => by
  have := (h.blk b (by rw [ownBlock_eq]; exact e)).2
  injection hb with hb
  have : g = b := hb
  omega
theorem Ed.pl_snoc {ps : List (Int × Int)} {k : Nat} {x y : Int} (h : ps[k]? = some (x, y)) : ((ps.take (k + 1)).flatMap fun x => Ed.nsB [x.1, x.2]) = ((ps.take k).flatMap fun x => Ed.nsB [x.1, x.2]) ++ Ed.nsB [x, y] := by
  rw [List.take_add_one, h, List.flatMap_append]
  simp
theorem Ed.pl_len (ps : List (Int × Int)) : (ps.flatMap fun x => Ed.nsB [x.1, x.2]).length ≤ ps.length * 22 := by
  induction ps with
  | nil => simp
  | cons p r ih =>
    rw [List.flatMap_cons, List.length_append, List.length_cons]
    have := Ed.nsB_len [p.1, p.2]
    simp only [List.length_cons, List.length_nil] at this
    omega
theorem Ed.okP_n {p : Pl} (h : p.ok = true) : 0 ≤ p.id ∧ p.id ≤ 2147483647 ∧ 0 ≤ p.ep ∧ p.ep ≤ 2147483647 ∧ p.ps.length ≤ 64 ∧ ∀ z ∈ fl p.ps, 0 ≤ z ∧ z ≤ 510 := by
  unfold Pl.ok okP at h
  simp only [Bool.and_eq_true, from_iff, List.all_eq_true] at h
  obtain ⟨⟨⟨⟨h1, h2⟩, h3⟩, h4⟩, h5⟩ := h
  exact ⟨by omega, by omega, by omega, by omega, by omega, h4⟩
set_option maxRecDepth 100000 in
set_option maxHeartbeats 8000000 in
theorem putplace_any (base : Nat) (B : Option Addr) (n cap : Nat) (bs : List Nat) (id ep : Int) (P : Option Addr) (pn pc : Nat) (ps : List (Int × Int)) (w : World) (h : Own w base B n cap bs) (hbase : base ≤ w.heap.size) (hP : PairsOk w P pn pc ps) (hoff : Off P B) (hok : (⟨id, ep, ps⟩ : Ed.Pl).ok = true) (hn : n ≤ 5000000) :
    Calls Tryz.prog 81 #[.slice B n cap, .agg #[.int .i64 id, .int .i64 ep, .slice P pn pc]] w (GivesPut w base B (bs ++ Ed.plB ⟨id, ep, ps⟩)) := by
  have hl := h.1
  subst hl
  have h1 : Below w.heap.size w (w.alloc (.cells #[.int .i64 id, .int .i64 ep, .slice P pn pc] 32)) := (Below.refl _ _).alloc (Nat.le_refl _) _
  have h2 : Below w.heap.size w ((w.alloc (.cells #[.int .i64 id, .int .i64 ep, .slice P pn pc] 32)).alloc (.cells #[.int .i64 id, .int .i64 ep, .int .i64 (pn : Int)] 3)) := h1.alloc h1.size _
  have HX := Lib.hid ((Holds.new w #[.int .i64 id, .int .i64 ep, .slice P pn pc] 32).alloc (.cells #[.int .i64 id, .int .i64 ep, .int .i64 (pn : Int)] 3))
  have HI := Lib.hid (rdi_new (w.alloc (.cells #[.int .i64 id, .int .i64 ep, .slice P pn pc] 32)) [id, ep, (pn : Int)] 3)
  have HOk := Lib.hid (Ed.okP_n hok)
  have HPl : Hid (ps.length = pn) := Lib.hid hP.1.1
  have HP := Lib.hid (hP.below h2)
  have HOf := Lib.hid hoff
  have HB2 := Lib.hid h2
  have HOw := Lib.hid (h.below h2)
  have HBs := Lib.hid hbase
  have HBk := Lib.hid (show ∀ g, blkOf B = some g → g < w.heap.size from fun g hg => (h.blk g (by rw [ownBlock_eq]; exact hg)).2)
  have C := Lib.hid (putnums_any base B bs.length cap bs (some ⟨(w.alloc (.cells #[.int .i64 id, .int .i64 ep, .slice P pn pc] 32)).heap.size, 0, none⟩) 3 3 [id, ep, (pn : Int)] ((w.alloc (.cells #[.int .i64 id, .int .i64 ep, .slice P pn pc] 32)).alloc (.cells #[.int .i64 id, .int .i64 ep, .int .i64 (pn : Int)] 3)) (h.below h2) (Nat.le_trans hbase h2.size) HI.out (off_new h h1.size) (fun x hx => by
    have h5 := HOk.out
    dsimp only at h5
    rw [HPl.out] at h5
    simp only [List.mem_cons, List.not_mem_nil, or_false] at hx
    rcases hx with rfl | rfl | rfl <;> omega) (by omega) (by omega))
  clear h h1 h2 hbase hP hoff hok HI
  have hsz1 : Hid ((w.alloc (.cells #[.int .i64 id, .int .i64 ep, .slice P pn pc] 32)).heap.size = w.heap.size + 1) := Lib.hid (by simp)
  go_enter Tryz.func81, Tryz.ntmps81
  go_wp2_with fail
  rw [hsz1.out] at C
  refine C.out.mono ?_
  clear C
  generalize ((w.alloc (.cells #[.int .i64 id, .int .i64 ep, .slice P pn pc] 32)).alloc (.cells #[.int .i64 id, .int .i64 ep, .int .i64 (pn : Int)] 3)) = u at *
  rintro e v ⟨B1, c1, rfl, hp1⟩
  have HPu := Lib.hid hp1
  have HBx := Lib.hid (show ∀ g, blkOf B = some g → g ≠ w.heap.size from fun g hg => by have := HBk.out g hg; omega)
  clear hp1
  have x2 := (HX.out.grown HPu.out.grew (fun e => HBx.out _ e rfl)).at_ 2 rfl
  replace x2 : v.cell? ⟨w.heap.size, 2, none⟩ = some (.slice P pn pc) := x2
  go_wp2_with fail
  clear x2
  go_loopw [0, 20] (fun s0 ii wr => ∃ (k : Nat) (B' : Option Addr) (l' : List Nat) (cap' : Nat), k ≤ pn ∧ ii = .int .i64 (k : Int) ∧ s0 = .slice B' l'.length cap' ∧ Hid (Puts u wr base B B' l' cap') ∧ Hid (l' = bs ++ Ed.nsB [id, ep, (pn : Int)] ++ (ps.take k).flatMap fun x => Ed.nsB [x.1, x.2])) (fun _ ii _ => pn - (intOf ii).toNat)
  case atStart => exact ⟨0, B1, _, c1, by omega, rfl, by rw [List.length_append], HPu, Lib.hid (by simp)⟩
  case round =>
    clear HPu
    obtain ⟨k, B', l', cap', hk, rfl, rfl, HPw, HL⟩ := hrel
    by_cases hlt : k < pn
    · have hki : (k : Int) < (pn : Int) := by omega
      have hk0 : (0 : Int) ≤ (k : Int) := by omega
      obtain ⟨q, hq⟩ : ∃ q, ps[k]? = some q := ⟨_, List.getElem?_eq_getElem (by rw [HPl.out]; exact hlt)⟩
      obtain ⟨x, y⟩ := q
      obtain ⟨b, o, hAb, hb, hc⟩ := HP.out.1.at_ hq
      obtain ⟨p0, p1⟩ := hc u (Below.refl _ _)
      have hbB : some b ≠ blkOf B := fun e => HOf.out b (by rw [hAb]; rfl) e.symm
      have e0 : wr.cell? ⟨b, o + k * 2, none⟩ = some (.int .i64 x) := HPw.out.grew.cell p0 hbB
      have e1 : wr.cell? ⟨b, o + k * 2 + 1, none⟩ = some (.int .i64 y) := HPw.out.grew.cell p1 hbB
      have HQ := Lib.hid hq
      have hpn64 := HOk.out.2.2.2.2.1
      have hxy := HOk.out.2.2.2.2.2
      try dsimp only at hpn64 hxy
      rw [HPl.out] at hpn64
      have hxf := hxy x (List.mem_flatMap.2 ⟨_, List.mem_of_getElem? hq, by simp⟩)
      have hyf := hxy y (List.mem_flatMap.2 ⟨_, List.mem_of_getElem? hq, by simp⟩)
      have hlen : l'.length ≤ 5000000 + 33 + 64 * 22 := by
        rw [HL.out, List.length_append, List.length_append]
        have a1 := Ed.nsB_len [id, ep, (pn : Int)]
        have a2 := Ed.pl_len (ps.take k)
        rw [List.length_take] at a2
        simp only [List.length_cons, List.length_nil] at a1
        omega
      have r1 : Below wr.heap.size wr (wr.alloc (.cells #[.int .i64 x, .int .i64 y] 64)) := (Below.refl _ _).alloc (Nat.le_refl _) _
      have r2 : Below wr.heap.size wr ((wr.alloc (.cells #[.int .i64 x, .int .i64 y] 64)).alloc (.cells #[.int .i64 x, .int .i64 y] 3)) := r1.alloc r1.size _
      have HX2 := Lib.hid (Holds.new wr #[.int .i64 x, .int .i64 y] 64)
      have q0 : (wr.alloc (.cells #[.int .i64 x, .int .i64 y] 64)).cell? ⟨wr.heap.size, 0, none⟩ = some (.int .i64 x) := HX2.out.at_ 0 rfl
      have q1 : (wr.alloc (.cells #[.int .i64 x, .int .i64 y] 64)).cell? ⟨wr.heap.size, 1, none⟩ = some (.int .i64 y) := HX2.out.at_ 1 rfl
      have HRr := Lib.hid r2
      have C := Lib.hid (putnums_any base B' l'.length cap' l' (some ⟨(wr.alloc (.cells #[.int .i64 x, .int .i64 y] 64)).heap.size, 0, none⟩) 2 2 [x, y] ((wr.alloc (.cells #[.int .i64 x, .int .i64 y] 64)).alloc (.cells #[.int .i64 x, .int .i64 y] 3)) (HPw.out.own.below r2) (Nat.le_trans (Nat.le_trans (Nat.le_trans HBs.out HB2.out.size) HPw.out.grew.size) r2.size) (rdi_new (wr.alloc (.cells #[.int .i64 x, .int .i64 y] 64)) [x, y] 3) (off_new HPw.out.own r1.size) (fun z hz => by
        simp only [List.mem_cons, List.not_mem_nil, or_false] at hz
        rcases hz with rfl | rfl <;> omega) (by omega) (by omega))
      clear hc hq p0 p1 hb hbB r1 r2 hxy hxf hyf
      subst hAb
      go_wp2_with fail
      rw [show (wr.alloc (.cells #[.int .i64 x, .int .i64 y] 64)).heap.size = wr.heap.size + 1 by simp] at C
      refine C.out.mono ?_
      clear C
      rintro e v2 ⟨B3, c3, rfl, hp3⟩
      have HG := Lib.hid ((HPw.out.more HRr.out).trans hp3)
      have HLn := Lib.hid (show l' ++ Ed.nsB [x, y] = bs ++ Ed.nsB [id, ep, (pn : Int)] ++ (ps.take (k + 1)).flatMap fun x => Ed.nsB [x.1, x.2] by rw [Ed.pl_snoc HQ.out, HL.out, List.append_assoc])
      clear hp3 e0 e1 q0 q1 HX2 HRr HPw HL
      go_wp2
      go_roundw
      case rel => exact ⟨k + 1, B3, _, c3, by omega, by go_num, (by first | rfl | rw [List.length_append]), HG, HLn⟩
      case measure => simp [intOf]; omega
    · have hki : ¬ (k : Int) < (pn : Int) := by omega
      have HLn := Lib.hid (show l' = bs ++ Ed.plB ⟨id, ep, ps⟩ by
        have h := HL.out
        rw [List.take_of_length_le (by rw [HPl.out]; omega)] at h
        rw [h, List.append_assoc]
        unfold Ed.plB
        dsimp only
        rw [HPl.out])
      clear hlt
      go_wp2
      go_ret
      rw [← HLn.out]
      exact ⟨B', cap', rfl, Puts.after HB2.out HPw.out⟩
end Go.Proofs.YthfcjlndaajkfaaGreat
namespace Go.Proofs.YthfcjlndaajkfaaGreat
open Go.RowKit
set_option linter.unusedVariables false
theorem PairsOk.puts {w w' : World} {P B B' : Option Addr} {pn pc : Nat} {ps : List (Int × Int)} {base c' : Nat} {bs' : List Nat} (h : PairsOk w P pn pc ps) (k : Puts w w' base B B' bs' c') (ho : Off P B) : PairsOk w' P pn pc ps :=
  ⟨⟨h.1.1, h.1.2.1, fun hn => by
    obtain ⟨b, o, hA, hb, hc⟩ := h.1.2.2 hn
    exact ⟨b, o, hA, Nat.lt_of_lt_of_le hb k.grew.size, fun j v hv => k.grew.cell (hc j v hv) (fun e => ho b (by rw [hA]; rfl) e.symm)⟩⟩, h.2⟩
theorem PairsOk.off {w w' : World} {P B B' : Option Addr} {pn pc : Nat} {ps : List (Int × Int)} {base c' : Nat} {bs' : List Nat} (h : PairsOk w P pn pc ps) (k : Puts w w' base B B' bs' c') (ho : Off P B) (hn : 0 < pn) : Off P B' := fun g hg e => by
  rcases k.blk g e with e2 | e2
  · exact ho g hg e2
  · obtain ⟨b, o, hA, hb, _⟩ := h.1.2.2 hn
    rw [hA] at hg
    injection hg with hg
    have : b = g := hg
    omega
set_option maxRecDepth 100000 in
set_option maxHeartbeats 8000000 in
theorem put1_any (base : Nat) (B : Option Addr) (n cap : Nat) (bs : List Nat) (id nn pid pep : Int) (P : Option Addr) (pn pc : Nat) (ps : List (Int × Int)) (tid tep : Int) (Q : Option Addr) (qn qc : Nat) (sz lv ct : Int) (lo hi : ByteArray) (tp : Int) (qs : List (Int × Int)) (w : World) (h : Own w base B n cap bs) (hbase : base ≤ w.heap.size) (hok : (⟨1, id, nn, ⟨pid, pep, ps⟩, ⟨⟨tid, tep, qs⟩, sz, lv, ct, lo, hi, tp⟩⟩ : Ed.Et).ok = true) (hn : n ≤ 4000000) :
    Calls Tryz.prog 52 #[.slice B n cap, .agg #[.int .i64 1, .int .i64 id, .int .i64 nn, .int .i64 pid, .int .i64 pep, .slice P pn pc, .int .i64 tid, .int .i64 tep, .slice Q qn qc, .int .i64 sz, .int .i64 lv, .int .i64 ct, .string lo, .string hi, .int .i64 tp]] w (GivesPut w base B (bs ++ Ed.edB (⟨1, id, nn, ⟨pid, pep, ps⟩, ⟨⟨tid, tep, qs⟩, sz, lv, ct, lo, hi, tp⟩⟩ : Ed.Et))) := by
  have hl := h.1
  subst hl
  have hu : Below w.heap.size w (w.alloc (.cells #[.int .i64 1, .int .i64 id, .int .i64 nn, .int .i64 pid, .int .i64 pep, .slice P pn pc, .int .i64 tid, .int .i64 tep, .slice Q qn qc, .int .i64 sz, .int .i64 lv, .int .i64 ct, .string lo, .string hi, .int .i64 tp] 37)) := (Below.refl _ _).alloc (Nat.le_refl _) _
  have HX := Lib.hid (Holds.new w #[.int .i64 1, .int .i64 id, .int .i64 nn, .int .i64 pid, .int .i64 pep, .slice P pn pc, .int .i64 tid, .int .i64 tep, .slice Q qn qc, .int .i64 sz, .int .i64 lv, .int .i64 ct, .string lo, .string hi, .int .i64 tp] 37)
  have HBu := Lib.hid hu
  have HOw := Lib.hid (h.below hu)
  have HBs0 := Lib.hid (Nat.le_trans hbase hu.size)
  have HBx := Lib.hid (show ∀ g, blkOf B = some g → g ≠ w.heap.size from fun g hg => by have := (h.blk g (by rw [ownBlock_eq]; exact hg)).2; omega)


  have hok2 := hok
  unfold Ed.Et.ok at hok2
  dsimp only at hok2
  rw [if_pos rfl] at hok2
  simp only [Bool.and_eq_true, Ed.from_iff] at hok2
  have Hnn := Lib.hid (show 0 ≤ nn ∧ nn ≤ 9223372036854775807 by have := hok2.1.1.1; omega)
  clear hok hok2
  have HFin := Lib.hid (show bs ++ Ed.edB (⟨1, id, nn, ⟨pid, pep, ps⟩, ⟨⟨tid, tep, qs⟩, sz, lv, ct, lo, hi, tp⟩⟩ : Ed.Et) = bs ++ [1] ++ Ed.nsB [nn] by rw [List.append_assoc]; rfl)
  clear h hu hbase 
  go_enter Tryz.func52, Tryz.ntmps52
  go_upto_region 1 with fail
  generalize (w.alloc (.cells #[.int .i64 1, .int .i64 id, .int .i64 nn, .int .i64 pid, .int .i64 pep, .slice P pn pc, .int .i64 tid, .int .i64 tep, .slice Q qn qc, .int .i64 sz, .int .i64 lv, .int .i64 ct, .string lo, .string hi, .int .i64 tp] 37)) = u at *
  replace HX : Hid (Holds u w.heap.size [.int .i64 1, .int .i64 id, .int .i64 nn, .int .i64 pid, .int .i64 pep, .slice P pn pc, .int .i64 tid, .int .i64 tep, .slice Q qn qc, .int .i64 sz, .int .i64 lv, .int .i64 ct, .string lo, .string hi, .int .i64 tp]) := HX
  have x0 := HX.out.at_ 0 rfl
  have hz : Below u.heap.size u (u.alloc (.cells #[.int .u8 1] 5)) := (Below.refl _ _).alloc (Nat.le_refl _) _
  have hrn := rd_one u 1 (by decide)
  have ho2 := HOw.out.below hz
  have hb2 := Nat.le_trans HBs0.out hz.size
  go_wp2_with (first | (at_builtin; refine wpList_appB rfl (.tmp 6) (.tmp 10) rfl rfl ho2 (some ⟨u.heap.size, 0, none⟩) 1 1 [1] rfl hrn (by omega) hb2 ?_; intro B1 c1 v hg3; have HPu := Lib.hid (Puts.after hz (Puts.of hg3)); have HBs := Lib.hid (Nat.le_trans HBs0.out HPu.out.grew.size); have HXv := Lib.hid (HX.out.grown HPu.out.grew (fun e => HBx.out _ e rfl)); clear hg3 hz hrn ho2 hb2 x0; have x0 := HXv.out.at_ 0 rfl; have n1 := HXv.out.at_ 1 rfl; have n2 := HXv.out.at_ 2 rfl; have n3 := HXv.out.at_ 3 rfl; have n4 := HXv.out.at_ 4 rfl; have n5 := HXv.out.at_ 5 rfl))
  have r1 : Below v.heap.size v (v.alloc (.cells #[.int .i64 nn] 3)) := (Below.refl _ _).alloc (Nat.le_refl _) _
  have C := Lib.hid (putnums_any base B1 (bs ++ [1]).length c1 (bs ++ [1]) (some ⟨v.heap.size, 0, none⟩) 1 1 [nn] (v.alloc (.cells #[.int .i64 nn] 3)) (HPu.out.own.below r1) (Nat.le_trans HBs.out r1.size) (rdi_new v [nn] 3) (off_new HPu.out.own (Nat.le_refl _)) (fun z hz => by
    simp only [List.mem_cons, List.not_mem_nil, or_false] at hz
    subst hz
    exact Hnn.out) (by simp only [List.length_append, List.length_cons, List.length_nil]; first | omega | (have := Ed.nsB_len [id]; simp only [List.length_cons, List.length_nil] at this; omega)) (by omega))
  rw [List.length_append, List.length_cons, List.length_nil] at C
  have HR1 := Lib.hid r1
  clear r1
  go_wp2_with fail
  refine C.out.mono ?_
  clear C
  rintro e v2 ⟨B12, c12, rfl, hp3⟩
  have HG := Lib.hid ((HPu.out.more HR1.out).trans hp3)
  clear hp3
  clear x0 n1 n2 n3 n4 n5
  go_wp2
  go_ret
  rw [HFin.out]
  exact ⟨B12, c12, (by first | rfl | simp), Puts.after HBu.out HG.out⟩
set_option maxRecDepth 100000 in
set_option maxHeartbeats 8000000 in
theorem put2_any (base : Nat) (B : Option Addr) (n cap : Nat) (bs : List Nat) (id nn pid pep : Int) (P : Option Addr) (pn pc : Nat) (ps : List (Int × Int)) (tid tep : Int) (Q : Option Addr) (qn qc : Nat) (sz lv ct : Int) (lo hi : ByteArray) (tp : Int) (qs : List (Int × Int)) (w : World) (h : Own w base B n cap bs) (hbase : base ≤ w.heap.size) (hok : (⟨2, id, nn, ⟨pid, pep, ps⟩, ⟨⟨tid, tep, qs⟩, sz, lv, ct, lo, hi, tp⟩⟩ : Ed.Et).ok = true) (hn : n ≤ 4000000) :
    Calls Tryz.prog 52 #[.slice B n cap, .agg #[.int .i64 2, .int .i64 id, .int .i64 nn, .int .i64 pid, .int .i64 pep, .slice P pn pc, .int .i64 tid, .int .i64 tep, .slice Q qn qc, .int .i64 sz, .int .i64 lv, .int .i64 ct, .string lo, .string hi, .int .i64 tp]] w (GivesPut w base B (bs ++ Ed.edB (⟨2, id, nn, ⟨pid, pep, ps⟩, ⟨⟨tid, tep, qs⟩, sz, lv, ct, lo, hi, tp⟩⟩ : Ed.Et))) := by
  have hl := h.1
  subst hl
  have hu : Below w.heap.size w (w.alloc (.cells #[.int .i64 2, .int .i64 id, .int .i64 nn, .int .i64 pid, .int .i64 pep, .slice P pn pc, .int .i64 tid, .int .i64 tep, .slice Q qn qc, .int .i64 sz, .int .i64 lv, .int .i64 ct, .string lo, .string hi, .int .i64 tp] 37)) := (Below.refl _ _).alloc (Nat.le_refl _) _
  have HX := Lib.hid (Holds.new w #[.int .i64 2, .int .i64 id, .int .i64 nn, .int .i64 pid, .int .i64 pep, .slice P pn pc, .int .i64 tid, .int .i64 tep, .slice Q qn qc, .int .i64 sz, .int .i64 lv, .int .i64 ct, .string lo, .string hi, .int .i64 tp] 37)
  have HBu := Lib.hid hu
  have HOw := Lib.hid (h.below hu)
  have HBs0 := Lib.hid (Nat.le_trans hbase hu.size)
  have HBx := Lib.hid (show ∀ g, blkOf B = some g → g ≠ w.heap.size from fun g hg => by have := (h.blk g (by rw [ownBlock_eq]; exact hg)).2; omega)


  have hok2 := hok
  unfold Ed.Et.ok at hok2
  dsimp only at hok2
  rw [if_neg (by decide), if_pos rfl] at hok2
  simp only [Bool.and_eq_true, Ed.from_iff] at hok2
  have Hnn := Lib.hid (show 0 ≤ nn ∧ nn ≤ 9223372036854775807 by have := hok2.1.1.1; omega)
  clear hok hok2
  have HFin := Lib.hid (show bs ++ Ed.edB (⟨2, id, nn, ⟨pid, pep, ps⟩, ⟨⟨tid, tep, qs⟩, sz, lv, ct, lo, hi, tp⟩⟩ : Ed.Et) = bs ++ [2] ++ Ed.nsB [nn] by rw [List.append_assoc]; rfl)
  clear h hu hbase 
  go_enter Tryz.func52, Tryz.ntmps52
  go_upto_region 1 with fail
  generalize (w.alloc (.cells #[.int .i64 2, .int .i64 id, .int .i64 nn, .int .i64 pid, .int .i64 pep, .slice P pn pc, .int .i64 tid, .int .i64 tep, .slice Q qn qc, .int .i64 sz, .int .i64 lv, .int .i64 ct, .string lo, .string hi, .int .i64 tp] 37)) = u at *
  replace HX : Hid (Holds u w.heap.size [.int .i64 2, .int .i64 id, .int .i64 nn, .int .i64 pid, .int .i64 pep, .slice P pn pc, .int .i64 tid, .int .i64 tep, .slice Q qn qc, .int .i64 sz, .int .i64 lv, .int .i64 ct, .string lo, .string hi, .int .i64 tp]) := HX
  have x0 := HX.out.at_ 0 rfl
  have hz : Below u.heap.size u (u.alloc (.cells #[.int .u8 2] 5)) := (Below.refl _ _).alloc (Nat.le_refl _) _
  have hrn := rd_one u 2 (by decide)
  have ho2 := HOw.out.below hz
  have hb2 := Nat.le_trans HBs0.out hz.size
  go_wp2_with (first | (at_builtin; refine wpList_appB rfl (.tmp 6) (.tmp 10) rfl rfl ho2 (some ⟨u.heap.size, 0, none⟩) 1 1 [2] rfl hrn (by omega) hb2 ?_; intro B1 c1 v hg3; have HPu := Lib.hid (Puts.after hz (Puts.of hg3)); have HBs := Lib.hid (Nat.le_trans HBs0.out HPu.out.grew.size); have HXv := Lib.hid (HX.out.grown HPu.out.grew (fun e => HBx.out _ e rfl)); clear hg3 hz hrn ho2 hb2 x0; have x0 := HXv.out.at_ 0 rfl; have n1 := HXv.out.at_ 1 rfl; have n2 := HXv.out.at_ 2 rfl; have n3 := HXv.out.at_ 3 rfl; have n4 := HXv.out.at_ 4 rfl; have n5 := HXv.out.at_ 5 rfl))
  have r1 : Below v.heap.size v (v.alloc (.cells #[.int .i64 nn] 3)) := (Below.refl _ _).alloc (Nat.le_refl _) _
  have C := Lib.hid (putnums_any base B1 (bs ++ [2]).length c1 (bs ++ [2]) (some ⟨v.heap.size, 0, none⟩) 1 1 [nn] (v.alloc (.cells #[.int .i64 nn] 3)) (HPu.out.own.below r1) (Nat.le_trans HBs.out r1.size) (rdi_new v [nn] 3) (off_new HPu.out.own (Nat.le_refl _)) (fun z hz => by
    simp only [List.mem_cons, List.not_mem_nil, or_false] at hz
    subst hz
    exact Hnn.out) (by simp only [List.length_append, List.length_cons, List.length_nil]; first | omega | (have := Ed.nsB_len [id]; simp only [List.length_cons, List.length_nil] at this; omega)) (by omega))
  rw [List.length_append, List.length_cons, List.length_nil] at C
  have HR1 := Lib.hid r1
  clear r1
  go_wp2_with fail
  refine C.out.mono ?_
  clear C
  rintro e v2 ⟨B12, c12, rfl, hp3⟩
  have HG := Lib.hid ((HPu.out.more HR1.out).trans hp3)
  clear hp3
  clear x0 n1 n2 n3 n4 n5
  go_wp2
  go_ret
  rw [HFin.out]
  exact ⟨B12, c12, (by first | rfl | simp), Puts.after HBu.out HG.out⟩
set_option maxRecDepth 100000 in
set_option maxHeartbeats 8000000 in
theorem put3_any (base : Nat) (B : Option Addr) (n cap : Nat) (bs : List Nat) (id nn pid pep : Int) (P : Option Addr) (pn pc : Nat) (ps : List (Int × Int)) (tid tep : Int) (Q : Option Addr) (qn qc : Nat) (sz lv ct : Int) (lo hi : ByteArray) (tp : Int) (qs : List (Int × Int)) (w : World) (h : Own w base B n cap bs) (hbase : base ≤ w.heap.size) (hP : PairsOk w P pn pc ps) (hoff : Off P B) (hok : (⟨3, id, nn, ⟨pid, pep, ps⟩, ⟨⟨tid, tep, qs⟩, sz, lv, ct, lo, hi, tp⟩⟩ : Ed.Et).ok = true) (hn : n ≤ 4000000) :
    Calls Tryz.prog 52 #[.slice B n cap, .agg #[.int .i64 3, .int .i64 id, .int .i64 nn, .int .i64 pid, .int .i64 pep, .slice P pn pc, .int .i64 tid, .int .i64 tep, .slice Q qn qc, .int .i64 sz, .int .i64 lv, .int .i64 ct, .string lo, .string hi, .int .i64 tp]] w (GivesPut w base B (bs ++ Ed.edB (⟨3, id, nn, ⟨pid, pep, ps⟩, ⟨⟨tid, tep, qs⟩, sz, lv, ct, lo, hi, tp⟩⟩ : Ed.Et))) := by
  have hl := h.1
  subst hl
  have hu : Below w.heap.size w (w.alloc (.cells #[.int .i64 3, .int .i64 id, .int .i64 nn, .int .i64 pid, .int .i64 pep, .slice P pn pc, .int .i64 tid, .int .i64 tep, .slice Q qn qc, .int .i64 sz, .int .i64 lv, .int .i64 ct, .string lo, .string hi, .int .i64 tp] 37)) := (Below.refl _ _).alloc (Nat.le_refl _) _
  have HX := Lib.hid (Holds.new w #[.int .i64 3, .int .i64 id, .int .i64 nn, .int .i64 pid, .int .i64 pep, .slice P pn pc, .int .i64 tid, .int .i64 tep, .slice Q qn qc, .int .i64 sz, .int .i64 lv, .int .i64 ct, .string lo, .string hi, .int .i64 tp] 37)
  have HBu := Lib.hid hu
  have HOw := Lib.hid (h.below hu)
  have HBs0 := Lib.hid (Nat.le_trans hbase hu.size)
  have HBx := Lib.hid (show ∀ g, blkOf B = some g → g ≠ w.heap.size from fun g hg => by have := (h.blk g (by rw [ownBlock_eq]; exact hg)).2; omega)
  have HP := Lib.hid (hP.below hu)
  have HOf := Lib.hid hoff
  have hok2 := hok
  unfold Ed.Et.ok at hok2
  dsimp only at hok2
  rw [if_neg (by decide), if_neg (by decide), if_pos rfl] at hok2
  simp only [Bool.and_eq_true] at hok2
  have HPk := Lib.hid (show (⟨pid, pep, ps⟩ : Ed.Pl).ok = true from hok2.1.1.1)
  clear hok hok2
  have HFin := Lib.hid (show bs ++ Ed.edB (⟨3, id, nn, ⟨pid, pep, ps⟩, ⟨⟨tid, tep, qs⟩, sz, lv, ct, lo, hi, tp⟩⟩ : Ed.Et) = bs ++ [3] ++ Ed.plB ⟨pid, pep, ps⟩ by rw [List.append_assoc]; rfl)
  clear h hu hbase hP hoff
  go_enter Tryz.func52, Tryz.ntmps52
  go_upto_region 1 with fail
  generalize (w.alloc (.cells #[.int .i64 3, .int .i64 id, .int .i64 nn, .int .i64 pid, .int .i64 pep, .slice P pn pc, .int .i64 tid, .int .i64 tep, .slice Q qn qc, .int .i64 sz, .int .i64 lv, .int .i64 ct, .string lo, .string hi, .int .i64 tp] 37)) = u at *
  replace HX : Hid (Holds u w.heap.size [.int .i64 3, .int .i64 id, .int .i64 nn, .int .i64 pid, .int .i64 pep, .slice P pn pc, .int .i64 tid, .int .i64 tep, .slice Q qn qc, .int .i64 sz, .int .i64 lv, .int .i64 ct, .string lo, .string hi, .int .i64 tp]) := HX
  have x0 := HX.out.at_ 0 rfl
  have hz : Below u.heap.size u (u.alloc (.cells #[.int .u8 3] 5)) := (Below.refl _ _).alloc (Nat.le_refl _) _
  have hrn := rd_one u 3 (by decide)
  have ho2 := HOw.out.below hz
  have hb2 := Nat.le_trans HBs0.out hz.size
  go_wp2_with (first | (at_builtin; refine wpList_appB rfl (.tmp 6) (.tmp 10) rfl rfl ho2 (some ⟨u.heap.size, 0, none⟩) 1 1 [3] rfl hrn (by omega) hb2 ?_; intro B1 c1 v hg3; have HPu := Lib.hid (Puts.after hz (Puts.of hg3)); have HBs := Lib.hid (Nat.le_trans HBs0.out HPu.out.grew.size); have HXv := Lib.hid (HX.out.grown HPu.out.grew (fun e => HBx.out _ e rfl)); clear hg3 hz hrn ho2 hb2 x0; have x0 := HXv.out.at_ 0 rfl; have n1 := HXv.out.at_ 1 rfl; have n2 := HXv.out.at_ 2 rfl; have n3 := HXv.out.at_ 3 rfl; have n4 := HXv.out.at_ 4 rfl; have n5 := HXv.out.at_ 5 rfl))
  have hpn : 0 < pn := by have h1 := HPk.out; unfold Ed.Pl.ok Ed.okP at h1; simp only [Bool.and_eq_true, Ed.from_iff] at h1; have := h1.1.1.2; have := HP.out.1.1; omega
  have C := Lib.hid (putplace_any base B1 (bs ++ [3]).length c1 (bs ++ [3]) pid pep P pn pc ps v HPu.out.own HBs.out (HP.out.puts HPu.out HOf.out) (HP.out.off HPu.out HOf.out hpn) HPk.out (by simp only [List.length_append, List.length_cons, List.length_nil]; omega))
  rw [List.length_append, List.length_cons, List.length_nil] at C
  go_wp2_with fail
  refine C.out.mono ?_
  clear C
  rintro e v2 ⟨B12, c12, rfl, hp3⟩
  have HG := Lib.hid (HPu.out.trans hp3)
  clear hp3
  clear x0 n1 n2 n3 n4 n5
  go_wp2
  go_ret
  rw [HFin.out]
  exact ⟨B12, c12, (by first | rfl | simp), Puts.after HBu.out HG.out⟩
set_option maxRecDepth 100000 in
set_option maxHeartbeats 8000000 in
theorem put4_any (base : Nat) (B : Option Addr) (n cap : Nat) (bs : List Nat) (id nn pid pep : Int) (P : Option Addr) (pn pc : Nat) (ps : List (Int × Int)) (tid tep : Int) (Q : Option Addr) (qn qc : Nat) (sz lv ct : Int) (lo hi : ByteArray) (tp : Int) (qs : List (Int × Int)) (w : World) (h : Own w base B n cap bs) (hbase : base ≤ w.heap.size) (hok : (⟨4, id, nn, ⟨pid, pep, ps⟩, ⟨⟨tid, tep, qs⟩, sz, lv, ct, lo, hi, tp⟩⟩ : Ed.Et).ok = true) (hn : n ≤ 4000000) :
    Calls Tryz.prog 52 #[.slice B n cap, .agg #[.int .i64 4, .int .i64 id, .int .i64 nn, .int .i64 pid, .int .i64 pep, .slice P pn pc, .int .i64 tid, .int .i64 tep, .slice Q qn qc, .int .i64 sz, .int .i64 lv, .int .i64 ct, .string lo, .string hi, .int .i64 tp]] w (GivesPut w base B (bs ++ Ed.edB (⟨4, id, nn, ⟨pid, pep, ps⟩, ⟨⟨tid, tep, qs⟩, sz, lv, ct, lo, hi, tp⟩⟩ : Ed.Et))) := by
  have hl := h.1
  subst hl
  have hu : Below w.heap.size w (w.alloc (.cells #[.int .i64 4, .int .i64 id, .int .i64 nn, .int .i64 pid, .int .i64 pep, .slice P pn pc, .int .i64 tid, .int .i64 tep, .slice Q qn qc, .int .i64 sz, .int .i64 lv, .int .i64 ct, .string lo, .string hi, .int .i64 tp] 37)) := (Below.refl _ _).alloc (Nat.le_refl _) _
  have HX := Lib.hid (Holds.new w #[.int .i64 4, .int .i64 id, .int .i64 nn, .int .i64 pid, .int .i64 pep, .slice P pn pc, .int .i64 tid, .int .i64 tep, .slice Q qn qc, .int .i64 sz, .int .i64 lv, .int .i64 ct, .string lo, .string hi, .int .i64 tp] 37)
  have HBu := Lib.hid hu
  have HOw := Lib.hid (h.below hu)
  have HBs0 := Lib.hid (Nat.le_trans hbase hu.size)
  have HBx := Lib.hid (show ∀ g, blkOf B = some g → g ≠ w.heap.size from fun g hg => by have := (h.blk g (by rw [ownBlock_eq]; exact hg)).2; omega)


  have hok2 := hok
  unfold Ed.Et.ok at hok2
  dsimp only at hok2
  rw [if_neg (by decide), if_neg (by decide), if_neg (by decide), if_pos rfl] at hok2
  simp only [Bool.and_eq_true, Ed.from_iff] at hok2
  have Hid_ := Lib.hid (show 0 ≤ id ∧ id ≤ 9223372036854775807 by have := hok2.1.1.1; omega)
  have Hnn := Lib.hid (show 0 ≤ nn ∧ nn ≤ 9223372036854775807 by have := hok2.1.1.2; omega)
  clear hok hok2
  have HFin := Lib.hid (show bs ++ Ed.edB (⟨4, id, nn, ⟨pid, pep, ps⟩, ⟨⟨tid, tep, qs⟩, sz, lv, ct, lo, hi, tp⟩⟩ : Ed.Et) = bs ++ [4] ++ (Ed.nsB [id] ++ Ed.nsB [nn]) by rw [List.append_assoc]; rfl)
  clear h hu hbase 
  go_enter Tryz.func52, Tryz.ntmps52
  go_upto_region 1 with fail
  generalize (w.alloc (.cells #[.int .i64 4, .int .i64 id, .int .i64 nn, .int .i64 pid, .int .i64 pep, .slice P pn pc, .int .i64 tid, .int .i64 tep, .slice Q qn qc, .int .i64 sz, .int .i64 lv, .int .i64 ct, .string lo, .string hi, .int .i64 tp] 37)) = u at *
  replace HX : Hid (Holds u w.heap.size [.int .i64 4, .int .i64 id, .int .i64 nn, .int .i64 pid, .int .i64 pep, .slice P pn pc, .int .i64 tid, .int .i64 tep, .slice Q qn qc, .int .i64 sz, .int .i64 lv, .int .i64 ct, .string lo, .string hi, .int .i64 tp]) := HX
  have x0 := HX.out.at_ 0 rfl
  have hz : Below u.heap.size u (u.alloc (.cells #[.int .u8 4] 5)) := (Below.refl _ _).alloc (Nat.le_refl _) _
  have hrn := rd_one u 4 (by decide)
  have ho2 := HOw.out.below hz
  have hb2 := Nat.le_trans HBs0.out hz.size
  go_wp2_with (first | (at_builtin; refine wpList_appB rfl (.tmp 6) (.tmp 10) rfl rfl ho2 (some ⟨u.heap.size, 0, none⟩) 1 1 [4] rfl hrn (by omega) hb2 ?_; intro B1 c1 v hg3; have HPu := Lib.hid (Puts.after hz (Puts.of hg3)); have HBs := Lib.hid (Nat.le_trans HBs0.out HPu.out.grew.size); have HXv := Lib.hid (HX.out.grown HPu.out.grew (fun e => HBx.out _ e rfl)); clear hg3 hz hrn ho2 hb2 x0; have x0 := HXv.out.at_ 0 rfl; have n1 := HXv.out.at_ 1 rfl; have n2 := HXv.out.at_ 2 rfl; have n3 := HXv.out.at_ 3 rfl; have n4 := HXv.out.at_ 4 rfl; have n5 := HXv.out.at_ 5 rfl))
  have r1 : Below v.heap.size v (v.alloc (.cells #[.int .i64 id] 3)) := (Below.refl _ _).alloc (Nat.le_refl _) _
  have C := Lib.hid (putnums_any base B1 (bs ++ [4]).length c1 (bs ++ [4]) (some ⟨v.heap.size, 0, none⟩) 1 1 [id] (v.alloc (.cells #[.int .i64 id] 3)) (HPu.out.own.below r1) (Nat.le_trans HBs.out r1.size) (rdi_new v [id] 3) (off_new HPu.out.own (Nat.le_refl _)) (fun z hz => by
    simp only [List.mem_cons, List.not_mem_nil, or_false] at hz
    subst hz
    exact Hid_.out) (by simp only [List.length_append, List.length_cons, List.length_nil]; first | omega | (have := Ed.nsB_len [id]; simp only [List.length_cons, List.length_nil] at this; omega)) (by omega))
  rw [List.length_append, List.length_cons, List.length_nil] at C
  have HR1 := Lib.hid r1
  clear r1
  go_wp2_with fail
  refine C.out.mono ?_
  clear C
  rintro e v2 ⟨B12, c12, rfl, hp3⟩
  have HG := Lib.hid ((HPu.out.more HR1.out).trans hp3)
  clear hp3
  have HBs2 := Lib.hid (Nat.le_trans HBs0.out HG.out.grew.size)
  have HXw := Lib.hid (HX.out.grown HG.out.grew (fun e => HBx.out _ e rfl))
  have HG1 := HG
  have hl2 : (bs ++ [4] ++ Ed.nsB [id]).length ≤ 4000100 := by
    rw [List.length_append, List.length_append]
    have := Ed.nsB_len [id]
    simp only [List.length_cons, List.length_nil] at this ⊢
    omega
  replace HFin := Lib.hid (HFin.out.trans (List.append_assoc (bs ++ [4]) (Ed.nsB [id]) (Ed.nsB [nn])).symm)
  generalize bs ++ [4] ++ Ed.nsB [id] = l2 at *
  clear HG x0 n1 n2 n3 n4 n5 HR1 HXv HPu HBs
  have x0 := HXw.out.at_ 0 rfl
  have n1 := HXw.out.at_ 1 rfl
  have n2 := HXw.out.at_ 2 rfl
  have n3 := HXw.out.at_ 3 rfl
  have n4 := HXw.out.at_ 4 rfl
  have n5 := HXw.out.at_ 5 rfl
  have r1 : Below v2.heap.size v2 (v2.alloc (.cells #[.int .i64 nn] 3)) := (Below.refl _ _).alloc (Nat.le_refl _) _
  have C := Lib.hid (putnums_any base B12 l2.length c12 l2 (some ⟨v2.heap.size, 0, none⟩) 1 1 [nn] (v2.alloc (.cells #[.int .i64 nn] 3)) (HG1.out.own.below r1) (Nat.le_trans HBs2.out r1.size) (rdi_new v2 [nn] 3) (off_new HG1.out.own (Nat.le_refl _)) (fun z hz => by
    simp only [List.mem_cons, List.not_mem_nil, or_false] at hz
    subst hz
    exact Hnn.out) (by omega) (by omega))
  have HR1 := Lib.hid r1
  clear r1
  go_wp2_with fail
  refine C.out.mono ?_
  clear C
  rintro e v3 ⟨B13, c13, rfl, hp3⟩
  have HG := Lib.hid ((HG1.out.more HR1.out).trans hp3)
  clear hp3
  clear x0 n1 n2 n3 n4 n5
  go_wp2
  go_ret
  rw [HFin.out]
  exact ⟨B13, c13, (by first | rfl | simp), Puts.after HBu.out HG.out⟩
set_option maxRecDepth 100000 in
set_option maxHeartbeats 8000000 in
theorem put5_any (base : Nat) (B : Option Addr) (n cap : Nat) (bs : List Nat) (id nn pid pep : Int) (P : Option Addr) (pn pc : Nat) (ps : List (Int × Int)) (tid tep : Int) (Q : Option Addr) (qn qc : Nat) (sz lv ct : Int) (lo hi : ByteArray) (tp : Int) (qs : List (Int × Int)) (w : World) (h : Own w base B n cap bs) (hbase : base ≤ w.heap.size) (hok : (⟨5, id, nn, ⟨pid, pep, ps⟩, ⟨⟨tid, tep, qs⟩, sz, lv, ct, lo, hi, tp⟩⟩ : Ed.Et).ok = true) (hn : n ≤ 4000000) :
    Calls Tryz.prog 52 #[.slice B n cap, .agg #[.int .i64 5, .int .i64 id, .int .i64 nn, .int .i64 pid, .int .i64 pep, .slice P pn pc, .int .i64 tid, .int .i64 tep, .slice Q qn qc, .int .i64 sz, .int .i64 lv, .int .i64 ct, .string lo, .string hi, .int .i64 tp]] w (GivesPut w base B (bs ++ Ed.edB (⟨5, id, nn, ⟨pid, pep, ps⟩, ⟨⟨tid, tep, qs⟩, sz, lv, ct, lo, hi, tp⟩⟩ : Ed.Et))) := by
  have hl := h.1
  subst hl
  have hu : Below w.heap.size w (w.alloc (.cells #[.int .i64 5, .int .i64 id, .int .i64 nn, .int .i64 pid, .int .i64 pep, .slice P pn pc, .int .i64 tid, .int .i64 tep, .slice Q qn qc, .int .i64 sz, .int .i64 lv, .int .i64 ct, .string lo, .string hi, .int .i64 tp] 37)) := (Below.refl _ _).alloc (Nat.le_refl _) _
  have HX := Lib.hid (Holds.new w #[.int .i64 5, .int .i64 id, .int .i64 nn, .int .i64 pid, .int .i64 pep, .slice P pn pc, .int .i64 tid, .int .i64 tep, .slice Q qn qc, .int .i64 sz, .int .i64 lv, .int .i64 ct, .string lo, .string hi, .int .i64 tp] 37)
  have HBu := Lib.hid hu
  have HOw := Lib.hid (h.below hu)
  have HBs0 := Lib.hid (Nat.le_trans hbase hu.size)
  have HBx := Lib.hid (show ∀ g, blkOf B = some g → g ≠ w.heap.size from fun g hg => by have := (h.blk g (by rw [ownBlock_eq]; exact hg)).2; omega)


  have hok2 := hok
  unfold Ed.Et.ok at hok2
  dsimp only at hok2
  rw [if_neg (by decide), if_neg (by decide), if_neg (by decide), if_neg (by decide), if_pos rfl] at hok2
  simp only [Bool.and_eq_true, Ed.from_iff] at hok2
  have Hid_ := Lib.hid (show 0 ≤ id ∧ id ≤ 9223372036854775807 by have := hok2.1.1.1; omega)
  clear hok hok2
  have HFin := Lib.hid (show bs ++ Ed.edB (⟨5, id, nn, ⟨pid, pep, ps⟩, ⟨⟨tid, tep, qs⟩, sz, lv, ct, lo, hi, tp⟩⟩ : Ed.Et) = bs ++ [5] ++ Ed.nsB [id] by rw [List.append_assoc]; rfl)
  clear h hu hbase 
  go_enter Tryz.func52, Tryz.ntmps52
  go_upto_region 1 with fail
  generalize (w.alloc (.cells #[.int .i64 5, .int .i64 id, .int .i64 nn, .int .i64 pid, .int .i64 pep, .slice P pn pc, .int .i64 tid, .int .i64 tep, .slice Q qn qc, .int .i64 sz, .int .i64 lv, .int .i64 ct, .string lo, .string hi, .int .i64 tp] 37)) = u at *
  replace HX : Hid (Holds u w.heap.size [.int .i64 5, .int .i64 id, .int .i64 nn, .int .i64 pid, .int .i64 pep, .slice P pn pc, .int .i64 tid, .int .i64 tep, .slice Q qn qc, .int .i64 sz, .int .i64 lv, .int .i64 ct, .string lo, .string hi, .int .i64 tp]) := HX
  have x0 := HX.out.at_ 0 rfl
  have hz : Below u.heap.size u (u.alloc (.cells #[.int .u8 5] 5)) := (Below.refl _ _).alloc (Nat.le_refl _) _
  have hrn := rd_one u 5 (by decide)
  have ho2 := HOw.out.below hz
  have hb2 := Nat.le_trans HBs0.out hz.size
  go_wp2_with (first | (at_builtin; refine wpList_appB rfl (.tmp 6) (.tmp 10) rfl rfl ho2 (some ⟨u.heap.size, 0, none⟩) 1 1 [5] rfl hrn (by omega) hb2 ?_; intro B1 c1 v hg3; have HPu := Lib.hid (Puts.after hz (Puts.of hg3)); have HBs := Lib.hid (Nat.le_trans HBs0.out HPu.out.grew.size); have HXv := Lib.hid (HX.out.grown HPu.out.grew (fun e => HBx.out _ e rfl)); clear hg3 hz hrn ho2 hb2 x0; have x0 := HXv.out.at_ 0 rfl; have n1 := HXv.out.at_ 1 rfl; have n2 := HXv.out.at_ 2 rfl; have n3 := HXv.out.at_ 3 rfl; have n4 := HXv.out.at_ 4 rfl; have n5 := HXv.out.at_ 5 rfl))
  have r1 : Below v.heap.size v (v.alloc (.cells #[.int .i64 id] 3)) := (Below.refl _ _).alloc (Nat.le_refl _) _
  have C := Lib.hid (putnums_any base B1 (bs ++ [5]).length c1 (bs ++ [5]) (some ⟨v.heap.size, 0, none⟩) 1 1 [id] (v.alloc (.cells #[.int .i64 id] 3)) (HPu.out.own.below r1) (Nat.le_trans HBs.out r1.size) (rdi_new v [id] 3) (off_new HPu.out.own (Nat.le_refl _)) (fun z hz => by
    simp only [List.mem_cons, List.not_mem_nil, or_false] at hz
    subst hz
    exact Hid_.out) (by simp only [List.length_append, List.length_cons, List.length_nil]; first | omega | (have := Ed.nsB_len [id]; simp only [List.length_cons, List.length_nil] at this; omega)) (by omega))
  rw [List.length_append, List.length_cons, List.length_nil] at C
  have HR1 := Lib.hid r1
  clear r1
  go_wp2_with fail
  refine C.out.mono ?_
  clear C
  rintro e v2 ⟨B12, c12, rfl, hp3⟩
  have HG := Lib.hid ((HPu.out.more HR1.out).trans hp3)
  clear hp3
  clear x0 n1 n2 n3 n4 n5
  go_wp2
  go_ret
  rw [HFin.out]
  exact ⟨B12, c12, (by first | rfl | simp), Puts.after HBu.out HG.out⟩
set_option maxRecDepth 100000 in
set_option maxHeartbeats 8000000 in
theorem put7_any (base : Nat) (B : Option Addr) (n cap : Nat) (bs : List Nat) (id nn pid pep : Int) (P : Option Addr) (pn pc : Nat) (ps : List (Int × Int)) (tid tep : Int) (Q : Option Addr) (qn qc : Nat) (sz lv ct : Int) (lo hi : ByteArray) (tp : Int) (qs : List (Int × Int)) (w : World) (h : Own w base B n cap bs) (hbase : base ≤ w.heap.size) (hok : (⟨7, id, nn, ⟨pid, pep, ps⟩, ⟨⟨tid, tep, qs⟩, sz, lv, ct, lo, hi, tp⟩⟩ : Ed.Et).ok = true) (hn : n ≤ 4000000) :
    Calls Tryz.prog 52 #[.slice B n cap, .agg #[.int .i64 7, .int .i64 id, .int .i64 nn, .int .i64 pid, .int .i64 pep, .slice P pn pc, .int .i64 tid, .int .i64 tep, .slice Q qn qc, .int .i64 sz, .int .i64 lv, .int .i64 ct, .string lo, .string hi, .int .i64 tp]] w (GivesPut w base B (bs ++ Ed.edB (⟨7, id, nn, ⟨pid, pep, ps⟩, ⟨⟨tid, tep, qs⟩, sz, lv, ct, lo, hi, tp⟩⟩ : Ed.Et))) := by
  have hl := h.1
  subst hl
  have hu : Below w.heap.size w (w.alloc (.cells #[.int .i64 7, .int .i64 id, .int .i64 nn, .int .i64 pid, .int .i64 pep, .slice P pn pc, .int .i64 tid, .int .i64 tep, .slice Q qn qc, .int .i64 sz, .int .i64 lv, .int .i64 ct, .string lo, .string hi, .int .i64 tp] 37)) := (Below.refl _ _).alloc (Nat.le_refl _) _
  have HX := Lib.hid (Holds.new w #[.int .i64 7, .int .i64 id, .int .i64 nn, .int .i64 pid, .int .i64 pep, .slice P pn pc, .int .i64 tid, .int .i64 tep, .slice Q qn qc, .int .i64 sz, .int .i64 lv, .int .i64 ct, .string lo, .string hi, .int .i64 tp] 37)
  have HBu := Lib.hid hu
  have HOw := Lib.hid (h.below hu)
  have HBs0 := Lib.hid (Nat.le_trans hbase hu.size)
  have HBx := Lib.hid (show ∀ g, blkOf B = some g → g ≠ w.heap.size from fun g hg => by have := (h.blk g (by rw [ownBlock_eq]; exact hg)).2; omega)


  have hok2 := hok
  unfold Ed.Et.ok at hok2
  dsimp only at hok2
  rw [if_neg (by decide), if_neg (by decide), if_neg (by decide), if_neg (by decide), if_neg (by decide), if_neg (by decide), if_pos rfl] at hok2
  simp only [Bool.and_eq_true, Ed.from_iff] at hok2
  have Hid_ := Lib.hid (show 0 ≤ id ∧ id ≤ 9223372036854775807 by have := hok2.1.1.1; omega)
  clear hok hok2
  have HFin := Lib.hid (show bs ++ Ed.edB (⟨7, id, nn, ⟨pid, pep, ps⟩, ⟨⟨tid, tep, qs⟩, sz, lv, ct, lo, hi, tp⟩⟩ : Ed.Et) = bs ++ [7] ++ Ed.nsB [id] by rw [List.append_assoc]; rfl)
  clear h hu hbase 
  go_enter Tryz.func52, Tryz.ntmps52
  go_upto_region 1 with fail
  generalize (w.alloc (.cells #[.int .i64 7, .int .i64 id, .int .i64 nn, .int .i64 pid, .int .i64 pep, .slice P pn pc, .int .i64 tid, .int .i64 tep, .slice Q qn qc, .int .i64 sz, .int .i64 lv, .int .i64 ct, .string lo, .string hi, .int .i64 tp] 37)) = u at *
  replace HX : Hid (Holds u w.heap.size [.int .i64 7, .int .i64 id, .int .i64 nn, .int .i64 pid, .int .i64 pep, .slice P pn pc, .int .i64 tid, .int .i64 tep, .slice Q qn qc, .int .i64 sz, .int .i64 lv, .int .i64 ct, .string lo, .string hi, .int .i64 tp]) := HX
  have x0 := HX.out.at_ 0 rfl
  have hz : Below u.heap.size u (u.alloc (.cells #[.int .u8 7] 5)) := (Below.refl _ _).alloc (Nat.le_refl _) _
  have hrn := rd_one u 7 (by decide)
  have ho2 := HOw.out.below hz
  have hb2 := Nat.le_trans HBs0.out hz.size
  go_wp2_with (first | (at_builtin; refine wpList_appB rfl (.tmp 6) (.tmp 10) rfl rfl ho2 (some ⟨u.heap.size, 0, none⟩) 1 1 [7] rfl hrn (by omega) hb2 ?_; intro B1 c1 v hg3; have HPu := Lib.hid (Puts.after hz (Puts.of hg3)); have HBs := Lib.hid (Nat.le_trans HBs0.out HPu.out.grew.size); have HXv := Lib.hid (HX.out.grown HPu.out.grew (fun e => HBx.out _ e rfl)); clear hg3 hz hrn ho2 hb2 x0; have x0 := HXv.out.at_ 0 rfl; have n1 := HXv.out.at_ 1 rfl; have n2 := HXv.out.at_ 2 rfl; have n3 := HXv.out.at_ 3 rfl; have n4 := HXv.out.at_ 4 rfl; have n5 := HXv.out.at_ 5 rfl))
  have r1 : Below v.heap.size v (v.alloc (.cells #[.int .i64 id] 3)) := (Below.refl _ _).alloc (Nat.le_refl _) _
  have C := Lib.hid (putnums_any base B1 (bs ++ [7]).length c1 (bs ++ [7]) (some ⟨v.heap.size, 0, none⟩) 1 1 [id] (v.alloc (.cells #[.int .i64 id] 3)) (HPu.out.own.below r1) (Nat.le_trans HBs.out r1.size) (rdi_new v [id] 3) (off_new HPu.out.own (Nat.le_refl _)) (fun z hz => by
    simp only [List.mem_cons, List.not_mem_nil, or_false] at hz
    subst hz
    exact Hid_.out) (by simp only [List.length_append, List.length_cons, List.length_nil]; first | omega | (have := Ed.nsB_len [id]; simp only [List.length_cons, List.length_nil] at this; omega)) (by omega))
  rw [List.length_append, List.length_cons, List.length_nil] at C
  have HR1 := Lib.hid r1
  clear r1
  go_wp2_with fail
  refine C.out.mono ?_
  clear C
  rintro e v2 ⟨B12, c12, rfl, hp3⟩
  have HG := Lib.hid ((HPu.out.more HR1.out).trans hp3)
  clear hp3
  clear x0 n1 n2 n3 n4 n5
  go_wp2
  go_ret
  rw [HFin.out]
  exact ⟨B12, c12, (by first | rfl | simp), Puts.after HBu.out HG.out⟩
end Go.Proofs.YthfcjlndaajkfaaGreat
namespace Go.Proofs.YthfcjlndaajkfaaGreat
open Go.RowKit
set_option maxRecDepth 100000 in
set_option maxHeartbeats 8000000 in
theorem ristable_any (t : Pk.Tb) (ps : List (Int × Int)) (w : World) (hr : RdPs w t.P t.pn ps) (hf : t.fits) (hn : t.pn ≤ 9223372036854775807) :
    Calls Tryz.prog 39 #[.agg t.cells.toArray] w fun e w' => e = .returned (.bool (Ed.okT t ps)) ∧ Below w.heap.size w w' := by
  obtain ⟨id, ep, P, pn, pc, sz, lv, ct, lo, hi, tp⟩ := t
  have hls : lo.size ≤ 9223372036854775807 := hf.1
  have hhs : hi.size ≤ 9223372036854775807 := hf.2.1
  have hr : RdPs w P pn ps := hr
  have hn : pn ≤ 9223372036854775807 := hn
  have HL := Lib.hid hr.1
  show Calls _ _ #[.agg #[.int .i64 id, .int .i64 ep, .slice P pn pc, .int .i64 sz, .int .i64 lv, .int .i64 ct, .string lo, .string hi, .int .i64 tp]] _ _
  have HB0 := Lib.hid (show Below w.heap.size w (w.alloc (.cells #[.int .i64 id, .int .i64 ep, .slice P pn pc, .int .i64 sz, .int .i64 lv, .int .i64 ct, .string lo, .string hi, .int .i64 tp] 35)) from (Below.refl _ _).alloc (Nat.le_refl _) _)
  have HZ := Lib.hid (Holds.new w #[.int .i64 id, .int .i64 ep, .slice P pn pc, .int .i64 sz, .int .i64 lv, .int .i64 ct, .string lo, .string hi, .int .i64 tp] 35)
  have HPl := Lib.hid (isplace_any id ep P pn pc ps (w.alloc (.cells #[.int .i64 id, .int .i64 ep, .slice P pn pc, .int .i64 sz, .int .i64 lv, .int .i64 ct, .string lo, .string hi, .int .i64 tp] 35)) (hr.below HB0.out) hn)
  clear hr hf
  generalize hans : Ed.okT ⟨id, ep, P, pn, pc, sz, lv, ct, lo, hi, tp⟩ ps = ans
  have hans : (Ed.okP id ep ps && Ed.from_ sz 12 (864 * (ps.length : Int)) && Ed.from_ lv 0 3 && Ed.from_ ct 1 1048576 && Ed.from_ tp 1 1099511627776 && Ed.from_ (lo.size : Int) 1 64 && Ed.from_ (hi.size : Int) 1 64 && !Pk.lt hi lo) = ans := hans
  rw [HL.out] at hans
  have HA := Lib.hid hans
  clear hans
  go_enter Tryz.func39, Tryz.ntmps39
  go_upto_region 1 with fail
  generalize (w.alloc (.cells #[.int .i64 id, .int .i64 ep, .slice P pn pc, .int .i64 sz, .int .i64 lv, .int .i64 ct, .string lo, .string hi, .int .i64 tp] 35)) = u at *
  replace HZ : Hid (Holds u w.heap.size [.int .i64 id, .int .i64 ep, .slice P pn pc, .int .i64 sz, .int .i64 lv, .int .i64 ct, .string lo, .string hi, .int .i64 tp]) := HZ
  have z0 := HZ.out.at_ 0 rfl
  have z1 := HZ.out.at_ 1 rfl
  have z2 := HZ.out.at_ 2 rfl
  have hpn : Ed.okP id ep ps = true → pn ≤ 64 := fun h => by
    unfold Ed.okP at h
    rw [Bool.and_eq_true, Bool.and_eq_true, Bool.and_eq_true] at h
    have := (Ed.from_iff.1 h.1.1.2).2
    have := HL.out
    omega
  go_wp2_with fail
  refine HPl.out.mono ?_
  rintro e v1 ⟨rfl, hb1⟩
  have HB1 := Lib.hid (below_next HB0.out hb1)
  have HZ1 := Lib.hid (HZ.out.below hb1)
  clear z0 z1 z2 hb1 HPl HZ
  obtain ⟨z0, z1, z2, z3, z4, z5, z6, z7, z8⟩ := HZ1.out.all9
  clear HZ1
  generalize hk0 : Ed.okP id ep ps = k0 at *
  clear hk0
  have G1 := from_any sz 12 (864 * (pn : Int)) v1
  have G2 := from_any lv 0 3 v1
  have G3 := from_any ct 1 1048576 v1
  have G4 := from_any tp 1 1099511627776 v1
  have G5 := from_any (lo.size : Int) 1 64 v1
  have G6 := from_any (hi.size : Int) 1 64 v1
  have hlt : Pk.lt hi lo = Op.bytesLess hi.toList lo.toList := rfl
  rw [hlt] at HA
  clear hlt
  generalize Ed.from_ sz 12 (864 * (pn : Int)) = k1 at *
  generalize Ed.from_ lv 0 3 = k2 at *
  generalize Ed.from_ ct 1 1048576 = k3 at *
  generalize Ed.from_ tp 1 1099511627776 = k4 at *
  generalize Ed.from_ (lo.size : Int) 1 64 = k5 at *
  generalize Ed.from_ (hi.size : Int) 1 64 = k6 at *
  have F1 := Lib.hid G1
  have F2 := Lib.hid G2
  have F3 := Lib.hid G3
  have F4 := Lib.hid G4
  have F5 := Lib.hid G5
  have F6 := Lib.hid G6
  clear G1 G2 G3 G4 G5 G6 HL
  cases k0 with
  | false =>
    have HF := Lib.hid (show false = ans by rw [← HA.out]; rfl)
    clear hpn
    go_wp2
    go_ret
    exact ⟨by rw [← HF.out]; rfl, HB1.out⟩
  | true =>
  have hpn64 : pn ≤ 64 := hpn rfl
  clear hpn
  cases k1 with
  | false =>
    have HF := Lib.hid (show false = ans by rw [← HA.out]; rfl)
    go_wp2_with fail
    refine F1.out.mono ?_
    rintro e y1 ⟨rfl, rfl⟩
    go_wp2
    go_ret
    exact ⟨by rw [← HF.out]; rfl, HB1.out⟩
  | true =>
  cases k2 with
  | false =>
    have HF := Lib.hid (show false = ans by rw [← HA.out]; rfl)
    go_wp2_with fail
    refine F1.out.mono ?_
    rintro e y1 ⟨rfl, rfl⟩
    go_wp2_with fail
    refine F2.out.mono ?_
    rintro e y2 ⟨rfl, rfl⟩
    go_wp2
    go_ret
    exact ⟨by rw [← HF.out]; rfl, HB1.out⟩
  | true =>
  cases k3 with
  | false =>
    have HF := Lib.hid (show false = ans by rw [← HA.out]; rfl)
    go_wp2_with fail
    refine F1.out.mono ?_
    rintro e y1 ⟨rfl, rfl⟩
    go_wp2_with fail
    refine F2.out.mono ?_
    rintro e y2 ⟨rfl, rfl⟩
    go_wp2_with fail
    refine F3.out.mono ?_
    rintro e y3 ⟨rfl, rfl⟩
    go_wp2
    go_ret
    exact ⟨by rw [← HF.out]; rfl, HB1.out⟩
  | true =>
  cases k4 with
  | false =>
    have HF := Lib.hid (show false = ans by rw [← HA.out]; rfl)
    go_wp2_with fail
    refine F1.out.mono ?_
    rintro e y1 ⟨rfl, rfl⟩
    go_wp2_with fail
    refine F2.out.mono ?_
    rintro e y2 ⟨rfl, rfl⟩
    go_wp2_with fail
    refine F3.out.mono ?_
    rintro e y3 ⟨rfl, rfl⟩
    go_wp2_with fail
    refine F4.out.mono ?_
    rintro e y4 ⟨rfl, rfl⟩
    go_wp2
    go_ret
    exact ⟨by rw [← HF.out]; rfl, HB1.out⟩
  | true =>
  cases k5 with
  | false =>
    have HF := Lib.hid (show false = ans by rw [← HA.out]; rfl)
    go_wp2_with fail
    refine F1.out.mono ?_
    rintro e y1 ⟨rfl, rfl⟩
    go_wp2_with fail
    refine F2.out.mono ?_
    rintro e y2 ⟨rfl, rfl⟩
    go_wp2_with fail
    refine F3.out.mono ?_
    rintro e y3 ⟨rfl, rfl⟩
    go_wp2_with fail
    refine F4.out.mono ?_
    rintro e y4 ⟨rfl, rfl⟩
    go_wp2_with fail
    refine F5.out.mono ?_
    rintro e y5 ⟨rfl, rfl⟩
    go_wp2
    go_ret
    exact ⟨by rw [← HF.out]; rfl, HB1.out⟩
  | true =>
  cases k6 with
  | false =>
    have HF := Lib.hid (show false = ans by rw [← HA.out]; rfl)
    go_wp2_with fail
    refine F1.out.mono ?_
    rintro e y1 ⟨rfl, rfl⟩
    go_wp2_with fail
    refine F2.out.mono ?_
    rintro e y2 ⟨rfl, rfl⟩
    go_wp2_with fail
    refine F3.out.mono ?_
    rintro e y3 ⟨rfl, rfl⟩
    go_wp2_with fail
    refine F4.out.mono ?_
    rintro e y4 ⟨rfl, rfl⟩
    go_wp2_with fail
    refine F5.out.mono ?_
    rintro e y5 ⟨rfl, rfl⟩
    go_wp2_with fail
    refine F6.out.mono ?_
    rintro e y6 ⟨rfl, rfl⟩
    go_wp2
    go_ret
    exact ⟨by rw [← HF.out]; rfl, HB1.out⟩
  | true =>
  cases g0 : Op.bytesLess hi.toList lo.toList with
  | true =>
    have HF := Lib.hid (show false = ans by rw [← HA.out, g0]; rfl)
    go_wp2_with fail
    refine F1.out.mono ?_
    rintro e y1 ⟨rfl, rfl⟩
    go_wp2_with fail
    refine F2.out.mono ?_
    rintro e y2 ⟨rfl, rfl⟩
    go_wp2_with fail
    refine F3.out.mono ?_
    rintro e y3 ⟨rfl, rfl⟩
    go_wp2_with fail
    refine F4.out.mono ?_
    rintro e y4 ⟨rfl, rfl⟩
    go_wp2_with fail
    refine F5.out.mono ?_
    rintro e y5 ⟨rfl, rfl⟩
    go_wp2_with fail
    refine F6.out.mono ?_
    rintro e y6 ⟨rfl, rfl⟩
    go_wp2
    go_ret
    exact ⟨by rw [← HF.out]; rfl, HB1.out⟩
  | false =>
    have HF := Lib.hid (show true = ans by rw [← HA.out, g0]; rfl)
    go_wp2_with fail
    refine F1.out.mono ?_
    rintro e y1 ⟨rfl, rfl⟩
    go_wp2_with fail
    refine F2.out.mono ?_
    rintro e y2 ⟨rfl, rfl⟩
    go_wp2_with fail
    refine F3.out.mono ?_
    rintro e y3 ⟨rfl, rfl⟩
    go_wp2_with fail
    refine F4.out.mono ?_
    rintro e y4 ⟨rfl, rfl⟩
    go_wp2_with fail
    refine F5.out.mono ?_
    rintro e y5 ⟨rfl, rfl⟩
    go_wp2_with fail
    refine F6.out.mono ?_
    rintro e y6 ⟨rfl, rfl⟩
    go_wp2
    go_ret
    exact ⟨by rw [← HF.out]; rfl, HB1.out⟩
end Go.Proofs.YthfcjlndaajkfaaGreat
namespace Go.Proofs.YthfcjlndaajkfaaGreat
open Go.RowKit
theorem step_appB {w : World} {base n cap : Nat} {A : Option Addr} {l : List Nat} {ops : Array Oper} {o : Oper} {a : Act} {K : Act → World → Prop} {Q : Exit → Act → World → Prop} {E : Prop} (hw : Region.wanted o (yielded ops a.tmps) = true) (s x : Operand)
    (ho : o.op = .call { callee := .builtin .append, args := #[s, x], argTypes := #[51, 51] })
    (hs : a.eval s = .slice A n cap) (hown : Own w base A n cap l) (B : Option Addr) (m c : Nat) (news : List Nat) (hx : a.eval x = .slice B m c) (hr : Rd w B m news) (hlen : n + m ≤ 100000000) (hbase : base ≤ w.heap.size)
    (h : ∀ A' cap' w', Grew w w' base A A' n cap (n + m) cap' (l ++ news) → K (a.put o.dst (.slice A' (n + m) cap')) w') :
    if Region.wanted o (yielded ops a.tmps) = true then Oper.wp Tryz.prog o a w K Q else E := by
  rw [if_pos hw]
  obtain ⟨A', cap', w', hrun, hg⟩ := run_appB hown B m c news hr hlen hbase o.type
  unfold Oper.wp execOp
  simp only [ho, resolve, invoke, builtin, Sem.run_bind, Sem.run_pure, Result.andThen_ok, List.map_toArray, List.map_cons, List.map_nil, hs, hx, hrun]
  exact h A' cap' w' hg
end Go.Proofs.YthfcjlndaajkfaaGreat
