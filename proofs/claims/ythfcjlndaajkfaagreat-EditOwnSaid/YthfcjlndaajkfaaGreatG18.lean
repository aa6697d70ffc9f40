/- edit.put: an edit's bytes behind others (no table's). -/
import Derived.Test.YthfcjlndaajkfaaGreatG17
namespace Go.Proofs.YthfcjlndaajkfaaGreat
open Go.RowKit
set_option linter.unusedVariables false
theorem PairsOk.puts {w w' : World} {P B B' : Option Addr} {pn pc : Nat} {ps : List (Int × Int)} {base c' : Nat} {bs' : List Nat} (h : PairsOk w P pn pc ps) (k : Puts w w' base B B' bs' c') (ho : Off P B) : PairsOk w' P pn pc ps :=
  ⟨⟨h.1.1, h.1.2.1, fun hn => by
    obtain ⟨b, o, hA, hb, hc⟩ := h.1.2.2 hn
    exact ⟨b, o, hA, Nat.lt_of_lt_of_le hb k.grew.size, fun j v hv => k.grew.cell (hc j v hv) (fun e => ho b (by rw [hA]; rfl) e.symm)⟩⟩, h.2⟩
theorem PairsOk.off {w w' : World} {P B B' : Option Addr} {pn pc : Nat} {ps : List (Int × Int)} {base c' : Nat} {bs' : List Nat} (h : PairsOk w P pn pc ps) (k : Puts w w' base B B' bs' c') (ho : Off P B) (hn : 0 < pn) : Off P B' := fun g hg e => by
  rcases k.blk g e with e2 | e2
  · exact ho g hg e2
  · obtain ⟨b, o, hA, hb, _⟩ := h.1.2.2 hn
    rw [hA] at hg
    injection hg with hg
    have : b = g := hg
    omega
set_option maxRecDepth 100000 in
set_option maxHeartbeats 8000000 in
theorem put1_any (base : Nat) (B : Option Addr) (n cap : Nat) (bs : List Nat) (id nn pid pep : Int) (P : Option Addr) (pn pc : Nat) (ps : List (Int × Int)) (tid tep : Int) (Q : Option Addr) (qn qc : Nat) (sz lv ct : Int) (lo hi : ByteArray) (tp : Int) (qs : List (Int × Int)) (w : World) (h : Own w base B n cap bs) (hbase : base ≤ w.heap.size) (hok : (⟨1, id, nn, ⟨pid, pep, ps⟩, ⟨⟨tid, tep, qs⟩, sz, lv, ct, lo, hi, tp⟩⟩ : Ed.Et).ok = true) (hn : n ≤ 4000000) :
    Calls Tryz.prog 52 #[.slice B n cap, .agg #[.int .i64 1, .int .i64 id, .int .i64 nn, .int .i64 pid, .int .i64 pep, .slice P pn pc, .int .i64 tid, .int .i64 tep, .slice Q qn qc, .int .i64 sz, .int .i64 lv, .int .i64 ct, .string lo, .string hi, .int .i64 tp]] w (GivesPut w base B (bs ++ Ed.edB (⟨1, id, nn, ⟨pid, pep, ps⟩, ⟨⟨tid, tep, qs⟩, sz, lv, ct, lo, hi, tp⟩⟩ : Ed.Et))) := by
  have hl := h.1
  subst hl
  have hu : Below w.heap.size w (w.alloc (.cells #[.int .i64 1, .int .i64 id, .int .i64 nn, .int .i64 pid, .int .i64 pep, .slice P pn pc, .int .i64 tid, .int .i64 tep, .slice Q qn qc, .int .i64 sz, .int .i64 lv, .int .i64 ct, .string lo, .string hi, .int .i64 tp] 37)) := (Below.refl _ _).alloc (Nat.le_refl _) _
  have HX := hd_ (Holds.new w #[.int .i64 1, .int .i64 id, .int .i64 nn, .int .i64 pid, .int .i64 pep, .slice P pn pc, .int .i64 tid, .int .i64 tep, .slice Q qn qc, .int .i64 sz, .int .i64 lv, .int .i64 ct, .string lo, .string hi, .int .i64 tp] 37)
  have HBu := hd_ hu
  have HOw := hd_ (h.below hu)
  have HBs0 := hd_ (Nat.le_trans hbase hu.size)
  have HBx := hd_ (show ∀ g, blkOf B = some g → g ≠ w.heap.size from fun g hg => by have := (h.blk g (by rw [ownBlock_eq]; exact hg)).2; omega)


  have hok2 := hok
  unfold Ed.Et.ok at hok2
  dsimp only at hok2
  rw [if_pos rfl] at hok2
  simp only [Bool.and_eq_true, Ed.from_iff] at hok2
  have Hnn := hd_ (show 0 ≤ nn ∧ nn ≤ 9223372036854775807 by have := hok2.1.1.1; omega)
  clear hok hok2
  have HFin := hd_ (show bs ++ Ed.edB (⟨1, id, nn, ⟨pid, pep, ps⟩, ⟨⟨tid, tep, qs⟩, sz, lv, ct, lo, hi, tp⟩⟩ : Ed.Et) = bs ++ [1] ++ Ed.nsB [nn] by rw [List.append_assoc]; rfl)
  clear h hu hbase 
  go_enter Tryz.func52, Tryz.ntmps52
  go_upto_region 1 with fail
  generalize (w.alloc (.cells #[.int .i64 1, .int .i64 id, .int .i64 nn, .int .i64 pid, .int .i64 pep, .slice P pn pc, .int .i64 tid, .int .i64 tep, .slice Q qn qc, .int .i64 sz, .int .i64 lv, .int .i64 ct, .string lo, .string hi, .int .i64 tp] 37)) = u at *
  replace HX : Hid (Holds u w.heap.size [.int .i64 1, .int .i64 id, .int .i64 nn, .int .i64 pid, .int .i64 pep, .slice P pn pc, .int .i64 tid, .int .i64 tep, .slice Q qn qc, .int .i64 sz, .int .i64 lv, .int .i64 ct, .string lo, .string hi, .int .i64 tp]) := HX
  have x0 := HX.out.at_ 0 rfl
  have hz : Below u.heap.size u (u.alloc (.cells #[.int .u8 1] 5)) := (Below.refl _ _).alloc (Nat.le_refl _) _
  have hrn := rd_one u 1 (by decide)
  have ho2 := HOw.out.below hz
  have hb2 := Nat.le_trans HBs0.out hz.size
  go_wp2_with (first | (at_builtin; refine wpList_appB rfl (.tmp 6) (.tmp 10) rfl rfl ho2 (some ⟨u.heap.size, 0, none⟩) 1 1 [1] rfl hrn (by omega) hb2 ?_; intro B1 c1 v hg3; have HPu := hd_ (Puts.after hz (Puts.of hg3)); have HBs := hd_ (Nat.le_trans HBs0.out HPu.out.grew.size); have HXv := hd_ (HX.out.grown HPu.out.grew (fun e => HBx.out _ e rfl)); clear hg3 hz hrn ho2 hb2 x0; have x0 := HXv.out.at_ 0 rfl; have n1 := HXv.out.at_ 1 rfl; have n2 := HXv.out.at_ 2 rfl; have n3 := HXv.out.at_ 3 rfl; have n4 := HXv.out.at_ 4 rfl; have n5 := HXv.out.at_ 5 rfl))
  have r1 : Below v.heap.size v (v.alloc (.cells #[.int .i64 nn] 3)) := (Below.refl _ _).alloc (Nat.le_refl _) _
  have C := hd_ (putnums_any base B1 (bs ++ [1]).length c1 (bs ++ [1]) (some ⟨v.heap.size, 0, none⟩) 1 1 [nn] (v.alloc (.cells #[.int .i64 nn] 3)) (HPu.out.own.below r1) (Nat.le_trans HBs.out r1.size) (rdi_new v [nn] 3) (off_new HPu.out.own (Nat.le_refl _)) (fun z hz => by
    simp only [List.mem_cons, List.not_mem_nil, or_false] at hz
    subst hz
    exact Hnn.out) (by simp only [List.length_append, List.length_cons, List.length_nil]; first | omega | (have := Ed.nsB_len [id]; simp only [List.length_cons, List.length_nil] at this; omega)) (by omega))
  rw [List.length_append, List.length_cons, List.length_nil] at C
  have HR1 := hd_ r1
  clear r1
  go_wp2_with fail
  refine C.out.mono ?_
  clear C
  rintro e v2 ⟨B12, c12, rfl, hp3⟩
  have HG := hd_ ((HPu.out.more HR1.out).trans hp3)
  clear hp3
  clear x0 n1 n2 n3 n4 n5
  go_wp2
  go_ret
  rw [HFin.out]
  exact ⟨B12, c12, (by first | rfl | simp), Puts.after HBu.out HG.out⟩
set_option maxRecDepth 100000 in
set_option maxHeartbeats 8000000 in
theorem put2_any (base : Nat) (B : Option Addr) (n cap : Nat) (bs : List Nat) (id nn pid pep : Int) (P : Option Addr) (pn pc : Nat) (ps : List (Int × Int)) (tid tep : Int) (Q : Option Addr) (qn qc : Nat) (sz lv ct : Int) (lo hi : ByteArray) (tp : Int) (qs : List (Int × Int)) (w : World) (h : Own w base B n cap bs) (hbase : base ≤ w.heap.size) (hok : (⟨2, id, nn, ⟨pid, pep, ps⟩, ⟨⟨tid, tep, qs⟩, sz, lv, ct, lo, hi, tp⟩⟩ : Ed.Et).ok = true) (hn : n ≤ 4000000) :
    Calls Tryz.prog 52 #[.slice B n cap, .agg #[.int .i64 2, .int .i64 id, .int .i64 nn, .int .i64 pid, .int .i64 pep, .slice P pn pc, .int .i64 tid, .int .i64 tep, .slice Q qn qc, .int .i64 sz, .int .i64 lv, .int .i64 ct, .string lo, .string hi, .int .i64 tp]] w (GivesPut w base B (bs ++ Ed.edB (⟨2, id, nn, ⟨pid, pep, ps⟩, ⟨⟨tid, tep, qs⟩, sz, lv, ct, lo, hi, tp⟩⟩ : Ed.Et))) := by
  have hl := h.1
  subst hl
  have hu : Below w.heap.size w (w.alloc (.cells #[.int .i64 2, .int .i64 id, .int .i64 nn, .int .i64 pid, .int .i64 pep, .slice P pn pc, .int .i64 tid, .int .i64 tep, .slice Q qn qc, .int .i64 sz, .int .i64 lv, .int .i64 ct, .string lo, .string hi, .int .i64 tp] 37)) := (Below.refl _ _).alloc (Nat.le_refl _) _
  have HX := hd_ (Holds.new w #[.int .i64 2, .int .i64 id, .int .i64 nn, .int .i64 pid, .int .i64 pep, .slice P pn pc, .int .i64 tid, .int .i64 tep, .slice Q qn qc, .int .i64 sz, .int .i64 lv, .int .i64 ct, .string lo, .string hi, .int .i64 tp] 37)
  have HBu := hd_ hu
  have HOw := hd_ (h.below hu)
  have HBs0 := hd_ (Nat.le_trans hbase hu.size)
  have HBx := hd_ (show ∀ g, blkOf B = some g → g ≠ w.heap.size from fun g hg => by have := (h.blk g (by rw [ownBlock_eq]; exact hg)).2; omega)


  have hok2 := hok
  unfold Ed.Et.ok at hok2
  dsimp only at hok2
  rw [if_neg (by decide), if_pos rfl] at hok2
  simp only [Bool.and_eq_true, Ed.from_iff] at hok2
  have Hnn := hd_ (show 0 ≤ nn ∧ nn ≤ 9223372036854775807 by have := hok2.1.1.1; omega)
  clear hok hok2
  have HFin := hd_ (show bs ++ Ed.edB (⟨2, id, nn, ⟨pid, pep, ps⟩, ⟨⟨tid, tep, qs⟩, sz, lv, ct, lo, hi, tp⟩⟩ : Ed.Et) = bs ++ [2] ++ Ed.nsB [nn] by rw [List.append_assoc]; rfl)
  clear h hu hbase 
  go_enter Tryz.func52, Tryz.ntmps52
  go_upto_region 1 with fail
  generalize (w.alloc (.cells #[.int .i64 2, .int .i64 id, .int .i64 nn, .int .i64 pid, .int .i64 pep, .slice P pn pc, .int .i64 tid, .int .i64 tep, .slice Q qn qc, .int .i64 sz, .int .i64 lv, .int .i64 ct, .string lo, .string hi, .int .i64 tp] 37)) = u at *
  replace HX : Hid (Holds u w.heap.size [.int .i64 2, .int .i64 id, .int .i64 nn, .int .i64 pid, .int .i64 pep, .slice P pn pc, .int .i64 tid, .int .i64 tep, .slice Q qn qc, .int .i64 sz, .int .i64 lv, .int .i64 ct, .string lo, .string hi, .int .i64 tp]) := HX
  have x0 := HX.out.at_ 0 rfl
  have hz : Below u.heap.size u (u.alloc (.cells #[.int .u8 2] 5)) := (Below.refl _ _).alloc (Nat.le_refl _) _
  have hrn := rd_one u 2 (by decide)
  have ho2 := HOw.out.below hz
  have hb2 := Nat.le_trans HBs0.out hz.size
  go_wp2_with (first | (at_builtin; refine wpList_appB rfl (.tmp 6) (.tmp 10) rfl rfl ho2 (some ⟨u.heap.size, 0, none⟩) 1 1 [2] rfl hrn (by omega) hb2 ?_; intro B1 c1 v hg3; have HPu := hd_ (Puts.after hz (Puts.of hg3)); have HBs := hd_ (Nat.le_trans HBs0.out HPu.out.grew.size); have HXv := hd_ (HX.out.grown HPu.out.grew (fun e => HBx.out _ e rfl)); clear hg3 hz hrn ho2 hb2 x0; have x0 := HXv.out.at_ 0 rfl; have n1 := HXv.out.at_ 1 rfl; have n2 := HXv.out.at_ 2 rfl; have n3 := HXv.out.at_ 3 rfl; have n4 := HXv.out.at_ 4 rfl; have n5 := HXv.out.at_ 5 rfl))
  have r1 : Below v.heap.size v (v.alloc (.cells #[.int .i64 nn] 3)) := (Below.refl _ _).alloc (Nat.le_refl _) _
  have C := hd_ (putnums_any base B1 (bs ++ [2]).length c1 (bs ++ [2]) (some ⟨v.heap.size, 0, none⟩) 1 1 [nn] (v.alloc (.cells #[.int .i64 nn] 3)) (HPu.out.own.below r1) (Nat.le_trans HBs.out r1.size) (rdi_new v [nn] 3) (off_new HPu.out.own (Nat.le_refl _)) (fun z hz => by
    simp only [List.mem_cons, List.not_mem_nil, or_false] at hz
    subst hz
    exact Hnn.out) (by simp only [List.length_append, List.length_cons, List.length_nil]; first | omega | (have := Ed.nsB_len [id]; simp only [List.length_cons, List.length_nil] at this; omega)) (by omega))
  rw [List.length_append, List.length_cons, List.length_nil] at C
  have HR1 := hd_ r1
  clear r1
  go_wp2_with fail
  refine C.out.mono ?_
  clear C
  rintro e v2 ⟨B12, c12, rfl, hp3⟩
  have HG := hd_ ((HPu.out.more HR1.out).trans hp3)
  clear hp3
  clear x0 n1 n2 n3 n4 n5
  go_wp2
  go_ret
  rw [HFin.out]
  exact ⟨B12, c12, (by first | rfl | simp), Puts.after HBu.out HG.out⟩
set_option maxRecDepth 100000 in
set_option maxHeartbeats 8000000 in
theorem put3_any (base : Nat) (B : Option Addr) (n cap : Nat) (bs : List Nat) (id nn pid pep : Int) (P : Option Addr) (pn pc : Nat) (ps : List (Int × Int)) (tid tep : Int) (Q : Option Addr) (qn qc : Nat) (sz lv ct : Int) (lo hi : ByteArray) (tp : Int) (qs : List (Int × Int)) (w : World) (h : Own w base B n cap bs) (hbase : base ≤ w.heap.size) (hP : PairsOk w P pn pc ps) (hoff : Off P B) (hok : (⟨3, id, nn, ⟨pid, pep, ps⟩, ⟨⟨tid, tep, qs⟩, sz, lv, ct, lo, hi, tp⟩⟩ : Ed.Et).ok = true) (hn : n ≤ 4000000) :
    Calls Tryz.prog 52 #[.slice B n cap, .agg #[.int .i64 3, .int .i64 id, .int .i64 nn, .int .i64 pid, .int .i64 pep, .slice P pn pc, .int .i64 tid, .int .i64 tep, .slice Q qn qc, .int .i64 sz, .int .i64 lv, .int .i64 ct, .string lo, .string hi, .int .i64 tp]] w (GivesPut w base B (bs ++ Ed.edB (⟨3, id, nn, ⟨pid, pep, ps⟩, ⟨⟨tid, tep, qs⟩, sz, lv, ct, lo, hi, tp⟩⟩ : Ed.Et))) := by
  have hl := h.1
  subst hl
  have hu : Below w.heap.size w (w.alloc (.cells #[.int .i64 3, .int .i64 id, .int .i64 nn, .int .i64 pid, .int .i64 pep, .slice P pn pc, .int .i64 tid, .int .i64 tep, .slice Q qn qc, .int .i64 sz, .int .i64 lv, .int .i64 ct, .string lo, .string hi, .int .i64 tp] 37)) := (Below.refl _ _).alloc (Nat.le_refl _) _
  have HX := hd_ (Holds.new w #[.int .i64 3, .int .i64 id, .int .i64 nn, .int .i64 pid, .int .i64 pep, .slice P pn pc, .int .i64 tid, .int .i64 tep, .slice Q qn qc, .int .i64 sz, .int .i64 lv, .int .i64 ct, .string lo, .string hi, .int .i64 tp] 37)
  have HBu := hd_ hu
  have HOw := hd_ (h.below hu)
  have HBs0 := hd_ (Nat.le_trans hbase hu.size)
  have HBx := hd_ (show ∀ g, blkOf B = some g → g ≠ w.heap.size from fun g hg => by have := (h.blk g (by rw [ownBlock_eq]; exact hg)).2; omega)
  have HP := hd_ (hP.below hu)
  have HOf := hd_ hoff
  have hok2 := hok
  unfold Ed.Et.ok at hok2
  dsimp only at hok2
  rw [if_neg (by decide), if_neg (by decide), if_pos rfl] at hok2
  simp only [Bool.and_eq_true] at hok2
  have HPk := hd_ (show (⟨pid, pep, ps⟩ : Ed.Pl).ok = true from hok2.1.1.1)
  clear hok hok2
  have HFin := hd_ (show bs ++ Ed.edB (⟨3, id, nn, ⟨pid, pep, ps⟩, ⟨⟨tid, tep, qs⟩, sz, lv, ct, lo, hi, tp⟩⟩ : Ed.Et) = bs ++ [3] ++ Ed.plB ⟨pid, pep, ps⟩ by rw [List.append_assoc]; rfl)
  clear h hu hbase hP hoff
  go_enter Tryz.func52, Tryz.ntmps52
  go_upto_region 1 with fail
  generalize (w.alloc (.cells #[.int .i64 3, .int .i64 id, .int .i64 nn, .int .i64 pid, .int .i64 pep, .slice P pn pc, .int .i64 tid, .int .i64 tep, .slice Q qn qc, .int .i64 sz, .int .i64 lv, .int .i64 ct, .string lo, .string hi, .int .i64 tp] 37)) = u at *
  replace HX : Hid (Holds u w.heap.size [.int .i64 3, .int .i64 id, .int .i64 nn, .int .i64 pid, .int .i64 pep, .slice P pn pc, .int .i64 tid, .int .i64 tep, .slice Q qn qc, .int .i64 sz, .int .i64 lv, .int .i64 ct, .string lo, .string hi, .int .i64 tp]) := HX
  have x0 := HX.out.at_ 0 rfl
  have hz : Below u.heap.size u (u.alloc (.cells #[.int .u8 3] 5)) := (Below.refl _ _).alloc (Nat.le_refl _) _
  have hrn := rd_one u 3 (by decide)
  have ho2 := HOw.out.below hz
  have hb2 := Nat.le_trans HBs0.out hz.size
  go_wp2_with (first | (at_builtin; refine wpList_appB rfl (.tmp 6) (.tmp 10) rfl rfl ho2 (some ⟨u.heap.size, 0, none⟩) 1 1 [3] rfl hrn (by omega) hb2 ?_; intro B1 c1 v hg3; have HPu := hd_ (Puts.after hz (Puts.of hg3)); have HBs := hd_ (Nat.le_trans HBs0.out HPu.out.grew.size); have HXv := hd_ (HX.out.grown HPu.out.grew (fun e => HBx.out _ e rfl)); clear hg3 hz hrn ho2 hb2 x0; have x0 := HXv.out.at_ 0 rfl; have n1 := HXv.out.at_ 1 rfl; have n2 := HXv.out.at_ 2 rfl; have n3 := HXv.out.at_ 3 rfl; have n4 := HXv.out.at_ 4 rfl; have n5 := HXv.out.at_ 5 rfl))
  have hpn : 0 < pn := by have h1 := HPk.out; unfold Ed.Pl.ok Ed.okP at h1; simp only [Bool.and_eq_true, Ed.from_iff] at h1; have := h1.1.1.2; have := HP.out.1.1; omega
  have C := hd_ (putplace_any base B1 (bs ++ [3]).length c1 (bs ++ [3]) pid pep P pn pc ps v HPu.out.own HBs.out (HP.out.puts HPu.out HOf.out) (HP.out.off HPu.out HOf.out hpn) HPk.out (by simp only [List.length_append, List.length_cons, List.length_nil]; omega))
  rw [List.length_append, List.length_cons, List.length_nil] at C
  go_wp2_with fail
  refine C.out.mono ?_
  clear C
  rintro e v2 ⟨B12, c12, rfl, hp3⟩
  have HG := hd_ (HPu.out.trans hp3)
  clear hp3
  clear x0 n1 n2 n3 n4 n5
  go_wp2
  go_ret
  rw [HFin.out]
  exact ⟨B12, c12, (by first | rfl | simp), Puts.after HBu.out HG.out⟩
set_option maxRecDepth 100000 in
set_option maxHeartbeats 8000000 in
theorem put4_any (base : Nat) (B : Option Addr) (n cap : Nat) (bs : List Nat) (id nn pid pep : Int) (P : Option Addr) (pn pc : Nat) (ps : List (Int × Int)) (tid tep : Int) (Q : Option Addr) (qn qc : Nat) (sz lv ct : Int) (lo hi : ByteArray) (tp : Int) (qs : List (Int × Int)) (w : World) (h : Own w base B n cap bs) (hbase : base ≤ w.heap.size) (hok : (⟨4, id, nn, ⟨pid, pep, ps⟩, ⟨⟨tid, tep, qs⟩, sz, lv, ct, lo, hi, tp⟩⟩ : Ed.Et).ok = true) (hn : n ≤ 4000000) :
    Calls Tryz.prog 52 #[.slice B n cap, .agg #[.int .i64 4, .int .i64 id, .int .i64 nn, .int .i64 pid, .int .i64 pep, .slice P pn pc, .int .i64 tid, .int .i64 tep, .slice Q qn qc, .int .i64 sz, .int .i64 lv, .int .i64 ct, .string lo, .string hi, .int .i64 tp]] w (GivesPut w base B (bs ++ Ed.edB (⟨4, id, nn, ⟨pid, pep, ps⟩, ⟨⟨tid, tep, qs⟩, sz, lv, ct, lo, hi, tp⟩⟩ : Ed.Et))) := by
  have hl := h.1
  subst hl
  have hu : Below w.heap.size w (w.alloc (.cells #[.int .i64 4, .int .i64 id, .int .i64 nn, .int .i64 pid, .int .i64 pep, .slice P pn pc, .int .i64 tid, .int .i64 tep, .slice Q qn qc, .int .i64 sz, .int .i64 lv, .int .i64 ct, .string lo, .string hi, .int .i64 tp] 37)) := (Below.refl _ _).alloc (Nat.le_refl _) _
  have HX := hd_ (Holds.new w #[.int .i64 4, .int .i64 id, .int .i64 nn, .int .i64 pid, .int .i64 pep, .slice P pn pc, .int .i64 tid, .int .i64 tep, .slice Q qn qc, .int .i64 sz, .int .i64 lv, .int .i64 ct, .string lo, .string hi, .int .i64 tp] 37)
  have HBu := hd_ hu
  have HOw := hd_ (h.below hu)
  have HBs0 := hd_ (Nat.le_trans hbase hu.size)
  have HBx := hd_ (show ∀ g, blkOf B = some g → g ≠ w.heap.size from fun g hg => by have := (h.blk g (by rw [ownBlock_eq]; exact hg)).2; omega)


  have hok2 := hok
  unfold Ed.Et.ok at hok2
  dsimp only at hok2
  rw [if_neg (by decide), if_neg (by decide), if_neg (by decide), if_pos rfl] at hok2
  simp only [Bool.and_eq_true, Ed.from_iff] at hok2
  have Hid_ := hd_ (show 0 ≤ id ∧ id ≤ 9223372036854775807 by have := hok2.1.1.1; omega)
  have Hnn := hd_ (show 0 ≤ nn ∧ nn ≤ 9223372036854775807 by have := hok2.1.1.2; omega)
  clear hok hok2
  have HFin := hd_ (show bs ++ Ed.edB (⟨4, id, nn, ⟨pid, pep, ps⟩, ⟨⟨tid, tep, qs⟩, sz, lv, ct, lo, hi, tp⟩⟩ : Ed.Et) = bs ++ [4] ++ (Ed.nsB [id] ++ Ed.nsB [nn]) by rw [List.append_assoc]; rfl)
  clear h hu hbase 
  go_enter Tryz.func52, Tryz.ntmps52
  go_upto_region 1 with fail
  generalize (w.alloc (.cells #[.int .i64 4, .int .i64 id, .int .i64 nn, .int .i64 pid, .int .i64 pep, .slice P pn pc, .int .i64 tid, .int .i64 tep, .slice Q qn qc, .int .i64 sz, .int .i64 lv, .int .i64 ct, .string lo, .string hi, .int .i64 tp] 37)) = u at *
  replace HX : Hid (Holds u w.heap.size [.int .i64 4, .int .i64 id, .int .i64 nn, .int .i64 pid, .int .i64 pep, .slice P pn pc, .int .i64 tid, .int .i64 tep, .slice Q qn qc, .int .i64 sz, .int .i64 lv, .int .i64 ct, .string lo, .string hi, .int .i64 tp]) := HX
  have x0 := HX.out.at_ 0 rfl
  have hz : Below u.heap.size u (u.alloc (.cells #[.int .u8 4] 5)) := (Below.refl _ _).alloc (Nat.le_refl _) _
  have hrn := rd_one u 4 (by decide)
  have ho2 := HOw.out.below hz
  have hb2 := Nat.le_trans HBs0.out hz.size
  go_wp2_with (first | (at_builtin; refine wpList_appB rfl (.tmp 6) (.tmp 10) rfl rfl ho2 (some ⟨u.heap.size, 0, none⟩) 1 1 [4] rfl hrn (by omega) hb2 ?_; intro B1 c1 v hg3; have HPu := hd_ (Puts.after hz (Puts.of hg3)); have HBs := hd_ (Nat.le_trans HBs0.out HPu.out.grew.size); have HXv := hd_ (HX.out.grown HPu.out.grew (fun e => HBx.out _ e rfl)); clear hg3 hz hrn ho2 hb2 x0; have x0 := HXv.out.at_ 0 rfl; have n1 := HXv.out.at_ 1 rfl; have n2 := HXv.out.at_ 2 rfl; have n3 := HXv.out.at_ 3 rfl; have n4 := HXv.out.at_ 4 rfl; have n5 := HXv.out.at_ 5 rfl))
  have r1 : Below v.heap.size v (v.alloc (.cells #[.int .i64 id] 3)) := (Below.refl _ _).alloc (Nat.le_refl _) _
  have C := hd_ (putnums_any base B1 (bs ++ [4]).length c1 (bs ++ [4]) (some ⟨v.heap.size, 0, none⟩) 1 1 [id] (v.alloc (.cells #[.int .i64 id] 3)) (HPu.out.own.below r1) (Nat.le_trans HBs.out r1.size) (rdi_new v [id] 3) (off_new HPu.out.own (Nat.le_refl _)) (fun z hz => by
    simp only [List.mem_cons, List.not_mem_nil, or_false] at hz
    subst hz
    exact Hid_.out) (by simp only [List.length_append, List.length_cons, List.length_nil]; first | omega | (have := Ed.nsB_len [id]; simp only [List.length_cons, List.length_nil] at this; omega)) (by omega))
  rw [List.length_append, List.length_cons, List.length_nil] at C
  have HR1 := hd_ r1
  clear r1
  go_wp2_with fail
  refine C.out.mono ?_
  clear C
  rintro e v2 ⟨B12, c12, rfl, hp3⟩
  have HG := hd_ ((HPu.out.more HR1.out).trans hp3)
  clear hp3
  have HBs2 := hd_ (Nat.le_trans HBs0.out HG.out.grew.size)
  have HXw := hd_ (HX.out.grown HG.out.grew (fun e => HBx.out _ e rfl))
  have HG1 := HG
  have hl2 : (bs ++ [4] ++ Ed.nsB [id]).length ≤ 4000100 := by
    rw [List.length_append, List.length_append]
    have := Ed.nsB_len [id]
    simp only [List.length_cons, List.length_nil] at this ⊢
    omega
  replace HFin := hd_ (HFin.out.trans (List.append_assoc (bs ++ [4]) (Ed.nsB [id]) (Ed.nsB [nn])).symm)
  generalize bs ++ [4] ++ Ed.nsB [id] = l2 at *
  clear HG x0 n1 n2 n3 n4 n5 HR1 HXv HPu HBs
  have x0 := HXw.out.at_ 0 rfl
  have n1 := HXw.out.at_ 1 rfl
  have n2 := HXw.out.at_ 2 rfl
  have n3 := HXw.out.at_ 3 rfl
  have n4 := HXw.out.at_ 4 rfl
  have n5 := HXw.out.at_ 5 rfl
  have r1 : Below v2.heap.size v2 (v2.alloc (.cells #[.int .i64 nn] 3)) := (Below.refl _ _).alloc (Nat.le_refl _) _
  have C := hd_ (putnums_any base B12 l2.length c12 l2 (some ⟨v2.heap.size, 0, none⟩) 1 1 [nn] (v2.alloc (.cells #[.int .i64 nn] 3)) (HG1.out.own.below r1) (Nat.le_trans HBs2.out r1.size) (rdi_new v2 [nn] 3) (off_new HG1.out.own (Nat.le_refl _)) (fun z hz => by
    simp only [List.mem_cons, List.not_mem_nil, or_false] at hz
    subst hz
    exact Hnn.out) (by omega) (by omega))
  have HR1 := hd_ r1
  clear r1
  go_wp2_with fail
  refine C.out.mono ?_
  clear C
  rintro e v3 ⟨B13, c13, rfl, hp3⟩
  have HG := hd_ ((HG1.out.more HR1.out).trans hp3)
  clear hp3
  clear x0 n1 n2 n3 n4 n5
  go_wp2
  go_ret
  rw [HFin.out]
  exact ⟨B13, c13, (by first | rfl | simp), Puts.after HBu.out HG.out⟩
set_option maxRecDepth 100000 in
set_option maxHeartbeats 8000000 in
theorem put5_any (base : Nat) (B : Option Addr) (n cap : Nat) (bs : List Nat) (id nn pid pep : Int) (P : Option Addr) (pn pc : Nat) (ps : List (Int × Int)) (tid tep : Int) (Q : Option Addr) (qn qc : Nat) (sz lv ct : Int) (lo hi : ByteArray) (tp : Int) (qs : List (Int × Int)) (w : World) (h : Own w base B n cap bs) (hbase : base ≤ w.heap.size) (hok : (⟨5, id, nn, ⟨pid, pep, ps⟩, ⟨⟨tid, tep, qs⟩, sz, lv, ct, lo, hi, tp⟩⟩ : Ed.Et).ok = true) (hn : n ≤ 4000000) :
    Calls Tryz.prog 52 #[.slice B n cap, .agg #[.int .i64 5, .int .i64 id, .int .i64 nn, .int .i64 pid, .int .i64 pep, .slice P pn pc, .int .i64 tid, .int .i64 tep, .slice Q qn qc, .int .i64 sz, .int .i64 lv, .int .i64 ct, .string lo, .string hi, .int .i64 tp]] w (GivesPut w base B (bs ++ Ed.edB (⟨5, id, nn, ⟨pid, pep, ps⟩, ⟨⟨tid, tep, qs⟩, sz, lv, ct, lo, hi, tp⟩⟩ : Ed.Et))) := by
  have hl := h.1
  subst hl
  have hu : Below w.heap.size w (w.alloc (.cells #[.int .i64 5, .int .i64 id, .int .i64 nn, .int .i64 pid, .int .i64 pep, .slice P pn pc, .int .i64 tid, .int .i64 tep, .slice Q qn qc, .int .i64 sz, .int .i64 lv, .int .i64 ct, .string lo, .string hi, .int .i64 tp] 37)) := (Below.refl _ _).alloc (Nat.le_refl _) _
  have HX := hd_ (Holds.new w #[.int .i64 5, .int .i64 id, .int .i64 nn, .int .i64 pid, .int .i64 pep, .slice P pn pc, .int .i64 tid, .int .i64 tep, .slice Q qn qc, .int .i64 sz, .int .i64 lv, .int .i64 ct, .string lo, .string hi, .int .i64 tp] 37)
  have HBu := hd_ hu
  have HOw := hd_ (h.below hu)
  have HBs0 := hd_ (Nat.le_trans hbase hu.size)
  have HBx := hd_ (show ∀ g, blkOf B = some g → g ≠ w.heap.size from fun g hg => by have := (h.blk g (by rw [ownBlock_eq]; exact hg)).2; omega)


  have hok2 := hok
  unfold Ed.Et.ok at hok2
  dsimp only at hok2
  rw [if_neg (by decide), if_neg (by decide), if_neg (by decide), if_neg (by decide), if_pos rfl] at hok2
  simp only [Bool.and_eq_true, Ed.from_iff] at hok2
  have Hid_ := hd_ (show 0 ≤ id ∧ id ≤ 9223372036854775807 by have := hok2.1.1.1; omega)
  clear hok hok2
  have HFin := hd_ (show bs ++ Ed.edB (⟨5, id, nn, ⟨pid, pep, ps⟩, ⟨⟨tid, tep, qs⟩, sz, lv, ct, lo, hi, tp⟩⟩ : Ed.Et) = bs ++ [5] ++ Ed.nsB [id] by rw [List.append_assoc]; rfl)
  clear h hu hbase 
  go_enter Tryz.func52, Tryz.ntmps52
  go_upto_region 1 with fail
  generalize (w.alloc (.cells #[.int .i64 5, .int .i64 id, .int .i64 nn, .int .i64 pid, .int .i64 pep, .slice P pn pc, .int .i64 tid, .int .i64 tep, .slice Q qn qc, .int .i64 sz, .int .i64 lv, .int .i64 ct, .string lo, .string hi, .int .i64 tp] 37)) = u at *
  replace HX : Hid (Holds u w.heap.size [.int .i64 5, .int .i64 id, .int .i64 nn, .int .i64 pid, .int .i64 pep, .slice P pn pc, .int .i64 tid, .int .i64 tep, .slice Q qn qc, .int .i64 sz, .int .i64 lv, .int .i64 ct, .string lo, .string hi, .int .i64 tp]) := HX
  have x0 := HX.out.at_ 0 rfl
  have hz : Below u.heap.size u (u.alloc (.cells #[.int .u8 5] 5)) := (Below.refl _ _).alloc (Nat.le_refl _) _
  have hrn := rd_one u 5 (by decide)
  have ho2 := HOw.out.below hz
  have hb2 := Nat.le_trans HBs0.out hz.size
  go_wp2_with (first | (at_builtin; refine wpList_appB rfl (.tmp 6) (.tmp 10) rfl rfl ho2 (some ⟨u.heap.size, 0, none⟩) 1 1 [5] rfl hrn (by omega) hb2 ?_; intro B1 c1 v hg3; have HPu := hd_ (Puts.after hz (Puts.of hg3)); have HBs := hd_ (Nat.le_trans HBs0.out HPu.out.grew.size); have HXv := hd_ (HX.out.grown HPu.out.grew (fun e => HBx.out _ e rfl)); clear hg3 hz hrn ho2 hb2 x0; have x0 := HXv.out.at_ 0 rfl; have n1 := HXv.out.at_ 1 rfl; have n2 := HXv.out.at_ 2 rfl; have n3 := HXv.out.at_ 3 rfl; have n4 := HXv.out.at_ 4 rfl; have n5 := HXv.out.at_ 5 rfl))
  have r1 : Below v.heap.size v (v.alloc (.cells #[.int .i64 id] 3)) := (Below.refl _ _).alloc (Nat.le_refl _) _
  have C := hd_ (putnums_any base B1 (bs ++ [5]).length c1 (bs ++ [5]) (some ⟨v.heap.size, 0, none⟩) 1 1 [id] (v.alloc (.cells #[.int .i64 id] 3)) (HPu.out.own.below r1) (Nat.le_trans HBs.out r1.size) (rdi_new v [id] 3) (off_new HPu.out.own (Nat.le_refl _)) (fun z hz => by
    simp only [List.mem_cons, List.not_mem_nil, or_false] at hz
    subst hz
    exact Hid_.out) (by simp only [List.length_append, List.length_cons, List.length_nil]; first | omega | (have := Ed.nsB_len [id]; simp only [List.length_cons, List.length_nil] at this; omega)) (by omega))
  rw [List.length_append, List.length_cons, List.length_nil] at C
  have HR1 := hd_ r1
  clear r1
  go_wp2_with fail
  refine C.out.mono ?_
  clear C
  rintro e v2 ⟨B12, c12, rfl, hp3⟩
  have HG := hd_ ((HPu.out.more HR1.out).trans hp3)
  clear hp3
  clear x0 n1 n2 n3 n4 n5
  go_wp2
  go_ret
  rw [HFin.out]
  exact ⟨B12, c12, (by first | rfl | simp), Puts.after HBu.out HG.out⟩
set_option maxRecDepth 100000 in
set_option maxHeartbeats 8000000 in
theorem put7_any (base : Nat) (B : Option Addr) (n cap : Nat) (bs : List Nat) (id nn pid pep : Int) (P : Option Addr) (pn pc : Nat) (ps : List (Int × Int)) (tid tep : Int) (Q : Option Addr) (qn qc : Nat) (sz lv ct : Int) (lo hi : ByteArray) (tp : Int) (qs : List (Int × Int)) (w : World) (h : Own w base B n cap bs) (hbase : base ≤ w.heap.size) (hok : (⟨7, id, nn, ⟨pid, pep, ps⟩, ⟨⟨tid, tep, qs⟩, sz, lv, ct, lo, hi, tp⟩⟩ : Ed.Et).ok = true) (hn : n ≤ 4000000) :
    Calls Tryz.prog 52 #[.slice B n cap, .agg #[.int .i64 7, .int .i64 id, .int .i64 nn, .int .i64 pid, .int .i64 pep, .slice P pn pc, .int .i64 tid, .int .i64 tep, .slice Q qn qc, .int .i64 sz, .int .i64 lv, .int .i64 ct, .string lo, .string hi, .int .i64 tp]] w (GivesPut w base B (bs ++ Ed.edB (⟨7, id, nn, ⟨pid, pep, ps⟩, ⟨⟨tid, tep, qs⟩, sz, lv, ct, lo, hi, tp⟩⟩ : Ed.Et))) := by
  have hl := h.1
  subst hl
  have hu : Below w.heap.size w (w.alloc (.cells #[.int .i64 7, .int .i64 id, .int .i64 nn, .int .i64 pid, .int .i64 pep, .slice P pn pc, .int .i64 tid, .int .i64 tep, .slice Q qn qc, .int .i64 sz, .int .i64 lv, .int .i64 ct, .string lo, .string hi, .int .i64 tp] 37)) := (Below.refl _ _).alloc (Nat.le_refl _) _
  have HX := hd_ (Holds.new w #[.int .i64 7, .int .i64 id, .int .i64 nn, .int .i64 pid, .int .i64 pep, .slice P pn pc, .int .i64 tid, .int .i64 tep, .slice Q qn qc, .int .i64 sz, .int .i64 lv, .int .i64 ct, .string lo, .string hi, .int .i64 tp] 37)
  have HBu := hd_ hu
  have HOw := hd_ (h.below hu)
  have HBs0 := hd_ (Nat.le_trans hbase hu.size)
  have HBx := hd_ (show ∀ g, blkOf B = some g → g ≠ w.heap.size from fun g hg => by have := (h.blk g (by rw [ownBlock_eq]; exact hg)).2; omega)


  have hok2 := hok
  unfold Ed.Et.ok at hok2
  dsimp only at hok2
  rw [if_neg (by decide), if_neg (by decide), if_neg (by decide), if_neg (by decide), if_neg (by decide), if_neg (by decide), if_pos rfl] at hok2
  simp only [Bool.and_eq_true, Ed.from_iff] at hok2
  have Hid_ := hd_ (show 0 ≤ id ∧ id ≤ 9223372036854775807 by have := hok2.1.1.1; omega)
  clear hok hok2
  have HFin := hd_ (show bs ++ Ed.edB (⟨7, id, nn, ⟨pid, pep, ps⟩, ⟨⟨tid, tep, qs⟩, sz, lv, ct, lo, hi, tp⟩⟩ : Ed.Et) = bs ++ [7] ++ Ed.nsB [id] by rw [List.append_assoc]; rfl)
  clear h hu hbase 
  go_enter Tryz.func52, Tryz.ntmps52
  go_upto_region 1 with fail
  generalize (w.alloc (.cells #[.int .i64 7, .int .i64 id, .int .i64 nn, .int .i64 pid, .int .i64 pep, .slice P pn pc, .int .i64 tid, .int .i64 tep, .slice Q qn qc, .int .i64 sz, .int .i64 lv, .int .i64 ct, .string lo, .string hi, .int .i64 tp] 37)) = u at *
  replace HX : Hid (Holds u w.heap.size [.int .i64 7, .int .i64 id, .int .i64 nn, .int .i64 pid, .int .i64 pep, .slice P pn pc, .int .i64 tid, .int .i64 tep, .slice Q qn qc, .int .i64 sz, .int .i64 lv, .int .i64 ct, .string lo, .string hi, .int .i64 tp]) := HX
  have x0 := HX.out.at_ 0 rfl
  have hz : Below u.heap.size u (u.alloc (.cells #[.int .u8 7] 5)) := (Below.refl _ _).alloc (Nat.le_refl _) _
  have hrn := rd_one u 7 (by decide)
  have ho2 := HOw.out.below hz
  have hb2 := Nat.le_trans HBs0.out hz.size
  go_wp2_with (first | (at_builtin; refine wpList_appB rfl (.tmp 6) (.tmp 10) rfl rfl ho2 (some ⟨u.heap.size, 0, none⟩) 1 1 [7] rfl hrn (by omega) hb2 ?_; intro B1 c1 v hg3; have HPu := hd_ (Puts.after hz (Puts.of hg3)); have HBs := hd_ (Nat.le_trans HBs0.out HPu.out.grew.size); have HXv := hd_ (HX.out.grown HPu.out.grew (fun e => HBx.out _ e rfl)); clear hg3 hz hrn ho2 hb2 x0; have x0 := HXv.out.at_ 0 rfl; have n1 := HXv.out.at_ 1 rfl; have n2 := HXv.out.at_ 2 rfl; have n3 := HXv.out.at_ 3 rfl; have n4 := HXv.out.at_ 4 rfl; have n5 := HXv.out.at_ 5 rfl))
  have r1 : Below v.heap.size v (v.alloc (.cells #[.int .i64 id] 3)) := (Below.refl _ _).alloc (Nat.le_refl _) _
  have C := hd_ (putnums_any base B1 (bs ++ [7]).length c1 (bs ++ [7]) (some ⟨v.heap.size, 0, none⟩) 1 1 [id] (v.alloc (.cells #[.int .i64 id] 3)) (HPu.out.own.below r1) (Nat.le_trans HBs.out r1.size) (rdi_new v [id] 3) (off_new HPu.out.own (Nat.le_refl _)) (fun z hz => by
    simp only [List.mem_cons, List.not_mem_nil, or_false] at hz
    subst hz
    exact Hid_.out) (by simp only [List.length_append, List.length_cons, List.length_nil]; first | omega | (have := Ed.nsB_len [id]; simp only [List.length_cons, List.length_nil] at this; omega)) (by omega))
  rw [List.length_append, List.length_cons, List.length_nil] at C
  have HR1 := hd_ r1
  clear r1
  go_wp2_with fail
  refine C.out.mono ?_
  clear C
  rintro e v2 ⟨B12, c12, rfl, hp3⟩
  have HG := hd_ ((HPu.out.more HR1.out).trans hp3)
  clear hp3
  clear x0 n1 n2 n3 n4 n5
  go_wp2
  go_ret
  rw [HFin.out]
  exact ⟨B12, c12, (by first | rfl | simp), Puts.after HBu.out HG.out⟩
end Go.Proofs.YthfcjlndaajkfaaGreat
