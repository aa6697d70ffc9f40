/- edit.put: a table's bytes behind others; so put does every edit that may be. -/
import Derived.Test.YthfcjlndaajkfaaGreatTEdByte
import Derived.Test.YthfcjlndaajkfaaGreatTEdPr1
import Derived.Deep.CutBlock
import Derived.Deep.DeepCutAuto
namespace Go.Proofs.YthfcjlndaajkfaaGreat
open Go.RowKit
set_option linter.unusedVariables false
set_option linter.unusedSimpArgs false
set_option maxRecDepth 100000 in
set_option maxHeartbeats 16000000 in
theorem put6_any (base : Nat) (B : Option Addr) (n cap : Nat) (bs : List Nat) (id nn pid pep : Int) (P : Option Addr) (pn pc : Nat) (ps : List (Int × Int)) (tid tep : Int) (Q : Option Addr) (qn qc : Nat) (sz lv ct : Int) (lo hi : ByteArray) (tp : Int) (qs : List (Int × Int)) (w : World) (h : Own w base B n cap bs) (hbase : base ≤ w.heap.size) (hQ : PairsOk w Q qn qc qs) (hoff : Off Q B) (hok : (⟨6, id, nn, ⟨pid, pep, ps⟩, ⟨⟨tid, tep, qs⟩, sz, lv, ct, lo, hi, tp⟩⟩ : Ed.Et).ok = true) (hn : n ≤ 4000000) :
    Calls Tryz.prog 52 #[.slice B n cap, .agg #[.int .i64 6, .int .i64 id, .int .i64 nn, .int .i64 pid, .int .i64 pep, .slice P pn pc, .int .i64 tid, .int .i64 tep, .slice Q qn qc, .int .i64 sz, .int .i64 lv, .int .i64 ct, .string lo, .string hi, .int .i64 tp]] w (GivesPut w base B (bs ++ Ed.edB (⟨6, id, nn, ⟨pid, pep, ps⟩, ⟨⟨tid, tep, qs⟩, sz, lv, ct, lo, hi, tp⟩⟩ : Ed.Et))) := by
  have hl := h.1
  subst hl
  have hu : Below w.heap.size w (w.alloc (.cells #[.int .i64 6, .int .i64 id, .int .i64 nn, .int .i64 pid, .int .i64 pep, .slice P pn pc, .int .i64 tid, .int .i64 tep, .slice Q qn qc, .int .i64 sz, .int .i64 lv, .int .i64 ct, .string lo, .string hi, .int .i64 tp] 37)) := (Below.refl _ _).alloc (Nat.le_refl _) _
  have HX := Lib.hid (Holds.new w #[.int .i64 6, .int .i64 id, .int .i64 nn, .int .i64 pid, .int .i64 pep, .slice P pn pc, .int .i64 tid, .int .i64 tep, .slice Q qn qc, .int .i64 sz, .int .i64 lv, .int .i64 ct, .string lo, .string hi, .int .i64 tp] 37)
  have HBu := Lib.hid hu
  have HOw := Lib.hid (h.below hu)
  have HBs0 := Lib.hid (Nat.le_trans hbase hu.size)
  have HBx := Lib.hid (show ∀ g, blkOf B = some g → g ≠ w.heap.size from fun g hg => by have := (h.blk g (by rw [ownBlock_eq]; exact hg)).2; omega)
  have HQ := Lib.hid (hQ.below hu)
  have HOf := Lib.hid hoff
  have ht := Ed.ok6 (e := (⟨6, id, nn, ⟨pid, pep, ps⟩, ⟨⟨tid, tep, qs⟩, sz, lv, ct, lo, hi, tp⟩⟩ : Ed.Et)) hok rfl
  dsimp only at ht
  have HQk := Lib.hid (show (⟨tid, tep, qs⟩ : Ed.Pl).ok = true from (Ed.okT_q (t := ⟨⟨tid, tep, qs⟩, sz, lv, ct, lo, hi, tp⟩) ht).1)
  have ht2 := ht
  unfold Ed.Ta.ok Ed.okT at ht2
  simp only [Bool.and_eq_true, Ed.from_iff, Bool.not_eq_true'] at ht2
  obtain ⟨⟨⟨⟨⟨⟨⟨_, h2⟩, h3⟩, h4⟩, h5⟩, h6⟩, h7⟩, _⟩ := ht2
  have HNs := Lib.hid (show ∀ x ∈ [sz, lv, ct], 0 ≤ x ∧ x ≤ 9223372036854775807 from fun x hx => by
    have hc : qs.length ≤ 64 := (Ed.okP_q HQk.out).2.1
    simp only [List.mem_cons, List.not_mem_nil, or_false] at hx
    rcases hx with rfl | rfl | rfl
    · constructor
      · omega
      · have : (qs.length : Int) ≤ 64 := by omega
        omega
    · omega
    · omega)
  have HTp := Lib.hid (show 0 ≤ tp ∧ tp ≤ 9223372036854775807 by omega)
  have hlo : lo.size ≤ 64 := by omega
  have hhi : hi.size ≤ 64 := by omega
  have HLp := Lib.hid (Ed.plB_len HQk.out)
  have HLn := Lib.hid (Ed.nsB_len [sz, lv, ct])
  have HTl := Lib.hid (And.intro (Ed.text_len hlo) (Ed.text_len hhi))
  have CLo := Lib.hid (fun (W : World) => text_any lo (by omega) W)
  have CHi := Lib.hid (fun (W : World) => text_any hi (by omega) W)
  have HFin := Lib.hid (show bs ++ Ed.edB (⟨6, id, nn, ⟨pid, pep, ps⟩, ⟨⟨tid, tep, qs⟩, sz, lv, ct, lo, hi, tp⟩⟩ : Ed.Et) = bs ++ [6] ++ Ed.plB ⟨tid, tep, qs⟩ ++ Ed.nsB [sz, lv, ct] ++ Cd.text lo ++ Cd.text hi ++ Ed.nsB [tp] by
    simp only [List.append_assoc]
    show bs ++ (6 :: Ed.taB ⟨⟨tid, tep, qs⟩, sz, lv, ct, lo, hi, tp⟩) = _
    unfold Ed.taB
    simp only [List.append_assoc]
    rfl)
  clear h hu hbase hQ hoff hok ht h2 h3 h4 h5 h6 h7 hlo hhi
  go_enter Tryz.func52, Tryz.ntmps52
  go_upto_region 1 with fail
  generalize (w.alloc (.cells #[.int .i64 6, .int .i64 id, .int .i64 nn, .int .i64 pid, .int .i64 pep, .slice P pn pc, .int .i64 tid, .int .i64 tep, .slice Q qn qc, .int .i64 sz, .int .i64 lv, .int .i64 ct, .string lo, .string hi, .int .i64 tp] 37)) = u at *
  replace HX : Hid (Holds u w.heap.size [.int .i64 6, .int .i64 id, .int .i64 nn, .int .i64 pid, .int .i64 pep, .slice P pn pc, .int .i64 tid, .int .i64 tep, .slice Q qn qc, .int .i64 sz, .int .i64 lv, .int .i64 ct, .string lo, .string hi, .int .i64 tp]) := HX
  have x0 := HX.out.at_ 0 rfl
  have hz : Below u.heap.size u (u.alloc (.cells #[.int .u8 6] 5)) := (Below.refl _ _).alloc (Nat.le_refl _) _
  have hrn := rd_one u 6 (by decide)
  have ho2 := HOw.out.below hz
  have hb2 := Nat.le_trans HBs0.out hz.size
  go_upto_region 11 with (first | (at_builtin; refine wpList_appB rfl (.tmp 6) (.tmp 10) rfl rfl ho2 (some ⟨u.heap.size, 0, none⟩) 1 1 [6] rfl hrn (by omega) hb2 ?_; intro B1 c1 v hg3; have HPu := Lib.hid (Puts.after hz (Puts.of hg3)); have HBs1 := Lib.hid (Nat.le_trans HBs0.out HPu.out.grew.size); have HXv := Lib.hid (HX.out.grown HPu.out.grew (fun e => HBx.out _ e rfl)); clear hg3 hz hrn ho2 hb2 x0; have x0 := HXv.out.at_ 0 rfl; have n6 := HXv.out.at_ 6 rfl; have n7 := HXv.out.at_ 7 rfl; have n8 := HXv.out.at_ 8 rfl; have n9 := HXv.out.at_ 9 rfl; have n10 := HXv.out.at_ 10 rfl; have n11 := HXv.out.at_ 11 rfl; have n12 := HXv.out.at_ 12 rfl; have n13 := HXv.out.at_ 13 rfl; have n14 := HXv.out.at_ 14 rfl))
  have hlen : bs.length + 1 = (bs ++ [6]).length := by rw [List.length_append]; rfl
  have HLb := Lib.hid (show (bs ++ [6]).length ≤ 4000001 by rw [← hlen]; omega)
  rw [hlen]
  clear hlen
  have hQn : 0 < qn := by have h3 := Ed.pl_pos HQk.out; have h4 := HQ.out.1.1; have h4 : qs.length = qn := h4; have h3 : 0 < qs.length := h3; omega
  have HQv := Lib.hid (HQ.out.puts HPu.out HOf.out)
  have HOf1 := Lib.hid (HQ.out.off HPu.out HOf.out hQn)
  have HOv := Lib.hid HPu.out.own
  generalize bs ++ [6] = b1 at *
  have hal : Below v.heap.size v (v.alloc (.cells #[.int .i64 tid, .int .i64 tep, .slice Q qn qc, .int .i64 sz, .int .i64 lv, .int .i64 ct, .string lo, .string hi, .int .i64 tp] 35)) := (Below.refl _ _).alloc (Nat.le_refl _) _
  have HT := Lib.hid (Holds.new v #[.int .i64 tid, .int .i64 tep, .slice Q qn qc, .int .i64 sz, .int .i64 lv, .int .i64 ct, .string lo, .string hi, .int .i64 tp] 35)
  have HTb := Lib.hid (show ∀ g, blkOf B1 = some g → g ≠ v.heap.size from fun g hg => by have := (HOv.out.blk g (by rw [ownBlock_eq]; exact hg)).2; omega)
  have HOw1 := Lib.hid (HOv.out.below hal)
  have HQ1 := Lib.hid (HQv.out.below hal)
  have HBs := Lib.hid (Nat.le_trans HBs1.out hal.size)
  have HPv := Lib.hid (HPu.out.more hal)
  have hts : v.heap.size < (v.alloc (.cells #[.int .i64 tid, .int .i64 tep, .slice Q qn qc, .int .i64 sz, .int .i64 lv, .int .i64 ct, .string lo, .string hi, .int .i64 tp] 35)).heap.size := by simp
  have HTb2 := Lib.hid hts
  clear hal hts x0 HX HXv HQ HOf hQn HQv HOv HPu HBs1 HOw
  go_upto_region 12 with fail
  clear n6 n7 n8 n9 n10 n11 n12 n13 n14
  generalize (v.alloc (.cells #[.int .i64 tid, .int .i64 tep, .slice Q qn qc, .int .i64 sz, .int .i64 lv, .int .i64 ct, .string lo, .string hi, .int .i64 tp] 35)) = v1 at *
  replace HT : Hid (Holds v1 v.heap.size [.int .i64 tid, .int .i64 tep, .slice Q qn qc, .int .i64 sz, .int .i64 lv, .int .i64 ct, .string lo, .string hi, .int .i64 tp]) := HT
  generalize v.heap.size = tb at *
  have HPl : Hid (b1 ++ Ed.plB ⟨tid, tep, qs⟩ = b1 ++ Ed.plB ⟨tid, tep, qs⟩) := Lib.hid rfl
  have HNn : Hid ((b1 ++ Ed.plB ⟨tid, tep, qs⟩) ++ Ed.nsB [sz, lv, ct] = (b1 ++ Ed.plB ⟨tid, tep, qs⟩) ++ Ed.nsB [sz, lv, ct]) := Lib.hid rfl
  obtain ⟨pl, hpl⟩ : ∃ pl, pl = Ed.plB ⟨tid, tep, qs⟩ := ⟨_, rfl⟩
  obtain ⟨ns, hns⟩ : ∃ ns, ns = Ed.nsB [sz, lv, ct] := ⟨_, rfl⟩
  rw [← hpl] at HFin HLp
  rw [← hns] at HFin HLn
  replace HPl := Lib.hid (show b1 ++ Ed.plB ⟨tid, tep, qs⟩ = b1 ++ pl by rw [hpl])
  replace HNn := Lib.hid (show b1 ++ pl ++ Ed.nsB [sz, lv, ct] = b1 ++ pl ++ ns by rw [hns])
  clear hpl hns
  go_cut [0] from 39 to 50 (fun s0 W => ∃ B3 c3, s0 = .slice B3 (b1.length + pl.length + ns.length) c3 ∧ Puts v1 W base B1 B3 (b1 ++ pl ++ ns) c3 ∧ Hid (Holds W tb [.int .i64 tid, .int .i64 tep, .slice Q qn qc, .int .i64 sz, .int .i64 lv, .int .i64 ct, .string lo, .string hi, .int .i64 tp]))
  case first =>
    refine wp_region_T (fun W => W.cell? ⟨tb, 0, none⟩ = some (.int .i64 tid) ∧ W.cell? ⟨tb, 1, none⟩ = some (.int .i64 tep) ∧ W.cell? ⟨tb, 2, none⟩ = some (.slice Q qn qc) ∧ W.cell? ⟨tb, 3, none⟩ = some (.int .i64 sz) ∧ W.cell? ⟨tb, 4, none⟩ = some (.int .i64 lv) ∧ W.cell? ⟨tb, 5, none⟩ = some (.int .i64 ct)) (fun W => True) 99 (by kernel_rfl) ?_
    have hbd : Below v1.heap.size v1 v1.drew := (Below.refl _ _).drew
    have hS0 := Lib.hid (show v1.drew.cell? ⟨tb, 0, none⟩ = some (.int .i64 tid) ∧ v1.drew.cell? ⟨tb, 1, none⟩ = some (.int .i64 tep) ∧ v1.drew.cell? ⟨tb, 2, none⟩ = some (.slice Q qn qc) ∧ v1.drew.cell? ⟨tb, 3, none⟩ = some (.int .i64 sz) ∧ v1.drew.cell? ⟨tb, 4, none⟩ = some (.int .i64 lv) ∧ v1.drew.cell? ⟨tb, 5, none⟩ = some (.int .i64 ct) from ⟨((HT.out.below hbd)).at_ 0 rfl, ((HT.out.below hbd)).at_ 1 rfl, ((HT.out.below hbd)).at_ 2 rfl, ((HT.out.below hbd)).at_ 3 rfl, ((HT.out.below hbd)).at_ 4 rfl, ((HT.out.below hbd)).at_ 5 rfl⟩)
    refine wpAnyT_take (i := 0) (v := ?_) rfl (by kernel_rfl) (by kernel_rfl) (by kernel_rfl) rfl (fun _ _ _ h => h) (Or.inl ⟨by rfl, ?_⟩) hS0.out (fun _ => trivial) ?_
    rotate_left
    · intro W hSW; (try dsimp only at hSW); go_simp; (try with_reducible rfl)
    try simp only [Act.put, List.setIfInBounds_toArray, List.set_cons_zero, List.set_cons_succ, List.getElem_toArray, List.getElem_cons_zero, List.getElem_cons_succ]
    refine wpAnyT_take (i := 1) (v := ?_) rfl (by kernel_rfl) (by kernel_rfl) (by kernel_rfl) rfl (fun _ _ _ h => h) (Or.inl ⟨by rfl, ?_⟩) hS0.out (fun _ => trivial) ?_
    rotate_left
    · intro W hSW; (try dsimp only at hSW); go_simp; (try with_reducible rfl)
    try simp only [Act.put, List.setIfInBounds_toArray, List.set_cons_zero, List.set_cons_succ, List.getElem_toArray, List.getElem_cons_zero, List.getElem_cons_succ]
    refine wpAnyT_take (i := 2) (v := ?_) rfl (by kernel_rfl) (by kernel_rfl) (by kernel_rfl) rfl (fun _ _ _ h => h) (Or.inl ⟨by rfl, ?_⟩) hS0.out (fun _ => trivial) ?_
    rotate_left
    · intro W hSW; (try dsimp only at hSW); go_simp; (try with_reducible rfl)
    try simp only [Act.put, List.setIfInBounds_toArray, List.set_cons_zero, List.set_cons_succ, List.getElem_toArray, List.getElem_cons_zero, List.getElem_cons_succ]
    refine wpAnyT_take (i := 4) (v := ?_) rfl (by kernel_rfl) (by kernel_rfl) (by kernel_rfl) rfl (fun _ _ _ h => h) (Or.inl ⟨by rfl, ?_⟩) hS0.out (fun _ => trivial) ?_
    rotate_left
    · intro W hSW; (try dsimp only at hSW); go_simp; (try with_reducible rfl)
    try simp only [Act.put, List.setIfInBounds_toArray, List.set_cons_zero, List.set_cons_succ, List.getElem_toArray, List.getElem_cons_zero, List.getElem_cons_succ]
    refine wpAnyT_take (i := 5) (v := ?_) rfl (by kernel_rfl) (by kernel_rfl) (by kernel_rfl) rfl (fun _ _ _ h => h) (Or.inl ⟨by rfl, ?_⟩) hS0.out (fun _ => trivial) ?_
    rotate_left
    · intro W hSW; (try dsimp only at hSW); go_simp; (try with_reducible rfl)
    try simp only [Act.put, List.setIfInBounds_toArray, List.set_cons_zero, List.set_cons_succ, List.getElem_toArray, List.getElem_cons_zero, List.getElem_cons_succ]
    refine wpAnyT_take (i := 6) (v := ?_) rfl (by kernel_rfl) (by kernel_rfl) (by kernel_rfl) rfl (fun _ _ _ h => h) (Or.inl ⟨by rfl, ?_⟩) hS0.out (fun _ => trivial) ?_
    rotate_left
    · intro W hSW; (try dsimp only at hSW); go_simp; (try with_reducible rfl)
    try simp only [Act.put, List.setIfInBounds_toArray, List.set_cons_zero, List.set_cons_succ, List.getElem_toArray, List.getElem_cons_zero, List.getElem_cons_succ]
    refine wpAnyT_take (i := 7) (v := ?_) rfl (by kernel_rfl) (by kernel_rfl) (by kernel_rfl) rfl (fun _ _ _ h => h) (Or.inl ⟨by rfl, ?_⟩) hS0.out (fun _ => trivial) ?_
    rotate_left
    · intro W hSW; (try dsimp only at hSW); go_simp; (try with_reducible rfl)
    try simp only [Act.put, List.setIfInBounds_toArray, List.set_cons_zero, List.set_cons_succ, List.getElem_toArray, List.getElem_cons_zero, List.getElem_cons_succ]
    refine wpAnyT_take (i := 8) (v := ?_) rfl (by kernel_rfl) (by kernel_rfl) (by kernel_rfl) rfl (fun _ _ _ h => h) (Or.inl ⟨by rfl, ?_⟩) hS0.out (fun _ => trivial) ?_
    rotate_left
    · intro W hSW; (try dsimp only at hSW); go_simp; (try with_reducible rfl)
    try simp only [Act.put, List.setIfInBounds_toArray, List.set_cons_zero, List.set_cons_succ, List.getElem_toArray, List.getElem_cons_zero, List.getElem_cons_succ]
    refine wpAnyT_take (i := 9) (v := ?_) rfl (by kernel_rfl) (by kernel_rfl) (by kernel_rfl) rfl (fun _ _ _ h => h) (Or.inl ⟨by rfl, ?_⟩) hS0.out (fun _ => trivial) ?_
    rotate_left
    · intro W hSW; (try dsimp only at hSW); go_simp; (try with_reducible rfl)
    try simp only [Act.put, List.setIfInBounds_toArray, List.set_cons_zero, List.set_cons_succ, List.getElem_toArray, List.getElem_cons_zero, List.getElem_cons_succ]
    refine wpAnyT_two (i := 3) (j := 10) (by kernel_rfl) rfl rfl (fun K hK => ?_) (fun K hK => ?_)
    · try simp only [Act.put, List.setIfInBounds_toArray, List.set_cons_zero, List.set_cons_succ, List.getElem_toArray, List.getElem_cons_zero, List.getElem_cons_succ]
      rw [if_pos (by rfl)]
      go_simp
      have C := putplace_any base B1 b1.length c1 b1 tid tep Q qn qc qs v1.drew (HOw1.out.below hbd) (Nat.le_trans HBs.out hbd.size) (HQ1.out.below hbd) HOf1.out HQk.out (by have := HLb.out; omega)
      rw [HPl.out] at C
      refine C.mono ?_
      clear C
      rintro e v5 ⟨B2, c2, rfl, hp5⟩
      have hT5 := (HT.out.below hbd).grown hp5.grew (fun e => HTb.out _ e rfl)
      have hS5 := Lib.hid (show v5.cell? ⟨tb, 0, none⟩ = some (.int .i64 tid) ∧ v5.cell? ⟨tb, 1, none⟩ = some (.int .i64 tep) ∧ v5.cell? ⟨tb, 2, none⟩ = some (.slice Q qn qc) ∧ v5.cell? ⟨tb, 3, none⟩ = some (.int .i64 sz) ∧ v5.cell? ⟨tb, 4, none⟩ = some (.int .i64 lv) ∧ v5.cell? ⟨tb, 5, none⟩ = some (.int .i64 ct) from ⟨(hT5).at_ 0 rfl, (hT5).at_ 1 rfl, (hT5).at_ 2 rfl, (hT5).at_ 3 rfl, (hT5).at_ 4 rfl, (hT5).at_ 5 rfl⟩)
      refine hK.out _ _ hS5.out (fun _ => trivial) ?_
      clear hK
      try simp only [Act.put, List.setIfInBounds_toArray, List.set_cons_zero, List.set_cons_succ, List.getElem_toArray, List.getElem_cons_zero, List.getElem_cons_succ]
      refine wpAnyT_one (i := 10) (by kernel_rfl) rfl (fun K hK => ?_)
      try simp only [Act.put, List.setIfInBounds_toArray, List.set_cons_zero, List.set_cons_succ, List.getElem_toArray, List.getElem_cons_zero, List.getElem_cons_succ]
      rw [if_pos (by rfl)]
      go_simp
      have hal : Below v5.heap.size v5 (v5.alloc (.cells #[.int .i64 sz, .int .i64 lv, .int .i64 ct] 3)) := (Below.refl _ _).alloc (Nat.le_refl _) _
      have hS6 := Lib.hid (show (v5.alloc (.cells #[.int .i64 sz, .int .i64 lv, .int .i64 ct] 3)).cell? ⟨tb, 0, none⟩ = some (.int .i64 tid) ∧ (v5.alloc (.cells #[.int .i64 sz, .int .i64 lv, .int .i64 ct] 3)).cell? ⟨tb, 1, none⟩ = some (.int .i64 tep) ∧ (v5.alloc (.cells #[.int .i64 sz, .int .i64 lv, .int .i64 ct] 3)).cell? ⟨tb, 2, none⟩ = some (.slice Q qn qc) ∧ (v5.alloc (.cells #[.int .i64 sz, .int .i64 lv, .int .i64 ct] 3)).cell? ⟨tb, 3, none⟩ = some (.int .i64 sz) ∧ (v5.alloc (.cells #[.int .i64 sz, .int .i64 lv, .int .i64 ct] 3)).cell? ⟨tb, 4, none⟩ = some (.int .i64 lv) ∧ (v5.alloc (.cells #[.int .i64 sz, .int .i64 lv, .int .i64 ct] 3)).cell? ⟨tb, 5, none⟩ = some (.int .i64 ct) from ⟨((hT5.below hal)).at_ 0 rfl, ((hT5.below hal)).at_ 1 rfl, ((hT5.below hal)).at_ 2 rfl, ((hT5.below hal)).at_ 3 rfl, ((hT5.below hal)).at_ 4 rfl, ((hT5.below hal)).at_ 5 rfl⟩)
      refine hK.out _ _ hS6.out (fun _ => trivial) ?_
      clear hK
      try simp only [Act.put, List.setIfInBounds_toArray, List.set_cons_zero, List.set_cons_succ, List.getElem_toArray, List.getElem_cons_zero, List.getElem_cons_succ]
      refine wpAnyT_one (i := 11) (by kernel_rfl) rfl (fun K hK => ?_)
      try simp only [Act.put, List.setIfInBounds_toArray, List.set_cons_zero, List.set_cons_succ, List.getElem_toArray, List.getElem_cons_zero, List.getElem_cons_succ]
      rw [if_pos (by rfl)]
      go_simp
      have C := (putnums_any base B2 (b1 ++ pl).length c2 (b1 ++ pl) (some ⟨v5.heap.size, 0, none⟩) 3 3 [sz, lv, ct] (v5.alloc (.cells #[.int .i64 sz, .int .i64 lv, .int .i64 ct] 3)) (hp5.own.below hal) (Nat.le_trans (Nat.le_trans (Nat.le_trans HBs.out hbd.size) hp5.grew.size) hal.size) (rdi_new v5 [sz, lv, ct] 3) (off_new hp5.own (Nat.le_refl _)) HNs.out (by rw [List.length_append]; have := HLb.out; have := HLp.out; omega) (by omega))
      rw [HNn.out, List.length_append] at C
      refine C.mono ?_
      clear C
      rintro e v6 ⟨B3, c3, rfl, hp6⟩
      have HG := Lib.hid (Puts.after hbd ((hp5.more hal).trans hp6))
      have hT6 := (hT5.below hal).grown hp6.grew (fun e => (hp5.blk _ e).elim (fun e => HTb.out _ e rfl) (fun e => by have := HTb2.out; have := hbd.size; omega))
      have hS7 := Lib.hid (show v6.cell? ⟨tb, 0, none⟩ = some (.int .i64 tid) ∧ v6.cell? ⟨tb, 1, none⟩ = some (.int .i64 tep) ∧ v6.cell? ⟨tb, 2, none⟩ = some (.slice Q qn qc) ∧ v6.cell? ⟨tb, 3, none⟩ = some (.int .i64 sz) ∧ v6.cell? ⟨tb, 4, none⟩ = some (.int .i64 lv) ∧ v6.cell? ⟨tb, 5, none⟩ = some (.int .i64 ct) from ⟨(hT6).at_ 0 rfl, (hT6).at_ 1 rfl, (hT6).at_ 2 rfl, (hT6).at_ 3 rfl, (hT6).at_ 4 rfl, (hT6).at_ 5 rfl⟩)
      clear hp5 hp6 hal hT5
      refine hK.out _ _ hS7.out (fun _ => trivial) ?_
      clear hK
      try simp only [Act.put, List.setIfInBounds_toArray, List.set_cons_zero, List.set_cons_succ, List.getElem_toArray, List.getElem_cons_zero, List.getElem_cons_succ]
      refine wpAnyT_take (i := 12) (v := ?_) rfl (by kernel_rfl) (by kernel_rfl) (by kernel_rfl) rfl (fun _ _ _ h => h) (Or.inl ⟨by rfl, ?_⟩) hS7.out (fun _ => trivial) ?_
      rotate_left
      · intro W hSW; (try dsimp only at hSW); go_simp; (try with_reducible rfl)
      try simp only [Act.put, List.setIfInBounds_toArray, List.set_cons_zero, List.set_cons_succ, List.getElem_toArray, List.getElem_cons_zero, List.getElem_cons_succ]
      refine wpAnyT_done (by kernel_rfl) ?_ _
      go_wp2
      go_meet
      case rel => exact ⟨B3, c3, (by first | rfl | (simp; omega)), HG.out, Lib.hid hT6⟩
    · try simp only [Act.put, List.setIfInBounds_toArray, List.set_cons_zero, List.set_cons_succ, List.getElem_toArray, List.getElem_cons_zero, List.getElem_cons_succ]
      rw [if_pos (by rfl)]
      go_simp
      have hal : Below v1.heap.size v1 (v1.drew.alloc (.cells #[.int .i64 sz, .int .i64 lv, .int .i64 ct] 3)) := hbd.alloc hbd.size _
      have hrn := rdi_new v1.drew [sz, lv, ct] 3
      have hS6 := Lib.hid (show (v1.drew.alloc (.cells #[.int .i64 sz, .int .i64 lv, .int .i64 ct] 3)).cell? ⟨tb, 0, none⟩ = some (.int .i64 tid) ∧ (v1.drew.alloc (.cells #[.int .i64 sz, .int .i64 lv, .int .i64 ct] 3)).cell? ⟨tb, 1, none⟩ = some (.int .i64 tep) ∧ (v1.drew.alloc (.cells #[.int .i64 sz, .int .i64 lv, .int .i64 ct] 3)).cell? ⟨tb, 2, none⟩ = some (.slice Q qn qc) ∧ (v1.drew.alloc (.cells #[.int .i64 sz, .int .i64 lv, .int .i64 ct] 3)).cell? ⟨tb, 3, none⟩ = some (.int .i64 sz) ∧ (v1.drew.alloc (.cells #[.int .i64 sz, .int .i64 lv, .int .i64 ct] 3)).cell? ⟨tb, 4, none⟩ = some (.int .i64 lv) ∧ (v1.drew.alloc (.cells #[.int .i64 sz, .int .i64 lv, .int .i64 ct] 3)).cell? ⟨tb, 5, none⟩ = some (.int .i64 ct) from ⟨((HT.out.below hal)).at_ 0 rfl, ((HT.out.below hal)).at_ 1 rfl, ((HT.out.below hal)).at_ 2 rfl, ((HT.out.below hal)).at_ 3 rfl, ((HT.out.below hal)).at_ 4 rfl, ((HT.out.below hal)).at_ 5 rfl⟩)
      refine hK.out _ _ hS6.out (fun _ => trivial) ?_
      clear hK
      try simp only [Act.put, List.setIfInBounds_toArray, List.set_cons_zero, List.set_cons_succ, List.getElem_toArray, List.getElem_cons_zero, List.getElem_cons_succ]
      refine wpAnyT_one (i := 3) (by kernel_rfl) rfl (fun K hK => ?_)
      try simp only [Act.put, List.setIfInBounds_toArray, List.set_cons_zero, List.set_cons_succ, List.getElem_toArray, List.getElem_cons_zero, List.getElem_cons_succ]
      rw [if_pos (by rfl)]
      go_simp
      have C := putplace_any base B1 b1.length c1 b1 tid tep Q qn qc qs (v1.drew.alloc (.cells #[.int .i64 sz, .int .i64 lv, .int .i64 ct] 3)) (HOw1.out.below hal) (Nat.le_trans HBs.out hal.size) (HQ1.out.below hal) HOf1.out HQk.out (by have := HLb.out; omega)
      rw [HPl.out] at C
      refine C.mono ?_
      clear C
      rintro e v5 ⟨B2, c2, rfl, hp5⟩
      have hT5 := (HT.out.below hal).grown hp5.grew (fun e => HTb.out _ e rfl)
      have hS5 := Lib.hid (show v5.cell? ⟨tb, 0, none⟩ = some (.int .i64 tid) ∧ v5.cell? ⟨tb, 1, none⟩ = some (.int .i64 tep) ∧ v5.cell? ⟨tb, 2, none⟩ = some (.slice Q qn qc) ∧ v5.cell? ⟨tb, 3, none⟩ = some (.int .i64 sz) ∧ v5.cell? ⟨tb, 4, none⟩ = some (.int .i64 lv) ∧ v5.cell? ⟨tb, 5, none⟩ = some (.int .i64 ct) from ⟨(hT5).at_ 0 rfl, (hT5).at_ 1 rfl, (hT5).at_ 2 rfl, (hT5).at_ 3 rfl, (hT5).at_ 4 rfl, (hT5).at_ 5 rfl⟩)
      refine hK.out _ _ hS5.out (fun _ => trivial) ?_
      clear hK
      try simp only [Act.put, List.setIfInBounds_toArray, List.set_cons_zero, List.set_cons_succ, List.getElem_toArray, List.getElem_cons_zero, List.getElem_cons_succ]
      refine wpAnyT_one (i := 11) (by kernel_rfl) rfl (fun K hK => ?_)
      try simp only [Act.put, List.setIfInBounds_toArray, List.set_cons_zero, List.set_cons_succ, List.getElem_toArray, List.getElem_cons_zero, List.getElem_cons_succ]
      rw [if_pos (by rfl)]
      go_simp
      have hnb : ∀ g, blkOf B1 = some g → g < v1.heap.size := fun g e => (HOw1.out.blk g (by rw [ownBlock_eq]; exact e)).2
      have hrn2 : RdI v5 (some ⟨v1.heap.size, 0, none⟩) 3 [sz, lv, ct] := ⟨rfl, hrn.2.grown hp5.grew (fun _ g o e h => by injection e with e; injection e with e; have := hnb g h; have e : v1.heap.size = g := e; omega)⟩
      have hoff2 : Off (some ⟨v1.heap.size, 0, none⟩) B2 := fun g hg e => by injection hg with hg; have hg : v1.heap.size = g := hg; have h1 := hp5.blk g e; have h2 : blkOf B1 ≠ some g := (fun e => by have := hnb g e; omega); have h3 := h1.resolve_left h2; simp at h3; omega
      have C := (putnums_any base B2 (b1 ++ pl).length c2 (b1 ++ pl) (some ⟨v1.heap.size, 0, none⟩) 3 3 [sz, lv, ct] v5 hp5.own (Nat.le_trans (Nat.le_trans HBs.out hal.size) hp5.grew.size) hrn2 hoff2 HNs.out (by rw [List.length_append]; have := HLb.out; have := HLp.out; omega) (by omega))
      rw [HNn.out, List.length_append] at C
      refine C.mono ?_
      clear C
      rintro e v6 ⟨B3, c3, rfl, hp6⟩
      have HG := Lib.hid (Puts.after hal (hp5.trans hp6))
      have hT6 := hT5.grown hp6.grew (fun e => (hp5.blk _ e).elim (fun e => HTb.out _ e rfl) (fun e => by have := HTb2.out; have := hal.size; omega))
      have hS7 := Lib.hid (show v6.cell? ⟨tb, 0, none⟩ = some (.int .i64 tid) ∧ v6.cell? ⟨tb, 1, none⟩ = some (.int .i64 tep) ∧ v6.cell? ⟨tb, 2, none⟩ = some (.slice Q qn qc) ∧ v6.cell? ⟨tb, 3, none⟩ = some (.int .i64 sz) ∧ v6.cell? ⟨tb, 4, none⟩ = some (.int .i64 lv) ∧ v6.cell? ⟨tb, 5, none⟩ = some (.int .i64 ct) from ⟨(hT6).at_ 0 rfl, (hT6).at_ 1 rfl, (hT6).at_ 2 rfl, (hT6).at_ 3 rfl, (hT6).at_ 4 rfl, (hT6).at_ 5 rfl⟩)
      clear hp5 hp6 hal hT5 hrn hrn2 hoff2
      refine hK.out _ _ hS7.out (fun _ => trivial) ?_
      clear hK
      try simp only [Act.put, List.setIfInBounds_toArray, List.set_cons_zero, List.set_cons_succ, List.getElem_toArray, List.getElem_cons_zero, List.getElem_cons_succ]
      refine wpAnyT_take (i := 12) (v := ?_) rfl (by kernel_rfl) (by kernel_rfl) (by kernel_rfl) rfl (fun _ _ _ h => h) (Or.inl ⟨by rfl, ?_⟩) hS7.out (fun _ => trivial) ?_
      rotate_left
      · intro W hSW; (try dsimp only at hSW); go_simp; (try with_reducible rfl)
      try simp only [Act.put, List.setIfInBounds_toArray, List.set_cons_zero, List.set_cons_succ, List.getElem_toArray, List.getElem_cons_zero, List.getElem_cons_succ]
      refine wpAnyT_done (by kernel_rfl) ?_ _
      go_wp2
      go_meet
      case rel => exact ⟨B3, c3, (by first | rfl | (simp; omega)), HG.out, Lib.hid hT6⟩
  case rest =>
    obtain ⟨B3, c3, rfl, hp3, HT3⟩ := hcut
    have HP3 := Lib.hid (HPv.out.trans hp3)
    have hs3 := hp3.grew.size
    have HBs3 := Lib.hid (Nat.le_trans HBs.out hs3)
    have HL3 := Lib.hid (show (b1 ++ pl ++ ns).length ≤ 4002000 by rw [List.length_append, List.length_append]; have := HLb.out; have := HLp.out; have := HLn.out; simp only [List.length_cons, List.length_nil] at this; omega)
    have hT3b : ∀ g, blkOf B3 = some g → g ≠ tb := fun g e => (hp3.blk g e).elim (fun e => HTb.out g e) (fun e => by have := HTb2.out; omega)
    have HTb3 := Lib.hid hT3b
    rw [show b1.length + pl.length + ns.length = (b1 ++ pl ++ ns).length by simp only [List.length_append]]
    clear hT3b hp3 hs3 HPv HT HTb HTb2 HBs HQ1 HOf1 HOw1 HLb HLp HLn HPl HNn HNs HQk
    generalize b1 ++ pl ++ ns = b3 at *
    rename World => v3
    have y6 := HT3.out.at_ 6 rfl
    have CL := Lib.hid (CLo.out v3)
    go_wp2_with fail
    refine CL.out.mono ?_
    clear CL CLo
    rintro e v4 ⟨D4, q4, rfl, hD4, hb4⟩
    have HT4 := Lib.hid (HT3.out.below hb4)
    have HO4 := Lib.hid (HP3.out.own.below hb4)
    have HP4 := Lib.hid (HP3.out.more hb4)
    have HBs4 := Lib.hid (Nat.le_trans HBs3.out hb4.size)
    have hrd4 := hD4.rd
    have hl4 : b3.length + (Cd.text lo).length ≤ 100000000 := by have := HL3.out; have := HTl.out.1; omega
    have hw4 := HBs4.out
    clear y6 hb4 HT3 HP3 HBs3
    go_wp2_with (first | (at_builtin; refine wpList_appB rfl (.tmp 51) (.tmp 54) rfl rfl HO4.out D4 (Cd.text lo).length q4 (Cd.text lo) rfl hrd4 hl4 hw4 ?_; intro B5 c5 v5 hg5; have HP5 := Lib.hid (HP4.out.trans (Puts.of hg5)); have HT5 := Lib.hid (HT4.out.grown hg5.grew (fun e => HTb3.out _ (by rw [ownBlock_eq] at e; exact e) rfl)); have HBs5 := Lib.hid (Nat.le_trans HBs4.out hg5.grew.size); have HG5 := Lib.hid (Puts.of hg5); have HW4 := Lib.hid (show tb < v4.heap.size from HT4.out.1); have y7 := HT5.out.at_ 7 rfl; have CH := Lib.hid (CHi.out v5); clear hg5 hrd4 hl4 hw4 hD4))
    have HTb5 := Lib.hid (show ∀ g, blkOf B5 = some g → g ≠ tb from fun g e => (HG5.out.blk g e).elim (fun e => HTb3.out g e) (fun e => by have := HW4.out; omega))
    clear HG5 HW4 HT4 HO4 HP4 HBs4 HTb3
    go_wp2_with fail
    refine CH.out.mono ?_
    clear CH CHi
    rintro e v6 ⟨D6, q6, rfl, hD6, hb6⟩
    have HT6 := Lib.hid (HT5.out.below hb6)
    have HO6 := Lib.hid (own_len (HP5.out.own.below hb6) (List.length_append))
    have HP6 := Lib.hid (HP5.out.more hb6)
    have HBs6 := Lib.hid (Nat.le_trans HBs5.out hb6.size)
    have hrd6 := hD6.rd
    have hl6 : b3.length + (Cd.text lo).length + (Cd.text hi).length ≤ 100000000 := by have := HL3.out; have := HTl.out.1; have := HTl.out.2; omega
    have hw6 := HBs6.out
    clear y7 hb6 HT5 HP5 HBs5
    go_wp2_with (first | (at_builtin; refine wpList_appB rfl (.tmp 56) (.tmp 59) rfl rfl HO6.out D6 (Cd.text hi).length q6 (Cd.text hi) rfl hrd6 hl6 hw6 ?_; intro B7 c7 v7 hg7; have HP7 := Lib.hid (HP6.out.trans (Puts.of hg7)); have HT7 := Lib.hid (HT6.out.grown hg7.grew (fun e => HTb5.out _ (by rw [ownBlock_eq] at e; exact e) rfl)); have HBs7 := Lib.hid (Nat.le_trans HBs6.out hg7.grew.size); have y8 := HT7.out.at_ 8 rfl; clear hg7 hrd6 hl6 hw6 hD6))
    have r1 : Below v7.heap.size v7 (v7.alloc (.cells #[.int .i64 tp] 3)) := (Below.refl _ _).alloc (Nat.le_refl _) _
    have C := Lib.hid (putnums_any base B7 (b3 ++ Cd.text lo ++ Cd.text hi).length c7 (b3 ++ Cd.text lo ++ Cd.text hi) (some ⟨v7.heap.size, 0, none⟩) 1 1 [tp] (v7.alloc (.cells #[.int .i64 tp] 3)) (HP7.out.own.below r1) (Nat.le_trans HBs7.out r1.size) (rdi_new v7 [tp] 3) (off_new HP7.out.own (Nat.le_refl _)) (fun z hz => by
      simp only [List.mem_cons, List.not_mem_nil, or_false] at hz
      subst hz
      exact HTp.out) (by rw [List.length_append, List.length_append]; have := HL3.out; have := HTl.out.1; have := HTl.out.2; omega) (by omega))
    rw [List.length_append, List.length_append] at C
    have HR1 := Lib.hid r1
    clear r1
    go_wp2_with fail
    refine C.out.mono ?_
    clear C
    rintro e v8 ⟨B8, c8, rfl, hp8⟩
    have HG := Lib.hid ((HP7.out.more HR1.out).trans hp8)
    clear hp8 y8
    go_wp2
    go_ret
    rw [HFin.out]
    exact ⟨B8, c8, (by first | rfl | simp), Puts.after HBu.out HG.out⟩
theorem putOk_any (x : Ed.Ex) (ho : (Ed.etOf x).ok = true) : PutOk x := by
  by_cases h6 : x.1.kd = 6
  · intro base B n cap bs w h hb hx hp hq hn
    obtain ⟨⟨kd, id, nn, pid, pep, P, pn, pc, ⟨tid, tep, Q, qn, qc, sz, lv, ct, lo, hi, tp⟩⟩, ps, qs⟩ := x
    obtain ⟨hP, hQ, hfit⟩ := hx
    replace h6 : kd = 6 := h6
    subst h6
    have h3 := (Ed.okT_q (Ed.ok6 (e := Ed.etOf (⟨6, id, nn, pid, pep, P, pn, pc, ⟨tid, tep, Q, qn, qc, sz, lv, ct, lo, hi, tp⟩⟩, (ps, qs))) ho rfl)).1
    have h4 := Ed.pl_pos h3
    replace h4 : 0 < qs.length := h4
    exact put6_any base B n cap bs id nn pid pep P pn pc ps tid tep Q qn qc sz lv ct lo hi tp qs w h hb hQ (hq (by have h5 : qs.length = qn := hQ.1.1; show 0 < qn; omega)) ho hn
  · exact putOk_of x ho h6
end Go.Proofs.YthfcjlndaajkfaaGreat
