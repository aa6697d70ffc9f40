/- The document's Bytes: edits' bytes. -/
import Derived.Test.YthfcjlndaajkfaaGreatTRbPl
import Derived.Test.YthfcjlndaajkfaaGreatTRbText
import Derived.Test.YthfcjlndaajkfaaGreatTEdRIE
import Derived.Test.YthfcjlndaajkfaaGreatTEdByte
import Derived.Test.YthfcjlndaajkfaaGreatTEdPr1
import Derived.Test.YthfcjlndaajkfaaGreatG13
namespace Go.Proofs.YthfcjlndaajkfaaGreat
open Go.RowKit
set_option linter.unusedVariables false
set_option linter.unusedSimpArgs false
theorem Ed.ok_nums {e : Ed.Et} (h : e.ok = true) : (e.kd = 1 ∨ e.kd = 2 ∨ e.kd = 4 → 0 ≤ e.n ∧ e.n ≤ 9223372036854775807) ∧ (e.kd = 4 ∨ e.kd = 5 ∨ e.kd = 7 → 0 ≤ e.id ∧ e.id ≤ 9223372036854775807) := by
  unfold Ed.Et.ok at h
  repeat' split at h
  all_goals first
    | exact absurd h (by decide)
    | (simp only [Bool.and_eq_true, Ed.from_iff, decide_eq_true_eq] at h
       refine ⟨fun h2 => ?_, fun h2 => ?_⟩ <;> omega)
theorem Puts.below0 {w w' : World} {base : Nat} {B' : Option Addr} {bs' : List Nat} {cap' : Nat} (h : Puts w w' base none B' bs' cap') : Below w.heap.size w w' := (Below.refl _ _).grown h.grew (Nat.le_refl _) (fun g hg => by cases hg)
set_option maxRecDepth 100000 in
set_option maxHeartbeats 32000000 in
theorem rbytes_any (A : Option Addr) (q qc : Nat) (E : List Ed.Ex) (w : World) (hE : RdEs w A q E) (hq : q ≤ 100000) :
    Calls Tryz.prog 22 #[.slice A q qc] w (GivesBt w (E.map Ed.etOf)) := by
  have HE := Lib.hid hE
  have HEl : Hid (E.length = q) := Lib.hid hE.1
  have HML := Lib.hid (show (E.map Ed.etOf).length = q by rw [List.length_map]; exact hE.1)
  clear hE
  go_enter Tryz.func22, Tryz.ntmps22
  by_cases h256 : 256 < q
  · have hi : (256 : Int) < (q : Int) := by omega
    have HG := Lib.hid (GivesBt.many (w := w) (w' := w) (l := E.map Ed.etOf) (by rw [HML.out]; exact h256) (Below.refl _ _))
    go_wp2
    go_ret2
    exact HG.out
  have hi : ¬ (256 : Int) < (q : Int) := by omega
  have HNum := Lib.hid (rnumput_any w.heap.size none 0 0 [] (q : Int) w (Own.none_ w w.heap.size) (Nat.le_refl _) (by omega) (by omega))
  go_wp2_with fail
  refine HNum.out.mono ?_
  rintro e v ⟨B0, c0, rfl, hP0⟩
  rw [List.nil_append] at hP0
  have HO0 := Lib.hid hP0.own
  have HB0 := Lib.hid hP0.below0
  clear hP0 HNum
  go_wp2_with fail
  go_loopw [4, 5] (fun s4 ii wr => ∃ (k : Nat) (B : Option Addr) (l : List Nat) (cap : Nat), k ≤ q ∧ ii = .int .i64 (k : Int) ∧ s4 = .slice B l.length cap ∧ Hid (Own wr w.heap.size B l.length cap l) ∧ Hid (Below w.heap.size w wr) ∧ Hid (l = Ed.nB (q : Int) ++ ((E.map Ed.etOf).take k).flatMap Ed.edB) ∧ Hid (∀ y ∈ (E.map Ed.etOf).take k, y.ok = true) ∧ l.length ≤ 11 + k * 2000) (fun _ ii _ => q - (intOf ii).toNat)
  case atStart => exact ⟨0, B0, Ed.nB (q : Int), c0, by omega, rfl, rfl, HO0, HB0, Lib.hid (by simp), Lib.hid (fun y hy => by simp at hy), by have := Ed.nB_len (q : Int); omega⟩
  case round =>
    clear HO0 HB0
    obtain ⟨k, B, l, cap, hk, rfl, rfl, HO, HB, HL, HOk, hlen⟩ := hrel
    by_cases hlt : k < q
    · have hki : (k : Int) < (q : Int) := by omega
      have hk0 : (0 : Int) ≤ (k : Int) := by omega
      obtain ⟨y, hy⟩ : ∃ y, E[k]? = some y := ⟨_, List.getElem?_eq_getElem (by rw [HEl.out]; exact hlt)⟩
      obtain ⟨b, o, hAb, hxo, hc⟩ := HE.out.at_ hy
      have hm : (E.map Ed.etOf)[k]? = some (Ed.etOf y) := by rw [List.getElem?_map, hy]; rfl
      have HT := Lib.hid (show (E.map Ed.etOf).take (k + 1) = (E.map Ed.etOf).take k ++ [Ed.etOf y] by rw [List.take_add_one, hm]; rfl)
      have HMem := Lib.hid (List.mem_of_getElem? hm)
      have HXw := Lib.hid hxo
      subst hAb
      have HXo := Lib.hid (hxo.below HB.out)
      have hcw := hc wr HB.out
      have HMay := Lib.hid (fun (W : World) (h3 : Ed.ExOk W y) => risedit_any y W h3)
      clear hc hy hxo hm
      have HEl2 := Lib.hid (Ed.edB_len (e := Ed.etOf y))
      obtain ⟨ey, hey⟩ : ∃ e, e = Ed.etOf y := ⟨_, rfl⟩
      rw [← hey] at HT HMem HEl2 HMay
      have HEy := Lib.hid hey
      clear hey
      obtain ⟨⟨kd, id, nn, pid, pep, P, pn, pc, ⟨tid, tep, Q, qn, qc, sz, lv, ct, lo, hi, tp⟩⟩, ps, qs⟩ := y
      replace HMay : Hid (∀ (W : World), Ed.ExOk W _ → Calls Tryz.prog 49 #[.agg #[.int .i64 kd, .int .i64 id, .int .i64 nn, .int .i64 pid, .int .i64 pep, .slice P pn pc, .int .i64 tid, .int .i64 tep, .slice Q qn qc, .int .i64 sz, .int .i64 lv, .int .i64 ct, .string lo, .string hi, .int .i64 tp]] W fun e w' => e = .returned (.bool ey.ok) ∧ Below W.heap.size W w') := HMay
      have e0 : wr.cell? ⟨b, o + k * 15, none⟩ = some (.int .i64 kd) := hcw 0 _ rfl
      have e1 : wr.cell? ⟨b, o + k * 15 + 1, none⟩ = some (.int .i64 id) := hcw 1 _ rfl
      have e2 : wr.cell? ⟨b, o + k * 15 + 2, none⟩ = some (.int .i64 nn) := hcw 2 _ rfl
      have e3 : wr.cell? ⟨b, o + k * 15 + 3, none⟩ = some (.int .i64 pid) := hcw 3 _ rfl
      have e4 : wr.cell? ⟨b, o + k * 15 + 4, none⟩ = some (.int .i64 pep) := hcw 4 _ rfl
      have e5 : wr.cell? ⟨b, o + k * 15 + 5, none⟩ = some (.slice P pn pc) := hcw 5 _ rfl
      have e6 : wr.cell? ⟨b, o + k * 15 + 6, none⟩ = some (.int .i64 tid) := hcw 6 _ rfl
      have e7 : wr.cell? ⟨b, o + k * 15 + 7, none⟩ = some (.int .i64 tep) := hcw 7 _ rfl
      have e8 : wr.cell? ⟨b, o + k * 15 + 8, none⟩ = some (.slice Q qn qc) := hcw 8 _ rfl
      have e9 : wr.cell? ⟨b, o + k * 15 + 9, none⟩ = some (.int .i64 sz) := hcw 9 _ rfl
      have e10 : wr.cell? ⟨b, o + k * 15 + 10, none⟩ = some (.int .i64 lv) := hcw 10 _ rfl
      have e11 : wr.cell? ⟨b, o + k * 15 + 11, none⟩ = some (.int .i64 ct) := hcw 11 _ rfl
      have e12 : wr.cell? ⟨b, o + k * 15 + 12, none⟩ = some (.string lo) := hcw 12 _ rfl
      have e13 : wr.cell? ⟨b, o + k * 15 + 13, none⟩ = some (.string hi) := hcw 13 _ rfl
      have e14 : wr.cell? ⟨b, o + k * 15 + 14, none⟩ = some (.int .i64 tp) := hcw 14 _ rfl
      clear hcw
      have hal : Below wr.heap.size wr (wr.alloc (.cells #[.int .i64 kd, .int .i64 id, .int .i64 nn, .int .i64 pid, .int .i64 pep, .slice P pn pc, .int .i64 tid, .int .i64 tep, .slice Q qn qc, .int .i64 sz, .int .i64 lv, .int .i64 ct, .string lo, .string hi, .int .i64 tp] 37)) := (Below.refl _ _).alloc (Nat.le_refl _) _
      have HXe := Lib.hid (Holds.new wr #[.int .i64 kd, .int .i64 id, .int .i64 nn, .int .i64 pid, .int .i64 pep, .slice P pn pc, .int .i64 tid, .int .i64 tep, .slice Q qn qc, .int .i64 sz, .int .i64 lv, .int .i64 ct, .string lo, .string hi, .int .i64 tp] 37)
      have hts : wr.heap.size < (wr.alloc (.cells #[.int .i64 kd, .int .i64 id, .int .i64 nn, .int .i64 pid, .int .i64 pep, .slice P pn pc, .int .i64 tid, .int .i64 tep, .slice Q qn qc, .int .i64 sz, .int .i64 lv, .int .i64 ct, .string lo, .string hi, .int .i64 tp] 37)).heap.size := by simp
      have HXl := Lib.hid hts
      have HXne := Lib.hid (show ∀ g, blkOf B = some g → g ≠ wr.heap.size from fun g hg => by have := (HO.out.blk g (by rw [ownBlock_eq]; exact hg)).2; omega)
      have HOa := Lib.hid (HO.out.below hal)
      have HXa := Lib.hid (HXo.out.below hal)
      have HBa := Lib.hid (below_next HB.out hal)
      clear hal hts
      go_upto_region 8 with fail
      clear e0 e1 e2 e3 e4 e5 e6 e7 e8 e9 e10 e11 e12 e13 e14 HO HXo HB
      generalize (wr.alloc (.cells #[.int .i64 kd, .int .i64 id, .int .i64 nn, .int .i64 pid, .int .i64 pep, .slice P pn pc, .int .i64 tid, .int .i64 tep, .slice Q qn qc, .int .i64 sz, .int .i64 lv, .int .i64 ct, .string lo, .string hi, .int .i64 tp] 37)) = wa at *
      generalize wr.heap.size = xb at *
      replace HXe : Hid (Holds wa xb [.int .i64 kd, .int .i64 id, .int .i64 nn, .int .i64 pid, .int .i64 pep, .slice P pn pc, .int .i64 tid, .int .i64 tep, .slice Q qn qc, .int .i64 sz, .int .i64 lv, .int .i64 ct, .string lo, .string hi, .int .i64 tp]) := HXe
      obtain ⟨x0, x1, x2, x3, x4, x5, x6, x7, x8, x9, x10, x11, x12, x13, x14⟩ := HXe.out.all15
      have M1 := Lib.hid (HMay.out wa HXa.out)
      cases heo : ey.ok with
      | false =>
        rw [heo] at M1
        have HG := Lib.hid (fun (w' : World) (hb : Below w.heap.size w w') => GivesBt.no (w := w) (w' := w') (l := E.map Ed.etOf) (by rw [HML.out]; omega) (by rw [List.all_eq_false]; exact ⟨ey, HMem.out, by rw [heo]; decide⟩) hb)
        go_wp2_with fail
        refine M1.out.mono ?_
        rintro e v1 ⟨rfl, hb1⟩
        have HB1 := Lib.hid (below_next HBa.out hb1)
        clear x0 x1 x2 x3 x4 x5 x6 x7 x8 x9 x10 x11 x12 x13 x14 hb1 HXe HXa HBa HOa HMay
        go_wp2
        go_ret2
        exact HG.out _ HB1.out
      | true =>
        rw [heo] at M1
        have HEo := Lib.hid heo
        go_wp2_with fail
        refine M1.out.mono ?_
        rintro e v1 ⟨rfl, hb1⟩
        have HB1 := Lib.hid (below_next HBa.out hb1)
        have HXf := Lib.hid (HXe.out.below hb1)
        have HO1 := Lib.hid (HOa.out.below hb1)
        have HX1 := Lib.hid (HXa.out.below hb1)
        have HXlt := Lib.hid (show xb < v1.heap.size from Nat.lt_of_lt_of_le HXl.out hb1.size)
        have HOfP := Lib.hid (show 0 < pn → Off P B from fun h0 g hg e => by
          have h1 := (HO1.out.blk g (by rw [ownBlock_eq]; exact e)).1
          obtain ⟨b2, o2, hA2, hb2, _⟩ := HXw.out.1.1.2.2 h0
          replace hA2 : P = _ := hA2
          rw [hA2] at hg
          injection hg with hg
          have : b2 = g := hg
          omega)
        have HOfQ := Lib.hid (show 0 < qn → Off Q B from fun h0 g hg e => by
          have h1 := (HO1.out.blk g (by rw [ownBlock_eq]; exact e)).1
          obtain ⟨b2, o2, hA2, hb2, _⟩ := HXw.out.2.1.1.2.2 h0
          replace hA2 : Q = _ := hA2
          rw [hA2] at hg
          injection hg with hg
          have : b2 = g := hg
          omega)
        have hl2 : (l ++ Ed.edB ey).length ≤ 11 + (k + 1) * 2000 := by rw [List.length_append]; have := HEl2.out heo; omega
        have HLn := Lib.hid (show l ++ Ed.edB ey = Ed.nB (q : Int) ++ ((E.map Ed.etOf).take (k + 1)).flatMap Ed.edB by rw [HT.out, List.flatMap_append, HL.out, List.append_assoc]; simp)
        have HOkn := Lib.hid (show ∀ y ∈ (E.map Ed.etOf).take (k + 1), y.ok = true from fun y hy => by
          rw [HT.out] at hy
          rcases List.mem_append.1 hy with hy | hy
          · exact HOk.out y hy
          · rw [List.mem_singleton.1 hy]; exact heo)
        obtain ⟨l2, HL2⟩ : ∃ l2, Hid (l ++ Ed.edB ey = l2) := ⟨_, Lib.hid rfl⟩
        rw [HL2.out] at hl2 HLn
        clear x0 x1 x2 x3 x4 x5 x6 x7 x8 x9 x10 x11 x12 x13 x14 hb1 HXe HXa HBa HMay HXw HOa
        have hkd : ey.kd = kd := by rw [HEy.out]; rfl
        have hbo := Ed.ok_nums HEo.out
        rw [HEy.out] at hbo
        have HBo := Lib.hid (show (kd = 1 ∨ kd = 2 ∨ kd = 4 → 0 ≤ nn ∧ nn ≤ 9223372036854775807) ∧ (kd = 4 ∨ kd = 5 ∨ kd = 7 → 0 ≤ id ∧ id ≤ 9223372036854775807) from hbo)
        have hks := Ed.kinds HEo.out
        clear hbo heo
        rcases hks with hk | hk | hk | hk | hk | hk | hk
        · have hkk : kd = 1 := hkd.symm.trans hk
          subst hkk
          clear hk hkd
          have hz : Below v1.heap.size v1 (v1.alloc (.cells #[.int .u8 1] 5)) := (Below.refl _ _).alloc (Nat.le_refl _) _
          have hrn := rd_one v1 1 (by decide)
          have ho2 := HO1.out.below hz
          have hb2 := Nat.le_trans HB1.out.size hz.size
          have x0 := HXf.out.at_ 0 rfl
          go_upto_region 11 with (at_builtin; refine wpList_appB rfl (.tmp 27) (.tmp 31) rfl rfl ho2 (some ⟨v1.heap.size, 0, none⟩) 1 1 [1] rfl hrn (by omega) hb2 ?_; intro B1 c1 v hg3; have HPu := Lib.hid (Puts.after hz (Puts.of hg3)); have HXv := Lib.hid (HXf.out.grown HPu.out.grew (fun e => HXne.out _ e rfl)); clear hg3 hz hrn ho2 hb2 x0; have x0 := HXv.out.at_ 0 rfl; have x1 := HXv.out.at_ 1 rfl; have x2 := HXv.out.at_ 2 rfl; have x3 := HXv.out.at_ 3 rfl; have x4 := HXv.out.at_ 4 rfl; have x5 := HXv.out.at_ 5 rfl; have x6 := HXv.out.at_ 6 rfl; have x7 := HXv.out.at_ 7 rfl; have x8 := HXv.out.at_ 8 rfl; have x9 := HXv.out.at_ 9 rfl; have x10 := HXv.out.at_ 10 rfl; have x11 := HXv.out.at_ 11 rfl; have x12 := HXv.out.at_ 12 rfl; have x13 := HXv.out.at_ 13 rfl; have x14 := HXv.out.at_ 14 rfl)
          obtain ⟨m0, HLm0⟩ : ∃ m, Hid (l ++ [1] = m) := ⟨_, Lib.hid rfl⟩
          rw [HLm0.out] at HPu
          have HN0 := Lib.hid (show m0.length = l.length + 1 by rw [← HLm0.out, List.length_append]; rfl)
          rw [← HN0.out]
          have HBs := Lib.hid (show w.heap.size ≤ v.heap.size from Nat.le_trans HB1.out.size HPu.out.grew.size)
          have HXn1 := Lib.hid (show some xb ≠ blkOf B1 from fun e => by have h := HPu.out.blk _ e.symm; exact h.elim (fun h => HXne.out _ h rfl) (fun h => by have := HXlt.out; omega))
          have HP0 := Lib.hid (Puts.refl HPu.out.own)
          have hm0 : m0.length ≤ 600000 := by have := HN0.out; omega
          go_wp2_with fail
          refine (rnumput_any w.heap.size B1 m0.length c1 m0 nn v HP0.out.own (Nat.le_trans HBs.out HP0.out.grew.size) (HBo.out.1 (by simp)) (by omega)).mono ?_
          rintro e v2 ⟨B2, c2, rfl, hp2⟩
          have HP2 := Lib.hid (HP0.out.trans hp2)
          have HLe := Lib.hid (show m0 ++ Ed.nB nn = l2 by rw [← HL2.out, HEy.out, ← HLm0.out]; show _ = l ++ (1 :: Ed.nsB [nn]); simp [Ed.nsB, Ed.taB, List.append_assoc])
          have HPn := Lib.hid (HPu.out.trans HP2.out)
          rw [HLe.out] at HPn
          try rw [HLe.out]
          have HB2 := Lib.hid (HPn.out.below HB1.out HB1.out.size HO1.out (Nat.le_refl _))
          have HO2 := Lib.hid HPn.out.own
          clear HPn HPu HXv HXf HB1 HO1 HX1 HP0
          try clear x0 x1 x2 x3 x4 x5 x6 x7 x8 x9 x10 x11 x12 x13 x14
          go_wp2
          go_roundw
          case rel => exact ⟨k + 1, B2, l2, c2, by omega, by go_num, rfl, HO2, HB2, HLn, HOkn, hl2⟩
          case measure => simp [intOf]; omega
        · have hkk : kd = 2 := hkd.symm.trans hk
          subst hkk
          clear hk hkd
          have hz : Below v1.heap.size v1 (v1.alloc (.cells #[.int .u8 2] 5)) := (Below.refl _ _).alloc (Nat.le_refl _) _
          have hrn := rd_one v1 2 (by decide)
          have ho2 := HO1.out.below hz
          have hb2 := Nat.le_trans HB1.out.size hz.size
          have x0 := HXf.out.at_ 0 rfl
          go_upto_region 11 with (at_builtin; refine wpList_appB rfl (.tmp 27) (.tmp 31) rfl rfl ho2 (some ⟨v1.heap.size, 0, none⟩) 1 1 [2] rfl hrn (by omega) hb2 ?_; intro B1 c1 v hg3; have HPu := Lib.hid (Puts.after hz (Puts.of hg3)); have HXv := Lib.hid (HXf.out.grown HPu.out.grew (fun e => HXne.out _ e rfl)); clear hg3 hz hrn ho2 hb2 x0; have x0 := HXv.out.at_ 0 rfl; have x1 := HXv.out.at_ 1 rfl; have x2 := HXv.out.at_ 2 rfl; have x3 := HXv.out.at_ 3 rfl; have x4 := HXv.out.at_ 4 rfl; have x5 := HXv.out.at_ 5 rfl; have x6 := HXv.out.at_ 6 rfl; have x7 := HXv.out.at_ 7 rfl; have x8 := HXv.out.at_ 8 rfl; have x9 := HXv.out.at_ 9 rfl; have x10 := HXv.out.at_ 10 rfl; have x11 := HXv.out.at_ 11 rfl; have x12 := HXv.out.at_ 12 rfl; have x13 := HXv.out.at_ 13 rfl; have x14 := HXv.out.at_ 14 rfl)
          obtain ⟨m0, HLm0⟩ : ∃ m, Hid (l ++ [2] = m) := ⟨_, Lib.hid rfl⟩
          rw [HLm0.out] at HPu
          have HN0 := Lib.hid (show m0.length = l.length + 1 by rw [← HLm0.out, List.length_append]; rfl)
          rw [← HN0.out]
          have HBs := Lib.hid (show w.heap.size ≤ v.heap.size from Nat.le_trans HB1.out.size HPu.out.grew.size)
          have HXn1 := Lib.hid (show some xb ≠ blkOf B1 from fun e => by have h := HPu.out.blk _ e.symm; exact h.elim (fun h => HXne.out _ h rfl) (fun h => by have := HXlt.out; omega))
          have HP0 := Lib.hid (Puts.refl HPu.out.own)
          have hm0 : m0.length ≤ 600000 := by have := HN0.out; omega
          go_wp2_with fail
          refine (rnumput_any w.heap.size B1 m0.length c1 m0 nn v HP0.out.own (Nat.le_trans HBs.out HP0.out.grew.size) (HBo.out.1 (by simp)) (by omega)).mono ?_
          rintro e v2 ⟨B2, c2, rfl, hp2⟩
          have HP2 := Lib.hid (HP0.out.trans hp2)
          have HLe := Lib.hid (show m0 ++ Ed.nB nn = l2 by rw [← HL2.out, HEy.out, ← HLm0.out]; show _ = l ++ (2 :: Ed.nsB [nn]); simp [Ed.nsB, Ed.taB, List.append_assoc])
          have HPn := Lib.hid (HPu.out.trans HP2.out)
          rw [HLe.out] at HPn
          try rw [HLe.out]
          have HB2 := Lib.hid (HPn.out.below HB1.out HB1.out.size HO1.out (Nat.le_refl _))
          have HO2 := Lib.hid HPn.out.own
          clear HPn HPu HXv HXf HB1 HO1 HX1 HP0
          try clear x0 x1 x2 x3 x4 x5 x6 x7 x8 x9 x10 x11 x12 x13 x14
          go_wp2
          go_roundw
          case rel => exact ⟨k + 1, B2, l2, c2, by omega, by go_num, rfl, HO2, HB2, HLn, HOkn, hl2⟩
          case measure => simp [intOf]; omega
        · have hkk : kd = 3 := hkd.symm.trans hk
          subst hkk
          clear hk hkd
          have hz : Below v1.heap.size v1 (v1.alloc (.cells #[.int .u8 3] 5)) := (Below.refl _ _).alloc (Nat.le_refl _) _
          have hrn := rd_one v1 3 (by decide)
          have ho2 := HO1.out.below hz
          have hb2 := Nat.le_trans HB1.out.size hz.size
          have x0 := HXf.out.at_ 0 rfl
          go_upto_region 11 with (at_builtin; refine wpList_appB rfl (.tmp 27) (.tmp 31) rfl rfl ho2 (some ⟨v1.heap.size, 0, none⟩) 1 1 [3] rfl hrn (by omega) hb2 ?_; intro B1 c1 v hg3; have HPu := Lib.hid (Puts.after hz (Puts.of hg3)); have HXv := Lib.hid (HXf.out.grown HPu.out.grew (fun e => HXne.out _ e rfl)); clear hg3 hz hrn ho2 hb2 x0; have x0 := HXv.out.at_ 0 rfl; have x1 := HXv.out.at_ 1 rfl; have x2 := HXv.out.at_ 2 rfl; have x3 := HXv.out.at_ 3 rfl; have x4 := HXv.out.at_ 4 rfl; have x5 := HXv.out.at_ 5 rfl; have x6 := HXv.out.at_ 6 rfl; have x7 := HXv.out.at_ 7 rfl; have x8 := HXv.out.at_ 8 rfl; have x9 := HXv.out.at_ 9 rfl; have x10 := HXv.out.at_ 10 rfl; have x11 := HXv.out.at_ 11 rfl; have x12 := HXv.out.at_ 12 rfl; have x13 := HXv.out.at_ 13 rfl; have x14 := HXv.out.at_ 14 rfl)
          obtain ⟨m0, HLm0⟩ : ∃ m, Hid (l ++ [3] = m) := ⟨_, Lib.hid rfl⟩
          rw [HLm0.out] at HPu
          have HN0 := Lib.hid (show m0.length = l.length + 1 by rw [← HLm0.out, List.length_append]; rfl)
          rw [← HN0.out]
          have HBs := Lib.hid (show w.heap.size ≤ v.heap.size from Nat.le_trans HB1.out.size HPu.out.grew.size)
          have HXn1 := Lib.hid (show some xb ≠ blkOf B1 from fun e => by have h := HPu.out.blk _ e.symm; exact h.elim (fun h => HXne.out _ h rfl) (fun h => by have := HXlt.out; omega))
          have HP0 := Lib.hid (Puts.refl HPu.out.own)
          have hm0 : m0.length ≤ 600000 := by have := HN0.out; omega
          have hpk := Ed.ok3 HEo.out (by rw [HEy.out]; rfl)
          rw [HEy.out] at hpk
          have HPk := Lib.hid (show (⟨pid, pep, ps⟩ : Ed.Pl).ok = true from hpk)
          clear hpk
          have hpn : 0 < pn := by have h3 := Ed.pl_pos HPk.out; have h4 : ps.length = pn := HX1.out.1.1.1; have h3 : 0 < ps.length := h3; omega
          have HPv := Lib.hid (PairsOk.puts HX1.out.1 HPu.out (HOfP.out hpn))
          have HOf1 := Lib.hid (PairsOk.off HX1.out.1 HPu.out (HOfP.out hpn) hpn)
          go_wp2_with fail
          refine (rplace_any w.heap.size B1 m0.length c1 m0 pid pep P pn pc ps v HP0.out.own HBs.out HPv.out HOf1.out HPk.out (by omega)).mono ?_
          rintro e v2 ⟨B2, c2, rfl, hp2⟩
          have HP2 := Lib.hid (HP0.out.trans hp2)
          have HLe := Lib.hid (show m0 ++ Ed.plB ⟨pid, pep, ps⟩ = l2 by rw [← HL2.out, HEy.out, ← HLm0.out]; show _ = l ++ (3 :: Ed.plB ⟨pid, pep, ps⟩); simp [Ed.nsB, Ed.taB, List.append_assoc])
          have HPn := Lib.hid (HPu.out.trans HP2.out)
          rw [HLe.out] at HPn
          try rw [HLe.out]
          have HB2 := Lib.hid (HPn.out.below HB1.out HB1.out.size HO1.out (Nat.le_refl _))
          have HO2 := Lib.hid HPn.out.own
          clear HPn HPu HXv HXf HB1 HO1 HX1 HP0
          try clear x0 x1 x2 x3 x4 x5 x6 x7 x8 x9 x10 x11 x12 x13 x14
          go_wp2
          go_roundw
          case rel => exact ⟨k + 1, B2, l2, c2, by omega, by go_num, rfl, HO2, HB2, HLn, HOkn, hl2⟩
          case measure => simp [intOf]; omega
        · have hkk : kd = 4 := hkd.symm.trans hk
          subst hkk
          clear hk hkd
          have hz : Below v1.heap.size v1 (v1.alloc (.cells #[.int .u8 4] 5)) := (Below.refl _ _).alloc (Nat.le_refl _) _
          have hrn := rd_one v1 4 (by decide)
          have ho2 := HO1.out.below hz
          have hb2 := Nat.le_trans HB1.out.size hz.size
          have x0 := HXf.out.at_ 0 rfl
          go_upto_region 11 with (at_builtin; refine wpList_appB rfl (.tmp 27) (.tmp 31) rfl rfl ho2 (some ⟨v1.heap.size, 0, none⟩) 1 1 [4] rfl hrn (by omega) hb2 ?_; intro B1 c1 v hg3; have HPu := Lib.hid (Puts.after hz (Puts.of hg3)); have HXv := Lib.hid (HXf.out.grown HPu.out.grew (fun e => HXne.out _ e rfl)); clear hg3 hz hrn ho2 hb2 x0; have x0 := HXv.out.at_ 0 rfl; have x1 := HXv.out.at_ 1 rfl; have x2 := HXv.out.at_ 2 rfl; have x3 := HXv.out.at_ 3 rfl; have x4 := HXv.out.at_ 4 rfl; have x5 := HXv.out.at_ 5 rfl; have x6 := HXv.out.at_ 6 rfl; have x7 := HXv.out.at_ 7 rfl; have x8 := HXv.out.at_ 8 rfl; have x9 := HXv.out.at_ 9 rfl; have x10 := HXv.out.at_ 10 rfl; have x11 := HXv.out.at_ 11 rfl; have x12 := HXv.out.at_ 12 rfl; have x13 := HXv.out.at_ 13 rfl; have x14 := HXv.out.at_ 14 rfl)
          obtain ⟨m0, HLm0⟩ : ∃ m, Hid (l ++ [4] = m) := ⟨_, Lib.hid rfl⟩
          rw [HLm0.out] at HPu
          have HN0 := Lib.hid (show m0.length = l.length + 1 by rw [← HLm0.out, List.length_append]; rfl)
          rw [← HN0.out]
          have HBs := Lib.hid (show w.heap.size ≤ v.heap.size from Nat.le_trans HB1.out.size HPu.out.grew.size)
          have HXn1 := Lib.hid (show some xb ≠ blkOf B1 from fun e => by have h := HPu.out.blk _ e.symm; exact h.elim (fun h => HXne.out _ h rfl) (fun h => by have := HXlt.out; omega))
          have HP0 := Lib.hid (Puts.refl HPu.out.own)
          have hm0 : m0.length ≤ 600000 := by have := HN0.out; omega
          go_upto_region 17 with fail
          clear x0 x1 x2 x3 x4 x5 x6 x7 x8 x9 x10 x11 x12 x13 x14
          have HSf := Lib.hid (fun (W : World) (B' : Option Addr) (l' : List Nat) (c' : Nat) (h : Puts v W w.heap.size B1 B' l' c') => show W.cell? ⟨xb, 1, none⟩ = some (.int .i64 id) ∧ W.cell? ⟨xb, 2, none⟩ = some (.int .i64 nn) from ⟨h.grew.cell (HXv.out.at_ 1 rfl) HXn1.out, h.grew.cell (HXv.out.at_ 2 rfl) HXn1.out⟩)
          have hbd : Below v.heap.size v v.drew := (Below.refl _ _).drew
          have HPd := Lib.hid (HP0.out.more hbd)
          have hS0 := Lib.hid (HSf.out _ _ _ _ HPd.out)
          refine wp_region_T (fun W => W.cell? ⟨xb, 1, none⟩ = some (.int .i64 id) ∧ W.cell? ⟨xb, 2, none⟩ = some (.int .i64 nn)) (fun W => True) 99 (by kernel_rfl) ?_
          refine tkS (i := 0) hS0.out ?_; try walk_nrm
          refine tkS (i := 1) hS0.out ?_; try walk_nrm
          refine tkS (i := 2) hS0.out ?_; try walk_nrm
          refine tkS (i := 4) hS0.out ?_; try walk_nrm
          refine tkS (i := 5) hS0.out ?_; try walk_nrm
          refine wpAnyT_one (i := 3) (by kernel_rfl) rfl (fun K hK => ?_)
          try walk_nrm
          rw [if_pos (by rfl)]
          go_simp
          refine (rnumput_any w.heap.size B1 m0.length c1 m0 id v.drew HPd.out.own (Nat.le_trans HBs.out HPd.out.grew.size) (HBo.out.2 (by simp)) (by omega)).mono ?_
          rintro e v3 ⟨B3, c3, rfl, hq⟩
          have HP1 := Lib.hid (HPd.out.trans hq)
          obtain ⟨m1, HLm1⟩ : ∃ l, Hid (m0 ++ Ed.nB id = l) := ⟨_, Lib.hid rfl⟩
          rw [HLm1.out] at HP1
          rw [HLm1.out]
          have HNm1 := Lib.hid (show m1.length ≤ m0.length + 11 by rw [← HLm1.out, List.length_append]; have := Ed.nB_len id; omega)
          have hS := Lib.hid (HSf.out _ _ _ _ HP1.out)
          refine hK.out _ _ hS.out (fun _ => trivial) ?_
          clear hK hS hq
          try walk_nrm
          refine wpAnyT_one (i := 6) (by kernel_rfl) rfl (fun K hK => ?_)
          try walk_nrm
          rw [if_pos (by rfl)]
          go_simp
          refine (rnumput_any w.heap.size B3 m1.length c3 m1 nn v3 HP1.out.own (Nat.le_trans HBs.out HP1.out.grew.size) (HBo.out.1 (by simp)) (by have := HNm1.out; omega)).mono ?_
          rintro e v2 ⟨B2, c2, rfl, hq⟩
          have HP2 := Lib.hid (HP1.out.trans hq)
          obtain ⟨m2, HLm2⟩ : ∃ l, Hid (m1 ++ Ed.nB nn = l) := ⟨_, Lib.hid rfl⟩
          rw [HLm2.out] at HP2
          rw [HLm2.out]
          have HNm2 := Lib.hid (show m2.length ≤ m1.length + 11 by rw [← HLm2.out, List.length_append]; have := Ed.nB_len nn; omega)
          have hS := Lib.hid (HSf.out _ _ _ _ HP2.out)
          refine hK.out _ _ hS.out (fun _ => trivial) ?_
          clear hK hS hq
          try walk_nrm
          have hS2 := Lib.hid (HSf.out _ _ _ _ HP2.out)
          refine tkS (i := 7) hS2.out ?_; try walk_nrm
          refine wpAnyT_done (by kernel_rfl) ?_ _
          have HLe := Lib.hid (show m2 = l2 by rw [← HL2.out, HEy.out, ← HLm2.out, ← HLm1.out, ← HLm0.out]; show _ = l ++ (4 :: (Ed.nsB [id] ++ Ed.nsB [nn])); simp [Ed.nsB, Ed.taB, List.append_assoc])
          have HPn := Lib.hid (HPu.out.trans HP2.out)
          rw [HLe.out] at HPn
          try rw [HLe.out]
          have HB2 := Lib.hid (HPn.out.below HB1.out HB1.out.size HO1.out (Nat.le_refl _))
          have HO2 := Lib.hid HPn.out.own
          clear HPn HPu HXv HXf HB1 HO1 HX1 HP0
          try clear x0 x1 x2 x3 x4 x5 x6 x7 x8 x9 x10 x11 x12 x13 x14
          go_wp2
          go_roundw
          case rel => exact ⟨k + 1, B2, l2, c2, by omega, by go_num, rfl, HO2, HB2, HLn, HOkn, hl2⟩
          case measure => simp [intOf]; omega
        · have hkk : kd = 5 := hkd.symm.trans hk
          subst hkk
          clear hk hkd
          have hz : Below v1.heap.size v1 (v1.alloc (.cells #[.int .u8 5] 5)) := (Below.refl _ _).alloc (Nat.le_refl _) _
          have hrn := rd_one v1 5 (by decide)
          have ho2 := HO1.out.below hz
          have hb2 := Nat.le_trans HB1.out.size hz.size
          have x0 := HXf.out.at_ 0 rfl
          go_upto_region 11 with (at_builtin; refine wpList_appB rfl (.tmp 27) (.tmp 31) rfl rfl ho2 (some ⟨v1.heap.size, 0, none⟩) 1 1 [5] rfl hrn (by omega) hb2 ?_; intro B1 c1 v hg3; have HPu := Lib.hid (Puts.after hz (Puts.of hg3)); have HXv := Lib.hid (HXf.out.grown HPu.out.grew (fun e => HXne.out _ e rfl)); clear hg3 hz hrn ho2 hb2 x0; have x0 := HXv.out.at_ 0 rfl; have x1 := HXv.out.at_ 1 rfl; have x2 := HXv.out.at_ 2 rfl; have x3 := HXv.out.at_ 3 rfl; have x4 := HXv.out.at_ 4 rfl; have x5 := HXv.out.at_ 5 rfl; have x6 := HXv.out.at_ 6 rfl; have x7 := HXv.out.at_ 7 rfl; have x8 := HXv.out.at_ 8 rfl; have x9 := HXv.out.at_ 9 rfl; have x10 := HXv.out.at_ 10 rfl; have x11 := HXv.out.at_ 11 rfl; have x12 := HXv.out.at_ 12 rfl; have x13 := HXv.out.at_ 13 rfl; have x14 := HXv.out.at_ 14 rfl)
          obtain ⟨m0, HLm0⟩ : ∃ m, Hid (l ++ [5] = m) := ⟨_, Lib.hid rfl⟩
          rw [HLm0.out] at HPu
          have HN0 := Lib.hid (show m0.length = l.length + 1 by rw [← HLm0.out, List.length_append]; rfl)
          rw [← HN0.out]
          have HBs := Lib.hid (show w.heap.size ≤ v.heap.size from Nat.le_trans HB1.out.size HPu.out.grew.size)
          have HXn1 := Lib.hid (show some xb ≠ blkOf B1 from fun e => by have h := HPu.out.blk _ e.symm; exact h.elim (fun h => HXne.out _ h rfl) (fun h => by have := HXlt.out; omega))
          have HP0 := Lib.hid (Puts.refl HPu.out.own)
          have hm0 : m0.length ≤ 600000 := by have := HN0.out; omega
          go_wp2_with fail
          refine (rnumput_any w.heap.size B1 m0.length c1 m0 id v HP0.out.own (Nat.le_trans HBs.out HP0.out.grew.size) (HBo.out.2 (by simp)) (by omega)).mono ?_
          rintro e v2 ⟨B2, c2, rfl, hp2⟩
          have HP2 := Lib.hid (HP0.out.trans hp2)
          have HLe := Lib.hid (show m0 ++ Ed.nB id = l2 by rw [← HL2.out, HEy.out, ← HLm0.out]; show _ = l ++ (5 :: Ed.nsB [id]); simp [Ed.nsB, Ed.taB, List.append_assoc])
          have HPn := Lib.hid (HPu.out.trans HP2.out)
          rw [HLe.out] at HPn
          try rw [HLe.out]
          have HB2 := Lib.hid (HPn.out.below HB1.out HB1.out.size HO1.out (Nat.le_refl _))
          have HO2 := Lib.hid HPn.out.own
          clear HPn HPu HXv HXf HB1 HO1 HX1 HP0
          try clear x0 x1 x2 x3 x4 x5 x6 x7 x8 x9 x10 x11 x12 x13 x14
          go_wp2
          go_roundw
          case rel => exact ⟨k + 1, B2, l2, c2, by omega, by go_num, rfl, HO2, HB2, HLn, HOkn, hl2⟩
          case measure => simp [intOf]; omega
        · have hkk : kd = 6 := hkd.symm.trans hk
          subst hkk
          clear hk hkd
          have hz : Below v1.heap.size v1 (v1.alloc (.cells #[.int .u8 6] 5)) := (Below.refl _ _).alloc (Nat.le_refl _) _
          have hrn := rd_one v1 6 (by decide)
          have ho2 := HO1.out.below hz
          have hb2 := Nat.le_trans HB1.out.size hz.size
          have x0 := HXf.out.at_ 0 rfl
          go_upto_region 11 with (at_builtin; refine wpList_appB rfl (.tmp 27) (.tmp 31) rfl rfl ho2 (some ⟨v1.heap.size, 0, none⟩) 1 1 [6] rfl hrn (by omega) hb2 ?_; intro B1 c1 v hg3; have HPu := Lib.hid (Puts.after hz (Puts.of hg3)); have HXv := Lib.hid (HXf.out.grown HPu.out.grew (fun e => HXne.out _ e rfl)); clear hg3 hz hrn ho2 hb2 x0; have x0 := HXv.out.at_ 0 rfl; have x1 := HXv.out.at_ 1 rfl; have x2 := HXv.out.at_ 2 rfl; have x3 := HXv.out.at_ 3 rfl; have x4 := HXv.out.at_ 4 rfl; have x5 := HXv.out.at_ 5 rfl; have x6 := HXv.out.at_ 6 rfl; have x7 := HXv.out.at_ 7 rfl; have x8 := HXv.out.at_ 8 rfl; have x9 := HXv.out.at_ 9 rfl; have x10 := HXv.out.at_ 10 rfl; have x11 := HXv.out.at_ 11 rfl; have x12 := HXv.out.at_ 12 rfl; have x13 := HXv.out.at_ 13 rfl; have x14 := HXv.out.at_ 14 rfl)
          obtain ⟨m0, HLm0⟩ : ∃ m, Hid (l ++ [6] = m) := ⟨_, Lib.hid rfl⟩
          rw [HLm0.out] at HPu
          have HN0 := Lib.hid (show m0.length = l.length + 1 by rw [← HLm0.out, List.length_append]; rfl)
          rw [← HN0.out]
          have HBs := Lib.hid (show w.heap.size ≤ v.heap.size from Nat.le_trans HB1.out.size HPu.out.grew.size)
          have HXn1 := Lib.hid (show some xb ≠ blkOf B1 from fun e => by have h := HPu.out.blk _ e.symm; exact h.elim (fun h => HXne.out _ h rfl) (fun h => by have := HXlt.out; omega))
          have HP0 := Lib.hid (Puts.refl HPu.out.own)
          have hm0 : m0.length ≤ 600000 := by have := HN0.out; omega
          have ht := Ed.ok6 HEo.out (by rw [HEy.out]; rfl)
          rw [HEy.out] at ht
          have HTk := Lib.hid (show (⟨⟨tid, tep, qs⟩, sz, lv, ct, lo, hi, tp⟩ : Ed.Ta).ok = true from ht)
          have ht2 := HTk.out
          unfold Ed.Ta.ok Ed.okT at ht2
          simp only [Bool.and_eq_true, Ed.from_iff, Bool.not_eq_true'] at ht2
          obtain ⟨⟨⟨⟨⟨⟨⟨_, h2⟩, h3⟩, h4⟩, h5⟩, h6⟩, h7⟩, _⟩ := ht2
          have HQk := Lib.hid (show (⟨tid, tep, qs⟩ : Ed.Pl).ok = true from (Ed.okT_q HTk.out).1)
          have hc : qs.length ≤ 64 := (Ed.okP_q HQk.out).2.1
          have hc2 : (qs.length : Int) ≤ 64 := by omega
          have Hsz := Lib.hid (show 0 ≤ sz ∧ sz ≤ 9223372036854775807 by constructor <;> omega)
          have Hlv := Lib.hid (show 0 ≤ lv ∧ lv ≤ 9223372036854775807 by constructor <;> omega)
          have Hct := Lib.hid (show 0 ≤ ct ∧ ct ≤ 9223372036854775807 by constructor <;> omega)
          have Htp := Lib.hid (show 0 ≤ tp ∧ tp ≤ 9223372036854775807 by constructor <;> omega)
          have hlo : lo.size ≤ 64 := by omega
          have hhi : hi.size ≤ 64 := by omega
          have HTl := Lib.hid (And.intro (Ed.text_len hlo) (Ed.text_len hhi))
          have CLo := Lib.hid (fun (W : World) => rbtext_any lo (by omega) W)
          have CHi := Lib.hid (fun (W : World) => rbtext_any hi (by omega) W)
          have HLp := Lib.hid (Ed.plB_len HQk.out)
          clear ht h2 h3 h4 h5 h6 h7 hlo hhi hc hc2
          have hqn : 0 < qn := by have h3 := Ed.pl_pos HQk.out; have h4 : qs.length = qn := HX1.out.2.1.1.1; have h3 : 0 < qs.length := h3; omega
          have hal : Below v.heap.size v (v.alloc (.cells #[.int .i64 tid, .int .i64 tep, .slice Q qn qc, .int .i64 sz, .int .i64 lv, .int .i64 ct, .string lo, .string hi, .int .i64 tp] 35)) := (Below.refl _ _).alloc (Nat.le_refl _) _
          have HT := Lib.hid (Holds.new v #[.int .i64 tid, .int .i64 tep, .slice Q qn qc, .int .i64 sz, .int .i64 lv, .int .i64 ct, .string lo, .string hi, .int .i64 tp] 35)
          have HQv := Lib.hid ((PairsOk.puts HX1.out.2.1 HPu.out (HOfQ.out hqn)).below hal)
          have HOf1 := Lib.hid (PairsOk.off HX1.out.2.1 HPu.out (HOfQ.out hqn) hqn)
          have HPt := Lib.hid (Puts.refl (HPu.out.own.below hal))
          have HPu2 := Lib.hid (HPu.out.more hal)
          have HBt := Lib.hid (Nat.le_trans HBs.out hal.size)
          have HTn := Lib.hid (show some v.heap.size ≠ blkOf B1 from fun e => by have := (HPu.out.own.blk v.heap.size (by rw [ownBlock_eq]; exact e.symm)).2; omega)
          clear hal
          go_upto_region 22 with fail
          clear x0 x1 x2 x3 x4 x5 x6 x7 x8 x9 x10 x11 x12 x13 x14
          generalize (v.alloc (.cells #[.int .i64 tid, .int .i64 tep, .slice Q qn qc, .int .i64 sz, .int .i64 lv, .int .i64 ct, .string lo, .string hi, .int .i64 tp] 35)) = vt at *
          replace HT : Hid (Holds vt v.heap.size [.int .i64 tid, .int .i64 tep, .slice Q qn qc, .int .i64 sz, .int .i64 lv, .int .i64 ct, .string lo, .string hi, .int .i64 tp]) := HT
          have HSf := Lib.hid (fun (W : World) (B' : Option Addr) (l' : List Nat) (c' : Nat) (h : Puts vt W w.heap.size B1 B' l' c') => show W.cell? ⟨v.heap.size, 0, none⟩ = some (.int .i64 tid) ∧ W.cell? ⟨v.heap.size, 1, none⟩ = some (.int .i64 tep) ∧ W.cell? ⟨v.heap.size, 2, none⟩ = some (.slice Q qn qc) ∧ W.cell? ⟨v.heap.size, 3, none⟩ = some (.int .i64 sz) ∧ W.cell? ⟨v.heap.size, 4, none⟩ = some (.int .i64 lv) ∧ W.cell? ⟨v.heap.size, 5, none⟩ = some (.int .i64 ct) from ⟨h.grew.cell (HT.out.at_ 0 rfl) HTn.out, h.grew.cell (HT.out.at_ 1 rfl) HTn.out, h.grew.cell (HT.out.at_ 2 rfl) HTn.out, h.grew.cell (HT.out.at_ 3 rfl) HTn.out, h.grew.cell (HT.out.at_ 4 rfl) HTn.out, h.grew.cell (HT.out.at_ 5 rfl) HTn.out⟩)
          have HSg := Lib.hid (fun (W : World) (B' : Option Addr) (l' : List Nat) (c' : Nat) (h : Puts vt W w.heap.size B1 B' l' c') => show W.cell? ⟨v.heap.size, 6, none⟩ = some (.string lo) ∧ W.cell? ⟨v.heap.size, 7, none⟩ = some (.string hi) ∧ W.cell? ⟨v.heap.size, 8, none⟩ = some (.int .i64 tp) from ⟨h.grew.cell (HT.out.at_ 6 rfl) HTn.out, h.grew.cell (HT.out.at_ 7 rfl) HTn.out, h.grew.cell (HT.out.at_ 8 rfl) HTn.out⟩)
          have hbd : Below vt.heap.size vt vt.drew := (Below.refl _ _).drew
          have HPd := Lib.hid (HPt.out.more hbd)
          have hS0 := Lib.hid (HSf.out _ _ _ _ HPd.out)
          have HQd := Lib.hid (HQv.out.below hbd)
          refine wp_region_T (fun W => W.cell? ⟨v.heap.size, 0, none⟩ = some (.int .i64 tid) ∧ W.cell? ⟨v.heap.size, 1, none⟩ = some (.int .i64 tep) ∧ W.cell? ⟨v.heap.size, 2, none⟩ = some (.slice Q qn qc) ∧ W.cell? ⟨v.heap.size, 3, none⟩ = some (.int .i64 sz) ∧ W.cell? ⟨v.heap.size, 4, none⟩ = some (.int .i64 lv) ∧ W.cell? ⟨v.heap.size, 5, none⟩ = some (.int .i64 ct)) (fun W => True) 99 (by kernel_rfl) ?_
          refine tkS (i := 0) hS0.out ?_; try walk_nrm
          refine tkS (i := 1) hS0.out ?_; try walk_nrm
          refine tkS (i := 2) hS0.out ?_; try walk_nrm
          refine tkS (i := 4) hS0.out ?_; try walk_nrm
          refine tkS (i := 5) hS0.out ?_; try walk_nrm
          refine tkS (i := 7) hS0.out ?_; try walk_nrm
          refine tkS (i := 8) hS0.out ?_; try walk_nrm
          refine tkS (i := 10) hS0.out ?_; try walk_nrm
          refine tkS (i := 11) hS0.out ?_; try walk_nrm
          refine wpAnyT_one (i := 3) (by kernel_rfl) rfl (fun K hK => ?_)
          try walk_nrm
          rw [if_pos (by rfl)]
          go_simp
          refine (rplace_any w.heap.size B1 m0.length c1 m0 tid tep Q qn qc qs vt.drew HPd.out.own (Nat.le_trans HBt.out HPd.out.grew.size) HQd.out HOf1.out HQk.out (by omega)).mono ?_
          rintro e v3 ⟨B3, c3, rfl, hq⟩
          have HP1 := Lib.hid (HPd.out.trans hq)
          obtain ⟨m1, HLm1⟩ : ∃ l, Hid (m0 ++ Ed.plB ⟨tid, tep, qs⟩ = l) := ⟨_, Lib.hid rfl⟩
          rw [HLm1.out] at HP1
          rw [HLm1.out]
          have HNm1 := Lib.hid (show m1.length ≤ m0.length + 2000 by rw [← HLm1.out, List.length_append]; have := HLp.out; omega)
          have hS := Lib.hid (HSf.out _ _ _ _ HP1.out)
          refine hK.out _ _ hS.out (fun _ => trivial) ?_
          clear hK hS hq
          try walk_nrm
          refine wpAnyT_one (i := 6) (by kernel_rfl) rfl (fun K hK => ?_)
          try walk_nrm
          rw [if_pos (by rfl)]
          go_simp
          refine (rnumput_any w.heap.size B3 m1.length c3 m1 sz v3 HP1.out.own (Nat.le_trans HBt.out HP1.out.grew.size) Hsz.out (by have := HNm1.out; omega)).mono ?_
          rintro e v4 ⟨B4, c4, rfl, hq⟩
          have HP2 := Lib.hid (HP1.out.trans hq)
          obtain ⟨m2, HLm2⟩ : ∃ l, Hid (m1 ++ Ed.nB sz = l) := ⟨_, Lib.hid rfl⟩
          rw [HLm2.out] at HP2
          rw [HLm2.out]
          have HNm2 := Lib.hid (show m2.length ≤ m0.length + 2011 by rw [← HLm2.out, List.length_append]; have := And.intro HNm1.out (Ed.nB_len sz); omega)
          have hS := Lib.hid (HSf.out _ _ _ _ HP2.out)
          refine hK.out _ _ hS.out (fun _ => trivial) ?_
          clear hK hS hq
          try walk_nrm
          refine wpAnyT_one (i := 9) (by kernel_rfl) rfl (fun K hK => ?_)
          try walk_nrm
          rw [if_pos (by rfl)]
          go_simp
          refine (rnumput_any w.heap.size B4 m2.length c4 m2 lv v4 HP2.out.own (Nat.le_trans HBt.out HP2.out.grew.size) Hlv.out (by have := HNm2.out; omega)).mono ?_
          rintro e v5 ⟨B5, c5, rfl, hq⟩
          have HP3 := Lib.hid (HP2.out.trans hq)
          obtain ⟨m3, HLm3⟩ : ∃ l, Hid (m2 ++ Ed.nB lv = l) := ⟨_, Lib.hid rfl⟩
          rw [HLm3.out] at HP3
          rw [HLm3.out]
          have HNm3 := Lib.hid (show m3.length ≤ m0.length + 2022 by rw [← HLm3.out, List.length_append]; have := And.intro HNm2.out (Ed.nB_len lv); omega)
          have hS := Lib.hid (HSf.out _ _ _ _ HP3.out)
          refine hK.out _ _ hS.out (fun _ => trivial) ?_
          clear hK hS hq
          try walk_nrm
          refine wpAnyT_one (i := 12) (by kernel_rfl) rfl (fun K hK => ?_)
          try walk_nrm
          rw [if_pos (by rfl)]
          go_simp
          refine (rnumput_any w.heap.size B5 m3.length c5 m3 ct v5 HP3.out.own (Nat.le_trans HBt.out HP3.out.grew.size) Hct.out (by have := HNm3.out; omega)).mono ?_
          rintro e v6 ⟨B6, c6, rfl, hq⟩
          have HP4 := Lib.hid (HP3.out.trans hq)
          obtain ⟨m4, HLm4⟩ : ∃ l, Hid (m3 ++ Ed.nB ct = l) := ⟨_, Lib.hid rfl⟩
          rw [HLm4.out] at HP4
          rw [HLm4.out]
          have HNm4 := Lib.hid (show m4.length ≤ m0.length + 2033 by rw [← HLm4.out, List.length_append]; have := And.intro HNm3.out (Ed.nB_len ct); omega)
          have hS := Lib.hid (HSf.out _ _ _ _ HP4.out)
          refine hK.out _ _ hS.out (fun _ => trivial) ?_
          clear hK hS hq
          try walk_nrm
          have hS4 := Lib.hid (HSf.out _ _ _ _ HP4.out)
          refine tkS (i := 13) hS4.out ?_; try walk_nrm
          refine wpAnyT_done (by kernel_rfl) ?_ _
          go_upto_region 23 with fail
          clear HP1 HP2 HP3 HPd HQd HQv HOf1 hS0 hS4 HSf hbd
          have hbd : Below v6.heap.size v6 v6.drew := (Below.refl _ _).drew
          have HPe := Lib.hid (HP4.out.more hbd)
          have hS0 := Lib.hid (HSg.out _ _ _ _ HPe.out)
          clear HP4 hbd
          refine wp_region_T (fun W => W.cell? ⟨v.heap.size, 6, none⟩ = some (.string lo) ∧ W.cell? ⟨v.heap.size, 7, none⟩ = some (.string hi) ∧ W.cell? ⟨v.heap.size, 8, none⟩ = some (.int .i64 tp)) (fun W => True) 99 (by kernel_rfl) ?_
          refine tkS (i := 0) hS0.out ?_; try walk_nrm
          refine tkS (i := 1) hS0.out ?_; try walk_nrm
          refine tkS (i := 2) hS0.out ?_; try walk_nrm
          refine tkS (i := 5) hS0.out ?_; try walk_nrm
          refine tkS (i := 6) hS0.out ?_; try walk_nrm
          refine tkS (i := 9) hS0.out ?_; try walk_nrm
          refine tkS (i := 10) hS0.out ?_; try walk_nrm
          refine wpAnyT_one (i := 3) (by kernel_rfl) rfl (fun K hK => ?_)
          try walk_nrm
          rw [if_pos (by rfl)]
          go_simp
          refine (CLo.out v6.drew).mono ?_
          rintro e v7 ⟨T1, d1, rfl, hO, hb⟩
          have HPa := Lib.hid (HPe.out.more hb)
          have HOlo := Lib.hid hO
          have HNlo := Lib.hid (show ∀ g, (Value.slice B6 m4.length c6).ownBlock = some g → (Value.slice T1 (Cd.text lo).length d1).ownBlock ≠ some g from fun g h e => by have h1 := (HPe.out.own.blk g h).2; have h2 := (hO.blk g e).1; omega)
          clear hO hb
          have hS := Lib.hid (HSg.out _ _ _ _ HPa.out)
          refine hK.out _ _ hS.out (fun _ => trivial) ?_
          clear hK hS
          try walk_nrm
          refine wpAnyT_one (i := 4) (by kernel_rfl) rfl (fun K hK => ?_)
          refine step_appB (by rfl) (.tmp 78) (.tmp 81) rfl rfl HPa.out.own T1 (Cd.text lo).length d1 (Cd.text lo) rfl HOlo.out.rd (by have := HTl.out; have := HNm4.out; omega) (Nat.le_trans HBt.out HPa.out.grew.size) ?_
          intro B7 c7 v8 hg
          have HPb := Lib.hid (HPa.out.trans (Puts.of hg))
          clear hg
          obtain ⟨m5, HLm5⟩ : ∃ l, Hid (m4 ++ Cd.text lo = l) := ⟨_, Lib.hid rfl⟩
          rw [HLm5.out] at HPb
          have HEm5 := Lib.hid (show m4.length + (Cd.text lo).length = m5.length by rw [← HLm5.out, List.length_append])
          rw [HEm5.out]
          have HNm5 := Lib.hid (show m5.length ≤ m0.length + 2108 by have := HEm5.out; have := HTl.out; have := HNm4.out; omega)
          have hS := Lib.hid (HSg.out _ _ _ _ HPb.out)
          refine hK.out _ _ hS.out (fun _ => trivial) ?_
          clear hK hS
          try walk_nrm
          refine wpAnyT_one (i := 7) (by kernel_rfl) rfl (fun K hK => ?_)
          try walk_nrm
          rw [if_pos (by rfl)]
          go_simp
          refine (CHi.out v8).mono ?_
          rintro e v9 ⟨T2, d2, rfl, hO, hb⟩
          have HPc := Lib.hid (HPb.out.more hb)
          have HOhi := Lib.hid hO
          have HNhi := Lib.hid (show ∀ g, (Value.slice B7 m5.length c7).ownBlock = some g → (Value.slice T2 (Cd.text hi).length d2).ownBlock ≠ some g from fun g h e => by have h1 := (HPb.out.own.blk g h).2; have h2 := (hO.blk g e).1; omega)
          clear hO hb
          have hS := Lib.hid (HSg.out _ _ _ _ HPc.out)
          refine hK.out _ _ hS.out (fun _ => trivial) ?_
          clear hK hS
          try walk_nrm
          refine wpAnyT_one (i := 8) (by kernel_rfl) rfl (fun K hK => ?_)
          refine step_appB (by rfl) (.tmp 82) (.tmp 85) rfl rfl HPc.out.own T2 (Cd.text hi).length d2 (Cd.text hi) rfl HOhi.out.rd (by have := HTl.out; have := HNm5.out; omega) (Nat.le_trans HBt.out HPc.out.grew.size) ?_
          intro B8 c8 v10 hg
          have HPg := Lib.hid (HPc.out.trans (Puts.of hg))
          clear hg
          obtain ⟨m6, HLm6⟩ : ∃ l, Hid (m5 ++ Cd.text hi = l) := ⟨_, Lib.hid rfl⟩
          rw [HLm6.out] at HPg
          have HEm6 := Lib.hid (show m5.length + (Cd.text hi).length = m6.length by rw [← HLm6.out, List.length_append])
          rw [HEm6.out]
          have HNm6 := Lib.hid (show m6.length ≤ m0.length + 2183 by have := HEm6.out; have := HTl.out; have := HNm5.out; omega)
          have hS := Lib.hid (HSg.out _ _ _ _ HPg.out)
          refine hK.out _ _ hS.out (fun _ => trivial) ?_
          clear hK hS
          try walk_nrm
          refine wpAnyT_one (i := 11) (by kernel_rfl) rfl (fun K hK => ?_)
          try walk_nrm
          rw [if_pos (by rfl)]
          go_simp
          refine (rnumput_any w.heap.size B8 m6.length c8 m6 tp v10 HPg.out.own (Nat.le_trans HBt.out HPg.out.grew.size) Htp.out (by have := HNm6.out; omega)).mono ?_
          rintro e v12 ⟨B2, c2, rfl, hq⟩
          have HP9 := Lib.hid (HPg.out.trans hq)
          obtain ⟨m7, HLm7⟩ : ∃ l, Hid (m6 ++ Ed.nB tp = l) := ⟨_, Lib.hid rfl⟩
          rw [HLm7.out] at HP9
          rw [HLm7.out]
          have HNm7 := Lib.hid (show m7.length ≤ m0.length + 2250 by rw [← HLm7.out, List.length_append]; have := And.intro HNm6.out (Ed.nB_len tp); omega)
          have hS := Lib.hid (HSg.out _ _ _ _ HP9.out)
          refine hK.out _ _ hS.out (fun _ => trivial) ?_
          clear hK hS hq
          try walk_nrm
          have hS2 := Lib.hid (HSg.out _ _ _ _ HP9.out)
          refine tkS (i := 12) hS2.out ?_; try walk_nrm
          refine wpAnyT_done (by kernel_rfl) ?_ _
          have HLe := Lib.hid (show m7 = l2 by rw [← HL2.out, HEy.out, ← HLm7.out, ← HLm6.out, ← HLm5.out, ← HLm4.out, ← HLm3.out, ← HLm2.out, ← HLm1.out, ← HLm0.out]; show _ = l ++ (6 :: Ed.taB ⟨⟨tid, tep, qs⟩, sz, lv, ct, lo, hi, tp⟩); simp [Ed.nsB, Ed.taB, List.append_assoc])
          have HPn := Lib.hid (HPu2.out.trans HP9.out)
          rw [HLe.out] at HPn
          try rw [HLe.out]
          have HB2 := Lib.hid (HPn.out.below HB1.out HB1.out.size HO1.out (Nat.le_refl _))
          have HO2 := Lib.hid HPn.out.own
          clear HPn HPu HXv HXf HB1 HO1 HX1 HP0
          try clear x0 x1 x2 x3 x4 x5 x6 x7 x8 x9 x10 x11 x12 x13 x14
          go_wp2
          go_roundw
          case rel => exact ⟨k + 1, B2, l2, c2, by omega, by go_num, rfl, HO2, HB2, HLn, HOkn, hl2⟩
          case measure => simp [intOf]; omega
        · have hkk : kd = 7 := hkd.symm.trans hk
          subst hkk
          clear hk hkd
          have hz : Below v1.heap.size v1 (v1.alloc (.cells #[.int .u8 7] 5)) := (Below.refl _ _).alloc (Nat.le_refl _) _
          have hrn := rd_one v1 7 (by decide)
          have ho2 := HO1.out.below hz
          have hb2 := Nat.le_trans HB1.out.size hz.size
          have x0 := HXf.out.at_ 0 rfl
          go_upto_region 11 with (at_builtin; refine wpList_appB rfl (.tmp 27) (.tmp 31) rfl rfl ho2 (some ⟨v1.heap.size, 0, none⟩) 1 1 [7] rfl hrn (by omega) hb2 ?_; intro B1 c1 v hg3; have HPu := Lib.hid (Puts.after hz (Puts.of hg3)); have HXv := Lib.hid (HXf.out.grown HPu.out.grew (fun e => HXne.out _ e rfl)); clear hg3 hz hrn ho2 hb2 x0; have x0 := HXv.out.at_ 0 rfl; have x1 := HXv.out.at_ 1 rfl; have x2 := HXv.out.at_ 2 rfl; have x3 := HXv.out.at_ 3 rfl; have x4 := HXv.out.at_ 4 rfl; have x5 := HXv.out.at_ 5 rfl; have x6 := HXv.out.at_ 6 rfl; have x7 := HXv.out.at_ 7 rfl; have x8 := HXv.out.at_ 8 rfl; have x9 := HXv.out.at_ 9 rfl; have x10 := HXv.out.at_ 10 rfl; have x11 := HXv.out.at_ 11 rfl; have x12 := HXv.out.at_ 12 rfl; have x13 := HXv.out.at_ 13 rfl; have x14 := HXv.out.at_ 14 rfl)
          obtain ⟨m0, HLm0⟩ : ∃ m, Hid (l ++ [7] = m) := ⟨_, Lib.hid rfl⟩
          rw [HLm0.out] at HPu
          have HN0 := Lib.hid (show m0.length = l.length + 1 by rw [← HLm0.out, List.length_append]; rfl)
          rw [← HN0.out]
          have HBs := Lib.hid (show w.heap.size ≤ v.heap.size from Nat.le_trans HB1.out.size HPu.out.grew.size)
          have HXn1 := Lib.hid (show some xb ≠ blkOf B1 from fun e => by have h := HPu.out.blk _ e.symm; exact h.elim (fun h => HXne.out _ h rfl) (fun h => by have := HXlt.out; omega))
          have HP0 := Lib.hid (Puts.refl HPu.out.own)
          have hm0 : m0.length ≤ 600000 := by have := HN0.out; omega
          go_wp2_with fail
          refine (rnumput_any w.heap.size B1 m0.length c1 m0 id v HP0.out.own (Nat.le_trans HBs.out HP0.out.grew.size) (HBo.out.2 (by simp)) (by omega)).mono ?_
          rintro e v2 ⟨B2, c2, rfl, hp2⟩
          have HP2 := Lib.hid (HP0.out.trans hp2)
          have HLe := Lib.hid (show m0 ++ Ed.nB id = l2 by rw [← HL2.out, HEy.out, ← HLm0.out]; show _ = l ++ (7 :: Ed.nsB [id]); simp [Ed.nsB, Ed.taB, List.append_assoc])
          have HPn := Lib.hid (HPu.out.trans HP2.out)
          rw [HLe.out] at HPn
          try rw [HLe.out]
          have HB2 := Lib.hid (HPn.out.below HB1.out HB1.out.size HO1.out (Nat.le_refl _))
          have HO2 := Lib.hid HPn.out.own
          clear HPn HPu HXv HXf HB1 HO1 HX1 HP0
          try clear x0 x1 x2 x3 x4 x5 x6 x7 x8 x9 x10 x11 x12 x13 x14
          go_wp2
          go_roundw
          case rel => exact ⟨k + 1, B2, l2, c2, by omega, by go_num, rfl, HO2, HB2, HLn, HOkn, hl2⟩
          case measure => simp [intOf]; omega
    · have hki : ¬ (k : Int) < (q : Int) := by omega
      have HG := Lib.hid (show GivesBt w (E.map Ed.etOf) (.returned (.tuple #[.slice B l.length cap, .int .i64 0])) wr from by
        have hk : (E.map Ed.etOf).take k = E.map Ed.etOf := List.take_of_length_le (by rw [HML.out]; omega)
        have h1 := HL.out
        have h2 := HOk.out
        rw [hk] at h1 h2
        exact GivesBt.yes (by rw [HML.out]; omega) (List.all_eq_true.2 h2) (by rw [h1]; unfold Ed.bytes; rw [HML.out]) HO.out HB.out)
      clear hlt
      go_wp2
      go_ret2
      exact HG.out
end Go.Proofs.YthfcjlndaajkfaaGreat
