/- The document's place: a place's bytes behind others. -/
import Derived.Test.YthfcjlndaajkfaaGreatTRbText
import Derived.Test.YthfcjlndaajkfaaGreatTHeldS
import Derived.Deep.CutBlock
import Derived.Deep.DeepCutAuto
namespace Go.Proofs.YthfcjlndaajkfaaGreat
open Go.RowKit
set_option linter.unusedVariables false
set_option linter.unusedSimpArgs false
theorem Ed.nB_le (l : List Nat) (x : Int) : (l ++ Ed.nB x).length ≤ l.length + 11 := by
  rw [List.length_append]
  have := Ed.numF_len 10 x.toNat
  unfold Ed.nB Cd.num
  omega
set_option maxRecDepth 100000 in
set_option maxHeartbeats 16000000 in
theorem rplace_any (base : Nat) (B : Option Addr) (n cap : Nat) (bs : List Nat) (id ep : Int) (P : Option Addr) (pn pc : Nat) (ps : List (Int × Int)) (w : World) (h : Own w base B n cap bs) (hbase : base ≤ w.heap.size) (hP : PairsOk w P pn pc ps) (hoff : Off P B) (hok : (⟨id, ep, ps⟩ : Ed.Pl).ok = true) (hn : n ≤ 5000000) :
    Calls Tryz.prog 54 #[.slice B n cap, .agg #[.int .i64 id, .int .i64 ep, .slice P pn pc]] w (GivesPut w base B (bs ++ Ed.plB ⟨id, ep, ps⟩)) := by
  have hl := h.1
  subst hl
  have h2 : Below w.heap.size w (w.alloc (.cells #[.int .i64 id, .int .i64 ep, .slice P pn pc] 32)) := (Below.refl _ _).alloc (Nat.le_refl _) _
  have HX := Lib.hid (Holds.new w #[.int .i64 id, .int .i64 ep, .slice P pn pc] 32)
  have hok2 := Ed.okP_n hok
  have hpl : ps.length = pn := hP.1.1
  have HPl := Lib.hid hpl
  have HOk0 := Lib.hid hok2
  have HOk := Lib.hid (show 0 ≤ id ∧ id ≤ 9223372036854775807 ∧ 0 ≤ ep ∧ ep ≤ 9223372036854775807 by
    have h5 := hok2
    dsimp only at h5
    omega)
  have HP := Lib.hid (hP.below h2)
  have HOf := Lib.hid hoff
  have HB2 := Lib.hid h2
  have HOw := Lib.hid (h.below h2)
  have HBs := Lib.hid (show base ≤ (w.alloc (.cells #[.int .i64 id, .int .i64 ep, .slice P pn pc] 32)).heap.size from Nat.le_trans hbase h2.size)
  have HBk := Lib.hid (show ∀ g, blkOf B = some g → g < w.heap.size from fun g hg => (h.blk g (by rw [ownBlock_eq]; exact hg)).2)
  have Hb := Lib.hid Ed.nB_le
  clear h h2 hbase hP hoff hok hok2 hpl
  go_enter Tryz.func54, Tryz.ntmps54
  go_upto_region 1 with fail
  generalize (w.alloc (.cells #[.int .i64 id, .int .i64 ep, .slice P pn pc] 32)) = u at *
  replace HX : Hid (Holds u w.heap.size [.int .i64 id, .int .i64 ep, .slice P pn pc]) := HX
  have HBx := Lib.hid (show some w.heap.size ≠ blkOf B from fun e => by have := HBk.out _ e.symm; omega)
  have HSf := Lib.hid (fun (W : World) (B' : Option Addr) (l' : List Nat) (c' : Nat) (h : Puts u W base B B' l' c') => show W.cell? ⟨w.heap.size, 0, none⟩ = some (.int .i64 id) ∧ W.cell? ⟨w.heap.size, 1, none⟩ = some (.int .i64 ep) ∧ W.cell? ⟨w.heap.size, 2, none⟩ = some (.slice P pn pc) from ⟨h.grew.cell (HX.out.at_ 0 rfl) HBx.out, h.grew.cell (HX.out.at_ 1 rfl) HBx.out, h.grew.cell (HX.out.at_ 2 rfl) HBx.out⟩)
  go_cut [0] from 6 to 16 (fun s0 W => ∃ (B3 : Option Addr) (c3 : Nat), s0 = .slice B3 (bs ++ Ed.nB id ++ Ed.nB ep ++ Ed.nB (pn : Int)).length c3 ∧ Hid (Puts u W base B B3 (bs ++ Ed.nB id ++ Ed.nB ep ++ Ed.nB (pn : Int)) c3))
  case first =>
    have hbd : Below u.heap.size u u.drew := (Below.refl _ _).drew
    have HP0 := Lib.hid ((Puts.refl HOw.out).more hbd)
    have hS0 := Lib.hid (HSf.out _ _ _ _ HP0.out)
    refine wp_region_T (fun W => W.cell? ⟨w.heap.size, 0, none⟩ = some (.int .i64 id) ∧ W.cell? ⟨w.heap.size, 1, none⟩ = some (.int .i64 ep) ∧ W.cell? ⟨w.heap.size, 2, none⟩ = some (.slice P pn pc)) (fun W => True) 99 (by kernel_rfl) ?_
    refine tkS (i := 0) hS0.out ?_; try walk_nrm
    refine tkS (i := 1) hS0.out ?_; try walk_nrm
    refine tkS (i := 2) hS0.out ?_; try walk_nrm
    refine tkS (i := 4) hS0.out ?_; try walk_nrm
    refine tkS (i := 5) hS0.out ?_; try walk_nrm
    refine tkS (i := 7) hS0.out ?_; try walk_nrm
    refine tkS (i := 8) hS0.out ?_; try walk_nrm
    refine tkS (i := 9) hS0.out ?_; try walk_nrm
    refine wpAnyT_one (i := 3) (by kernel_rfl) rfl (fun K hK => ?_)
    try walk_nrm
    rw [if_pos (by rfl)]
    go_simp
    refine (rnumput_any base B bs.length cap bs id u.drew HP0.out.own (Nat.le_trans HBs.out HP0.out.grew.size) ⟨by have := HOk.out.1; omega, by have := HOk.out.2.1; omega⟩ (by omega)).mono ?_
    rintro e v1 ⟨B1, c1, rfl, hq⟩
    have HP1 := Lib.hid (HP0.out.trans hq)
    obtain ⟨m1, HLm1⟩ : ∃ l, Hid (bs ++ Ed.nB id = l) := ⟨_, Lib.hid rfl⟩
    rw [HLm1.out] at HP1
    rw [HLm1.out]
    have HNm1 := Lib.hid (show m1.length ≤ bs.length + 11 by rw [← HLm1.out]; exact Hb.out _ _)
    have hS := Lib.hid (HSf.out _ _ _ _ HP1.out)
    refine hK.out _ _ hS.out (fun _ => trivial) ?_
    clear hK hS hq
    try walk_nrm
    refine wpAnyT_one (i := 6) (by kernel_rfl) rfl (fun K hK => ?_)
    try walk_nrm
    rw [if_pos (by rfl)]
    go_simp
    refine (rnumput_any base B1 m1.length c1 m1 ep v1 HP1.out.own (Nat.le_trans HBs.out HP1.out.grew.size) ⟨by have := HOk.out.2.2.1; omega, by have := HOk.out.2.2.2; omega⟩ (by have := HNm1.out; omega)).mono ?_
    rintro e v2 ⟨B2, c2, rfl, hq⟩
    have HP2 := Lib.hid (HP1.out.trans hq)
    obtain ⟨m2, HLm2⟩ : ∃ l, Hid (m1 ++ Ed.nB ep = l) := ⟨_, Lib.hid rfl⟩
    rw [HLm2.out] at HP2
    rw [HLm2.out]
    have HNm2 := Lib.hid (show m2.length ≤ m1.length + 11 by rw [← HLm2.out]; exact Hb.out _ _)
    have hS := Lib.hid (HSf.out _ _ _ _ HP2.out)
    refine hK.out _ _ hS.out (fun _ => trivial) ?_
    clear hK hS hq
    try walk_nrm
    refine wpAnyT_one (i := 10) (by kernel_rfl) rfl (fun K hK => ?_)
    try walk_nrm
    rw [if_pos (by rfl)]
    go_simp
    refine (rnumput_any base B2 m2.length c2 m2 (pn : Int) v2 HP2.out.own (Nat.le_trans HBs.out HP2.out.grew.size) ⟨by omega, by have := HP.out.2.2; omega⟩ (by have := HNm1.out; have := HNm2.out; omega)).mono ?_
    rintro e v3 ⟨B3, c3, rfl, hq⟩
    have HP3 := Lib.hid (HP2.out.trans hq)
    obtain ⟨m3, HLm3⟩ : ∃ l, Hid (m2 ++ Ed.nB (pn : Int) = l) := ⟨_, Lib.hid rfl⟩
    rw [HLm3.out] at HP3
    rw [HLm3.out]
    have HNm3 := Lib.hid (show m3.length ≤ m2.length + 11 by rw [← HLm3.out]; exact Hb.out _ _)
    have hS := Lib.hid (HSf.out _ _ _ _ HP3.out)
    refine hK.out _ _ hS.out (fun _ => trivial) ?_
    clear hK hS hq
    try walk_nrm
    have hS3 := Lib.hid (HSf.out _ _ _ _ HP3.out)
    refine tkS (i := 11) hS3.out ?_; try walk_nrm
    refine wpAnyT_done (by kernel_rfl) ?_ _
    go_wp2
    go_meet
    case rel =>
      obtain rfl := HLm3.out
      obtain rfl := HLm2.out
      obtain rfl := HLm1.out
      exact ⟨B3, c3, rfl, HP3⟩
  case rest =>
  obtain ⟨B1, c1, rfl, HPu⟩ := hcut
  rename World => v
  have HL0 := Lib.hid (show bs ++ Ed.nB id ++ Ed.nB ep ++ Ed.nB (pn : Int) = bs ++ Ed.nsB [id, ep, (pn : Int)] by simp [Ed.nsB, List.append_assoc])
  rw [HL0.out]
  rw [HL0.out] at HPu
  go_wp2_with fail
  go_loopw [0, 5] (fun s0 ii wr => ∃ (k : Nat) (B' : Option Addr) (l' : List Nat) (cap' : Nat), k ≤ pn ∧ ii = .int .i64 (k : Int) ∧ s0 = .slice B' l'.length cap' ∧ Hid (Puts u wr base B B' l' cap') ∧ Hid (l' = bs ++ Ed.nsB [id, ep, (pn : Int)] ++ (ps.take k).flatMap fun x => Ed.nsB [x.1, x.2])) (fun _ ii _ => pn - (intOf ii).toNat)
  case atStart => exact ⟨0, B1, _, c1, by omega, rfl, by rw [List.length_append], HPu, Lib.hid (by simp)⟩
  case round =>
    clear HPu HL0
    obtain ⟨k, B', l', cap', hk, rfl, rfl, HPw, HL⟩ := hrel
    have xb := (HSf.out _ _ _ _ HPw.out).2.2
    by_cases hlt : k < pn
    · have hki : (k : Int) < (pn : Int) := by omega
      have hk0 : (0 : Int) ≤ (k : Int) := by omega
      obtain ⟨q, hq⟩ : ∃ q, ps[k]? = some q := ⟨_, List.getElem?_eq_getElem (by rw [HPl.out]; exact hlt)⟩
      obtain ⟨x, y⟩ := q
      obtain ⟨b, o, hAb, hb, hc⟩ := HP.out.1.at_ hq
      obtain ⟨p0, p1⟩ := hc u (Below.refl _ _)
      have hbB : some b ≠ blkOf B := fun e => HOf.out b (by rw [hAb]; rfl) e.symm
      have HSg := Lib.hid (fun (W : World) (B' : Option Addr) (l' : List Nat) (c' : Nat) (h : Puts u W base B B' l' c') => show W.cell? ⟨w.heap.size, 2, none⟩ = some (.slice (some ⟨b, o, none⟩) pn pc) ∧ W.cell? ⟨b, o + k * 2, none⟩ = some (.int .i64 x) ∧ W.cell? ⟨b, o + k * 2 + 1, none⟩ = some (.int .i64 y) from ⟨by rw [← hAb]; exact (HSf.out _ _ _ _ h).2.2, h.grew.cell p0 hbB, h.grew.cell p1 hbB⟩)
      have HQ := Lib.hid hq
      have hpn64 := HOk0.out.2.2.2.2.1
      have hxy := HOk0.out.2.2.2.2.2
      try dsimp only at hpn64 hxy
      rw [HPl.out] at hpn64
      have hxf := hxy x (List.mem_flatMap.2 ⟨_, List.mem_of_getElem? hq, by simp⟩)
      have hyf := hxy y (List.mem_flatMap.2 ⟨_, List.mem_of_getElem? hq, by simp⟩)
      replace hxf : 0 ≤ x ∧ x ≤ 9223372036854775807 := by omega
      replace hyf : 0 ≤ y ∧ y ≤ 9223372036854775807 := by omega
      have hlen : l'.length ≤ 5000000 + 33 + 64 * 22 := by
        rw [HL.out, List.length_append, List.length_append]
        have a1 := Ed.nsB_len [id, ep, (pn : Int)]
        have a2 := Ed.pl_len (ps.take k)
        rw [List.length_take] at a2
        simp only [List.length_cons, List.length_nil] at a1
        omega
      rw [hAb] at xb
      clear hc hq p0 p1 hb hbB hxy
      go_upto_region 5 with fail
      clear xb hAb
      have hbd : Below wr.heap.size wr wr.drew := (Below.refl _ _).drew
      have HP0 := Lib.hid (HPw.out.more hbd)
      have hS0 := Lib.hid (HSg.out _ _ _ _ HP0.out)
      refine wp_region_T (fun W => W.cell? ⟨w.heap.size, 2, none⟩ = some (.slice (some ⟨b, o, none⟩) pn pc) ∧ W.cell? ⟨b, o + k * 2, none⟩ = some (.int .i64 x) ∧ W.cell? ⟨b, o + k * 2 + 1, none⟩ = some (.int .i64 y)) (fun W => True) 99 (by kernel_rfl) ?_
      refine tkS (i := 0) hS0.out ?_; try walk_nrm
      refine tkS (i := 1) hS0.out ?_; try walk_nrm
      refine tkS (i := 2) hS0.out ?_; try walk_nrm
      refine tkS (i := 3) hS0.out ?_; try walk_nrm
      refine tkS (i := 4) hS0.out ?_; try walk_nrm
      refine tkS (i := 5) hS0.out ?_; try walk_nrm
      refine tkS (i := 6) hS0.out ?_; try walk_nrm
      refine tkS (i := 8) hS0.out ?_; try walk_nrm
      refine tkS (i := 9) hS0.out ?_; try walk_nrm
      refine tkS (i := 10) hS0.out ?_; try walk_nrm
      refine tkS (i := 11) hS0.out ?_; try walk_nrm
      refine tkS (i := 12) hS0.out ?_; try walk_nrm
      refine tkS (i := 13) hS0.out ?_; try walk_nrm
      refine wpAnyT_one (i := 7) (by kernel_rfl) rfl (fun K hK => ?_)
      try walk_nrm
      rw [if_pos (by rfl)]
      go_simp
      refine (rnumput_any base B' l'.length cap' l' x wr.drew HP0.out.own (Nat.le_trans HBs.out HP0.out.grew.size) hxf (by omega)).mono ?_
      rintro e v1 ⟨B1, c1, rfl, hq⟩
      have HP1 := Lib.hid (HP0.out.trans hq)
      obtain ⟨m1, HLm1⟩ : ∃ l, Hid (l' ++ Ed.nB x = l) := ⟨_, Lib.hid rfl⟩
      rw [HLm1.out] at HP1
      rw [HLm1.out]
      have HNm1 := Lib.hid (show m1.length ≤ l'.length + 11 by rw [← HLm1.out]; exact Hb.out _ _)
      have hS := Lib.hid (HSg.out _ _ _ _ HP1.out)
      refine hK.out _ _ hS.out (fun _ => trivial) ?_
      clear hK hS hq
      try walk_nrm
      refine wpAnyT_one (i := 14) (by kernel_rfl) rfl (fun K hK => ?_)
      try walk_nrm
      rw [if_pos (by rfl)]
      go_simp
      refine (rnumput_any base B1 m1.length c1 m1 y v1 HP1.out.own (Nat.le_trans HBs.out HP1.out.grew.size) hyf (by have := HNm1.out; omega)).mono ?_
      rintro e v2 ⟨B2, c2, rfl, hq⟩
      have HP2 := Lib.hid (HP1.out.trans hq)
      obtain ⟨m2, HLm2⟩ : ∃ l, Hid (m1 ++ Ed.nB y = l) := ⟨_, Lib.hid rfl⟩
      rw [HLm2.out] at HP2
      rw [HLm2.out]
      have HNm2 := Lib.hid (show m2.length ≤ m1.length + 11 by rw [← HLm2.out]; exact Hb.out _ _)
      have hS := Lib.hid (HSg.out _ _ _ _ HP2.out)
      refine hK.out _ _ hS.out (fun _ => trivial) ?_
      clear hK hS hq
      try walk_nrm
      have hS2 := Lib.hid (HSg.out _ _ _ _ HP2.out)
      refine tkS (i := 15) hS2.out ?_; try walk_nrm
      refine wpAnyT_done (by kernel_rfl) ?_ _
      have HLn := Lib.hid (show l' ++ Ed.nB x ++ Ed.nB y = bs ++ Ed.nsB [id, ep, (pn : Int)] ++ (ps.take (k + 1)).flatMap fun x => Ed.nsB [x.1, x.2] by rw [Ed.pl_snoc HQ.out, HL.out]; simp [Ed.nsB, List.append_assoc])
      rw [HLm1.out, HLm2.out] at HLn
      have HPn := HP2
      clear HP0 HP1 HPw HL hS0 hS2 hbd HSg
      go_wp2_with fail
      go_roundw
      case rel => exact ⟨k + 1, B2, _, c2, by omega, by go_num, rfl, HPn, HLn⟩
      case measure => simp [intOf]; omega
    · have hki : ¬ (k : Int) < (pn : Int) := by omega
      have HLn := Lib.hid (show l' = bs ++ Ed.plB ⟨id, ep, ps⟩ by
        have h := HL.out
        rw [List.take_of_length_le (by rw [HPl.out]; omega)] at h
        rw [h, List.append_assoc]
        unfold Ed.plB
        dsimp only
        rw [HPl.out])
      clear hlt
      go_wp2
      go_ret
      rw [← HLn.out]
      exact ⟨B', cap', rfl, Puts.after HB2.out HPw.out⟩
end Go.Proofs.YthfcjlndaajkfaaGreat
