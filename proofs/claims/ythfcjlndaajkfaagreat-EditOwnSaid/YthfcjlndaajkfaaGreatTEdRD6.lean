/- The document's do: an edit of kind 6. -/
import Derived.Test.YthfcjlndaajkfaaGreatTEdRD3
namespace Go.Proofs.YthfcjlndaajkfaaGreat
open Go.RowKit
set_option linter.unusedVariables false
set_option linter.unusedSimpArgs false
theorem Ed.do1_6 {v : Ed.Ve} {e : Ed.Et} (h : e.kd = 6) : Ed.do1 v e = match Ed.find (v.ts.map (·.p.id)) e.t.p.id with | some _ => none | none => some { v with ts := Ed.put v.ts (Ed.pos (v.ts.map (·.p.id)) e.t.p.id) e.t } := by unfold Ed.do1; rw [if_neg (by omega), if_neg (by omega), if_neg (by omega), if_neg (by omega), if_neg (by omega), if_pos h]; rfl
theorem Ed.put_cells_T (L : List (Pk.Tb × List (Int × Int))) (k : Nat) (tid tep : Int) (Q : Option Addr) (qn qc : Nat) (sz lv ct : Int) (lo hi : ByteArray) (tp : Int) (qs : List (Int × Int)) : (([] ++ (Pk.flat (L.map (·.1))).take (k * 9)) ++ [.int .i64 tid, .int .i64 tep, .slice Q qn qc, .int .i64 sz, .int .i64 lv, .int .i64 ct, .string lo, .string hi, .int .i64 tp]) ++ (Pk.flat (L.map (·.1))).drop (k * 9) = Pk.flat ((Ed.put L k ((⟨tid, tep, Q, qn, qc, sz, lv, ct, lo, hi, tp⟩ : Pk.Tb), qs)).map (·.1)) := by
  rw [Ed.put_map]
  exact Ed.put_cells (f := Pk.Tb.cells) (s := 9) (fun _ => rfl) (L.map (·.1)) k ⟨tid, tep, Q, qn, qc, sz, lv, ct, lo, hi, tp⟩
set_option maxRecDepth 100000 in
set_option maxHeartbeats 32000000 in
theorem rdo6_any (nx sq : Int) (A : Option Addr) (n c : Nat) (B : Option Addr) (m d : Nat) (L : List (Ed.Lg × List (Int × Int))) (M : List (Pk.Tb × List (Int × Int))) (x : Ed.Ex) (w : World) {base : Nat} (hS : StR w base A n c L B m d M) (hbw : base ≤ w.heap.size) (hx : Ed.ExOk w x) (ho : (Ed.etOf x).ok = true) (hk : (Ed.etOf x).kd = 6) (hxb : 0 < x.1.t.pn → ∀ g, blkOf x.1.t.P = some g → g < base) (hn : n ≤ 100000) (hm : m ≤ 100000) :
    Calls Tryz.prog 50 #[.agg #[.int .i64 nx, .int .i64 sq, .slice A n c, .slice B m d], .agg x.1.cells.toArray] w (GivesRDo w base A L B M x.1.P x.1.pn x.1.t.P x.1.t.pn (Ed.do1 ⟨nx, sq, L.map Ed.loOf, M.map Ed.taOf⟩ (Ed.etOf x))) := by
  obtain ⟨⟨kd, id, nn, pid, pep, P, pn, pc, ⟨tid, tep, Q, qn, qc, sz, lv, ct, lo, hi, tp⟩⟩, ps, qs⟩ := x
  have hk : kd = 6 := hk
  subst hk
  have HO := hd_ ho
  have HEx := hd_ hx
  have HS := hd_ hS
  have HW := hd_ hbw
  obtain ⟨r, hr⟩ : ∃ r, r = Ed.do1 ⟨nx, sq, L.map Ed.loOf, M.map Ed.taOf⟩ (Ed.etOf (⟨6, id, nn, pid, pep, P, pn, pc, ⟨tid, tep, Q, qn, qc, sz, lv, ct, lo, hi, tp⟩⟩, (ps, qs))) := ⟨_, rfl⟩
  rw [← hr]
  show Calls Tryz.prog 50 #[.agg #[.int .i64 nx, .int .i64 sq, .slice A n c, .slice B m d], .agg #[.int .i64 6, .int .i64 id, .int .i64 nn, .int .i64 pid, .int .i64 pep, .slice P pn pc, .int .i64 tid, .int .i64 tep, .slice Q qn qc, .int .i64 sz, .int .i64 lv, .int .i64 ct, .string lo, .string hi, .int .i64 tp]] w (GivesRDo w base A L B M P pn Q qn r)
  have HR := hd_ hr
  have hbu : Below w.heap.size w (((w.alloc (.cells #[.int .i64 nx, .int .i64 sq, .slice A n c, .slice B m d] 25)).alloc (.cells #[.int .i64 6, .int .i64 id, .int .i64 nn, .int .i64 pid, .int .i64 pep, .slice P pn pc, .int .i64 tid, .int .i64 tep, .slice Q qn qc, .int .i64 sz, .int .i64 lv, .int .i64 ct, .string lo, .string hi, .int .i64 tp] 37)).alloc (.cells #[.int .i64 0, .int .i64 0, .slice none 0 0, .slice none 0 0] 25)) := (((Below.refl _ _).alloc (Nat.le_refl _) _).alloc (by simp) _).alloc (by simp <;> omega) _
  have HBx := hd_ (show Bx3 w [.int .i64 nx, .int .i64 sq, .slice A n c, .slice B m d] [.int .i64 6, .int .i64 id, .int .i64 nn, .int .i64 pid, .int .i64 pep, .slice P pn pc, .int .i64 tid, .int .i64 tep, .slice Q qn qc, .int .i64 sz, .int .i64 lv, .int .i64 ct, .string lo, .string hi, .int .i64 tp] (((w.alloc (.cells #[.int .i64 nx, .int .i64 sq, .slice A n c, .slice B m d] 25)).alloc (.cells #[.int .i64 6, .int .i64 id, .int .i64 nn, .int .i64 pid, .int .i64 pep, .slice P pn pc, .int .i64 tid, .int .i64 tep, .slice Q qn qc, .int .i64 sz, .int .i64 lv, .int .i64 ct, .string lo, .string hi, .int .i64 tp] 37)).alloc (.cells #[.int .i64 0, .int .i64 0, .slice none 0 0, .slice none 0 0] 25)) from ⟨((Holds.new w #[.int .i64 nx, .int .i64 sq, .slice A n c, .slice B m d] 25).alloc _).alloc _, by have h := (Holds.new (w.alloc (.cells #[.int .i64 nx, .int .i64 sq, .slice A n c, .slice B m d] 25)) #[.int .i64 6, .int .i64 id, .int .i64 nn, .int .i64 pid, .int .i64 pep, .slice P pn pc, .int .i64 tid, .int .i64 tep, .slice Q qn qc, .int .i64 sz, .int .i64 lv, .int .i64 ct, .string lo, .string hi, .int .i64 tp] 37).alloc (.cells #[.int .i64 0, .int .i64 0, .slice none 0 0, .slice none 0 0] 25); simpa using h, by have h := Holds.new ((w.alloc (.cells #[.int .i64 nx, .int .i64 sq, .slice A n c, .slice B m d] 25)).alloc (.cells #[.int .i64 6, .int .i64 id, .int .i64 nn, .int .i64 pid, .int .i64 pep, .slice P pn pc, .int .i64 tid, .int .i64 tep, .slice Q qn qc, .int .i64 sz, .int .i64 lv, .int .i64 ct, .string lo, .string hi, .int .i64 tp] 37)) #[.int .i64 0, .int .i64 0, .slice none 0 0, .slice none 0 0] 25; simpa using h, hbu⟩)
  have HOf := hd_ (show 0 < qn → Off Q A from fun hq g h1 h2 => by have h3 := hxb hq g h1; have h4 := (hS.la.lt g h2).1; omega)
  clear hS hx ho hxb hbw hr hbu
  go_enter Tryz.func50, Tryz.ntmps50
  go_upto_region 1 with fail
  generalize (((w.alloc (.cells #[.int .i64 nx, .int .i64 sq, .slice A n c, .slice B m d] 25)).alloc (.cells #[.int .i64 6, .int .i64 id, .int .i64 nn, .int .i64 pid, .int .i64 pep, .slice P pn pc, .int .i64 tid, .int .i64 tep, .slice Q qn qc, .int .i64 sz, .int .i64 lv, .int .i64 ct, .string lo, .string hi, .int .i64 tp] 37)).alloc (.cells #[.int .i64 0, .int .i64 0, .slice none 0 0, .slice none 0 0] 25)) = u at *
  have e0 := HBx.out.e.at_ 0 rfl
  obtain ⟨ids, hids⟩ : ∃ i, i = M.map (·.1.id) := ⟨_, rfl⟩
  have HI := hd_ hids
  clear hids
  have HLn := hd_ (show ids.length = m by rw [HI.out, List.length_map]; exact HS.out.tl)
  have HBp := hd_ (fun (W : World) (hW : Below u.heap.size u W) => HBx.out.below hW)
  go_wp2_with fail
  clear e0
  go_loopw [6] (fun s6 wr => ∃ (k : Nat), k ≤ m ∧ s6 = .int .i64 (k : Int) ∧ Hid (∀ (j : Nat) (y : Int), j < k → ids[j]? = some y → y < tid) ∧ Hid (Below u.heap.size u wr)) (fun s6 _ => m - (intOf s6).toNat)
  case atStart => exact ⟨0, by omega, rfl, hd_ (fun j y hj => by omega), hd_ (Below.refl _ _)⟩
  case round =>
    obtain ⟨k, hk, rfl, HN, HB⟩ := hrel
    obtain ⟨go, hgo⟩ : ∃ g : Bool, g = (match ids[k]? with | some y => decide (y < tid) | none => false) := ⟨_, rfl⟩
    have HG := hd_ hgo
    clear hgo
    go_upto_region 32 with fail
    go_cut [171] from 153 to 171 (fun s W => s = .bool go ∧ Hid (Below u.heap.size u W))
    case first =>
      by_cases hlt : k < m
      · have hki : (k : Int) < (m : Int) := by omega
        have hk0 : (0 : Int) ≤ (k : Int) := by omega
        obtain ⟨y, hy⟩ : ∃ y, M[k]? = some y := ⟨_, List.getElem?_eq_getElem (by rw [HS.out.tl]; exact hlt)⟩
        obtain ⟨yb, yo, hAb, _, _, hc⟩ := (HS.out.below HBx.out.b).rts.nine hy
        have HY := hd_ (show ids[k]? = some y.1.id by rw [HI.out, List.getElem?_map, hy]; rfl)
        subst hAb
        obtain ⟨⟨yid, yep, yP, ypn, ypc, ysz, ylv, yct, ylo, yhi, ytp⟩, yps⟩ := y
        have hcy : ∀ W, Below u.heap.size u W → W.cell? ⟨yb, yo + k * 9, none⟩ = some (.int .i64 yid) := fun W hW => (hc W hW).1
        clear hc hy
        dsimp only at HY
        rw [HY.out] at HG
        by_cases hq : yid < tid
        · have HGo := hd_ (show go = true by rw [HG.out]; exact decide_eq_true hq)
          have hbd := below_next HB.out (show Below wr.heap.size wr wr.drew from (Below.refl _ _).drew)
          have hS0 := hd_ (show wr.drew.cell? ⟨w.heap.size, 3, none⟩ = some (.slice (some ⟨yb, yo, none⟩) m d) ∧ wr.drew.cell? ⟨w.heap.size + 1, 6, none⟩ = some (.int .i64 tid) ∧ wr.drew.cell? ⟨yb, yo + k * 9, none⟩ = some (.int .i64 yid) from ⟨(HBp.out _ hbd).v.at_ 3 rfl, (HBp.out _ hbd).e.at_ 6 rfl, hcy _ hbd⟩)
          refine wp_region_T (fun W => W.cell? ⟨w.heap.size, 3, none⟩ = some (.slice (some ⟨yb, yo, none⟩) m d) ∧ W.cell? ⟨w.heap.size + 1, 6, none⟩ = some (.int .i64 tid) ∧ W.cell? ⟨yb, yo + k * 9, none⟩ = some (.int .i64 yid)) (fun W => True) 99 (by kernel_rfl) ?_
          refine tkS (i := 0) hS0.out ?_; try walk_nrm
          refine tkS (i := 1) hS0.out ?_; try walk_nrm
          refine tkS (i := 2) hS0.out ?_; try walk_nrm
          refine tkS (i := 3) hS0.out ?_; try walk_nrm
          refine tkS (i := 4) hS0.out ?_; try walk_nrm
          refine tkS (i := 5) hS0.out ?_; try walk_nrm
          refine tkS (i := 6) hS0.out ?_; try walk_nrm
          refine tkS (i := 7) hS0.out ?_; try walk_nrm
          refine tkS (i := 8) hS0.out ?_; try walk_nrm
          refine tkS (i := 9) hS0.out ?_; try walk_nrm
          refine tkS (i := 10) hS0.out ?_; try walk_nrm
          refine tkS (i := 11) hS0.out ?_; try walk_nrm
          refine tkS (i := 12) hS0.out ?_; try walk_nrm
          refine tkS (i := 13) hS0.out ?_; try walk_nrm
          refine tkS (i := 14) hS0.out ?_; try walk_nrm
          refine tkS (i := 15) hS0.out ?_; try walk_nrm
          refine tkS (i := 16) hS0.out ?_; try walk_nrm
          refine tkS (i := 17) hS0.out ?_; try walk_nrm
          refine tkS (i := 18) hS0.out ?_; try walk_nrm
          refine wpAnyT_done (by kernel_rfl) ?_ _
          have HBf := hd_ hbd
          clear hbd hS0
          go_wp2
          go_meet
          case rel => exact ⟨by rw [HGo.out]; try rfl, HBf⟩
        · have HGo := hd_ (show go = false by rw [HG.out]; exact decide_eq_false hq)
          have hbd := below_next HB.out (show Below wr.heap.size wr wr.drew from (Below.refl _ _).drew)
          have hS0 := hd_ (show wr.drew.cell? ⟨w.heap.size, 3, none⟩ = some (.slice (some ⟨yb, yo, none⟩) m d) ∧ wr.drew.cell? ⟨w.heap.size + 1, 6, none⟩ = some (.int .i64 tid) ∧ wr.drew.cell? ⟨yb, yo + k * 9, none⟩ = some (.int .i64 yid) from ⟨(HBp.out _ hbd).v.at_ 3 rfl, (HBp.out _ hbd).e.at_ 6 rfl, hcy _ hbd⟩)
          refine wp_region_T (fun W => W.cell? ⟨w.heap.size, 3, none⟩ = some (.slice (some ⟨yb, yo, none⟩) m d) ∧ W.cell? ⟨w.heap.size + 1, 6, none⟩ = some (.int .i64 tid) ∧ W.cell? ⟨yb, yo + k * 9, none⟩ = some (.int .i64 yid)) (fun W => True) 99 (by kernel_rfl) ?_
          refine tkS (i := 0) hS0.out ?_; try walk_nrm
          refine tkS (i := 1) hS0.out ?_; try walk_nrm
          refine tkS (i := 2) hS0.out ?_; try walk_nrm
          refine tkS (i := 3) hS0.out ?_; try walk_nrm
          refine tkS (i := 4) hS0.out ?_; try walk_nrm
          refine tkS (i := 5) hS0.out ?_; try walk_nrm
          refine tkS (i := 6) hS0.out ?_; try walk_nrm
          refine tkS (i := 7) hS0.out ?_; try walk_nrm
          refine tkS (i := 8) hS0.out ?_; try walk_nrm
          refine tkS (i := 9) hS0.out ?_; try walk_nrm
          refine tkS (i := 10) hS0.out ?_; try walk_nrm
          refine tkS (i := 11) hS0.out ?_; try walk_nrm
          refine tkS (i := 12) hS0.out ?_; try walk_nrm
          refine tkS (i := 13) hS0.out ?_; try walk_nrm
          refine tkS (i := 14) hS0.out ?_; try walk_nrm
          refine tkS (i := 15) hS0.out ?_; try walk_nrm
          refine tkS (i := 16) hS0.out ?_; try walk_nrm
          refine tkS (i := 17) hS0.out ?_; try walk_nrm
          refine tkS (i := 18) hS0.out ?_; try walk_nrm
          refine wpAnyT_done (by kernel_rfl) ?_ _
          have HBf := hd_ hbd
          clear hbd hS0
          go_wp2
          go_meet
          case rel => exact ⟨by rw [HGo.out]; try rfl, HBf⟩
      · have hki : ¬ (k : Int) < (m : Int) := by omega
        have HGo := hd_ (show go = false by rw [HG.out, List.getElem?_eq_none (by rw [HLn.out]; omega)])
        have hbd := below_next HB.out (show Below wr.heap.size wr wr.drew from (Below.refl _ _).drew)
        have hS0 := hd_ (show wr.drew.cell? ⟨w.heap.size, 3, none⟩ = some (.slice B m d) from (HBp.out _ hbd).v.at_ 3 rfl)
        refine wp_region_T (fun W => W.cell? ⟨w.heap.size, 3, none⟩ = some (.slice B m d)) (fun W => True) 99 (by kernel_rfl) ?_
        refine tkS (i := 0) hS0.out ?_; try walk_nrm
        refine tkS (i := 1) hS0.out ?_; try walk_nrm
        refine tkS (i := 2) hS0.out ?_; try walk_nrm
        refine tkS (i := 3) hS0.out ?_; try walk_nrm
        refine tkS (i := 4) hS0.out ?_; try walk_nrm
        refine tkS (i := 5) hS0.out ?_; try walk_nrm
        refine tkU (i := 6) hS0.out ?_; try walk_nrm
        refine tkU (i := 7) hS0.out ?_; try walk_nrm
        refine tkU (i := 8) hS0.out ?_; try walk_nrm
        refine tkU (i := 9) hS0.out ?_; try walk_nrm
        refine tkU (i := 10) hS0.out ?_; try walk_nrm
        refine tkU (i := 11) hS0.out ?_; try walk_nrm
        refine tkU (i := 12) hS0.out ?_; try walk_nrm
        refine tkU (i := 13) hS0.out ?_; try walk_nrm
        refine tkU (i := 14) hS0.out ?_; try walk_nrm
        refine tkU (i := 15) hS0.out ?_; try walk_nrm
        refine tkU (i := 16) hS0.out ?_; try walk_nrm
        refine tkU (i := 17) hS0.out ?_; try walk_nrm
        refine tkS (i := 18) hS0.out ?_; try walk_nrm
        refine wpAnyT_done (by kernel_rfl) ?_ _
        have HBf := hd_ hbd
        clear hbd hS0
        go_wp2
        go_meet
        case rel => exact ⟨by rw [HGo.out]; try rfl, HBf⟩
    case rest =>
      obtain ⟨rfl, HB2⟩ := hcut
      rename World => w2
      cases go with
      | true =>
        obtain ⟨y, hy, hq⟩ : ∃ y, ids[k]? = some y ∧ y < tid := by
          cases h : ids[k]? with
          | none => have h2 := HG.out; rw [h] at h2; cases h2
          | some y => exact ⟨y, rfl, by have h2 := HG.out; rw [h] at h2; exact of_decide_eq_true h2.symm⟩
        have hlt : k < m := by have := (List.getElem?_eq_some_iff.1 hy).1; rw [HLn.out] at this; exact this
        have HNn := hd_ (show ∀ (j : Nat) (z : Int), j < k + 1 → ids[j]? = some z → z < tid from fun j z hj hz => by
          by_cases e : j = k
          · subst e; rw [hy] at hz; injection hz with hz; omega
          · exact HN.out j z (by omega) hz)
        clear hy hq HG
        go_wp2_with fail
        go_roundw
        case rel => exact ⟨k + 1, by omega, by go_num, HNn, HB2⟩
        case measure => simp [intOf]; omega
      | false =>
        have HPos := hd_ (show Ed.pos ids tid = k from Ed.pos_eq (by rw [HLn.out]; exact hk) HN.out (fun y hy hq => by have h2 := HG.out; rw [hy] at h2; simp only [decide_eq_true hq] at h2; cases h2))
        have HB3 := hd_ (HBp.out w2 HB2.out)
        have HBw := hd_ HB3.out.b
        clear HN HB HB2 HG HBp HBx
        obtain ⟨q, hq⟩ : ∃ q, q = Ed.at_ ids tid := ⟨_, rfl⟩
        obtain ⟨nb, hnb⟩ : ∃ b : Bool, b = (Ed.find ids tid).isNone := ⟨_, rfl⟩
        have hq0 : decide (q < 0) = nb := by
          rw [hq, hnb]
          unfold Ed.at_
          cases Ed.find ids tid with
          | none => rfl
          | some j => show decide ((j : Int) < 0) = false; rw [decide_eq_false (by omega)]
        have CL := hd_ (show Calls Tryz.prog 79 #[.agg #[.int .i64 nx, .int .i64 sq, .slice A n c, .slice B m d], .int .i64 tid] w2 (fun e w' => e = .returned (.int .i64 q) ∧ Below w2.heap.size w2 w') from by
          rw [hq, HI.out]
          exact rtable_any nx sq A n c B m d M tid w2 (HS.out.below HBw.out).rts (by omega))
        have HNb := hd_ hnb
        clear hq hnb
        have b0 := HB3.out.v.at_ 0 rfl
        have b1 := HB3.out.v.at_ 1 rfl
        have b2 := HB3.out.v.at_ 2 rfl
        have b3 := HB3.out.v.at_ 3 rfl
        have ei := HB3.out.e.at_ 6 rfl
        go_wp2_with fail
        refine CL.out.mono ?_
        rintro e w3 ⟨rfl, hb3⟩
        have HB4 := hd_ (HB3.out.below hb3)
        clear CL b0 b1 b2 b3 ei hb3 HB3 HBw
        go_upto_region 35 with fail
        clear hq0
        have HOw := hd_ (HS.out.below HB4.out.b)
        go_cut [195] from 181 to 196 (fun s W => ∃ A1 c1, s = .slice A1 (m + 1) c1 ∧ Hid (Bx3 w [.int .i64 nx, .int .i64 sq, .slice A n c, .slice A1 (m + 1) c1] [.int .i64 6, .int .i64 id, .int .i64 nn, .int .i64 pid, .int .i64 pep, .slice P pn pc, .int .i64 tid, .int .i64 tep, .slice Q qn qc, .int .i64 sz, .int .i64 lv, .int .i64 ct, .string lo, .string hi, .int .i64 tp] W) ∧ Hid (OwnC 9 W (w.heap.size + 3) 35 A1 (m + 1) c1 (Pk.flat ((Ed.put M k ((⟨tid, tep, Q, qn, qc, sz, lv, ct, lo, hi, tp⟩ : Pk.Tb), qs)).map (·.1)))))
        case first =>
          have hto := fun (W : World) => run_toS manyAT B m d k hk HOw.out.ta.fits W
          have hfrom := fun (W : World) => run_fromS manyAT B m d k hk HOw.out.ta.fits W
          have HBd := hd_ (HB4.out.below (show Below w3.heap.size w3 w3.drew from (Below.refl _ _).drew))
          have HSf := hd_ (fun (W : World) (cv : List Value) (h : Bx3 w cv [.int .i64 6, .int .i64 id, .int .i64 nn, .int .i64 pid, .int .i64 pep, .slice P pn pc, .int .i64 tid, .int .i64 tep, .slice Q qn qc, .int .i64 sz, .int .i64 lv, .int .i64 ct, .string lo, .string hi, .int .i64 tp] W) => show W.cell? ⟨w.heap.size + 1, 6, none⟩ = some (.int .i64 tid) ∧ W.cell? ⟨w.heap.size + 1, 7, none⟩ = some (.int .i64 tep) ∧ W.cell? ⟨w.heap.size + 1, 8, none⟩ = some (.slice Q qn qc) ∧ W.cell? ⟨w.heap.size + 1, 9, none⟩ = some (.int .i64 sz) ∧ W.cell? ⟨w.heap.size + 1, 10, none⟩ = some (.int .i64 lv) ∧ W.cell? ⟨w.heap.size + 1, 11, none⟩ = some (.int .i64 ct) ∧ W.cell? ⟨w.heap.size + 1, 12, none⟩ = some (.string lo) ∧ W.cell? ⟨w.heap.size + 1, 13, none⟩ = some (.string hi) ∧ W.cell? ⟨w.heap.size + 1, 14, none⟩ = some (.int .i64 tp) from ⟨(h).e.at_ 6 rfl, (h).e.at_ 7 rfl, (h).e.at_ 8 rfl, (h).e.at_ 9 rfl, (h).e.at_ 10 rfl, (h).e.at_ 11 rfl, (h).e.at_ 12 rfl, (h).e.at_ 13 rfl, (h).e.at_ 14 rfl⟩)
          have HTf := hd_ (fun (W : World) (h : Bx3 w [.int .i64 nx, .int .i64 sq, .slice A n c, .slice B m d] [.int .i64 6, .int .i64 id, .int .i64 nn, .int .i64 pid, .int .i64 pep, .slice P pn pc, .int .i64 tid, .int .i64 tep, .slice Q qn qc, .int .i64 sz, .int .i64 lv, .int .i64 ct, .string lo, .string hi, .int .i64 tp] W) => show W.cell? ⟨w.heap.size, 3, none⟩ = some (.slice B m d) from (h).v.at_ 3 rfl)
          have hS0 := hd_ (HSf.out _ _ HBd.out)
          have hT0 := hd_ (HTf.out _ HBd.out)
          refine wp_region_T (fun W => W.cell? ⟨w.heap.size + 1, 6, none⟩ = some (.int .i64 tid) ∧ W.cell? ⟨w.heap.size + 1, 7, none⟩ = some (.int .i64 tep) ∧ W.cell? ⟨w.heap.size + 1, 8, none⟩ = some (.slice Q qn qc) ∧ W.cell? ⟨w.heap.size + 1, 9, none⟩ = some (.int .i64 sz) ∧ W.cell? ⟨w.heap.size + 1, 10, none⟩ = some (.int .i64 lv) ∧ W.cell? ⟨w.heap.size + 1, 11, none⟩ = some (.int .i64 ct) ∧ W.cell? ⟨w.heap.size + 1, 12, none⟩ = some (.string lo) ∧ W.cell? ⟨w.heap.size + 1, 13, none⟩ = some (.string hi) ∧ W.cell? ⟨w.heap.size + 1, 14, none⟩ = some (.int .i64 tp)) (fun W => W.cell? ⟨w.heap.size, 3, none⟩ = some (.slice B m d)) 16 (by kernel_rfl) ?_
          refine tkT (i := 1) hS0.out (fun _ => hT0.out) ?_; try walk_nrm
          refine tkW (i := 2) hS0.out hT0.out ?_; try walk_nrm
          refine tkT (i := 3) hS0.out (fun _ => hT0.out) ?_; try walk_nrm
          refine tkT (i := 4) hS0.out (fun _ => hT0.out) ?_; try walk_nrm
          refine tkT (i := 6) hS0.out (fun _ => hT0.out) ?_; try walk_nrm
          refine tkT (i := 7) hS0.out (fun _ => hT0.out) ?_; try walk_nrm
          refine tkT (i := 10) hS0.out (fun _ => hT0.out) ?_; try walk_nrm
          refine tkW (i := 11) hS0.out hT0.out ?_; try walk_nrm
          refine tkT (i := 12) hS0.out (fun _ => hT0.out) ?_; try walk_nrm
          refine tkT (i := 13) hS0.out (fun _ => hT0.out) ?_; try walk_nrm
          clear hto hfrom
          refine wpAnyT_two (i := 0) (j := 8) (by kernel_rfl) rfl rfl (fun K hK => ?_) (fun K hK => ?_)
          · try walk_nrm
            rw [if_pos (by rfl)]
            go_simp
            have hal : Below w3.heap.size w3 (w3.alloc (.cells #[] 35)).drew := ((Below.refl _ _).alloc (Nat.le_refl _) _).drew
            have HB1_ := hd_ (HB4.out.below hal)
            have HO1_ := hd_ (show OwnC 9 (w3.alloc (.cells #[] 35)).drew (w.heap.size + 3) 35 (some ⟨w3.heap.size, 0, none⟩) 0 0 [] from (OwnC.empty 9 w3 35 (w.heap.size + 3) HB4.out.room).below (Below.refl _ _).drew)
            have HS1_ := hd_ (HOw.out.below hal)
            have hS := hd_ (HSf.out _ _ HB1_.out)
            have hT := hd_ (HTf.out _ HB1_.out)
            refine hK.out _ _ hS.out (fun _ => hT.out) ?_
            clear hK hS hT
            try walk_nrm
            clear hal
            generalize (w3.alloc (.cells #[] 35)).drew = z1 at *
            refine wpAnyT_two (i := 5) (j := 8) (by kernel_rfl) rfl rfl (fun K hK => ?_) (fun K hK => ?_)
            · refine step_appN manyAT (by rfl) 186 rfl (.tmp 181) (.tmp 185) rfl rfl HO1_.out B k d ((Pk.flat (M.map (·.1))).take (k * 9)) (fun u hu => Pk.flat_one _ u (List.mem_of_mem_take hu)) rfl (HS1_.out.ta.rd.take hk) (by omega) HB1_.out.room ?_
              intro A2 c2 z2 hg
              have HB2_ := hd_ (HB1_.out.app hg (fun g h => (HO1_.out.blk g h).1))
              have HO2_ := hd_ hg.own
              have hbl := hg.below (Below.refl (w.heap.size + 3) z1) HB1_.out.room (fun g h => (HO1_.out.blk g h).1)
              have HS2_ := hd_ (HS.out.below HB2_.out.b)
              have hS := hd_ (HSf.out _ _ HB2_.out)
              have hT := hd_ (HTf.out _ HB2_.out)
              refine hK.out _ _ hS.out (fun _ => hT.out) ?_
              clear hK hS hT
              try walk_nrm
              clear hg hbl
              refine wpAnyT_one (i := 8) (by kernel_rfl) rfl (fun K hK => ?_)
              try walk_nrm
              rw [if_pos (by rfl)]
              go_simp
              have hal : Below z2.heap.size z2 (z2.alloc (.cells #[.int .i64 tid, .int .i64 tep, .slice Q qn qc, .int .i64 sz, .int .i64 lv, .int .i64 ct, .string lo, .string hi, .int .i64 tp] 35)) := (Below.refl _ _).alloc (Nat.le_refl _) _
              have HB3_ := hd_ (HB2_.out.below hal)
              have HS3_ := hd_ (HS2_.out.below hal)
              have HL3_ := hd_ (show RdC 9 (z2.alloc (.cells #[.int .i64 tid, .int .i64 tep, .slice Q qn qc, .int .i64 sz, .int .i64 lv, .int .i64 ct, .string lo, .string hi, .int .i64 tp] 35)) (some ⟨z2.heap.size, 0, none⟩) 1 [.int .i64 tid, .int .i64 tep, .slice Q qn qc, .int .i64 sz, .int .i64 lv, .int .i64 ct, .string lo, .string hi, .int .i64 tp] from rdc_new 9 z2 35 [.int .i64 tid, .int .i64 tep, .slice Q qn qc, .int .i64 sz, .int .i64 lv, .int .i64 ct, .string lo, .string hi, .int .i64 tp] 1 rfl (0, 0))
              have hO_ := HO2_.out.below hal
              rw [Nat.zero_add] at hO_
              have HO3_ := hd_ hO_
              clear hO_
              have hS := hd_ (HSf.out _ _ HB3_.out)
              have hT := hd_ (HTf.out _ HB3_.out)
              refine hK.out _ _ hS.out (fun _ => hT.out) ?_
              clear hK hS hT
              try walk_nrm
              clear hal
              generalize (z2.alloc (.cells #[.int .i64 tid, .int .i64 tep, .slice Q qn qc, .int .i64 sz, .int .i64 lv, .int .i64 ct, .string lo, .string hi, .int .i64 tp] 35)) = z3 at *
              refine wpAnyT_one (i := 9) (by kernel_rfl) rfl (fun K hK => ?_)
              refine step_appN manyAT (by rfl) 190 rfl (.tmp 186) (.tmp 189) rfl rfl HO3_.out (some ⟨z2.heap.size, 0, none⟩) 1 1 [.int .i64 tid, .int .i64 tep, .slice Q qn qc, .int .i64 sz, .int .i64 lv, .int .i64 ct, .string lo, .string hi, .int .i64 tp] (Ed.tb_one ((⟨tid, tep, Q, qn, qc, sz, lv, ct, lo, hi, tp⟩ : Pk.Tb), qs).1) rfl HL3_.out (by omega) HB3_.out.room ?_
              intro A4 c4 z4 hg
              have HB4_ := hd_ (HB3_.out.app hg (fun g h => (HO3_.out.blk g h).1))
              have HO4_ := hd_ hg.own
              have hbl := hg.below (Below.refl (w.heap.size + 3) z3) HB3_.out.room (fun g h => (HO3_.out.blk g h).1)
              have HS4_ := hd_ (HS.out.below HB4_.out.b)
              have hS := hd_ (HSf.out _ _ HB4_.out)
              have hT := hd_ (HTf.out _ HB4_.out)
              refine hK.out _ _ hS.out (fun _ => hT.out) ?_
              clear hK hS hT
              try walk_nrm
              clear hg hbl
              refine wpAnyT_one (i := 14) (by kernel_rfl) rfl (fun K hK => ?_)
              refine step_appN manyAT (by rfl) 195 rfl (.tmp 190) (.tmp 194) rfl rfl HO4_.out (behindS 9 B d k) (m - k) (d - k) ((Pk.flat (M.map (·.1))).drop (k * 9)) (fun u hu => Pk.flat_one _ u (List.mem_of_mem_drop hu)) rfl (HS4_.out.ta.rd.from_ hk HS4_.out.ta.fits) (by omega) HB4_.out.room ?_
              intro A5 c5 z5 hg
              have HB5_ := hd_ (HB4_.out.app hg (fun g h => (HO4_.out.blk g h).1))
              have HO5_ := hd_ hg.own
              have hbl := hg.below (Below.refl (w.heap.size + 3) z4) HB4_.out.room (fun g h => (HO4_.out.blk g h).1)
              have HS5_ := hd_ (HS.out.below HB5_.out.b)
              have hS := hd_ (HSf.out _ _ HB5_.out)
              have hT := hd_ (HTf.out _ HB5_.out)
              refine hK.out _ _ hS.out (fun _ => hT.out) ?_
              clear hK hS hT
              try walk_nrm
              clear hg hbl
              have hS := hd_ (HSf.out _ _ HB5_.out)
              have hT := hd_ (HTf.out _ HB5_.out)
              refine tkT (i := 15) hS.out (fun _ => hT.out) ?_; try walk_nrm
              refine wpAnyT_one (i := 16) (by kernel_rfl) rfl (fun K hK => ?_)
              try walk_nrm
              rw [if_pos (by rfl)]
              have xq := HB5_.out.v.at_ 3 rfl
              have gq := HB5_.out.v.2.2 3
              go_simp
              clear xq gq
              have HBs := hd_ (show Bx3 w [.int .i64 nx, .int .i64 sq, .slice A n c, .slice A5 ((k + 1) + (m - k)) c5] [.int .i64 6, .int .i64 id, .int .i64 nn, .int .i64 pid, .int .i64 pep, .slice P pn pc, .int .i64 tid, .int .i64 tep, .slice Q qn qc, .int .i64 sz, .int .i64 lv, .int .i64 ct, .string lo, .string hi, .int .i64 tp] (z5.setCell ⟨w.heap.size, 3, none⟩ (.slice A5 ((k + 1) + (m - k)) c5)) from HB5_.out.set 3 _ (by simp))
              have HOr_ := HO5_.out
              try rw [Nat.zero_add] at HOr_
              have HOs := hd_ (show OwnC 9 (z5.setCell ⟨w.heap.size, 3, none⟩ (.slice A5 ((k + 1) + (m - k)) c5)) (w.heap.size + 3) 35 A5 ((k + 1) + (m - k)) c5 _ from HOr_.past1 (by omega))
              clear HOr_
              have hS2 := hd_ (HSf.out _ _ HBs.out)
              refine hK.out _ _ hS2.out (fun h => Bool.noConfusion (h : true = false)) ?_
              clear hK hS hT hS2
              try walk_nrm
              generalize (z5.setCell ⟨w.heap.size, 3, none⟩ (.slice A5 ((k + 1) + (m - k)) c5)) = zf at *
              refine wpAnyT_done (by kernel_rfl) ?_ _
              have en : ((k + 1) + (m - k)) = m + 1 := by omega
              rw [en] at HBs HOs
              rw [Ed.put_cells_T M k tid tep Q qn qc sz lv ct lo hi tp qs] at HOs
              go_wp2
              go_meet
              case rel => exact ⟨A5, c5, by first | rfl | rw [en], HBs, HOs⟩
            · try walk_nrm
              rw [if_pos (by rfl)]
              go_simp
              have hal : Below z1.heap.size z1 (z1.alloc (.cells #[.int .i64 tid, .int .i64 tep, .slice Q qn qc, .int .i64 sz, .int .i64 lv, .int .i64 ct, .string lo, .string hi, .int .i64 tp] 35)) := (Below.refl _ _).alloc (Nat.le_refl _) _
              have HB7_ := hd_ (HB1_.out.below hal)
              have HS7_ := hd_ (HS1_.out.below hal)
              have HL7_ := hd_ (show RdC 9 (z1.alloc (.cells #[.int .i64 tid, .int .i64 tep, .slice Q qn qc, .int .i64 sz, .int .i64 lv, .int .i64 ct, .string lo, .string hi, .int .i64 tp] 35)) (some ⟨z1.heap.size, 0, none⟩) 1 [.int .i64 tid, .int .i64 tep, .slice Q qn qc, .int .i64 sz, .int .i64 lv, .int .i64 ct, .string lo, .string hi, .int .i64 tp] from rdc_new 9 z1 35 [.int .i64 tid, .int .i64 tep, .slice Q qn qc, .int .i64 sz, .int .i64 lv, .int .i64 ct, .string lo, .string hi, .int .i64 tp] 1 rfl (0, 0))
              have HO7_ := hd_ (HO1_.out.below hal)
              have hS := hd_ (HSf.out _ _ HB7_.out)
              have hT := hd_ (HTf.out _ HB7_.out)
              refine hK.out _ _ hS.out (fun _ => hT.out) ?_
              clear hK hS hT
              try walk_nrm
              clear hal
              generalize (z1.alloc (.cells #[.int .i64 tid, .int .i64 tep, .slice Q qn qc, .int .i64 sz, .int .i64 lv, .int .i64 ct, .string lo, .string hi, .int .i64 tp] 35)) = z7 at *
              have HDx : ∀ g, blkOf (some ⟨z1.heap.size, 0, none⟩) = some g → (Value.slice (some ⟨w3.heap.size, 0, none⟩) 0 0).ownBlock ≠ some g := fun g h1 h2 => by
                have q1 := Option.some.inj (show some _ = some g from h1)
                have q2 := Option.some.inj (show some _ = some g from h2)
                have h3 := (HO1_.out.lt _ rfl).2
                dsimp only at q1 q2 h3
                omega
              refine wpAnyT_one (i := 5) (by kernel_rfl) rfl (fun K hK => ?_)
              refine step_appN manyAT (by rfl) 186 rfl (.tmp 181) (.tmp 185) rfl rfl HO7_.out B k d ((Pk.flat (M.map (·.1))).take (k * 9)) (fun u hu => Pk.flat_one _ u (List.mem_of_mem_take hu)) rfl (HS7_.out.ta.rd.take hk) (by omega) HB7_.out.room ?_
              intro A8 c8 z8 hg
              have HB8_ := hd_ (HB7_.out.app hg (fun g h => (HO7_.out.blk g h).1))
              have HO8_ := hd_ hg.own
              have hbl := hg.below (Below.refl (w.heap.size + 3) z7) HB7_.out.room (fun g h => (HO7_.out.blk g h).1)
              have HS8_ := hd_ (HS.out.below HB8_.out.b)
              have HL8_ := hd_ (show RdC 9 z8 (some ⟨z1.heap.size, 0, none⟩) 1 [.int .i64 tid, .int .i64 tep, .slice Q qn qc, .int .i64 sz, .int .i64 lv, .int .i64 ct, .string lo, .string hi, .int .i64 tp] from HL7_.out.keepG hg.grew (fun g hg1 hg2 => absurd hg2 (HDx g hg1)))
              have hS := hd_ (HSf.out _ _ HB8_.out)
              have hT := hd_ (HTf.out _ HB8_.out)
              refine hK.out _ _ hS.out (fun _ => hT.out) ?_
              clear hK hS hT
              try walk_nrm
              clear hg hbl
              refine wpAnyT_one (i := 9) (by kernel_rfl) rfl (fun K hK => ?_)
              refine step_appN manyAT (by rfl) 190 rfl (.tmp 186) (.tmp 189) rfl rfl HO8_.out (some ⟨z1.heap.size, 0, none⟩) 1 1 [.int .i64 tid, .int .i64 tep, .slice Q qn qc, .int .i64 sz, .int .i64 lv, .int .i64 ct, .string lo, .string hi, .int .i64 tp] (Ed.tb_one ((⟨tid, tep, Q, qn, qc, sz, lv, ct, lo, hi, tp⟩ : Pk.Tb), qs).1) rfl HL8_.out (by omega) HB8_.out.room ?_
              intro A9 c9 z9 hg
              have HB9_ := hd_ (HB8_.out.app hg (fun g h => (HO8_.out.blk g h).1))
              have HO9_ := hd_ hg.own
              have hbl := hg.below (Below.refl (w.heap.size + 3) z8) HB8_.out.room (fun g h => (HO8_.out.blk g h).1)
              have HS9_ := hd_ (HS.out.below HB9_.out.b)
              have hS := hd_ (HSf.out _ _ HB9_.out)
              have hT := hd_ (HTf.out _ HB9_.out)
              refine hK.out _ _ hS.out (fun _ => hT.out) ?_
              clear hK hS hT
              try walk_nrm
              clear hg hbl
              refine wpAnyT_one (i := 14) (by kernel_rfl) rfl (fun K hK => ?_)
              refine step_appN manyAT (by rfl) 195 rfl (.tmp 190) (.tmp 194) rfl rfl HO9_.out (behindS 9 B d k) (m - k) (d - k) ((Pk.flat (M.map (·.1))).drop (k * 9)) (fun u hu => Pk.flat_one _ u (List.mem_of_mem_drop hu)) rfl (HS9_.out.ta.rd.from_ hk HS9_.out.ta.fits) (by omega) HB9_.out.room ?_
              intro A10 c10 z10 hg
              have HB10_ := hd_ (HB9_.out.app hg (fun g h => (HO9_.out.blk g h).1))
              have HO10_ := hd_ hg.own
              have hbl := hg.below (Below.refl (w.heap.size + 3) z9) HB9_.out.room (fun g h => (HO9_.out.blk g h).1)
              have HS10_ := hd_ (HS.out.below HB10_.out.b)
              have hS := hd_ (HSf.out _ _ HB10_.out)
              have hT := hd_ (HTf.out _ HB10_.out)
              refine hK.out _ _ hS.out (fun _ => hT.out) ?_
              clear hK hS hT
              try walk_nrm
              clear hg hbl
              have hS := hd_ (HSf.out _ _ HB10_.out)
              have hT := hd_ (HTf.out _ HB10_.out)
              refine tkT (i := 15) hS.out (fun _ => hT.out) ?_; try walk_nrm
              refine wpAnyT_one (i := 16) (by kernel_rfl) rfl (fun K hK => ?_)
              try walk_nrm
              rw [if_pos (by rfl)]
              have xq := HB10_.out.v.at_ 3 rfl
              have gq := HB10_.out.v.2.2 3
              go_simp
              clear xq gq
              have HBs := hd_ (show Bx3 w [.int .i64 nx, .int .i64 sq, .slice A n c, .slice A10 ((k + 1) + (m - k)) c10] [.int .i64 6, .int .i64 id, .int .i64 nn, .int .i64 pid, .int .i64 pep, .slice P pn pc, .int .i64 tid, .int .i64 tep, .slice Q qn qc, .int .i64 sz, .int .i64 lv, .int .i64 ct, .string lo, .string hi, .int .i64 tp] (z10.setCell ⟨w.heap.size, 3, none⟩ (.slice A10 ((k + 1) + (m - k)) c10)) from HB10_.out.set 3 _ (by simp))
              have HOr_ := HO10_.out
              try rw [Nat.zero_add] at HOr_
              have HOs := hd_ (show OwnC 9 (z10.setCell ⟨w.heap.size, 3, none⟩ (.slice A10 ((k + 1) + (m - k)) c10)) (w.heap.size + 3) 35 A10 ((k + 1) + (m - k)) c10 _ from HOr_.past1 (by omega))
              clear HOr_
              have hS2 := hd_ (HSf.out _ _ HBs.out)
              refine hK.out _ _ hS2.out (fun h => Bool.noConfusion (h : true = false)) ?_
              clear hK hS hT hS2
              try walk_nrm
              generalize (z10.setCell ⟨w.heap.size, 3, none⟩ (.slice A10 ((k + 1) + (m - k)) c10)) = zf at *
              refine wpAnyT_done (by kernel_rfl) ?_ _
              have en : ((k + 1) + (m - k)) = m + 1 := by omega
              rw [en] at HBs HOs
              rw [Ed.put_cells_T M k tid tep Q qn qc sz lv ct lo hi tp qs] at HOs
              go_wp2
              go_meet
              case rel => exact ⟨A10, c10, by first | rfl | rw [en], HBs, HOs⟩
          · try walk_nrm
            rw [if_pos (by rfl)]
            go_simp
            have hal : Below w3.heap.size w3 (w3.alloc (.cells #[.int .i64 tid, .int .i64 tep, .slice Q qn qc, .int .i64 sz, .int .i64 lv, .int .i64 ct, .string lo, .string hi, .int .i64 tp] 35)).drew := ((Below.refl _ _).alloc (Nat.le_refl _) _).drew
            have HB12_ := hd_ (HB4.out.below hal)
            have HS12_ := hd_ (HOw.out.below hal)
            have HL12_ := hd_ (show RdC 9 (w3.alloc (.cells #[.int .i64 tid, .int .i64 tep, .slice Q qn qc, .int .i64 sz, .int .i64 lv, .int .i64 ct, .string lo, .string hi, .int .i64 tp] 35)).drew (some ⟨w3.heap.size, 0, none⟩) 1 [.int .i64 tid, .int .i64 tep, .slice Q qn qc, .int .i64 sz, .int .i64 lv, .int .i64 ct, .string lo, .string hi, .int .i64 tp] from (rdc_new 9 w3 35 [.int .i64 tid, .int .i64 tep, .slice Q qn qc, .int .i64 sz, .int .i64 lv, .int .i64 ct, .string lo, .string hi, .int .i64 tp] 1 rfl (0, 0)).below (Below.refl _ _).drew)
            have hS := hd_ (HSf.out _ _ HB12_.out)
            have hT := hd_ (HTf.out _ HB12_.out)
            refine hK.out _ _ hS.out (fun _ => hT.out) ?_
            clear hK hS hT
            try walk_nrm
            clear hal
            generalize (w3.alloc (.cells #[.int .i64 tid, .int .i64 tep, .slice Q qn qc, .int .i64 sz, .int .i64 lv, .int .i64 ct, .string lo, .string hi, .int .i64 tp] 35)).drew = z12 at *
            refine wpAnyT_one (i := 0) (by kernel_rfl) rfl (fun K hK => ?_)
            try walk_nrm
            rw [if_pos (by rfl)]
            go_simp
            have hal : Below z12.heap.size z12 (z12.alloc (.cells #[] 35)) := (Below.refl _ _).alloc (Nat.le_refl _) _
            have HB13_ := hd_ (HB12_.out.below hal)
            have HO13_ := hd_ (show OwnC 9 (z12.alloc (.cells #[] 35)) (w.heap.size + 3) 35 (some ⟨z12.heap.size, 0, none⟩) 0 0 [] from OwnC.empty 9 z12 35 (w.heap.size + 3) HB12_.out.room)
            have HS13_ := hd_ (HS12_.out.below hal)
            have HL13_ := hd_ (HL12_.out.below hal)
            have hS := hd_ (HSf.out _ _ HB13_.out)
            have hT := hd_ (HTf.out _ HB13_.out)
            refine hK.out _ _ hS.out (fun _ => hT.out) ?_
            clear hK hS hT
            try walk_nrm
            clear hal
            generalize (z12.alloc (.cells #[] 35)) = z13 at *
            have HDx : ∀ g, blkOf (some ⟨w3.heap.size, 0, none⟩) = some g → (Value.slice (some ⟨z12.heap.size, 0, none⟩) 0 0).ownBlock ≠ some g := fun g h1 h2 => by
              have q1 := Option.some.inj (show some _ = some g from h1)
              have q2 := Option.some.inj (show some _ = some g from h2)
              obtain ⟨_, _, e, h3, _⟩ := HL12_.out.2 (by omega)
              injection e with e
              injection e with e
              dsimp only at q1 q2
              omega
            refine wpAnyT_one (i := 5) (by kernel_rfl) rfl (fun K hK => ?_)
            refine step_appN manyAT (by rfl) 186 rfl (.tmp 181) (.tmp 185) rfl rfl HO13_.out B k d ((Pk.flat (M.map (·.1))).take (k * 9)) (fun u hu => Pk.flat_one _ u (List.mem_of_mem_take hu)) rfl (HS13_.out.ta.rd.take hk) (by omega) HB13_.out.room ?_
            intro A14 c14 z14 hg
            have HB14_ := hd_ (HB13_.out.app hg (fun g h => (HO13_.out.blk g h).1))
            have HO14_ := hd_ hg.own
            have hbl := hg.below (Below.refl (w.heap.size + 3) z13) HB13_.out.room (fun g h => (HO13_.out.blk g h).1)
            have HS14_ := hd_ (HS.out.below HB14_.out.b)
            have HL14_ := hd_ (show RdC 9 z14 (some ⟨w3.heap.size, 0, none⟩) 1 [.int .i64 tid, .int .i64 tep, .slice Q qn qc, .int .i64 sz, .int .i64 lv, .int .i64 ct, .string lo, .string hi, .int .i64 tp] from HL13_.out.keepG hg.grew (fun g hg1 hg2 => absurd hg2 (HDx g hg1)))
            have hS := hd_ (HSf.out _ _ HB14_.out)
            have hT := hd_ (HTf.out _ HB14_.out)
            refine hK.out _ _ hS.out (fun _ => hT.out) ?_
            clear hK hS hT
            try walk_nrm
            clear hg hbl
            refine wpAnyT_one (i := 9) (by kernel_rfl) rfl (fun K hK => ?_)
            refine step_appN manyAT (by rfl) 190 rfl (.tmp 186) (.tmp 189) rfl rfl HO14_.out (some ⟨w3.heap.size, 0, none⟩) 1 1 [.int .i64 tid, .int .i64 tep, .slice Q qn qc, .int .i64 sz, .int .i64 lv, .int .i64 ct, .string lo, .string hi, .int .i64 tp] (Ed.tb_one ((⟨tid, tep, Q, qn, qc, sz, lv, ct, lo, hi, tp⟩ : Pk.Tb), qs).1) rfl HL14_.out (by omega) HB14_.out.room ?_
            intro A15 c15 z15 hg
            have HB15_ := hd_ (HB14_.out.app hg (fun g h => (HO14_.out.blk g h).1))
            have HO15_ := hd_ hg.own
            have hbl := hg.below (Below.refl (w.heap.size + 3) z14) HB14_.out.room (fun g h => (HO14_.out.blk g h).1)
            have HS15_ := hd_ (HS.out.below HB15_.out.b)
            have hS := hd_ (HSf.out _ _ HB15_.out)
            have hT := hd_ (HTf.out _ HB15_.out)
            refine hK.out _ _ hS.out (fun _ => hT.out) ?_
            clear hK hS hT
            try walk_nrm
            clear hg hbl
            refine wpAnyT_one (i := 14) (by kernel_rfl) rfl (fun K hK => ?_)
            refine step_appN manyAT (by rfl) 195 rfl (.tmp 190) (.tmp 194) rfl rfl HO15_.out (behindS 9 B d k) (m - k) (d - k) ((Pk.flat (M.map (·.1))).drop (k * 9)) (fun u hu => Pk.flat_one _ u (List.mem_of_mem_drop hu)) rfl (HS15_.out.ta.rd.from_ hk HS15_.out.ta.fits) (by omega) HB15_.out.room ?_
            intro A16 c16 z16 hg
            have HB16_ := hd_ (HB15_.out.app hg (fun g h => (HO15_.out.blk g h).1))
            have HO16_ := hd_ hg.own
            have hbl := hg.below (Below.refl (w.heap.size + 3) z15) HB15_.out.room (fun g h => (HO15_.out.blk g h).1)
            have HS16_ := hd_ (HS.out.below HB16_.out.b)
            have hS := hd_ (HSf.out _ _ HB16_.out)
            have hT := hd_ (HTf.out _ HB16_.out)
            refine hK.out _ _ hS.out (fun _ => hT.out) ?_
            clear hK hS hT
            try walk_nrm
            clear hg hbl
            have hS := hd_ (HSf.out _ _ HB16_.out)
            have hT := hd_ (HTf.out _ HB16_.out)
            refine tkT (i := 15) hS.out (fun _ => hT.out) ?_; try walk_nrm
            refine wpAnyT_one (i := 16) (by kernel_rfl) rfl (fun K hK => ?_)
            try walk_nrm
            rw [if_pos (by rfl)]
            have xq := HB16_.out.v.at_ 3 rfl
            have gq := HB16_.out.v.2.2 3
            go_simp
            clear xq gq
            have HBs := hd_ (show Bx3 w [.int .i64 nx, .int .i64 sq, .slice A n c, .slice A16 ((k + 1) + (m - k)) c16] [.int .i64 6, .int .i64 id, .int .i64 nn, .int .i64 pid, .int .i64 pep, .slice P pn pc, .int .i64 tid, .int .i64 tep, .slice Q qn qc, .int .i64 sz, .int .i64 lv, .int .i64 ct, .string lo, .string hi, .int .i64 tp] (z16.setCell ⟨w.heap.size, 3, none⟩ (.slice A16 ((k + 1) + (m - k)) c16)) from HB16_.out.set 3 _ (by simp))
            have HOr_ := HO16_.out
            try rw [Nat.zero_add] at HOr_
            have HOs := hd_ (show OwnC 9 (z16.setCell ⟨w.heap.size, 3, none⟩ (.slice A16 ((k + 1) + (m - k)) c16)) (w.heap.size + 3) 35 A16 ((k + 1) + (m - k)) c16 _ from HOr_.past1 (by omega))
            clear HOr_
            have hS2 := hd_ (HSf.out _ _ HBs.out)
            refine hK.out _ _ hS2.out (fun h => Bool.noConfusion (h : true = false)) ?_
            clear hK hS hT hS2
            try walk_nrm
            generalize (z16.setCell ⟨w.heap.size, 3, none⟩ (.slice A16 ((k + 1) + (m - k)) c16)) = zf at *
            refine wpAnyT_done (by kernel_rfl) ?_ _
            have en : ((k + 1) + (m - k)) = m + 1 := by omega
            rw [en] at HBs HOs
            rw [Ed.put_cells_T M k tid tep Q qn qc sz lv ct lo hi tp qs] at HOs
            go_wp2
            go_meet
            case rel => exact ⟨A16, c16, by first | rfl | rw [en], HBs, HOs⟩
        case rest =>
          obtain ⟨A1, c1, rfl, HB5, HO5⟩ := hcut
          rename World => w5
          have HRn := hd_ (show r = if nb then some ⟨nx, sq, L.map Ed.loOf, (Ed.put M k ((⟨tid, tep, Q, qn, qc, sz, lv, ct, lo, hi, tp⟩ : Pk.Tb), qs)).map Ed.taOf⟩ else none by
            rw [HR.out, Ed.do1_6 rfl, HNb.out]
            show (match Ed.find ((M.map Ed.taOf).map (·.p.id)) tid with | some _ => none | none => some _) = _
            have e1 : (M.map Ed.taOf).map (·.p.id) = ids := by rw [HI.out, List.map_map]; rfl
            rw [e1]
            cases Ed.find ids tid with
            | some j => rfl
            | none => show some _ = some _; exact congrArg some (by rw [Ed.put_map, ← HPos.out]; rfl))
          clear HR HNb HPos HB4 HOw
          obtain ⟨b0, b1, b2, b3⟩ := HB5.out.v.all4
          obtain ⟨f0, f1, f2, f3⟩ := HB5.out.z.all4
          obtain ⟨g0, g1, g2, g3⟩ := HB5.out.z.free4
          have HZ := hd_ (show Holds ((((w5.setCell ⟨w.heap.size + 2, 0, none⟩ (.int .i64 nx)).setCell ⟨w.heap.size + 2, 1, none⟩ (.int .i64 sq)).setCell ⟨w.heap.size + 2, 2, none⟩ (.slice A n c)).setCell ⟨w.heap.size + 2, 3, none⟩ (.slice A1 (m + 1) c1)) (w.heap.size + 2) [.int .i64 nx, .int .i64 sq, .slice A n c, .slice A1 (m + 1) c1] from HB5.out.z.put4 _ _ _ _)
          have HBz := hd_ (show Below w.heap.size w ((((w5.setCell ⟨w.heap.size + 2, 0, none⟩ (.int .i64 nx)).setCell ⟨w.heap.size + 2, 1, none⟩ (.int .i64 sq)).setCell ⟨w.heap.size + 2, 2, none⟩ (.slice A n c)).setCell ⟨w.heap.size + 2, 3, none⟩ (.slice A1 (m + 1) c1)) from HB5.out.b.grown (grown4 _ _ _ _ _ _) HB5.out.b.size (fun g e => by injection e with e; omega))
          have HO6 := hd_ (show OwnC 9 ((((w5.setCell ⟨w.heap.size + 2, 0, none⟩ (.int .i64 nx)).setCell ⟨w.heap.size + 2, 1, none⟩ (.int .i64 sq)).setCell ⟨w.heap.size + 2, 2, none⟩ (.slice A n c)).setCell ⟨w.heap.size + 2, 3, none⟩ (.slice A1 (m + 1) c1)) (w.heap.size + 3) 35 A1 (m + 1) c1 _ from HO5.out.past4 (by omega))
          go_wp2_with fail
          clear b0 b1 b2 b3 f0 f1 f2 f3 g0 g1 g2 g3
          generalize ((((w5.setCell ⟨w.heap.size + 2, 0, none⟩ (.int .i64 nx)).setCell ⟨w.heap.size + 2, 1, none⟩ (.int .i64 sq)).setCell ⟨w.heap.size + 2, 2, none⟩ (.slice A n c)).setCell ⟨w.heap.size + 2, 3, none⟩ (.slice A1 (m + 1) c1)) = z at *
          obtain ⟨y0, y1, y2, y3⟩ := HZ.out.all4
          refine bodyPost_ret (v := .tuple #[.agg #[.int .i64 nx, .int .i64 sq, .slice A n c, .slice A1 (m + 1) c1], .bool nb]) ?_ rfl (⟨nx, sq, A, n, c, L, A1, m + 1, c1, Ed.put M k ((⟨tid, tep, Q, qn, qc, sz, lv, ct, lo, hi, tp⟩ : Pk.Tb), qs), by rw [show r.isSome = nb by rw [HRn.out]; cases nb <;> rfl], grown_any _ HBz.out, fun v hv => by
              rw [HRn.out] at hv
              cases nb with
              | false => cases hv
              | true => exact ⟨(Option.some.inj hv).symm, StR.tabs HS.out HW.out HBz.out (by rw [Ed.put_len, HS.out.tl]) (HO6.out.base_ (by omega)) (fun y hy => by
              rcases Ed.put_mem hy with rfl | hy
              · exact ⟨HEx.out.2.2, HEx.out.2.1, HOf.out⟩
              · exact ⟨(HS.out.tp y hy).1, (HS.out.tp y hy).2, HS.out.to_ y hy⟩), fun b hb hf h1 h2 => ⟨hf.1, fun e => by have := (HO6.out.lt b e).1; omega, hf.2.2.1, fun y hy hn => (Ed.put_mem hy).elim (fun e => by subst e; exact h2 hn) (fun hy => hf.2.2.2 y hy hn)⟩⟩⟩)
          simp [results, Tryz.results50, go_sem, y0, y1, y2, y3]
end Go.Proofs.YthfcjlndaajkfaaGreat
