/- The document's Read. -/
import Derived.Test.YthfcjlndaajkfaaGreatTRbDz
import Derived.Test.YthfcjlndaajkfaaGreatTRbBytes
import Derived.Test.YthfcjlndaajkfaaGreatTEdRead
import Derived.Deep.CutBlock
import Derived.Deep.DeepCutAuto
namespace Go.Proofs.YthfcjlndaajkfaaGreat
open Go.RowKit
set_option linter.unusedVariables false
set_option linter.unusedSimpArgs false
set_option maxRecDepth 100000 in
theorem run_from1 (A : Option Addr) (n c : Nat) (hf : 1 ≤ n) (hc : n ≤ c) (w : World) : (Instr.slice 51 (.slice A n c) (some (.int .i64 1)) none none).run Tryz.prog w = .ok (.slice (if c = 1 then A else A.map fun x => x.add 1) (n - 1) (c - 1)) w := by
  obtain ⟨i0, hi, hz0, hz1, hz2⟩ := info_parts info5
  have hi1 : (1 : Int) ≤ (n : Int) := by omega
  by_cases e : c = 1
  · subst e
    have : n = 1 := by omega
    subst this
    simp [Instr.slice, run_underlying Tryz.underlying51, Instr.sliceBounds, Instr.sliceBound, asIntOf, go_sem, sizeOf, typeInfo, hi, hz1]
  · simp [Instr.slice, run_underlying Tryz.underlying51, Instr.sliceBounds, Instr.sliceBound, asIntOf, go_sem, hf, e, sizeOf, typeInfo, hi, hz1, hi1]
set_option maxRecDepth 100000 in
set_option maxHeartbeats 32000000 in
theorem rread_any (A : Option Addr) (n cap : Nat) (l : List Nat) (w : World) (hr : Rd w A n l) (hc : n ≤ cap) (hn : n ≤ 1000000) (hb : cap ≤ 9223372036854775807) :
    Calls Tryz.prog 24 #[.slice A n cap] w (GivesRead w (Ed.dRead l)) := by
  have hl := hr.1
  subst hl
  have h1 : Below w.heap.size w (w.alloc (.cells #[.slice A l.length cap, .bool true] 95)) := (Below.refl _ _).alloc (Nat.le_refl _) _
  have HR0 := Lib.hid hr
  have HRw := Lib.hid (show Rr (w.alloc (.cells #[.slice A l.length cap, .bool true] 95)) w.heap.size A cap l true from ⟨Holds.new w #[.slice A l.length cap, .bool true] 95, hr.below h1, hc, hn, fun h0 e => by
    obtain ⟨b, o, hA, hbl, _⟩ := hr.2.2 h0
    rw [hA] at e
    injection e with e
    have : b = w.heap.size := e
    omega⟩)
  have HB0 := Lib.hid h1
  obtain ⟨res, hres⟩ : ∃ x, x = Ed.dRead l := ⟨_, rfl⟩
  have HRes := Lib.hid (show res = if (Ed.dAll l).2 = true ∧ (Ed.dAll l).1.length ≤ 256 ∧ (Ed.dAll l).1.all Ed.Et.ok = true ∧ Ed.bytes (Ed.dAll l).1 = l then some (Ed.dAll l).1 else none from hres)
  have HAll := Lib.hid (show Ed.dAll l = ((Ed.dEs (min (Ed.dN l true).1.toNat 257) (Ed.dN l true).2.1 (Ed.dN l true).2.2).1, (Ed.dEs (min (Ed.dN l true).1.toNat 257) (Ed.dN l true).2.1 (Ed.dN l true).2.2).2.2) from rfl)
  rw [← hres]
  have C1 := Lib.hid (dnum_any w.heap.size l true (w.alloc (.cells #[.slice A l.length cap, .bool true] 95)) A cap HRw.out)
  have HQx := Lib.hid (Ed.dN_q l true)
  clear hres hr hc hn hb h1
  generalize Ed.dAll l = al at *
  generalize Ed.dN l true = x at *
  go_enter Tryz.func24, Tryz.ntmps24
  go_upto_region 2 with fail
  generalize (w.alloc (.cells #[.slice A l.length cap, .bool true] 95)) = u at *
  go_wp2_with fail
  refine C1.out.mono ?_
  rintro e v ⟨rfl, ⟨A1, c1, hr1, hn1⟩, ht1⟩
  have HR1 := Lib.hid hr1
  have HB1 := Lib.hid (ht1.far (base := w.heap.size) (Nat.le_refl _) (Nat.le_refl _) HB0.out (Nat.le_refl _))
  clear hr1 hn1 ht1 C1 HRw HB0
  obtain ⟨m, hm⟩ : ∃ m : Nat, m = min x.1.toNat 257 := ⟨_, rfl⟩
  have hmx : (m : Int) ≤ x.1 ∧ ((m : Int) = x.1 ∨ m = 257) ∧ m ≤ 257 := by have := HQx.out; omega
  rw [← hm] at HAll
  clear hm
  have HLv := Lib.hid HR1.out.lt
  go_wp2_with fail
  go_loopw [6, 7] (fun s6 ii wr => ∃ (k : Nat) (E : List Ed.Ex) (R : Option Addr) (rc : Nat) (r : List Nat) (o : Bool) (A' : Option Addr) (cap' : Nat), k ≤ m ∧ ii = .int .i64 (k : Int) ∧ s6 = .slice R E.length rc ∧ Hid (Rr wr w.heap.size A' cap' r o) ∧ Hid (0 < r.length → ∀ g, blkOf R = some g → blkOf A' ≠ some g) ∧ Hid (OwEs wr v.heap.size R E.length rc E) ∧ Hid (E.length = k) ∧ Hid (Ed.dEs m x.2.1 x.2.2 = (E.map Ed.etOf ++ (Ed.dEs (m - k) r o).1, (Ed.dEs (m - k) r o).2)) ∧ Hid (Below w.heap.size w wr) ∧ v.heap.size ≤ wr.heap.size) (fun _ ii _ => m - (intOf ii).toNat)
  case atStart => exact ⟨0, [], none, 0, x.2.1, x.2.2, A1, c1, by omega, rfl, rfl, HR1, Lib.hid (fun _ g e => by cases e), Lib.hid (OwEs.nil _ _), Lib.hid rfl, Lib.hid (by simp), HB1, Nat.le_refl _⟩
  case round =>
    clear HR1 HB1
    obtain ⟨k, E, R, rc, r, o, A', cap', hk, rfl, rfl, HR, HC, HE, HEl, HD, HB, hsz⟩ := hrel
    have r0 := HR.out.1.at_ 0 rfl
    have r1 := HR.out.1.at_ 1 rfl
    by_cases hgo : k < m ∧ o = true ∧ 0 < r.length
    · obtain ⟨hlt, rfl, hpos⟩ := hgo
      have hki : (k : Int) < x.1 := by omega
      have hk64 : (k : Int) ≤ 256 := by omega
      have hk0 : (0 : Int) ≤ (k : Int) := by omega
      have hpi : (0 : Int) < (r.length : Int) := by omega
      obtain ⟨b, o2, y, hA, hbl, hly, hy, hcy⟩ := HR.out.2.1.at_ (k := 0) hpos
      subst hA
      rw [Nat.add_zero] at hcy
      obtain ⟨r', hr'⟩ : ∃ r', r = y :: r' := by
        cases r with
        | nil => cases hly
        | cons z r' => exact ⟨r', by injection hly with h; rw [h]⟩
      have HRr := Lib.hid hr'
      have hcap := HR.out.2.2.1
      have f0 := HR.out.1.2.2 0
      have hrb : w.heap.size ≠ wr.heap.size := by have := HLv.out; omega
      have hf1 := fun (W : World) => run_from1 (some ⟨b, o2, none⟩) r.length cap' hpos hcap W
      obtain ⟨A2, hA2⟩ : ∃ A2, A2 = (if cap' = 1 then (some ⟨b, o2, none⟩ : Option Addr) else (some ⟨b, o2, none⟩ : Option Addr).map fun x => x.add 1) := ⟨_, rfl⟩
      rw [← hA2] at hf1
      have HA2 := Lib.hid hA2
      have h0e : Below wr.heap.size wr (wr.alloc (.cells #[.int .i64 (y : Int), .int .i64 0, .int .i64 0, .int .i64 0, .int .i64 0, .slice none 0 0, .int .i64 0, .int .i64 0, .slice none 0 0, .int .i64 0, .int .i64 0, .int .i64 0, .string ⟨#[]⟩, .string ⟨#[]⟩, .int .i64 0] 37)) := (Below.refl _ _).alloc (Nat.le_refl _) _
      have HRe := Lib.hid (HR.out.below h0e)
      have q0 := HRe.out.1.at_ 0 rfl
      have g0 := HRe.out.1.2.2 0
      clear hly hr' hA2
      have hrl : r.length = r'.length + 1 := by rw [HRr.out]; rfl
      have HDs := Lib.hid (show Ds ((wr.alloc (.cells #[.int .i64 (y : Int), .int .i64 0, .int .i64 0, .int .i64 0, .int .i64 0, .slice none 0 0, .int .i64 0, .int .i64 0, .slice none 0 0, .int .i64 0, .int .i64 0, .int .i64 0, .string ⟨#[]⟩, .string ⟨#[]⟩, .int .i64 0] 37)).setCell ⟨w.heap.size, 0, none⟩ (.slice A2 (r.length - 1) (cap' - 1))) ((wr.alloc (.cells #[.int .i64 (y : Int), .int .i64 0, .int .i64 0, .int .i64 0, .int .i64 0, .slice none 0 0, .int .i64 0, .int .i64 0, .slice none 0 0, .int .i64 0, .int .i64 0, .int .i64 0, .string ⟨#[]⟩, .string ⟨#[]⟩, .int .i64 0] 37)).setCell ⟨w.heap.size, 0, none⟩ (.slice A2 (r.length - 1) (cap' - 1))) w.heap.size wr.heap.size A2 (cap' - 1) r' true (#[.int .i64 (y : Int), .int .i64 0, .int .i64 0, .int .i64 0, .int .i64 0, .slice none 0 0, .int .i64 0, .int .i64 0, .slice none 0 0, .int .i64 0, .int .i64 0, .int .i64 0, .string ⟨#[]⟩, .string ⟨#[]⟩, .int .i64 0]).toList by
        have hbA : blkOf A2 = some b := by rw [HA2.out]; split <;> rfl
        have hg := grown_cell (wr.alloc (.cells #[.int .i64 (y : Int), .int .i64 0, .int .i64 0, .int .i64 0, .int .i64 0, .slice none 0 0, .int .i64 0, .int .i64 0, .slice none 0 0, .int .i64 0, .int .i64 0, .int .i64 0, .string ⟨#[]⟩, .string ⟨#[]⟩, .int .i64 0] 37)) w.heap.size 0 (.slice A2 (r.length - 1) (cap' - 1))
        have hrd : Rd wr A2 r'.length r' := by
          have h := cut_rd HR.out.2.1 (v := 1) hpos hcap
          rw [← HA2.out] at h
          have e1 : r.drop 1 = r' := by rw [HRr.out]; rfl
          rw [e1, show r.length - 1 = r'.length by omega] at h
          exact h
        have hnb : b ≠ w.heap.size := fun e => HR.out.2.2.2.2 hpos (by rw [← e]; rfl)
        have hX := (Holds.new wr #[.int .i64 (y : Int), .int .i64 0, .int .i64 0, .int .i64 0, .int .i64 0, .slice none 0 0, .int .i64 0, .int .i64 0, .slice none 0 0, .int .i64 0, .int .i64 0, .int .i64 0, .string ⟨#[]⟩, .string ⟨#[]⟩, .int .i64 0] 37).grown hg (fun e => by injection e with e; omega)
        have hH := HRe.out.1.set 0 (.slice A2 (r.length - 1) (cap' - 1)) (by simp)
        rw [show r.length - 1 = r'.length by omega] at hH ⊢
        refine ⟨⟨hH, (hrd.below h0e).grownBy (grown_cell (wr.alloc (.cells #[.int .i64 (y : Int), .int .i64 0, .int .i64 0, .int .i64 0, .int .i64 0, .slice none 0 0, .int .i64 0, .int .i64 0, .slice none 0 0, .int .i64 0, .int .i64 0, .int .i64 0, .string ⟨#[]⟩, .string ⟨#[]⟩, .int .i64 0] 37)) w.heap.size 0 (.slice A2 r'.length (cap' - 1))) (fun _ e => ?_), by omega, by have := HR.out.2.2.2.1; omega, fun _ e => ?_⟩, by rw [show r.length - 1 = r'.length by omega] at hX; exact hX, fun _ e => ?_, Two.refl _ _ _, hrb, ⟨hH.1, by rw [show r.length - 1 = r'.length by omega] at hX; exact hX.1⟩⟩
        · rw [hbA] at e; injection e with e; exact hnb e
        · rw [hbA] at e; injection e with e; exact hnb e
        · rw [hbA] at e; injection e with e; omega)
      have HEb := Lib.hid (show OwEs ((wr.alloc (.cells #[.int .i64 (y : Int), .int .i64 0, .int .i64 0, .int .i64 0, .int .i64 0, .slice none 0 0, .int .i64 0, .int .i64 0, .slice none 0 0, .int .i64 0, .int .i64 0, .int .i64 0, .string ⟨#[]⟩, .string ⟨#[]⟩, .int .i64 0] 37)).setCell ⟨w.heap.size, 0, none⟩ (.slice A2 (r.length - 1) (cap' - 1))) v.heap.size R E.length rc E from (HE.out.below h0e).three (((Three.refl (wr.alloc (.cells #[.int .i64 (y : Int), .int .i64 0, .int .i64 0, .int .i64 0, .int .i64 0, .slice none 0 0, .int .i64 0, .int .i64 0, .slice none 0 0, .int .i64 0, .int .i64 0, .int .i64 0, .string ⟨#[]⟩, .string ⟨#[]⟩, .int .i64 0] 37)) w.heap.size w.heap.size wr.heap.size)).two (Two.ab (grown_cell (wr.alloc (.cells #[.int .i64 (y : Int), .int .i64 0, .int .i64 0, .int .i64 0, .int .i64 0, .slice none 0 0, .int .i64 0, .int .i64 0, .slice none 0 0, .int .i64 0, .int .i64 0, .int .i64 0, .string ⟨#[]⟩, .string ⟨#[]⟩, .int .i64 0] 37)) w.heap.size 0 _) w.heap.size)) HLv.out HLv.out (fun e => by have := (HE.out.lt.1 _ e).2; omega) (fun z hz => ⟨fun e => by have := ((HE.out.lt.2 z hz).1 _ e).2; omega, fun e => by have := ((HE.out.lt.2 z hz).2 _ e).2; omega⟩))
      have HSt := Lib.hid (show Ed.dEs (m - k) r true = ((Ed.dE (y : Int) r' true).1 :: (Ed.dEs (m - (k + 1)) (Ed.dE (y : Int) r' true).2.1 (Ed.dE (y : Int) r' true).2.2).1, (Ed.dEs (m - (k + 1)) (Ed.dE (y : Int) r' true).2.1 (Ed.dE (y : Int) r' true).2.2).2) by
        rw [HRr.out, show m - k = (m - (k + 1)) + 1 by omega]
        rfl)
      have HElt := Lib.hid (show ∀ z ∈ E, (∀ g, blkOf z.1.P = some g → g < wr.heap.size) ∧ (∀ g, blkOf z.1.t.P = some g → g < wr.heap.size) from fun z hz => ⟨fun g e => ((HE.out.lt.2 z hz).1 g e).2, fun g e => ((HE.out.lt.2 z hz).2 g e).2⟩)
      have HRlt := Lib.hid (show ∀ g, blkOf R = some g → v.heap.size ≤ g ∧ g < wr.heap.size from HE.out.lt.1)
      have HCR := Lib.hid (show 0 < r'.length → ∀ g, blkOf R = some g → blkOf A2 ≠ some g from fun _ g e => by
        have h := HC.out hpos g e
        rw [HA2.out]
        split <;> exact h)
      have hsb : v.heap.size ≤ ((wr.alloc (.cells #[.int .i64 (y : Int), .int .i64 0, .int .i64 0, .int .i64 0, .int .i64 0, .slice none 0 0, .int .i64 0, .int .i64 0, .slice none 0 0, .int .i64 0, .int .i64 0, .int .i64 0, .string ⟨#[]⟩, .string ⟨#[]⟩, .int .i64 0] 37)).setCell ⟨w.heap.size, 0, none⟩ (.slice A2 (r.length - 1) (cap' - 1))).heap.size := Nat.le_trans (Nat.le_trans hsz h0e.size) (grown_cell (wr.alloc (.cells #[.int .i64 (y : Int), .int .i64 0, .int .i64 0, .int .i64 0, .int .i64 0, .slice none 0 0, .int .i64 0, .int .i64 0, .slice none 0 0, .int .i64 0, .int .i64 0, .int .i64 0, .string ⟨#[]⟩, .string ⟨#[]⟩, .int .i64 0] 37)) w.heap.size 0 _).size
      have hxb : wr.heap.size < ((wr.alloc (.cells #[.int .i64 (y : Int), .int .i64 0, .int .i64 0, .int .i64 0, .int .i64 0, .slice none 0 0, .int .i64 0, .int .i64 0, .slice none 0 0, .int .i64 0, .int .i64 0, .int .i64 0, .string ⟨#[]⟩, .string ⟨#[]⟩, .int .i64 0] 37)).setCell ⟨w.heap.size, 0, none⟩ (.slice A2 (r.length - 1) (cap' - 1))).heap.size := HDs.out.lt.2
      have HBb := Lib.hid (show Below w.heap.size w ((wr.alloc (.cells #[.int .i64 (y : Int), .int .i64 0, .int .i64 0, .int .i64 0, .int .i64 0, .slice none 0 0, .int .i64 0, .int .i64 0, .slice none 0 0, .int .i64 0, .int .i64 0, .int .i64 0, .string ⟨#[]⟩, .string ⟨#[]⟩, .int .i64 0] 37)).setCell ⟨w.heap.size, 0, none⟩ (.slice A2 (r.length - 1) (cap' - 1))) from (HB.out.trans (h0e.mono HB.out.size)).grown (grown_cell (wr.alloc (.cells #[.int .i64 (y : Int), .int .i64 0, .int .i64 0, .int .i64 0, .int .i64 0, .slice none 0 0, .int .i64 0, .int .i64 0, .slice none 0 0, .int .i64 0, .int .i64 0, .int .i64 0, .string ⟨#[]⟩, .string ⟨#[]⟩, .int .i64 0] 37)) w.heap.size 0 _) (Nat.le_trans HB.out.size h0e.size) (fun g e => by injection e with e; omega))
      have HXw := Lib.hid HB.out.size
      clear hrl
      go_upto_region 9 with fail
      have e0 := HDs.out.x.at_ 0 rfl
      go_upto_block 2 with fail
      clear e0 r0 r1 hcy q0 g0 f0 hf1 HR HB HE HRe HC HA2 h0e HRr
      generalize ((wr.alloc (.cells #[.int .i64 (y : Int), .int .i64 0, .int .i64 0, .int .i64 0, .int .i64 0, .slice none 0 0, .int .i64 0, .int .i64 0, .slice none 0 0, .int .i64 0, .int .i64 0, .int .i64 0, .string ⟨#[]⟩, .string ⟨#[]⟩, .int .i64 0] 37)).setCell ⟨w.heap.size, 0, none⟩ (.slice A2 (r.length - 1) (cap' - 1))) = wb at *
      replace HDs : Hid (Ds wb wb w.heap.size wr.heap.size A2 (cap' - 1) r' true [.int .i64 (y : Int), .int .i64 0, .int .i64 0, .int .i64 0, .int .i64 0, .slice none 0 0, .int .i64 0, .int .i64 0, .slice none 0 0, .int .i64 0, .int .i64 0, .int .i64 0, .string ⟨#[]⟩, .string ⟨#[]⟩, .int .i64 0]) := HDs
      generalize wr.heap.size = xb at *
      go_cut [8] from 57 to 108 (fun s8 W => s8 = .pointer (some ⟨xb, 0, none⟩) ∧ ∃ (xe : Ed.Er) (ps qs : List (Int × Int)) (A3 : Option Addr) (cap3 : Nat), Hid (Ds wb W w.heap.size xb A3 cap3 (Ed.dE (y : Int) r' true).2.1 (Ed.dE (y : Int) r' true).2.2 xe.cells) ∧ Hid (OwP W wb.heap.size xe.P xe.pn xe.pc ps) ∧ Hid (OwP W wb.heap.size xe.t.P xe.t.pn xe.t.pc qs) ∧ Hid (Ed.etOf (xe, (ps, qs)) = (Ed.dE (y : Int) r' true).1) ∧ Hid (0 < (Ed.dE (y : Int) r' true).2.1.length → ∀ g, blkOf R = some g → blkOf A3 ≠ some g))
      case first =>
        have HZs := Lib.hid (Dz.begin HDs.out (fun g hg => Nat.lt_trans (HRlt.out g hg).2 HDs.out.lt.2) HCR.out)
        have HQ0 := Lib.hid True.intro
        try clear HDs
        try clear HSt
        try clear HEb
        try clear HElt
        try clear HBb
        try clear HXw
        try clear HCR
        try clear HRlt
        try clear hlt
        try clear hki
        try clear hk64
        try clear hk0
        try clear hpi
        try clear hpos
        by_cases hk1 : (y : Int) = 1
        · have e1 : ((y : Int) == 1) = true := by simp [hk1]
          obtain ⟨q1, hq1⟩ : ∃ q, Ed.dN r' true = q := ⟨_, rfl⟩
          have HdE := Lib.hid (show Ed.dE (y : Int) r' true = (⟨(y : Int), 0, q1.1, Ed.noP, Ed.noT⟩, q1.2) by unfold Ed.dE; rw [if_pos (Or.inl hk1), hq1])
          have HQ1 := Lib.hid hq1
          clear hq1
          clear hk1
          have C1 := Lib.hid (dnum_any w.heap.size r' true wb A2 (cap' - 1) HZs.out.d.rr)
          rw [HQ1.out] at C1
          go_wp2_with fail
          refine C1.out.mono ?_
          clear C1
          rintro e v3 hg
          obtain ⟨A3, c3, hD⟩ := HZs.out.num hg
          obtain rfl := hg.1
          have x1_0 := hD.d.x.at_ 2 rfl
          have g1_0 := hD.d.x.2.2 2
          have HZ1 := Lib.hid (hD.set 2 (.int .i64 q1.1) (by simp))
          clear hg hD HZs
          go_wp2
          go_meet
          case rel =>
            rw [HdE.out]
            exact ⟨rfl, (⟨(y : Int), 0, q1.1, 0, 0, none, 0, 0, ⟨0, 0, none, 0, 0, 0, 0, 0, ⟨#[]⟩, ⟨#[]⟩, 0⟩⟩ : Ed.Er), [], [], A3, c3, Lib.hid HZ1.out.d, Lib.hid HZ1.out.p, Lib.hid HZ1.out.q, Lib.hid rfl, Lib.hid HZ1.out.clr⟩
        have e1 : ((y : Int) == 1) = false := by simp [hk1]
        by_cases hk2 : (y : Int) = 2
        · have e2 : ((y : Int) == 2) = true := by simp [hk2]
          obtain ⟨q1, hq1⟩ : ∃ q, Ed.dN r' true = q := ⟨_, rfl⟩
          have HdE := Lib.hid (show Ed.dE (y : Int) r' true = (⟨(y : Int), 0, q1.1, Ed.noP, Ed.noT⟩, q1.2) by unfold Ed.dE; rw [if_pos (Or.inr hk2), hq1])
          have HQ1 := Lib.hid hq1
          clear hq1
          clear hk1 hk2
          have C1 := Lib.hid (dnum_any w.heap.size r' true wb A2 (cap' - 1) HZs.out.d.rr)
          rw [HQ1.out] at C1
          go_wp2_with fail
          refine C1.out.mono ?_
          clear C1
          rintro e v3 hg
          obtain ⟨A3, c3, hD⟩ := HZs.out.num hg
          obtain rfl := hg.1
          have x1_0 := hD.d.x.at_ 2 rfl
          have g1_0 := hD.d.x.2.2 2
          have HZ1 := Lib.hid (hD.set 2 (.int .i64 q1.1) (by simp))
          clear hg hD HZs
          go_wp2
          go_meet
          case rel =>
            rw [HdE.out]
            exact ⟨rfl, (⟨(y : Int), 0, q1.1, 0, 0, none, 0, 0, ⟨0, 0, none, 0, 0, 0, 0, 0, ⟨#[]⟩, ⟨#[]⟩, 0⟩⟩ : Ed.Er), [], [], A3, c3, Lib.hid HZ1.out.d, Lib.hid HZ1.out.p, Lib.hid HZ1.out.q, Lib.hid rfl, Lib.hid HZ1.out.clr⟩
        have e2 : ((y : Int) == 2) = false := by simp [hk2]
        by_cases hk4 : (y : Int) = 4
        · have e4 : ((y : Int) == 4) = true := by simp [hk4]
          obtain ⟨q1, hq1⟩ : ∃ q, Ed.dN r' true = q := ⟨_, rfl⟩
          obtain ⟨q2, hq2⟩ : ∃ q, Ed.dN q1.2.1 q1.2.2 = q := ⟨_, rfl⟩
          have HdE := Lib.hid (show Ed.dE (y : Int) r' true = (⟨(y : Int), q1.1, q2.1, Ed.noP, Ed.noT⟩, q2.2) by unfold Ed.dE; rw [if_neg (by rintro (h | h) <;> omega), if_pos hk4, hq1, hq2])
          have HQ1 := Lib.hid hq1
          have HQ2 := Lib.hid hq2
          clear hq1 hq2
          clear hk1 hk2 hk4
          have C1 := Lib.hid (dnum_any w.heap.size r' true wb A2 (cap' - 1) HZs.out.d.rr)
          rw [HQ1.out] at C1
          go_wp2_with fail
          refine C1.out.mono ?_
          clear C1
          rintro e v3 hg
          obtain ⟨A3, c3, hD⟩ := HZs.out.num hg
          obtain rfl := hg.1
          have x1_0 := hD.d.x.at_ 1 rfl
          have g1_0 := hD.d.x.2.2 1
          have HZ1 := Lib.hid (hD.set 1 (.int .i64 q1.1) (by simp))
          clear hg hD HZs
          have C2 := Lib.hid (dnum_any w.heap.size q1.2.1 q1.2.2 (v3.setCell ⟨xb, 1, none⟩ (.int .i64 q1.1)) A3 c3 HZ1.out.d.rr)
          rw [HQ2.out] at C2
          go_wp2_with fail
          clear x1_0 g1_0
          refine C2.out.mono ?_
          clear C2
          rintro e v4 hg
          obtain ⟨A4, c4, hD⟩ := HZ1.out.num hg
          obtain rfl := hg.1
          have x2_0 := hD.d.x.at_ 2 rfl
          have g2_0 := hD.d.x.2.2 2
          have HZ2 := Lib.hid (hD.set 2 (.int .i64 q2.1) (by simp))
          clear hg hD HZ1
          go_wp2
          go_meet
          case rel =>
            rw [HdE.out]
            exact ⟨rfl, (⟨(y : Int), q1.1, q2.1, 0, 0, none, 0, 0, ⟨0, 0, none, 0, 0, 0, 0, 0, ⟨#[]⟩, ⟨#[]⟩, 0⟩⟩ : Ed.Er), [], [], A4, c4, Lib.hid HZ2.out.d, Lib.hid HZ2.out.p, Lib.hid HZ2.out.q, Lib.hid rfl, Lib.hid HZ2.out.clr⟩
        have e4 : ((y : Int) == 4) = false := by simp [hk4]
        by_cases hk3 : (y : Int) = 3
        · have e3 : ((y : Int) == 3) = true := by simp [hk3]
          obtain ⟨q1, hq1⟩ : ∃ q, Ed.dP r' true = q := ⟨_, rfl⟩
          have HdE := Lib.hid (show Ed.dE (y : Int) r' true = (⟨(y : Int), 0, 0, q1.1, Ed.noT⟩, q1.2) by unfold Ed.dE; rw [if_neg (by rintro (h | h) <;> omega), if_neg (by omega), if_pos hk3, hq1])
          have HQ1 := Lib.hid hq1
          clear hq1
          clear hk1 hk2 hk4 hk3
          have C1 := Lib.hid (dplace_any w.heap.size A2 (cap' - 1) r' true wb HZs.out.d.rr)
          rw [HQ1.out] at C1
          go_wp2_with fail
          refine C1.out.mono ?_
          clear C1
          rintro e v3 hg
          obtain ⟨P1, pn1, pc1, A3, c3, rfl, hP1, hD⟩ := HZs.out.place hg
          have x1_0 := hD.d.x.at_ 3 rfl
          have g1_0 := hD.d.x.2.2 3
          have x1_1 := hD.d.x.at_ 4 rfl
          have g1_1 := hD.d.x.2.2 4
          have x1_2 := hD.d.x.at_ 5 rfl
          have g1_2 := hD.d.x.2.2 5
          have HZ1 := Lib.hid ((hD.keepP hP1).set3 (.int .i64 q1.1.id) (.int .i64 q1.1.ep) (.slice P1 pn1 pc1) (by simp))
          clear hP1
          clear hg hD HZs
          go_wp2
          go_meet
          case rel =>
            rw [HdE.out]
            exact ⟨rfl, (⟨(y : Int), 0, 0, q1.1.id, q1.1.ep, P1, pn1, pc1, ⟨0, 0, none, 0, 0, 0, 0, 0, ⟨#[]⟩, ⟨#[]⟩, 0⟩⟩ : Ed.Er), q1.1.ps, [], A3, c3, Lib.hid HZ1.out.d, Lib.hid HZ1.out.p, Lib.hid HZ1.out.q, Lib.hid rfl, Lib.hid HZ1.out.clr⟩
        have e3 : ((y : Int) == 3) = false := by simp [hk3]
        by_cases hk6 : (y : Int) = 6
        · have e6 : ((y : Int) == 6) = true := by simp [hk6]
          obtain ⟨q1, hq1⟩ : ∃ q, Ed.dP r' true = q := ⟨_, rfl⟩
          obtain ⟨q2, hq2⟩ : ∃ q, Ed.dN q1.2.1 q1.2.2 = q := ⟨_, rfl⟩
          obtain ⟨q3, hq3⟩ : ∃ q, Ed.dN q2.2.1 q2.2.2 = q := ⟨_, rfl⟩
          obtain ⟨q4, hq4⟩ : ∃ q, Ed.dN q3.2.1 q3.2.2 = q := ⟨_, rfl⟩
          obtain ⟨q5, hq5⟩ : ∃ q, Ed.dT q4.2.1 q4.2.2 = q := ⟨_, rfl⟩
          obtain ⟨q6, hq6⟩ : ∃ q, Ed.dT q5.2.1 q5.2.2 = q := ⟨_, rfl⟩
          obtain ⟨q7, hq7⟩ : ∃ q, Ed.dN q6.2.1 q6.2.2 = q := ⟨_, rfl⟩
          have HdE := Lib.hid (Ed.dE_six hk6 hq1 hq2 hq3 hq4 hq5 hq6 hq7)
          have HQ1 := Lib.hid hq1
          have HQ2 := Lib.hid hq2
          have HQ3 := Lib.hid hq3
          have HQ4 := Lib.hid hq4
          have HQ5 := Lib.hid hq5
          have HQ6 := Lib.hid hq6
          have HQ7 := Lib.hid hq7
          clear hq1 hq2 hq3 hq4 hq5 hq6 hq7
          clear hk1 hk2 hk4 hk3 hk6
          have C1 := Lib.hid (dplace_any w.heap.size A2 (cap' - 1) r' true wb HZs.out.d.rr)
          rw [HQ1.out] at C1
          go_wp2_with fail
          refine C1.out.mono ?_
          clear C1
          rintro e v3 hg
          obtain ⟨P1, pn1, pc1, A3, c3, rfl, hP1, hD⟩ := HZs.out.place hg
          have x1_0 := hD.d.x.at_ 6 rfl
          have g1_0 := hD.d.x.2.2 6
          have x1_1 := hD.d.x.at_ 7 rfl
          have g1_1 := hD.d.x.2.2 7
          have x1_2 := hD.d.x.at_ 8 rfl
          have g1_2 := hD.d.x.2.2 8
          have HZ1 := Lib.hid ((hD.keepQ hP1).set6 (.int .i64 q1.1.id) (.int .i64 q1.1.ep) (.slice P1 pn1 pc1) (by simp))
          clear hP1
          clear hg hD HZs
          have C2 := Lib.hid (dnum_any w.heap.size q1.2.1 q1.2.2 (((v3.setCell ⟨xb, 6, none⟩ (.int .i64 q1.1.id)).setCell ⟨xb, 7, none⟩ (.int .i64 q1.1.ep)).setCell ⟨xb, 8, none⟩ (.slice P1 pn1 pc1)) A3 c3 HZ1.out.d.rr)
          rw [HQ2.out] at C2
          go_wp2_with fail
          clear x1_0 g1_0 x1_1 g1_1 x1_2 g1_2
          refine C2.out.mono ?_
          clear C2
          rintro e v4 hg
          obtain ⟨A4, c4, hD⟩ := HZ1.out.num hg
          obtain rfl := hg.1
          have x2_0 := hD.d.x.at_ 9 rfl
          have g2_0 := hD.d.x.2.2 9
          have HZ2 := Lib.hid (hD.set 9 (.int .i64 q2.1) (by simp))
          clear hg hD HZ1
          have C3 := Lib.hid (dnum_any w.heap.size q2.2.1 q2.2.2 (v4.setCell ⟨xb, 9, none⟩ (.int .i64 q2.1)) A4 c4 HZ2.out.d.rr)
          rw [HQ3.out] at C3
          go_wp2_with fail
          clear x2_0 g2_0
          refine C3.out.mono ?_
          clear C3
          rintro e v5 hg
          obtain ⟨A5, c5, hD⟩ := HZ2.out.num hg
          obtain rfl := hg.1
          have x3_0 := hD.d.x.at_ 10 rfl
          have g3_0 := hD.d.x.2.2 10
          have HZ3 := Lib.hid (hD.set 10 (.int .i64 q3.1) (by simp))
          clear hg hD HZ2
          have C4 := Lib.hid (dnum_any w.heap.size q3.2.1 q3.2.2 (v5.setCell ⟨xb, 10, none⟩ (.int .i64 q3.1)) A5 c5 HZ3.out.d.rr)
          rw [HQ4.out] at C4
          go_wp2_with fail
          clear x3_0 g3_0
          refine C4.out.mono ?_
          clear C4
          rintro e v6 hg
          obtain ⟨A6, c6, hD⟩ := HZ3.out.num hg
          obtain rfl := hg.1
          have x4_0 := hD.d.x.at_ 11 rfl
          have g4_0 := hD.d.x.2.2 11
          have HZ4 := Lib.hid (hD.set 11 (.int .i64 q4.1) (by simp))
          clear hg hD HZ3
          have C5 := Lib.hid (dtext_any w.heap.size q4.2.1 q4.2.2 (v6.setCell ⟨xb, 11, none⟩ (.int .i64 q4.1)) A6 c6 HZ4.out.d.rr)
          rw [HQ5.out] at C5
          go_wp2_with fail
          clear x4_0 g4_0
          refine C5.out.mono ?_
          clear C5
          rintro e v7 hg
          obtain ⟨A7, c7, hD⟩ := HZ4.out.num hg
          obtain rfl := hg.1
          have x5_0 := hD.d.x.at_ 12 rfl
          have g5_0 := hD.d.x.2.2 12
          have HZ5 := Lib.hid (hD.set 12 (.string q5.1) (by simp))
          clear hg hD HZ4
          have C6 := Lib.hid (dtext_any w.heap.size q5.2.1 q5.2.2 (v7.setCell ⟨xb, 12, none⟩ (.string q5.1)) A7 c7 HZ5.out.d.rr)
          rw [HQ6.out] at C6
          go_wp2_with fail
          clear x5_0 g5_0
          refine C6.out.mono ?_
          clear C6
          rintro e v8 hg
          obtain ⟨A8, c8, hD⟩ := HZ5.out.num hg
          obtain rfl := hg.1
          have x6_0 := hD.d.x.at_ 13 rfl
          have g6_0 := hD.d.x.2.2 13
          have HZ6 := Lib.hid (hD.set 13 (.string q6.1) (by simp))
          clear hg hD HZ5
          have C7 := Lib.hid (dnum_any w.heap.size q6.2.1 q6.2.2 (v8.setCell ⟨xb, 13, none⟩ (.string q6.1)) A8 c8 HZ6.out.d.rr)
          rw [HQ7.out] at C7
          go_wp2_with fail
          clear x6_0 g6_0
          refine C7.out.mono ?_
          clear C7
          rintro e v9 hg
          obtain ⟨A9, c9, hD⟩ := HZ6.out.num hg
          obtain rfl := hg.1
          have x7_0 := hD.d.x.at_ 14 rfl
          have g7_0 := hD.d.x.2.2 14
          have HZ7 := Lib.hid (hD.set 14 (.int .i64 q7.1) (by simp))
          clear hg hD HZ6
          go_wp2
          go_meet
          case rel =>
            rw [HdE.out]
            exact ⟨rfl, (⟨(y : Int), 0, 0, 0, 0, none, 0, 0, ⟨q1.1.id, q1.1.ep, P1, pn1, pc1, q2.1, q3.1, q4.1, q5.1, q6.1, q7.1⟩⟩ : Ed.Er), [], q1.1.ps, A9, c9, Lib.hid HZ7.out.d, Lib.hid HZ7.out.p, Lib.hid HZ7.out.q, Lib.hid rfl, Lib.hid HZ7.out.clr⟩
        have e6 : ((y : Int) == 6) = false := by simp [hk6]
        obtain ⟨q1, hq1⟩ : ∃ q, Ed.dN r' true = q := ⟨_, rfl⟩
        have HdE := Lib.hid (show Ed.dE (y : Int) r' true = (⟨(y : Int), q1.1, 0, Ed.noP, Ed.noT⟩, q1.2) by unfold Ed.dE; rw [if_neg (by rintro (h | h) <;> omega), if_neg (by omega), if_neg (by omega), if_neg (by omega), hq1])
        have HQ1 := Lib.hid hq1
        clear hq1
        clear hk1 hk2 hk4 hk3 hk6
        have C1 := Lib.hid (dnum_any w.heap.size r' true wb A2 (cap' - 1) HZs.out.d.rr)
        rw [HQ1.out] at C1
        go_wp2_with fail
        refine C1.out.mono ?_
        clear C1
        rintro e v3 hg
        obtain ⟨A3, c3, hD⟩ := HZs.out.num hg
        obtain rfl := hg.1
        have x1_0 := hD.d.x.at_ 1 rfl
        have g1_0 := hD.d.x.2.2 1
        have HZ1 := Lib.hid (hD.set 1 (.int .i64 q1.1) (by simp))
        clear hg hD HZs
        go_wp2
        go_meet
        case rel =>
          rw [HdE.out]
          exact ⟨rfl, (⟨(y : Int), q1.1, 0, 0, 0, none, 0, 0, ⟨0, 0, none, 0, 0, 0, 0, 0, ⟨#[]⟩, ⟨#[]⟩, 0⟩⟩ : Ed.Er), [], [], A3, c3, Lib.hid HZ1.out.d, Lib.hid HZ1.out.p, Lib.hid HZ1.out.q, Lib.hid rfl, Lib.hid HZ1.out.clr⟩
      case rest =>
      obtain ⟨rfl, xx, ps, qs, A3, cap3, HD3, HOP, HOQ, het, HC3⟩ := hcut
      rename World => v2
      have HF := Lib.hid (Ed.detOf_fits het.out)
      rw [← het.out] at HSt
      clear het
      generalize (Ed.dE (y : Int) r' true).2 = nxt at *
      obtain ⟨kd, id, nn, pid, pep, P, pn, pc, ⟨tid, tep, Q, qn, qc, sz, lv, ct, lo, hi, tp⟩⟩ := xx
      have HX2 := Lib.hid (show Holds v2 xb [.int .i64 kd, .int .i64 id, .int .i64 nn, .int .i64 pid, .int .i64 pep, .slice P pn pc, .int .i64 tid, .int .i64 tep, .slice Q qn qc, .int .i64 sz, .int .i64 lv, .int .i64 ct, .string lo, .string hi, .int .i64 tp] from HD3.out.x)
      obtain ⟨x0, x1, x2, x3, x4, x5, x6, x7, x8, x9, x10, x11, x12, x13, x14⟩ := HX2.out.all15
      have HE2 := Lib.hid (HEb.out.three (show Three wb v2 w.heap.size w.heap.size xb from ⟨HD3.out.two.os, HD3.out.two.tape, HD3.out.two.output, HD3.out.two.size, fun k hk h1 _ h3 => HD3.out.two.block k hk h1 h3⟩) HLv.out HLv.out (fun e => by have := (HRlt.out _ e).2; omega) (fun z hz => ⟨fun e => by have := (HElt.out z hz).1 _ e; omega, fun e => by have := (HElt.out z hz).2 _ e; omega⟩))
      have HB2 := Lib.hid (HD3.out.two.far (base := w.heap.size) (Nat.le_refl _) HXw.out HBb.out (Nat.le_refl _))
      have hs2 := Nat.le_trans hsb HD3.out.two.size
      have HR2 := Lib.hid HD3.out.rr
      have ha2 : Below v2.heap.size v2 (v2.alloc (.cells #[.int .i64 kd, .int .i64 id, .int .i64 nn, .int .i64 pid, .int .i64 pep, .slice P pn pc, .int .i64 tid, .int .i64 tep, .slice Q qn qc, .int .i64 sz, .int .i64 lv, .int .i64 ct, .string lo, .string hi, .int .i64 tp] 37)) := (Below.refl _ _).alloc (Nat.le_refl _) _
      have hrd : RdC 15 (v2.alloc (.cells #[.int .i64 kd, .int .i64 id, .int .i64 nn, .int .i64 pid, .int .i64 pep, .slice P pn pc, .int .i64 tid, .int .i64 tep, .slice Q qn qc, .int .i64 sz, .int .i64 lv, .int .i64 ct, .string lo, .string hi, .int .i64 tp] 37)) (some ⟨v2.heap.size, 0, none⟩) 1 [.int .i64 kd, .int .i64 id, .int .i64 nn, .int .i64 pid, .int .i64 pep, .slice P pn pc, .int .i64 tid, .int .i64 tep, .slice Q qn qc, .int .i64 sz, .int .i64 lv, .int .i64 ct, .string lo, .string hi, .int .i64 tp] := by
        have h := Holds.new v2 #[.int .i64 kd, .int .i64 id, .int .i64 nn, .int .i64 pid, .int .i64 pep, .slice P pn pc, .int .i64 tid, .int .i64 tep, .slice Q qn qc, .int .i64 sz, .int .i64 lv, .int .i64 ct, .string lo, .string hi, .int .i64 tp] 37
        refine ⟨rfl, fun _ => ⟨_, 0, rfl, by simp, fun j q hq => ?_⟩⟩
        rw [Nat.zero_add]
        exact h.at_ j hq
      have HEa := Lib.hid (HE2.out.below ha2)
      have hba2 := Nat.le_trans hs2 ha2.size
      have hElm : E.length + 1 ≤ 1000000 := by have := HEl.out; omega
      clear HD3 HEb HDs HX2
      go_wp2_with (at_builtin; refine wpList_appC manyE rfl (.tmp 109) (.tmp 111) rfl rfl HEa.out.row ⟨v2.heap.size, 0, none⟩ 1 1 [.int .i64 kd, .int .i64 id, .int .i64 nn, .int .i64 pid, .int .i64 pep, .slice P pn pc, .int .i64 tid, .int .i64 tep, .slice Q qn qc, .int .i64 sz, .int .i64 lv, .int .i64 ct, .string lo, .string hi, .int .i64 tp] (Ed.er_one ⟨kd, id, nn, pid, pep, P, pn, pc, ⟨tid, tep, Q, qn, qc, sz, lv, ct, lo, hi, tp⟩⟩) rfl hrd hElm hba2 ?_; intro R4 c4 v4 hg4)
      have hrow : ∀ g, (Value.slice R E.length rc).ownBlock = some g → v.heap.size ≤ g := fun g e => (HEa.out.row.blk g e).1
      have HEn := Lib.hid (HEa.out.more (x := ((⟨kd, id, nn, pid, pep, P, pn, pc, ⟨tid, tep, Q, qn, qc, sz, lv, ct, lo, hi, tp⟩⟩ : Ed.Er), (ps, qs))) hg4 ((HOP.out.below ha2).base_ hsb) ((HOQ.out.below ha2).base_ hsb) HF.out (fun g e1 e2 => by have := (HOP.out.lt g e1).1; have := (HRlt.out g e2).2; omega) (fun g e1 e2 => by have := (HOQ.out.lt g e1).1; have := (HRlt.out g e2).2; omega))
      have hR3 := HR2.out.below ha2
      have HRn := Lib.hid (Rr.grown hR3 hg4.grew (fun e => by have := hrow _ e; have := HLv.out; omega) (fun h0 e => by
        obtain ⟨bb, oo, hA, _⟩ := hR3.2.1.2.2 h0
        have e2 : blkOf A3 = some bb := by rw [hA]; rfl
        rw [e2, ownBlock_eq] at e
        exact HC3.out h0 bb e.symm e2))
      have HCn := Lib.hid (show 0 < nxt.1.length → ∀ g, blkOf R4 = some g → blkOf A3 ≠ some g from fun h0 g e e2 => by
        rcases hg4.blk with hB | hB
        · rw [ownBlock_eq, ownBlock_eq, e] at hB
          exact HC3.out h0 g hB.symm e2
        · rw [ownBlock_eq, e] at hB
          injection hB with hB
          have h1 := hR3.blk h0 e2
          omega)
      have HBn := Lib.hid (show Below w.heap.size w v4 from ((HB2.out.trans (ha2.mono HB2.out.size)).grown hg4.grew (Nat.le_trans HB2.out.size ha2.size) (fun g e => by have := hrow g e; have := HLv.out; omega)))
      have hsn := Nat.le_trans hba2 hg4.grew.size
      have HDn := Lib.hid (show Ed.dEs m x.2.1 x.2.2 = ((E ++ [((⟨kd, id, nn, pid, pep, P, pn, pc, ⟨tid, tep, Q, qn, qc, sz, lv, ct, lo, hi, tp⟩⟩ : Ed.Er), (ps, qs))]).map Ed.etOf ++ (Ed.dEs (m - (k + 1)) nxt.1 nxt.2).1, (Ed.dEs (m - (k + 1)) nxt.1 nxt.2).2) by rw [HD.out, HSt.out]; simp [List.map_append])
      have hlen : (E ++ [((⟨kd, id, nn, pid, pep, P, pn, pc, ⟨tid, tep, Q, qn, qc, sz, lv, ct, lo, hi, tp⟩⟩ : Ed.Er), (ps, qs))]).length = E.length + 1 := by rw [List.length_append]; rfl
      have HEln := Lib.hid (show (E ++ [((⟨kd, id, nn, pid, pep, P, pn, pc, ⟨tid, tep, Q, qn, qc, sz, lv, ct, lo, hi, tp⟩⟩ : Ed.Er), (ps, qs))]).length = k + 1 by rw [hlen, HEl.out])
      rw [← hlen] at HEn
      clear x0 x1 x2 x3 x4 x5 x6 x7 x8 x9 x10 x11 x12 x13 x14 hg4 hrow HEa HE2 hrd ha2 HOP HOQ HF HSt HB2 HR2 hR3 HC3 HD
      generalize E ++ [((⟨kd, id, nn, pid, pep, P, pn, pc, ⟨tid, tep, Q, qn, qc, sz, lv, ct, lo, hi, tp⟩⟩ : Ed.Er), (ps, qs))] = En at *
      rw [← hlen]
      go_roundw
      case rel => exact ⟨k + 1, En, R4, c4, nxt.1, nxt.2, A3, cap3, by omega, by go_num, rfl, HRn, HCn, HEn, HEln, HDn, HBn, hsn⟩
      case measure => simp [intOf]; omega
    · have HD2 := Lib.hid (show al = (E.map Ed.etOf, o) by
        rw [HAll.out, HD.out]
        by_cases ho : o = true
        · by_cases hk2 : k < m
          · have hz : r = [] := List.eq_nil_of_length_eq_zero (by have : ¬ 0 < r.length := fun h => hgo ⟨hk2, ho, h⟩; omega)
            rw [hz, Ed.dEs_nil]
            simp
          · rw [show m - k = 0 by omega]
            simp [Ed.dEs]
        · rw [show o = false by simpa using ho, Ed.dEs_no]
          simp)
      have C2 := Lib.hid (rbytes_any R E.length rc E wr HE.out.rd (by have := HEl.out; omega))
      have HRw := Lib.hid (HR0.out.below HB.out)
      have hk0 : (0 : Int) ≤ (k : Int) := by omega
      have hgo0 := hgo
      clear hgo
      have HEE := Lib.hid (HE.out.base_ (show w.heap.size ≤ v.heap.size by have := HLv.out; omega))
      have HRr1 := Lib.hid (fun (W : World) (h : Below wr.heap.size wr W) => (HR.out.below h).1.at_ 1 rfl)
      clear HE HC HD
      rw [HD2.out] at HRes
      clear HD2 HAll
      dsimp only at HRes
      by_cases hki : (k : Int) < x.1
      · by_cases hk64 : (k : Int) ≤ 256
        · cases o with
          | false =>
            go_wp2_with fail
            refine C2.out.mono ?_
            rintro e v2 ⟨hb2, h1, h2, h3⟩
            have HB2 := Lib.hid (below_next HB.out hb2)
            have HE2 := Lib.hid (HEE.out.below hb2)
            have HR2 := Lib.hid (HRw.out.below hb2)
            have r2 := HRr1.out v2 hb2
            clear hb2 r0 r1 C2
            have HG := Lib.hid (show res = none by rw [HRes.out]; simp)
            have he : ∃ s n2, e = .returned (.tuple #[s, .int .i64 n2]) := by
              by_cases h256 : 256 < (E.map Ed.etOf).length
              · exact ⟨_, _, h1 h256⟩
              · cases hall : (E.map Ed.etOf).all Ed.Et.ok with
                | false => exact ⟨_, _, h2 (by omega) hall⟩
                | true =>
                  obtain ⟨B, bc, he, _⟩ := h3 (by omega) hall
                  exact ⟨_, _, he⟩
            obtain ⟨s, n2, rfl⟩ := he
            clear h1 h2 h3 HRes
            go_wp2
            go_ret2
            rw [HG.out]
            exact ⟨HB2.out, rfl⟩
          | true =>
            have hz : r.length = 0 := by have : ¬ 0 < r.length := fun h => hgo0 ⟨by omega, rfl, h⟩; omega
            have hzi : ¬ (0 : Int) < (r.length : Int) := by omega
            go_wp2_with fail
            refine C2.out.mono ?_
            rintro e v2 ⟨hb2, h1, h2, h3⟩
            have HB2 := Lib.hid (below_next HB.out hb2)
            have HE2 := Lib.hid (HEE.out.below hb2)
            have HR2 := Lib.hid (HRw.out.below hb2)
            have r2 := HRr1.out v2 hb2
            clear hb2 r0 r1 C2
            by_cases h256 : 256 < (E.map Ed.etOf).length
            · obtain rfl := h1 h256
              have HG := Lib.hid (show res = none by rw [HRes.out, if_neg (fun h => by have := h.2.1; omega)])
              clear HRes h1 h2 h3
              go_wp2
              go_ret2
              rw [HG.out]
              exact ⟨HB2.out, rfl⟩
            cases hall : (E.map Ed.etOf).all Ed.Et.ok with
            | false =>
              obtain rfl := h2 (by omega) hall
              have HG := Lib.hid (show res = none by rw [HRes.out, if_neg (fun h => by rw [hall] at h; exact absurd h.2.2.1 (by decide))])
              clear HRes h1 h2 h3
              go_wp2
              go_ret2
              rw [HG.out]
              exact ⟨HB2.out, rfl⟩
            | true =>
              obtain ⟨B, bc, rfl, hOb⟩ := h3 (by omega) hall
              have hle : (E.map Ed.etOf).length ≤ 256 := by omega
              clear h1 h2 h3 h256
              have s1 := run_str hOb.rd (cap := bc)
              have s2 := run_str HR2.out (cap := cap)
              have hlb : ∀ y ∈ Ed.bytes (E.map Ed.etOf), y < 256 := hOb.2.1
              have hll : ∀ y ∈ l, y < 256 := HR2.out.2.1
              obtain ⟨bb, hbb⟩ : ∃ bb, bb = Ed.bytes (E.map Ed.etOf) := ⟨_, rfl⟩
              rw [← hbb] at s1 hlb HRes
              rw [← hbb]
              by_cases hbe : bb = l
              · have HG := Lib.hid (show res = some (E.map Ed.etOf) by rw [HRes.out, if_pos ⟨by trivial, hle, hall, hbe⟩])
                have e1 := str_same hbe
                clear hbb HRes hOb hbe hlb hll
                go_wp2
                go_ret2
                rw [HG.out]
                exact ⟨HB2.out, R, rc, E, rfl, rfl, HE2.out⟩
              · have HG := Lib.hid (show res = none by rw [HRes.out, if_neg (fun h => hbe h.2.2.2)])
                have e1 := str_other hlb hll hbe
                clear hbb HRes hOb hbe hlb hll
                go_wp2
                go_ret2
                rw [HG.out]
                exact ⟨HB2.out, rfl⟩
        · skip
          go_wp2_with fail
          refine C2.out.mono ?_
          rintro e v2 ⟨hb2, h1, h2, h3⟩
          have HB2 := Lib.hid (below_next HB.out hb2)
          have HE2 := Lib.hid (HEE.out.below hb2)
          have HR2 := Lib.hid (HRw.out.below hb2)
          have r2 := HRr1.out v2 hb2
          clear hb2 r0 r1 C2
          cases o with
          | false =>
            have HG := Lib.hid (show res = none by rw [HRes.out]; simp)
            have he : ∃ s n2, e = .returned (.tuple #[s, .int .i64 n2]) := by
              by_cases h256 : 256 < (E.map Ed.etOf).length
              · exact ⟨_, _, h1 h256⟩
              · cases hall : (E.map Ed.etOf).all Ed.Et.ok with
                | false => exact ⟨_, _, h2 (by omega) hall⟩
                | true =>
                  obtain ⟨B, bc, he, _⟩ := h3 (by omega) hall
                  exact ⟨_, _, he⟩
            obtain ⟨s, n2, rfl⟩ := he
            clear h1 h2 h3 HRes
            go_wp2
            go_ret2
            rw [HG.out]
            exact ⟨HB2.out, rfl⟩
          | true =>
            by_cases h256 : 256 < (E.map Ed.etOf).length
            · obtain rfl := h1 h256
              have HG := Lib.hid (show res = none by rw [HRes.out, if_neg (fun h => by have := h.2.1; omega)])
              clear HRes h1 h2 h3
              go_wp2
              go_ret2
              rw [HG.out]
              exact ⟨HB2.out, rfl⟩
            cases hall : (E.map Ed.etOf).all Ed.Et.ok with
            | false =>
              obtain rfl := h2 (by omega) hall
              have HG := Lib.hid (show res = none by rw [HRes.out, if_neg (fun h => by rw [hall] at h; exact absurd h.2.2.1 (by decide))])
              clear HRes h1 h2 h3
              go_wp2
              go_ret2
              rw [HG.out]
              exact ⟨HB2.out, rfl⟩
            | true =>
              obtain ⟨B, bc, rfl, hOb⟩ := h3 (by omega) hall
              have hle : (E.map Ed.etOf).length ≤ 256 := by omega
              clear h1 h2 h3 h256
              have s1 := run_str hOb.rd (cap := bc)
              have s2 := run_str HR2.out (cap := cap)
              have hlb : ∀ y ∈ Ed.bytes (E.map Ed.etOf), y < 256 := hOb.2.1
              have hll : ∀ y ∈ l, y < 256 := HR2.out.2.1
              obtain ⟨bb, hbb⟩ : ∃ bb, bb = Ed.bytes (E.map Ed.etOf) := ⟨_, rfl⟩
              rw [← hbb] at s1 hlb HRes
              rw [← hbb]
              by_cases hbe : bb = l
              · have HG := Lib.hid (show res = some (E.map Ed.etOf) by rw [HRes.out, if_pos ⟨by trivial, hle, hall, hbe⟩])
                have e1 := str_same hbe
                clear hbb HRes hOb hbe hlb hll
                go_wp2
                go_ret2
                rw [HG.out]
                exact ⟨HB2.out, R, rc, E, rfl, rfl, HE2.out⟩
              · have HG := Lib.hid (show res = none by rw [HRes.out, if_neg (fun h => hbe h.2.2.2)])
                have e1 := str_other hlb hll hbe
                clear hbb HRes hOb hbe hlb hll
                go_wp2
                go_ret2
                rw [HG.out]
                exact ⟨HB2.out, rfl⟩
      · skip
        go_wp2_with fail
        refine C2.out.mono ?_
        rintro e v2 ⟨hb2, h1, h2, h3⟩
        have HB2 := Lib.hid (below_next HB.out hb2)
        have HE2 := Lib.hid (HEE.out.below hb2)
        have HR2 := Lib.hid (HRw.out.below hb2)
        have r2 := HRr1.out v2 hb2
        clear hb2 r0 r1 C2
        cases o with
        | false =>
          have HG := Lib.hid (show res = none by rw [HRes.out]; simp)
          have he : ∃ s n2, e = .returned (.tuple #[s, .int .i64 n2]) := by
            by_cases h256 : 256 < (E.map Ed.etOf).length
            · exact ⟨_, _, h1 h256⟩
            · cases hall : (E.map Ed.etOf).all Ed.Et.ok with
              | false => exact ⟨_, _, h2 (by omega) hall⟩
              | true =>
                obtain ⟨B, bc, he, _⟩ := h3 (by omega) hall
                exact ⟨_, _, he⟩
          obtain ⟨s, n2, rfl⟩ := he
          clear h1 h2 h3 HRes
          go_wp2
          go_ret2
          rw [HG.out]
          exact ⟨HB2.out, rfl⟩
        | true =>
          by_cases h256 : 256 < (E.map Ed.etOf).length
          · obtain rfl := h1 h256
            have HG := Lib.hid (show res = none by rw [HRes.out, if_neg (fun h => by have := h.2.1; omega)])
            clear HRes h1 h2 h3
            go_wp2
            go_ret2
            rw [HG.out]
            exact ⟨HB2.out, rfl⟩
          cases hall : (E.map Ed.etOf).all Ed.Et.ok with
          | false =>
            obtain rfl := h2 (by omega) hall
            have HG := Lib.hid (show res = none by rw [HRes.out, if_neg (fun h => by rw [hall] at h; exact absurd h.2.2.1 (by decide))])
            clear HRes h1 h2 h3
            go_wp2
            go_ret2
            rw [HG.out]
            exact ⟨HB2.out, rfl⟩
          | true =>
            obtain ⟨B, bc, rfl, hOb⟩ := h3 (by omega) hall
            have hle : (E.map Ed.etOf).length ≤ 256 := by omega
            clear h1 h2 h3 h256
            have s1 := run_str hOb.rd (cap := bc)
            have s2 := run_str HR2.out (cap := cap)
            have hlb : ∀ y ∈ Ed.bytes (E.map Ed.etOf), y < 256 := hOb.2.1
            have hll : ∀ y ∈ l, y < 256 := HR2.out.2.1
            obtain ⟨bb, hbb⟩ : ∃ bb, bb = Ed.bytes (E.map Ed.etOf) := ⟨_, rfl⟩
            rw [← hbb] at s1 hlb HRes
            rw [← hbb]
            by_cases hbe : bb = l
            · have HG := Lib.hid (show res = some (E.map Ed.etOf) by rw [HRes.out, if_pos ⟨by trivial, hle, hall, hbe⟩])
              have e1 := str_same hbe
              clear hbb HRes hOb hbe hlb hll
              go_wp2
              go_ret2
              rw [HG.out]
              exact ⟨HB2.out, R, rc, E, rfl, rfl, HE2.out⟩
            · have HG := Lib.hid (show res = none by rw [HRes.out, if_neg (fun h => hbe h.2.2.2)])
              have e1 := str_other hlb hll hbe
              clear hbb HRes hOb hbe hlb hll
              go_wp2
              go_ret2
              rw [HG.out]
              exact ⟨HB2.out, rfl⟩
end Go.Proofs.YthfcjlndaajkfaaGreat
