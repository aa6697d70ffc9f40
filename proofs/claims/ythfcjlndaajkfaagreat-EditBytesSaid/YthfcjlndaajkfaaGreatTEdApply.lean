/- edit.Apply: what edits make of a version. -/
import Derived.Test.YthfcjlndaajkfaaGreatG12
import Derived.Test.YthfcjlndaajkfaaGreatTEdCheck
import Derived.Test.YthfcjlndaajkfaaGreatG09
namespace Go.Proofs.YthfcjlndaajkfaaGreat
open Go.RowKit
set_option linter.unusedVariables false
/-- What Apply hands back: a version in memory of the call's own, a number, an error's number. -/
def GivesAp (w : World) (r : Ed.Ve × Nat × Nat) (e : Ending) (w' : World) : Prop :=
  ∃ A n c L B m d M, e = .returned (.tuple #[.agg #[.int .i64 r.1.nx, .int .i64 r.1.sq, .slice A n c, .slice B m d], .int .i64 (r.2.1 : Int), .int .i64 (r.2.2 : Int)]) ∧ OwV w' w.heap.size A n c L B m d M ∧ L.map Ed.loOf = r.1.ls ∧ M.map Ed.taOf = r.1.ts ∧ Below w.heap.size w w'
theorem OwV.none_ (w : World) (base : Nat) : OwV w base none 0 0 [] none 0 0 [] :=
  ⟨⟨rfl, OwnC.none_ _ _ _ _, (fun x hx => nomatch hx), (fun x hx => nomatch hx), (fun x hx => nomatch hx)⟩, ⟨rfl, OwnC.none_ _ _ _ _, (fun x hx => nomatch hx), (fun x hx => nomatch hx), (fun x hx => nomatch hx)⟩, (fun g h => nomatch h), (fun x hx => nomatch hx), (fun x hx => nomatch hx)⟩
theorem GivesAp.no {w z : World} {k c : Nat} (hb : Below w.heap.size w z) : GivesAp w (Ed.noV, k, c) (.returned (.tuple #[.agg #[.int .i64 0, .int .i64 0, .slice none 0 0, .slice none 0 0], .int .i64 (k : Int), .int .i64 (c : Int)])) z :=
  ⟨none, 0, 0, [], none, 0, 0, [], rfl, OwV.none_ _ _, rfl, rfl, hb⟩
theorem Ed.go_cons (v : Ed.Ve) (e : Ed.Et) (r : List Ed.Et) (i : Nat) : Ed.go v (e :: r) i = if e.ok then match Ed.do1 v e with | some v' => Ed.go v' r (i + 1) | none => (Ed.noV, i, 150) else (Ed.noV, i, 150) := rfl
theorem StV.start {w : World} {base : Nat} {nx sq : Int} {A : Option Addr} {n c : Nat} {L : List (Ed.Lg × List (Int × Int))} {B : Option Addr} {m d : Nat} {M : List (Pk.Tb × List (Int × Int))} (h : OwV w base A n c L B m d M) (hb : base ≤ w.heap.size) (ty : TypeId) : StV (w.alloc (.cells #[.int .i64 nx, .int .i64 sq, .slice A n c, .slice B m d] ty)) base w.heap.size nx sq A n c L B m d M := by
  have hal : Below w.heap.size w (w.alloc (.cells #[.int .i64 nx, .int .i64 sq, .slice A n c, .slice B m d] ty)) := (Below.refl _ _).alloc (Nat.le_refl _) _
  refine ⟨Holds.new w #[.int .i64 nx, .int .i64 sq, .slice A n c, .slice B m d] ty, h.below hal, fun e => ?_, fun e => ?_, fun x hx e => ?_, fun x hx e => ?_, hb⟩
  · have := (h.ls.row.blk _ (by rw [ownBlock_eq]; exact e)).2; omega
  · have := (h.ts.row.blk _ (by rw [ownBlock_eq]; exact e)).2; omega
  · have := ((h.ls.prs x hx).lt _ e).2; omega
  · have := ((h.ts.prs x hx).lt _ e).2; omega
set_option maxRecDepth 100000 in
set_option maxHeartbeats 32000000 in
theorem apply_any (nx sq : Int) (A0 : Option Addr) (n0 c0 : Nat) (B0 : Option Addr) (m0 d0 : Nat) (L0 : List (Ed.Lg × List (Int × Int))) (M0 : List (Pk.Tb × List (Int × Int))) (Aq : Option Addr) (q qc : Nat) (E : List Ed.Ex) (w : World) (hL : RdLs w A0 n0 L0) (hM : RdTs w B0 m0 M0) (hE : RdEs w Aq q E) (hq : q ≤ 10000) :
    Calls Tryz.prog 19 #[.agg #[.int .i64 nx, .int .i64 sq, .slice A0 n0 c0, .slice B0 m0 d0], .slice Aq q qc] w (GivesAp w (Ed.apply ⟨nx, sq, L0.map Ed.loOf, M0.map Ed.taOf⟩ (E.map Ed.etOf))) := by
  have hb2 : Below w.heap.size w ((w.alloc (.cells #[.int .i64 nx, .int .i64 sq, .slice A0 n0 c0, .slice B0 m0 d0] 25)).alloc (.cells #[.int .i64 0, .int .i64 0, .slice none 0 0, .slice none 0 0] 25)) := ((Below.refl _ _).alloc (Nat.le_refl _) _).alloc (by simp) _
  have HX := Lib.hid ((Holds.new w #[.int .i64 nx, .int .i64 sq, .slice A0 n0 c0, .slice B0 m0 d0] 25).alloc (.cells #[.int .i64 0, .int .i64 0, .slice none 0 0, .slice none 0 0] 25))
  have HY := Lib.hid (Holds.new (w.alloc (.cells #[.int .i64 nx, .int .i64 sq, .slice A0 n0 c0, .slice B0 m0 d0] 25)) #[.int .i64 0, .int .i64 0, .slice none 0 0, .slice none 0 0] 25)
  have HS := Lib.hid (show ((w.alloc (.cells #[.int .i64 nx, .int .i64 sq, .slice A0 n0 c0, .slice B0 m0 d0] 25)).alloc (.cells #[.int .i64 0, .int .i64 0, .slice none 0 0, .slice none 0 0] 25)).heap.size = w.heap.size + 2 by simp)
  have HB := Lib.hid hb2
  have HL := Lib.hid (hL.below hb2)
  have HM := Lib.hid (hM.below hb2)
  have HE := Lib.hid (hE.below hb2)
  have HEl := Lib.hid hE.1
  clear hb2 hL hM hE
  generalize hans : Ed.apply ⟨nx, sq, L0.map Ed.loOf, M0.map Ed.taOf⟩ (E.map Ed.etOf) = r
  have HA := Lib.hid (show (if (⟨nx, sq, L0.map Ed.loOf, M0.map Ed.taOf⟩ : Ed.Ve).ok then Ed.go ⟨nx, sq, L0.map Ed.loOf, M0.map Ed.taOf⟩ (E.map Ed.etOf) 0 else (Ed.noV, 0, 151)) = r from hans)
  clear hans
  go_enter Tryz.func19, Tryz.ntmps19
  go_upto_region 1 with fail
  generalize ((w.alloc (.cells #[.int .i64 nx, .int .i64 sq, .slice A0 n0 c0, .slice B0 m0 d0] 25)).alloc (.cells #[.int .i64 0, .int .i64 0, .slice none 0 0, .slice none 0 0] 25)) = u at *
  replace HX : Hid (Holds u w.heap.size [.int .i64 nx, .int .i64 sq, .slice A0 n0 c0, .slice B0 m0 d0]) := HX
  replace HY : Hid (Holds u (w.heap.size + 1) [.int .i64 0, .int .i64 0, .slice none 0 0, .slice none 0 0]) := Lib.hid (by have h := HY.out; rw [show (w.alloc (.cells #[.int .i64 nx, .int .i64 sq, .slice A0 n0 c0, .slice B0 m0 d0] 25)).heap.size = w.heap.size + 1 by simp] at h; exact h)
  have C := Lib.hid (check_any nx sq A0 n0 c0 B0 m0 d0 L0 M0 u HL.out HM.out)
  have HSa := Lib.hid (Ed.Sane.of_ok (v := ⟨nx, sq, L0.map Ed.loOf, M0.map Ed.taOf⟩))
  have HOq := Lib.hid (Ed.ok_eq ⟨nx, sq, L0.map Ed.loOf, M0.map Ed.taOf⟩)
  dsimp only at HOq
  obtain ⟨x0, x1, x2, x3⟩ := HX.out.all4
  generalize (⟨nx, sq, L0.map Ed.loOf, M0.map Ed.taOf⟩ : Ed.Ve).ok = okb at *
  cases okb with
  | false =>
    have HF := Lib.hid (show (Ed.noV, 0, 151) = r from HA.out)
    go_wp2_with fail
    refine C.out.mono ?_
    rintro e v ⟨rfl, hbv⟩
    have HYv := Lib.hid (HY.out.below hbv)
    have HBv := Lib.hid (below_next HB.out hbv)
    clear x0 x1 x2 x3 HY HX hbv HB
    have HZ := Lib.hid ((((HYv.out.set 0 (.int .i64 0) (by simp)).set 1 (.int .i64 0) (by simp)).set 2 (.slice none 0 0) (by simp)).set 3 (.slice none 0 0) (by simp))
    have HGr := Lib.hid ((grown_cell v (w.heap.size + 1) 0 (.int .i64 0)).trans ((grown_cell _ (w.heap.size + 1) 1 (.int .i64 0)).trans ((grown_cell _ (w.heap.size + 1) 2 (.slice none 0 0)).trans (grown_cell _ (w.heap.size + 1) 3 (.slice none 0 0)))))
    have HBz := Lib.hid (HBv.out.grown HGr.out HBv.out.size (fun g' e => by injection e with e; omega))
    obtain ⟨f0, f1, f2, f3⟩ := HYv.out.all4
    obtain ⟨g0, g1, g2, g3⟩ := HYv.out.free4
    go_wp2_with fail
    clear f0 f1 f2 f3 g0 g1 g2 g3 HGr HYv HBv
    generalize (((v.setCell ⟨w.heap.size + 1, 0, none⟩ (.int .i64 0)).setCell ⟨w.heap.size + 1, 1, none⟩ (.int .i64 0)).setCell ⟨w.heap.size + 1, 2, none⟩ (.slice none 0 0)).setCell ⟨w.heap.size + 1, 3, none⟩ (.slice none 0 0) = z at *
    obtain ⟨y0, y1, y2, y3⟩ := HZ.out.all4
    refine bodyPost_ret (v := .tuple #[.agg #[.int .i64 0, .int .i64 0, .slice none 0 0, .slice none 0 0], .int .i64 0, .int .i64 151]) ?_ rfl (by rw [← HF.out]; exact GivesAp.no HBz.out)
    simp [results, Tryz.results19, go_sem, y0, y1, y2, y3]
  | true =>
  have HG0 := Lib.hid (show Ed.go ⟨nx, sq, L0.map Ed.loOf, M0.map Ed.taOf⟩ (E.map Ed.etOf) 0 = r from HA.out)
  go_wp2_with fail
  refine C.out.mono ?_
  rintro e v ⟨rfl, hbv⟩
  have HYv := Lib.hid (HY.out.below hbv)
  have HXv := Lib.hid (HX.out.below hbv)
  have HBv := Lib.hid (below_next HB.out hbv)
  have HEv := Lib.hid (HE.out.below hbv)
  have HSv := Lib.hid (show w.heap.size + 1 < v.heap.size by have := hbv.size; have := HS.out; omega)
  have hO := HOq.out.symm
  simp only [Bool.and_eq_true, decide_eq_true_eq, List.length_map] at hO
  have hl32 := hO.1.1.1.1.1.2
  have hm128 := hO.1.1.1.1.2
  have okl := Ed.okLs_q hO.1.1.1.2
  have okt := Ed.okTs_q hO.1.1.2
  have HW := Lib.hid (own_any nx sq A0 n0 c0 B0 m0 d0 L0 M0 v (HL.out.below hbv) (HM.out.below hbv) (by rw [← HL.out.len]; omega) (by rw [← HM.out.len]; omega) (fun x hx => by
    have h1 := (Ed.okP_q (okl _ (List.mem_map_of_mem hx))).2.1
    have h2 := (HL.out.2.2 x hx).2.1.1
    have h3 : x.2.length ≤ 64 := h1
    omega) (fun x hx => by
    have h1 := (Ed.okP_q (Ed.okT_q (okt _ (List.mem_map_of_mem hx))).1).2.1
    have h2 := (HM.out.2 x hx).1.1
    have h3 : x.2.length ≤ 64 := h1
    omega))
  have HLen := Lib.hid (And.intro hl32 hm128)
  clear x0 x1 x2 x3 HY HX hbv HB HE HL HM hO okl okt hl32 hm128 C HA HOq HS
  obtain ⟨x0, x1, x2, x3⟩ := HXv.out.all4
  go_wp2_with fail
  refine HW.out.mono ?_
  rintro e w1 ⟨A1, c1, L1, B1, d1, M1, rfl, hO1, hl1, hm1, hb1⟩
  have HT0 := Lib.hid (StV.start (nx := nx) (sq := sq) hO1 hb1.size 25)
  have HB1 := Lib.hid (show Below v.heap.size v (w1.alloc (.cells #[.int .i64 nx, .int .i64 sq, .slice A1 n0 c1, .slice B1 m0 d1] 25)) from hb1.alloc hb1.size _)
  have HLm := Lib.hid (And.intro hl1 hm1)
  have HNm := Lib.hid (And.intro hO1.ls.len hO1.ts.len)
  clear hO1 hl1 hm1 hb1 HW x0 x1 x2 x3
  go_upto_region 6 with fail
  generalize (w1.alloc (.cells #[.int .i64 nx, .int .i64 sq, .slice A1 n0 c1, .slice B1 m0 d1] 25)) = w2 at *
  generalize w1.heap.size = vb at *
  go_loopw [21] (fun ii wr => ∃ (k : Nat) (nx sq : Int) (A : Option Addr) (n c : Nat) (L : List (Ed.Lg × List (Int × Int))) (B : Option Addr) (m d : Nat) (M : List (Pk.Tb × List (Int × Int))), k ≤ q ∧ ii = .int .i64 (k : Int) ∧ Hid (StV wr v.heap.size vb nx sq A n c L B m d M) ∧ Hid (Ed.Sane ⟨nx, sq, L.map Ed.loOf, M.map Ed.taOf⟩) ∧ n ≤ 32 + k ∧ m ≤ 128 + k ∧ Hid (Ed.go ⟨nx, sq, L.map Ed.loOf, M.map Ed.taOf⟩ ((E.map Ed.etOf).drop k) k = r) ∧ Hid (Below v.heap.size v wr)) (fun ii _ => q - (intOf ii).toNat)
  case atStart => exact ⟨0, nx, sq, A1, n0, c1, L1, B1, m0, d1, M1, by omega, rfl, HT0, Lib.hid (by rw [HLm.out.1, HLm.out.2]; exact HSa.out (by trivial)), by
    have h1 := HLen.out.1
    have h2 := congrArg List.length HLm.out.1
    rw [List.length_map, List.length_map] at h2
    have := HNm.out.1
    omega, by
    have h1 := HLen.out.2
    have h2 := congrArg List.length HLm.out.2
    rw [List.length_map, List.length_map] at h2
    have := HNm.out.2
    omega, Lib.hid (by rw [HLm.out.1, HLm.out.2]; exact HG0.out), HB1⟩
  case round =>
    clear HT0 HSa HG0 HB1 HLm HLen HNm
    obtain ⟨k, nx, sq, A, n, c, L, B, m, d, M, hk, rfl, HT, HSa, hn, hm, HG, HB⟩ := hrel
    by_cases hlt : k < q
    · have hki : (k : Int) < (q : Int) := by omega
      have hk0 : (0 : Int) ≤ (k : Int) := by omega
      obtain ⟨y, hy⟩ : ∃ y, E[k]? = some y := ⟨_, List.getElem?_eq_getElem (by rw [HEl.out]; exact hlt)⟩
      obtain ⟨b, o, hAb, hxo, hc⟩ := HEv.out.at_ hy
      have HGk := Lib.hid (show (if (Ed.etOf y).ok then match Ed.do1 ⟨nx, sq, L.map Ed.loOf, M.map Ed.taOf⟩ (Ed.etOf y) with | some v' => Ed.go v' ((E.map Ed.etOf).drop (k + 1)) (k + 1) | none => (Ed.noV, k, 150) else (Ed.noV, k, 150)) = r by
        have h := HG.out
        have hm : (E.map Ed.etOf)[k]? = some (Ed.etOf y) := by rw [List.getElem?_map, hy]; rfl
        obtain ⟨h1, h2⟩ := List.getElem?_eq_some_iff.1 hm
        rw [List.drop_eq_getElem_cons h1, h2, Ed.go_cons] at h
        exact h)
      subst hAb
      have HXo := Lib.hid (hxo.below HB.out)
      have hcw := hc wr HB.out
      have HDo := Lib.hid (fun (W : World) (h1 : StV W v.heap.size vb nx sq A n c L B m d M) (h2 : v.heap.size ≤ W.heap.size) (h3 : Ed.ExOk W y) ho => do_any h1 h2 y h3 ho HSa.out (by omega) (by omega))
      have HMay := Lib.hid (fun (W : World) (h3 : Ed.ExOk W y) => may_any y W h3)
      have HNL := Lib.hid (And.intro HT.out.own.ls.len HT.out.own.ts.len)
      have HDs := Lib.hid (fun v' (ho : (Ed.etOf y).ok = true) => Ed.Sane.do1 (v' := v') HSa.out ho)
      clear hc hy hxo HG HSa
      generalize Ed.do1 ⟨nx, sq, L.map Ed.loOf, M.map Ed.taOf⟩ (Ed.etOf y) = dr at *
      generalize (Ed.etOf y).ok = eok at *
      obtain ⟨⟨kd, id, nn, pid, pep, P, pn, pc, ⟨tid, tep, Q, qn, qc, sz, lv, ct, lo, hi, tp⟩⟩, ps, qs⟩ := y
      replace HMay : Hid (∀ (W : World), Ed.ExOk W _ → Calls Tryz.prog 47 #[.agg #[.int .i64 kd, .int .i64 id, .int .i64 nn, .int .i64 pid, .int .i64 pep, .slice P pn pc, .int .i64 tid, .int .i64 tep, .slice Q qn qc, .int .i64 sz, .int .i64 lv, .int .i64 ct, .string lo, .string hi, .int .i64 tp]] W fun e w' => e = .returned (.bool eok) ∧ Below W.heap.size W w') := HMay
      replace HDo : Hid (∀ (W : World), StV W v.heap.size vb nx sq A n c L B m d M → v.heap.size ≤ W.heap.size → Ed.ExOk W _ → eok = true → Calls Tryz.prog 48 #[.pointer (some ⟨vb, 0, none⟩), .agg #[.int .i64 kd, .int .i64 id, .int .i64 nn, .int .i64 pid, .int .i64 pep, .slice P pn pc, .int .i64 tid, .int .i64 tep, .slice Q qn qc, .int .i64 sz, .int .i64 lv, .int .i64 ct, .string lo, .string hi, .int .i64 tp]] W (GivesDo W v.heap.size vb dr)) := HDo
      have e0 : wr.cell? ⟨b, o + k * 15, none⟩ = some (.int .i64 kd) := hcw 0 _ rfl
      have e1 : wr.cell? ⟨b, o + k * 15 + 1, none⟩ = some (.int .i64 id) := hcw 1 _ rfl
      have e2 : wr.cell? ⟨b, o + k * 15 + 2, none⟩ = some (.int .i64 nn) := hcw 2 _ rfl
      have e3 : wr.cell? ⟨b, o + k * 15 + 3, none⟩ = some (.int .i64 pid) := hcw 3 _ rfl
      have e4 : wr.cell? ⟨b, o + k * 15 + 4, none⟩ = some (.int .i64 pep) := hcw 4 _ rfl
      have e5 : wr.cell? ⟨b, o + k * 15 + 5, none⟩ = some (.slice P pn pc) := hcw 5 _ rfl
      have e6 : wr.cell? ⟨b, o + k * 15 + 6, none⟩ = some (.int .i64 tid) := hcw 6 _ rfl
      have e7 : wr.cell? ⟨b, o + k * 15 + 7, none⟩ = some (.int .i64 tep) := hcw 7 _ rfl
      have e8 : wr.cell? ⟨b, o + k * 15 + 8, none⟩ = some (.slice Q qn qc) := hcw 8 _ rfl
      have e9 : wr.cell? ⟨b, o + k * 15 + 9, none⟩ = some (.int .i64 sz) := hcw 9 _ rfl
      have e10 : wr.cell? ⟨b, o + k * 15 + 10, none⟩ = some (.int .i64 lv) := hcw 10 _ rfl
      have e11 : wr.cell? ⟨b, o + k * 15 + 11, none⟩ = some (.int .i64 ct) := hcw 11 _ rfl
      have e12 : wr.cell? ⟨b, o + k * 15 + 12, none⟩ = some (.string lo) := hcw 12 _ rfl
      have e13 : wr.cell? ⟨b, o + k * 15 + 13, none⟩ = some (.string hi) := hcw 13 _ rfl
      have e14 : wr.cell? ⟨b, o + k * 15 + 14, none⟩ = some (.int .i64 tp) := hcw 14 _ rfl
      clear hcw
      have hal : Below wr.heap.size wr (wr.alloc (.cells #[.int .i64 kd, .int .i64 id, .int .i64 nn, .int .i64 pid, .int .i64 pep, .slice P pn pc, .int .i64 tid, .int .i64 tep, .slice Q qn qc, .int .i64 sz, .int .i64 lv, .int .i64 ct, .string lo, .string hi, .int .i64 tp] 37)) := (Below.refl _ _).alloc (Nat.le_refl _) _
      have HXe := Lib.hid (Holds.new wr #[.int .i64 kd, .int .i64 id, .int .i64 nn, .int .i64 pid, .int .i64 pep, .slice P pn pc, .int .i64 tid, .int .i64 tep, .slice Q qn qc, .int .i64 sz, .int .i64 lv, .int .i64 ct, .string lo, .string hi, .int .i64 tp] 37)
      have HTa := Lib.hid (HT.out.below hal)
      have HXa := Lib.hid (HXo.out.below hal)
      have HBa := Lib.hid (below_next HB.out hal)
      clear hal
      go_upto_region 8 with fail
      clear e0 e1 e2 e3 e4 e5 e6 e7 e8 e9 e10 e11 e12 e13 e14 HT HXo HB
      generalize (wr.alloc (.cells #[.int .i64 kd, .int .i64 id, .int .i64 nn, .int .i64 pid, .int .i64 pep, .slice P pn pc, .int .i64 tid, .int .i64 tep, .slice Q qn qc, .int .i64 sz, .int .i64 lv, .int .i64 ct, .string lo, .string hi, .int .i64 tp] 37)) = wa at *
      generalize wr.heap.size = xb at *
      replace HXe : Hid (Holds wa xb [.int .i64 kd, .int .i64 id, .int .i64 nn, .int .i64 pid, .int .i64 pep, .slice P pn pc, .int .i64 tid, .int .i64 tep, .slice Q qn qc, .int .i64 sz, .int .i64 lv, .int .i64 ct, .string lo, .string hi, .int .i64 tp]) := HXe
      obtain ⟨x0, x1, x2, x3, x4, x5, x6, x7, x8, x9, x10, x11, x12, x13, x14⟩ := HXe.out.all15
      have M1 := Lib.hid (HMay.out wa HXa.out)
      cases eok with
      | false =>
        have HF := Lib.hid (show (Ed.noV, k, 150) = r from HGk.out)
        go_wp2_with fail
        refine M1.out.mono ?_
        rintro e v1 ⟨rfl, hb1⟩
        have HB1 := Lib.hid (below_next HBa.out hb1)
        have HY1 := Lib.hid (HYv.out.below HB1.out)
        have HBw := Lib.hid (below_next HBv.out HB1.out)
        clear x0 x1 x2 x3 x4 x5 x6 x7 x8 x9 x10 x11 x12 x13 x14 hb1 HXe HTa HXa HBa HB1 HDo HMay HDs
        have HZ := Lib.hid ((((HY1.out.set 0 (.int .i64 0) (by simp)).set 1 (.int .i64 0) (by simp)).set 2 (.slice none 0 0) (by simp)).set 3 (.slice none 0 0) (by simp))
        have HGr := Lib.hid ((grown_cell v1 (w.heap.size + 1) 0 (.int .i64 0)).trans ((grown_cell _ (w.heap.size + 1) 1 (.int .i64 0)).trans ((grown_cell _ (w.heap.size + 1) 2 (.slice none 0 0)).trans (grown_cell _ (w.heap.size + 1) 3 (.slice none 0 0)))))
        have HBz := Lib.hid (HBw.out.grown HGr.out HBw.out.size (fun g' e => by injection e with e; omega))
        obtain ⟨f0, f1, f2, f3⟩ := HY1.out.all4
        obtain ⟨g0, g1, g2, g3⟩ := HY1.out.free4
        go_wp2_with fail
        clear f0 f1 f2 f3 g0 g1 g2 g3 HGr HY1 HBw
        generalize (((v1.setCell ⟨w.heap.size + 1, 0, none⟩ (.int .i64 0)).setCell ⟨w.heap.size + 1, 1, none⟩ (.int .i64 0)).setCell ⟨w.heap.size + 1, 2, none⟩ (.slice none 0 0)).setCell ⟨w.heap.size + 1, 3, none⟩ (.slice none 0 0) = z at *
        obtain ⟨y0, y1, y2, y3⟩ := HZ.out.all4
        refine bodyPost_ret (v := .tuple #[.agg #[.int .i64 0, .int .i64 0, .slice none 0 0, .slice none 0 0], .int .i64 (k : Int), .int .i64 150]) ?_ rfl (by rw [← HF.out]; exact GivesAp.no HBz.out)
        simp [results, Tryz.results19, go_sem, y0, y1, y2, y3]
      | true =>
        go_wp2_with fail
        refine M1.out.mono ?_
        rintro e v1 ⟨rfl, hb1⟩
        have HB1 := Lib.hid (below_next HBa.out hb1)
        have HXf := Lib.hid (HXe.out.below hb1)
        have D1 := Lib.hid (HDo.out v1 (HTa.out.below hb1) HB1.out.size (HXa.out.below hb1) (by trivial))
        clear x0 x1 x2 x3 x4 x5 x6 x7 x8 x9 x10 x11 x12 x13 x14 hb1 HXe HTa HXa HBa HDo HMay
        obtain ⟨x0, x1, x2, x3, x4, x5, x6, x7, x8, x9, x10, x11, x12, x13, x14⟩ := HXf.out.all15
        cases dr with
        | none =>
          have HF := Lib.hid (show (Ed.noV, k, 150) = r from HGk.out)
          go_wp2_with fail
          refine D1.out.mono ?_
          rintro e v2 ⟨hb2, rfl⟩
          have HB2 := Lib.hid (show Below v.heap.size v v2 from HB1.out.trans hb2)
          have HY2 := Lib.hid (HYv.out.below HB2.out)
          have HBw := Lib.hid (below_next HBv.out HB2.out)
          clear x0 x1 x2 x3 x4 x5 x6 x7 x8 x9 x10 x11 x12 x13 x14 hb2 HXf HB1 HB2 HDs
          have HZ := Lib.hid ((((HY2.out.set 0 (.int .i64 0) (by simp)).set 1 (.int .i64 0) (by simp)).set 2 (.slice none 0 0) (by simp)).set 3 (.slice none 0 0) (by simp))
          have HGr := Lib.hid ((grown_cell v2 (w.heap.size + 1) 0 (.int .i64 0)).trans ((grown_cell _ (w.heap.size + 1) 1 (.int .i64 0)).trans ((grown_cell _ (w.heap.size + 1) 2 (.slice none 0 0)).trans (grown_cell _ (w.heap.size + 1) 3 (.slice none 0 0)))))
          have HBz := Lib.hid (HBw.out.grown HGr.out HBw.out.size (fun g' e => by injection e with e; omega))
          obtain ⟨f0, f1, f2, f3⟩ := HY2.out.all4
          obtain ⟨g0, g1, g2, g3⟩ := HY2.out.free4
          go_wp2_with fail
          clear f0 f1 f2 f3 g0 g1 g2 g3 HGr HY2 HBw
          generalize (((v2.setCell ⟨w.heap.size + 1, 0, none⟩ (.int .i64 0)).setCell ⟨w.heap.size + 1, 1, none⟩ (.int .i64 0)).setCell ⟨w.heap.size + 1, 2, none⟩ (.slice none 0 0)).setCell ⟨w.heap.size + 1, 3, none⟩ (.slice none 0 0) = z at *
          obtain ⟨y0, y1, y2, y3⟩ := HZ.out.all4
          refine bodyPost_ret (v := .tuple #[.agg #[.int .i64 0, .int .i64 0, .slice none 0 0, .slice none 0 0], .int .i64 (k : Int), .int .i64 150]) ?_ rfl (by rw [← HF.out]; exact GivesAp.no HBz.out)
          simp [results, Tryz.results19, go_sem, y0, y1, y2, y3]
        | some v' =>
          go_wp2_with fail
          refine D1.out.mono ?_
          rintro e v2 ⟨hb2, rfl, A', n', c', L', B', m', d', M', hst, hl', hm'⟩
          obtain ⟨hsa, hll, hml⟩ := HDs.out v' (by trivial) (by trivial)
          obtain ⟨nx', sq', ls', ts'⟩ := v'
          dsimp only at hl' hm' hst hll hml
          subst hl' hm'
          have HB2 := Lib.hid (show Below v.heap.size v v2 from HB1.out.trans hb2)
          have HT2 := Lib.hid hst
          have HS2 := Lib.hid hsa
          have HG2 := Lib.hid (show Ed.go ⟨nx', sq', L'.map Ed.loOf, M'.map Ed.taOf⟩ ((E.map Ed.etOf).drop (k + 1)) (k + 1) = r from HGk.out)
          rw [List.length_map, List.length_map] at hll hml
          have hn' : n' ≤ 32 + (k + 1) := by have := hst.own.ls.len; have := HNL.out.1; omega
          have hm' : m' ≤ 128 + (k + 1) := by have := hst.own.ts.len; have := HNL.out.2; omega
          clear x0 x1 x2 x3 x4 x5 x6 x7 x8 x9 x10 x11 x12 x13 x14 hb2 HXf hst hsa hll hml HDs D1 M1
          go_wp2
          go_roundw
          case rel => exact ⟨k + 1, nx', sq', A', n', c', L', B', m', d', M', by omega, by go_num, HT2, HS2, hn', hm', HG2, HB2⟩
          case measure => simp [intOf]; omega
    · have hki : ¬ (k : Int) < (q : Int) := by omega
      have hkq : k = q := by omega
      have HGe := Lib.hid (show (if (⟨nx, sq, L.map Ed.loOf, M.map Ed.taOf⟩ : Ed.Ve).ok then (⟨nx, sq, L.map Ed.loOf, M.map Ed.taOf⟩, 0, 0) else (Ed.noV, k, 150)) = r by
        have h := HG.out
        rw [List.drop_eq_nil_of_le (by rw [List.length_map, HEl.out]; omega)] at h
        exact h)
      have C := Lib.hid (check_any nx sq A n c B m d L M wr HT.out.own.ls.rd HT.out.own.ts.rd)
      obtain ⟨b0, b1, b2, b3⟩ := HT.out.box.all4
      clear hlt HG HSa
      generalize (⟨nx, sq, L.map Ed.loOf, M.map Ed.taOf⟩ : Ed.Ve).ok = okb at *
      cases okb with
      | false =>
        have HF := Lib.hid (show (Ed.noV, q, 150) = r by rw [← hkq]; exact HGe.out)
        go_wp2_with fail
        refine C.out.mono ?_
        rintro e v1 ⟨rfl, hb1⟩
        have HB1 := Lib.hid (below_next HB.out hb1)
        have HY1 := Lib.hid (HYv.out.below HB1.out)
        have HBw := Lib.hid (below_next HBv.out HB1.out)
        clear b0 b1 b2 b3 hb1 HB HB1 HT C
        have HZ := Lib.hid ((((HY1.out.set 0 (.int .i64 0) (by simp)).set 1 (.int .i64 0) (by simp)).set 2 (.slice none 0 0) (by simp)).set 3 (.slice none 0 0) (by simp))
        have HGr := Lib.hid ((grown_cell v1 (w.heap.size + 1) 0 (.int .i64 0)).trans ((grown_cell _ (w.heap.size + 1) 1 (.int .i64 0)).trans ((grown_cell _ (w.heap.size + 1) 2 (.slice none 0 0)).trans (grown_cell _ (w.heap.size + 1) 3 (.slice none 0 0)))))
        have HBz := Lib.hid (HBw.out.grown HGr.out HBw.out.size (fun g' e => by injection e with e; omega))
        obtain ⟨f0, f1, f2, f3⟩ := HY1.out.all4
        obtain ⟨g0, g1, g2, g3⟩ := HY1.out.free4
        go_wp2_with fail
        clear f0 f1 f2 f3 g0 g1 g2 g3 HGr HY1 HBw
        generalize (((v1.setCell ⟨w.heap.size + 1, 0, none⟩ (.int .i64 0)).setCell ⟨w.heap.size + 1, 1, none⟩ (.int .i64 0)).setCell ⟨w.heap.size + 1, 2, none⟩ (.slice none 0 0)).setCell ⟨w.heap.size + 1, 3, none⟩ (.slice none 0 0) = z at *
        obtain ⟨y0, y1, y2, y3⟩ := HZ.out.all4
        refine bodyPost_ret (v := .tuple #[.agg #[.int .i64 0, .int .i64 0, .slice none 0 0, .slice none 0 0], .int .i64 (q : Int), .int .i64 150]) ?_ rfl (by rw [← HF.out]; exact GivesAp.no HBz.out)
        simp [results, Tryz.results19, go_sem, y0, y1, y2, y3]
      | true =>
        have HF := Lib.hid (show ((⟨nx, sq, L.map Ed.loOf, M.map Ed.taOf⟩ : Ed.Ve), 0, 0) = r from HGe.out)
        go_wp2_with fail
        refine C.out.mono ?_
        rintro e v1 ⟨rfl, hb1⟩
        have HB1 := Lib.hid (below_next HB.out hb1)
        have HT1 := Lib.hid (HT.out.below hb1)
        have HY1 := Lib.hid (HYv.out.below HB1.out)
        have HBw := Lib.hid (below_next HBv.out HB1.out)
        have hvw := HSv.out
        have hwv := HBv.out.size
        clear b0 b1 b2 b3 hb1 HB HB1 HT C
        obtain ⟨b0, b1, b2, b3⟩ := HT1.out.box.all4
        have HZ := Lib.hid ((((HY1.out.set 0 (.int .i64 nx) (by simp)).set 1 (.int .i64 sq) (by simp)).set 2 (.slice A n c) (by simp)).set 3 (.slice B m d) (by simp))
        have HGr := Lib.hid ((grown_cell v1 (w.heap.size + 1) 0 (.int .i64 nx)).trans ((grown_cell _ (w.heap.size + 1) 1 (.int .i64 sq)).trans ((grown_cell _ (w.heap.size + 1) 2 (.slice A n c)).trans (grown_cell _ (w.heap.size + 1) 3 (.slice B m d)))))
        have HBz := Lib.hid (HBw.out.grown HGr.out HBw.out.size (fun g' e => by injection e with e; omega))
        obtain ⟨f0, f1, f2, f3⟩ := HY1.out.all4
        obtain ⟨g0, g1, g2, g3⟩ := HY1.out.free4
        have HOf := Lib.hid ((HT1.out.own.grown HGr.out (fun g e => by injection e with e; omega)).base_ (show w.heap.size ≤ v.heap.size from hwv))
        go_wp2_with fail
        clear b0 b1 b2 b3 f0 f1 f2 f3 g0 g1 g2 g3 HGr HY1 HT1
        generalize (((v1.setCell ⟨w.heap.size + 1, 0, none⟩ (.int .i64 nx)).setCell ⟨w.heap.size + 1, 1, none⟩ (.int .i64 sq)).setCell ⟨w.heap.size + 1, 2, none⟩ (.slice A n c)).setCell ⟨w.heap.size + 1, 3, none⟩ (.slice B m d) = z at *
        obtain ⟨y0, y1, y2, y3⟩ := HZ.out.all4
        refine bodyPost_ret (v := .tuple #[.agg #[.int .i64 nx, .int .i64 sq, .slice A n c, .slice B m d], .int .i64 0, .int .i64 0]) ?_ rfl (by rw [← HF.out]; exact ⟨A, n, c, L, B, m, d, M, rfl, HOf.out, rfl, rfl, HBz.out⟩)
        simp [results, Tryz.results19, go_sem, y0, y1, y2, y3]
end Go.Proofs.YthfcjlndaajkfaaGreat
