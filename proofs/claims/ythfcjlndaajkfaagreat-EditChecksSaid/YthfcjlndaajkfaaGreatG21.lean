/- edit.unlike: are all IDs, and all plots, unlike? -/
import Derived.Test.YthfcjlndaajkfaaGreatG20
namespace Go.Proofs.YthfcjlndaajkfaaGreat
open Go.RowKit
set_option linter.unusedVariables false
set_option maxRecDepth 100000 in
theorem enter_first (args : Array Value) (w : World) : (callFunc 61 args).run Tryz.prog w = .ok (.enter 61 args) w := run_enter Tryz.func61 (by kernel_rfl) (by kernel_rfl) args w
set_option maxRecDepth 100000 in
set_option maxHeartbeats 16000000 in
theorem punlike_any (nx sq : Int) (A : Option Addr) (n c : Nat) (B : Option Addr) (m d : Nat) (L : List (Ed.Lg × List (Int × Int))) (M : List (Pk.Tb × List (Int × Int))) (w : World) (hL : RdLs w A n L) (hM : RdTs w B m M) (hn : n ≤ 128) (hm : m ≤ 128) (hlp : ∀ x ∈ L, x.1.pn ≤ 64) (htp : ∀ x ∈ M, x.1.pn ≤ 64)
    (hq : ∀ p ∈ L.map (fun x => (Ed.loOf x).p) ++ M.map (fun x => (Ed.taOf x).p), Q64 p.id ∧ p.ps.length ≤ 64 ∧ ∀ z ∈ Ed.fl p.ps, Q64 z) :
    Calls Tryz.prog 34 #[.agg #[.int .i64 nx, .int .i64 sq, .slice A n c, .slice B m d]] w fun e w' => e = .returned (.bool (Ed.okU nx (L.map (fun x => (Ed.loOf x).p) ++ M.map (fun x => (Ed.taOf x).p)))) ∧ Below w.heap.size w w' := by
  have h1 : Below w.heap.size w (w.alloc (.cells #[.int .i64 nx, .int .i64 sq, .slice A n c, .slice B m d] 25)) := (Below.refl _ _).alloc (Nat.le_refl _) _
  have h3 : Below w.heap.size w (((w.alloc (.cells #[.int .i64 nx, .int .i64 sq, .slice A n c, .slice B m d] 25)).alloc (.map #[] 0)).alloc (.cells #[.map (some (w.heap.size + 1))] 99)) := (h1.alloc (by simp) _).alloc (by simp <;> omega) _
  have HX := Lib.hid (((Holds.new w #[.int .i64 nx, .int .i64 sq, .slice A n c, .slice B m d] 25).alloc (.map #[] 0)).alloc (.cells #[.map (some (w.heap.size + 1))] 99))
  have HV := Lib.hid (Holds.new ((w.alloc (.cells #[.int .i64 nx, .int .i64 sq, .slice A n c, .slice B m d] 25)).alloc (.map #[] 0)) #[.map (some (w.heap.size + 1))] 99)
  have HK := Lib.hid ((Km.new (w.alloc (.cells #[.int .i64 nx, .int .i64 sq, .slice A n c, .slice B m d] 25))).below (w' := (((w.alloc (.cells #[.int .i64 nx, .int .i64 sq, .slice A n c, .slice B m d] 25)).alloc (.map #[] 0)).alloc (.cells #[.map (some (w.heap.size + 1))] 99))) ((Below.refl _ _).alloc (Nat.le_refl _) _))
  have HB := Lib.hid h3
  have HP := Lib.hid (places_any nx sq A n c B m d L M (((w.alloc (.cells #[.int .i64 nx, .int .i64 sq, .slice A n c, .slice B m d] 25)).alloc (.map #[] 0)).alloc (.cells #[.map (some (w.heap.size + 1))] 99)) (hL.below h3) (hM.below h3) (by omega) (by omega) (fun x hx => by have := hlp x hx; omega) (fun x hx => by have := htp x hx; omega))
  have HS := Lib.hid (show (w.alloc (.cells #[.int .i64 nx, .int .i64 sq, .slice A n c, .slice B m d] 25)).heap.size = w.heap.size + 1 ∧ ((w.alloc (.cells #[.int .i64 nx, .int .i64 sq, .slice A n c, .slice B m d] 25)).alloc (.map #[] 0)).heap.size = w.heap.size + 2 ∧ (((w.alloc (.cells #[.int .i64 nx, .int .i64 sq, .slice A n c, .slice B m d] 25)).alloc (.map #[] 0)).alloc (.cells #[.map (some (w.heap.size + 1))] 99)).heap.size = w.heap.size + 3 by simp)
  have HQ := Lib.hid hq
  have HLen := Lib.hid (show (L.map (fun x => (Ed.loOf x).p) ++ M.map (fun x => (Ed.taOf x).p)).length ≤ 256 by rw [List.length_append, List.length_map, List.length_map, hL.len, hM.len]; omega)
  clear h1 h3 hL hM hlp htp hq
  have hmk := run_mk (w.alloc (.cells #[.int .i64 nx, .int .i64 sq, .slice A n c, .slice B m d] 25))
  generalize L.map (fun x => (Ed.loOf x).p) ++ M.map (fun x => (Ed.taOf x).p) = PL at *
  generalize hans : Ed.okU nx PL = ans
  have HA := Lib.hid hans
  clear hans
  go_enter Tryz.func34, Tryz.ntmps34
  go_upto_region 3 with fail
  clear hmk
  generalize (((w.alloc (.cells #[.int .i64 nx, .int .i64 sq, .slice A n c, .slice B m d] 25)).alloc (.map #[] 0)).alloc (.cells #[.map (some (w.heap.size + 1))] 99)) = u at *
  replace HX : Hid (Holds u w.heap.size [.int .i64 nx, .int .i64 sq, .slice A n c, .slice B m d]) := HX
  replace HV : Hid (Holds u (w.heap.size + 2) [.map (some (w.heap.size + 1))]) := Lib.hid (by have h := HV.out; rw [HS.out.2.1] at h; exact h)
  replace HK : Hid (Km u (w.heap.size + 1) 0 []) := Lib.hid (by have h := HK.out; rw [HS.out.1] at h; exact h)
  have x0 := HX.out.at_ 0 rfl
  have x1 := HX.out.at_ 1 rfl
  have x2 := HX.out.at_ 2 rfl
  have x3 := HX.out.at_ 3 rfl
  go_wp2_with fail
  refine HP.out.mono ?_
  rintro e v ⟨R, rc, F, rfl, hO, hF, hbv⟩
  have HFp := Lib.hid hF
  have HU0 := Lib.hid (show Us w v [.int .i64 nx, .int .i64 sq, .slice A n c, .slice B m d] u.heap.size (w.heap.size + 2) (w.heap.size + 1) R F.length rc F [] from ⟨HX.out.below hbv, HV.out.below hbv, hO, HK.out.below hbv, by simp, below_next HB.out hbv, by omega, by omega, by omega, by rw [HS.out.2.2]; omega, hbv.size⟩)
  clear x0 x1 x2 x3 hO hF hbv HP HX HV HK HB HS
  generalize w.heap.size + 2 = bs at *
  generalize w.heap.size + 1 = mb at *
  generalize u.heap.size = ub at *
  go_wp2_with fail
  have hmf := enter_first
  go_loopw [14] (fun ii wr => ∃ (k : Nat), k ≤ F.length ∧ ii = .int .i64 (k : Int) ∧ Hid (Us w wr [.int .i64 nx, .int .i64 sq, .slice A n c, .slice B m d] ub bs mb R F.length rc F (Ed.keys (PL.take k))) ∧ Hid (∀ p ∈ PL.take k, p.id < nx)) (fun ii _ => F.length - (intOf ii).toNat)
  case atStart => exact ⟨0, by omega, rfl, HU0, Lib.hid (fun p hp => nomatch hp)⟩
  case round =>
    clear HU0
    obtain ⟨k, hk, rfl, HU, HI⟩ := hrel
    by_cases hlt : k < F.length
    · have hki : (k : Int) < (F.length : Int) := by omega
      have hk0 : (0 : Int) ≤ (k : Int) := by omega
      obtain ⟨y, hy⟩ : ∃ y, F[k]? = some y := ⟨_, List.getElem?_eq_getElem hlt⟩
      have HY := Lib.hid (show PL[k]? = some (Ed.plOf y) by rw [← HFp.out]; exact Ed.map_at hy)
      have HPy := Lib.hid ((HU.out.pl.prs y (List.mem_of_getElem? hy)).ok)
      obtain ⟨b, o, hR, _, hc⟩ := HU.out.pl.row.rd.2 (by omega)
      have hym : (F.map (·.1))[k]? = some y.1 := by rw [List.getElem?_map, hy]; rfl
      have e0 := hc _ _ (Pk.flatMap_at (f := Ed.Pc.cells) (s := 3) (fun _ => rfl) (j := 0) hym rfl)
      have e1 := hc _ _ (Pk.flatMap_at (f := Ed.Pc.cells) (s := 3) (fun _ => rfl) (j := 1) hym rfl)
      have e2 := hc _ _ (Pk.flatMap_at (f := Ed.Pc.cells) (s := 3) (fun _ => rfl) (j := 2) hym rfl)
      have e0 : wr.cell? ⟨b, o + k * 3, none⟩ = some (.int .i64 y.1.id) := e0
      have e1 : wr.cell? ⟨b, o + k * 3 + 1, none⟩ = some (.int .i64 y.1.ep) := e1
      have e2 : wr.cell? ⟨b, o + k * 3 + 2, none⟩ = some (.slice y.1.P y.1.pn y.1.pc) := e2
      have hymem : y ∈ F := List.mem_of_getElem? hy
      have HXB := Lib.hid (show mb < wr.heap.size from Nat.lt_of_lt_of_le HU.out.lt HU.out.few)
      clear hc hy hym
      subst hR
      obtain ⟨⟨id, ep, P, pn, pc⟩, ps⟩ := y
      dsimp only at e0 e1 e2 HPy
      replace HY : Hid (PL[k]? = some ⟨id, ep, ps⟩) := HY
      have hQ := HQ.out _ (List.mem_of_getElem? HY.out)
      have hal : Below wr.heap.size wr (wr.alloc (.cells #[.int .i64 id, .int .i64 ep, .slice P pn pc] 32)) := (Below.refl _ _).alloc (Nat.le_refl _) _
      have HX := Lib.hid (Holds.new wr #[.int .i64 id, .int .i64 ep, .slice P pn pc] 32)
      have HUa := Lib.hid (HU.out.below hal)
      have HPa := Lib.hid (HPy.out.below hal)
      have HQi := Lib.hid hQ
      have HKf := Lib.hid (show (Ed.keys (PL.take k)).length ≤ 256 * 129 from Nat.le_trans (Ed.keys_len (fun p hp => (HQ.out p (List.mem_of_mem_take hp)).2.1)) (Nat.mul_le_mul_right _ (by rw [List.length_take]; have := HLen.out; omega)))
      have hmem : ((⟨id, ep, P, pn, pc⟩ : Ed.Pc), ps) ∈ F := hymem
      clear hal hQ
      go_upto_region 6 with fail
      clear e0 e1 e2 HU HPy
      generalize (wr.alloc (.cells #[.int .i64 id, .int .i64 ep, .slice P pn pc] 32)) = wa at *
      generalize wr.heap.size = xb at *
      replace HX : Hid (Holds wa xb [.int .i64 id, .int .i64 ep, .slice P pn pc]) := HX
      have x0 := HX.out.at_ 0 rfl
      have n0 := HUa.out.box.at_ 0 rfl
      by_cases hnx : nx ≤ id
      · have HF := Lib.hid (show false = ans by
          rw [← HA.out]
          unfold Ed.okU
          have : PL.all (fun p => decide (p.id < nx)) = false := by
            rw [List.all_eq_false]
            exact ⟨_, List.mem_of_getElem? HY.out, by simp; omega⟩
          rw [this]; rfl)
        go_wp2
        go_ret
        exact ⟨by rw [← HF.out]; rfl, HUa.out.bel⟩
      · have HIn := Lib.hid (show ∀ p ∈ PL.take (k + 1), p.id < nx by
          intro p hp
          rw [List.take_add_one, HY.out] at hp
          rcases List.mem_append.1 hp with hp | hp
          · exact HI.out p hp
          · rcases List.mem_singleton.1 hp with rfl
            show id < nx
            omega)
        by_cases hin : ((0 : Int), id) ∈ Ed.keys (PL.take k)
        · have HF := Lib.hid (show false = ans by
            rw [← HA.out]
            unfold Ed.okU
            rw [decide_eq_false (Ed.keys_twice HY.out rfl hin), Bool.and_false])
          have C1 := Lib.hid (show Calls Tryz.prog 61 #[.int .i64 0, .int .i64 id, .pointer (some ⟨bs, 0, none⟩)] wa fun e w' => e = .returned (.bool false) ∧ wa.grownBy w' (some mb) by
            have h := first_any 0 id bs mb _ _ wa (HUa.out.var.at_ 0 rfl) HUa.out.ne1 HUa.out.km (by have := HKf.out; omega) (by unfold Q64; omega) HQi.out.1 (count_le_one HUa.out.nd _)
            refine h.mono fun e w' hh => ?_
            obtain ⟨h1, h2, h3⟩ := hh
            refine ⟨?_, h3⟩
            rw [h1, decide_eq_false]
            have := List.count_pos_iff.2 hin
            omega)
          clear hin
          go_wp2_with fail
          refine C1.out.mono ?_
          rintro e v1 ⟨rfl, hg⟩
          have HBf := Lib.hid (HUa.out.bel.grown hg HUa.out.bel.size (fun g e => by injection e with e; have := HUa.out.ge; omega))
          clear hg
          go_wp2
          go_ret
          exact ⟨by rw [← HF.out]; rfl, HBf.out⟩
        · have C1 := Lib.hid (show Calls Tryz.prog 61 #[.int .i64 0, .int .i64 id, .pointer (some ⟨bs, 0, none⟩)] wa fun e w' => e = .returned (.bool true) ∧ Us w w' [.int .i64 nx, .int .i64 sq, .slice A n c, .slice B m d] ub bs mb (some ⟨b, o, none⟩) F.length rc F (Ed.keys (PL.take k) ++ [((0 : Int), id)]) ∧ wa.grownBy w' (some mb) by
            have h := first_any 0 id bs mb _ _ wa (HUa.out.var.at_ 0 rfl) HUa.out.ne1 HUa.out.km (by have := HKf.out; omega) (by unfold Q64; omega) HQi.out.1 (count_le_one HUa.out.nd _)
            refine h.mono fun e w' hh => ?_
            obtain ⟨h1, h2, h3⟩ := hh
            exact ⟨by rw [h1, decide_eq_true (List.count_eq_zero.2 hin)], HUa.out.first h2 h3 hin, h3⟩)
          clear hin
          go_wp2_with fail
          refine C1.out.mono ?_
          rintro e v1 ⟨rfl, hU1, hg⟩
          have HU1 := Lib.hid hU1
          have hxm : xb ≠ mb := by have := HXB.out; omega
          have x2 := (HX.out.grown hg (fun e => by injection e with e; exact hxm e.symm)).at_ 2 rfl
          clear hU1 hg x0 n0 hxm HUa HX
          go_wp2_with fail
          clear x2
          go_loopw [33] (fun jj wr => ∃ (j : Nat), j ≤ pn ∧ jj = .int .i64 (j : Int) ∧ Hid (Us w wr [.int .i64 nx, .int .i64 sq, .slice A n c, .slice B m d] ub bs mb (some ⟨b, o, none⟩) F.length rc F (Ed.keys (PL.take k) ++ [((0 : Int), id)] ++ ((Ed.fl ps).take (j * 2)).map fun x => ((1 : Int), x)))) (fun jj _ => pn - (intOf jj).toNat)
          case atStart => exact ⟨0, by omega, rfl, Lib.hid (by have h := HU1.out; simpa using h)⟩
          case round =>
            clear HU1
            obtain ⟨j, hj, rfl, HU⟩ := hrel
            have hps : ps.length = pn := HPa.out.1.1
            have hp64 : pn ≤ 64 := by have := HQi.out.2.1; have h2 : ps.length ≤ 64 := this; omega
            by_cases hjl : j < pn
            · have hji : (j : Int) < (pn : Int) := by omega
              obtain ⟨q, hq⟩ : ∃ q, ps[j]? = some q := ⟨_, List.getElem?_eq_getElem (by omega)⟩
              obtain ⟨b2, o2, hPb, _, hc2⟩ := (HU.out.pl.prs _ hmem).rd.at_ hq
              have hPb : P = some ⟨b2, o2, none⟩ := hPb
              subst hPb
              obtain ⟨e0, e1⟩ := hc2 wr (Below.refl _ _)
              obtain ⟨f0, f1⟩ := Ed.fl_at hq
              have HF0 := Lib.hid f0
              have HF1 := Lib.hid f1
              obtain ⟨x, y⟩ := q
              dsimp only at e0 e1
              have hqx : Q64 x := HQi.out.2.2 x (List.mem_of_getElem? HF0.out)
              have hqy : Q64 y := HQi.out.2.2 y (List.mem_of_getElem? HF1.out)
              have hal : Below wr.heap.size wr (wr.alloc (.cells #[.int .i64 x, .int .i64 y] 64)) := (Below.refl _ _).alloc (Nat.le_refl _) _
              have HUb := Lib.hid (HU.out.below hal)
              have HXp := Lib.hid (Holds.new wr #[.int .i64 x, .int .i64 y] 64)
              have HXs := Lib.hid (show mb < wr.heap.size from Nat.lt_of_lt_of_le HU.out.lt HU.out.few)
              clear hc2 hq f0 f1 hal
              go_upto_region 11 with fail
              clear e0 e1 HU
              generalize (wr.alloc (.cells #[.int .i64 x, .int .i64 y] 64)) = wb at *
              generalize wr.heap.size = pb at *
              replace HXp : Hid (Holds wb pb [.int .i64 x, .int .i64 y]) := HXp
              have p0 := HXp.out.at_ 0 rfl
              have hl1 : (Ed.keys (PL.take k) ++ [((0 : Int), id)] ++ ((Ed.fl ps).take (j * 2)).map fun x => ((1 : Int), x)).length < 999000 := by
                rw [List.length_append, List.length_append, List.length_map, List.length_take, Ed.fl_len]
                have := HKf.out
                simp
                omega
              have e12 : Ed.keys (PL.take k) ++ [((0 : Int), id)] ++ ((Ed.fl ps).take (j * 2)).map (fun x => ((1 : Int), x)) ++ [((1 : Int), x)] = Ed.keys (PL.take k) ++ [((0 : Int), id)] ++ ((Ed.fl ps).take (j * 2 + 1)).map fun x => ((1 : Int), x) := by
                rw [List.take_add_one, HF0.out, List.map_append, List.append_assoc]; rfl
              have e13 : Ed.keys (PL.take k) ++ [((0 : Int), id)] ++ ((Ed.fl ps).take (j * 2 + 1)).map (fun x => ((1 : Int), x)) ++ [((1 : Int), y)] = Ed.keys (PL.take k) ++ [((0 : Int), id)] ++ ((Ed.fl ps).take ((j + 1) * 2)).map fun x => ((1 : Int), x) := by
                rw [show (j + 1) * 2 = j * 2 + 1 + 1 by omega, List.take_add_one (i := j * 2 + 1), HF1.out, List.map_append, List.append_assoc]; rfl
              have E12 := Lib.hid (And.intro e12 e13)
              have HL1 := Lib.hid hl1
              clear hl1 e12 e13
              by_cases hin : ((1 : Int), x) ∈ Ed.keys (PL.take k) ++ [((0 : Int), id)] ++ ((Ed.fl ps).take (j * 2)).map fun x => ((1 : Int), x)
              · have HF := Lib.hid (show false = ans by
                  rw [← HA.out]
                  unfold Ed.okU
                  rw [decide_eq_false (Ed.keys_twice HY.out (Ed.keys_split HF0.out) hin), Bool.and_false])
                have C1 := Lib.hid (show Calls Tryz.prog 61 #[.int .i64 1, .int .i64 x, .pointer (some ⟨bs, 0, none⟩)] wb fun e w' => e = .returned (.bool false) ∧ wb.grownBy w' (some mb) by
                  have h := first_any 1 x bs mb _ _ wb (HUb.out.var.at_ 0 rfl) HUb.out.ne1 HUb.out.km (by have := HL1.out; omega) (by unfold Q64; omega) hqx (count_le_one HUb.out.nd _)
                  refine h.mono fun e w' hh => ?_
                  obtain ⟨h1, h2, h3⟩ := hh
                  refine ⟨?_, h3⟩
                  rw [h1, decide_eq_false]
                  have := List.count_pos_iff.2 hin
                  omega)
                clear hin hqx hqy
                go_wp2_with fail
                refine C1.out.mono ?_
                rintro e v1 ⟨rfl, hg⟩
                have HBf := Lib.hid (HUb.out.bel.grown hg HUb.out.bel.size (fun g e => by injection e with e; have := HUb.out.ge; omega))
                clear hg
                go_wp2
                go_ret
                exact ⟨by rw [← HF.out]; rfl, HBf.out⟩
              · have C1 := Lib.hid (show Calls Tryz.prog 61 #[.int .i64 1, .int .i64 x, .pointer (some ⟨bs, 0, none⟩)] wb fun e w' => e = .returned (.bool true) ∧ Us w w' [.int .i64 nx, .int .i64 sq, .slice A n c, .slice B m d] ub bs mb (some ⟨b, o, none⟩) F.length rc F (Ed.keys (PL.take k) ++ [((0 : Int), id)] ++ ((Ed.fl ps).take (j * 2 + 1)).map fun x => ((1 : Int), x)) ∧ wb.grownBy w' (some mb) by
                  have h := first_any 1 x bs mb _ _ wb (HUb.out.var.at_ 0 rfl) HUb.out.ne1 HUb.out.km (by have := HL1.out; omega) (by unfold Q64; omega) hqx (count_le_one HUb.out.nd _)
                  refine h.mono fun e w' hh => ?_
                  obtain ⟨h1, h2, h3⟩ := hh
                  refine ⟨by rw [h1, decide_eq_true (List.count_eq_zero.2 hin)], ?_, h3⟩
                  have := HUb.out.first h2 h3 hin
                  rwa [E12.out.1] at this)
                clear hin hqx
                go_wp2_with fail
                refine C1.out.mono ?_
                rintro e v1 ⟨rfl, hU1, hg⟩
                have HU1 := Lib.hid hU1
                have p1 := (HXp.out.grown hg (fun e => by injection e with e; have := HXs.out; omega)).at_ 1 rfl
                clear hU1 hg p0 HUb HXp C1
                have hl2 : (Ed.keys (PL.take k) ++ [((0 : Int), id)] ++ ((Ed.fl ps).take (j * 2 + 1)).map fun x => ((1 : Int), x)).length < 999000 := by
                  rw [List.length_append, List.length_append, List.length_map, List.length_take, Ed.fl_len]
                  have := HKf.out
                  simp
                  omega
                have HL2 := Lib.hid hl2
                clear hl2
                by_cases hin : ((1 : Int), y) ∈ Ed.keys (PL.take k) ++ [((0 : Int), id)] ++ ((Ed.fl ps).take (j * 2 + 1)).map fun x => ((1 : Int), x)
                · have HF := Lib.hid (show false = ans by
                    rw [← HA.out]
                    unfold Ed.okU
                    rw [decide_eq_false (Ed.keys_twice HY.out (Ed.keys_split HF1.out) hin), Bool.and_false])
                  have C2 := Lib.hid (show Calls Tryz.prog 61 #[.int .i64 1, .int .i64 y, .pointer (some ⟨bs, 0, none⟩)] v1 fun e w' => e = .returned (.bool false) ∧ v1.grownBy w' (some mb) by
                    have h := first_any 1 y bs mb _ _ v1 (HU1.out.var.at_ 0 rfl) HU1.out.ne1 HU1.out.km (by have := HL2.out; omega) (by unfold Q64; omega) hqy (count_le_one HU1.out.nd _)
                    refine h.mono fun e w' hh => ?_
                    obtain ⟨h1, h2, h3⟩ := hh
                    refine ⟨?_, h3⟩
                    rw [h1, decide_eq_false]
                    have := List.count_pos_iff.2 hin
                    omega)
                  clear hin hqy
                  go_wp2_with fail
                  refine C2.out.mono ?_
                  rintro e v2 ⟨rfl, hg⟩
                  have HBf := Lib.hid (HU1.out.bel.grown hg HU1.out.bel.size (fun g e => by injection e with e; have := HU1.out.ge; omega))
                  clear hg
                  go_wp2
                  go_ret
                  exact ⟨by rw [← HF.out]; rfl, HBf.out⟩
                · have C2 := Lib.hid (show Calls Tryz.prog 61 #[.int .i64 1, .int .i64 y, .pointer (some ⟨bs, 0, none⟩)] v1 fun e w' => e = .returned (.bool true) ∧ Us w w' [.int .i64 nx, .int .i64 sq, .slice A n c, .slice B m d] ub bs mb (some ⟨b, o, none⟩) F.length rc F (Ed.keys (PL.take k) ++ [((0 : Int), id)] ++ ((Ed.fl ps).take ((j + 1) * 2)).map fun x => ((1 : Int), x)) by
                    have h := first_any 1 y bs mb _ _ v1 (HU1.out.var.at_ 0 rfl) HU1.out.ne1 HU1.out.km (by have := HL2.out; omega) (by unfold Q64; omega) hqy (count_le_one HU1.out.nd _)
                    refine h.mono fun e w' hh => ?_
                    obtain ⟨h1, h2, h3⟩ := hh
                    refine ⟨by rw [h1, decide_eq_true (List.count_eq_zero.2 hin)], ?_⟩
                    have := HU1.out.first h2 h3 hin
                    rwa [E12.out.2] at this)
                  clear hin hqy
                  go_wp2_with fail
                  refine C2.out.mono ?_
                  rintro e v2 ⟨rfl, hU2⟩
                  have HU2 := Lib.hid hU2
                  clear hU2 p1
                  go_wp2
                  go_roundw
                  case rel => exact ⟨j + 1, by omega, by go_num, HU2⟩
                  case measure => simp [intOf]; omega
            · have hji : ¬ (j : Int) < (pn : Int) := by omega
              have HN := Lib.hid (show Us w wr [.int .i64 nx, .int .i64 sq, .slice A n c, .slice B m d] ub bs mb (some ⟨b, o, none⟩) F.length rc F (Ed.keys (PL.take (k + 1))) by
                have h := HU.out
                rw [List.take_of_length_le (l := Ed.fl ps) (by rw [Ed.fl_len]; omega)] at h
                rw [Ed.keys_snoc HY.out]
                simpa using h)
              have hF2 : F.length ≤ 256 := by have := HLen.out; rw [← HFp.out, List.length_map] at this; exact this
              clear hjl HU
              go_wp2
              go_roundw
              case rel => exact ⟨k + 1, by omega, by go_num, HN, HIn⟩
              case measure => simp [intOf]; omega
    · have hki : ¬ (k : Int) < (F.length : Int) := by omega
      have HF := Lib.hid (show true = ans by
        have hFl : PL.length = F.length := by rw [← HFp.out, List.length_map]
        have h1 := HI.out
        have h2 := HU.out.nd
        rw [List.take_of_length_le (l := PL) (by omega)] at h1 h2
        rw [← HA.out]
        unfold Ed.okU
        rw [decide_eq_true h2, Bool.and_true, eq_comm, List.all_eq_true]
        exact fun p hp => decide_eq_true (h1 p hp))
      clear hlt
      go_wp2
      go_ret
      exact ⟨by rw [← HF.out]; rfl, HU.out.bel⟩
end Go.Proofs.YthfcjlndaajkfaaGreat
