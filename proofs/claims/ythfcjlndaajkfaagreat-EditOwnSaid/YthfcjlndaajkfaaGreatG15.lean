/- edit.unlike: are all IDs, and all plots, unlike? slices.SortFunc of tables, by level and lowest key. -/
import Derived.Test.YthfcjlndaajkfaaGreatG14
import Derived.Test.YthfcjlndaajkfaaGreatEdShelf
import Derived.Test.YthfcjlndaajkfaaGreatG11
namespace Go.Proofs.YthfcjlndaajkfaaGreat
open Go.RowKit
set_option linter.unusedVariables false
set_option maxRecDepth 100000 in
theorem enter_first (args : Array Value) (w : World) : (callFunc 61 args).run Tryz.prog w = .ok (.enter 61 args) w := run_enter Tryz.func61 (by kernel_rfl) (by kernel_rfl) args w
set_option maxRecDepth 100000 in
set_option maxHeartbeats 16000000 in
theorem punlike_any (nx sq : Int) (A : Option Addr) (n c : Nat) (B : Option Addr) (m d : Nat) (L : List (Ed.Lg × List (Int × Int))) (M : List (Pk.Tb × List (Int × Int))) (w : World) (hL : RdLs w A n L) (hM : RdTs w B m M) (hn : n ≤ 128) (hm : m ≤ 128) (hlp : ∀ x ∈ L, x.1.pn ≤ 64) (htp : ∀ x ∈ M, x.1.pn ≤ 64)
    (hq : ∀ p ∈ L.map (fun x => (Ed.loOf x).p) ++ M.map (fun x => (Ed.taOf x).p), Q64 p.id ∧ p.ps.length ≤ 64 ∧ ∀ z ∈ Ed.fl p.ps, Q64 z) :
    Calls Tryz.prog 34 #[.agg #[.int .i64 nx, .int .i64 sq, .slice A n c, .slice B m d]] w fun e w' => e = .returned (.bool (Ed.okU nx (L.map (fun x => (Ed.loOf x).p) ++ M.map (fun x => (Ed.taOf x).p)))) ∧ Below w.heap.size w w' := by
  have h1 : Below w.heap.size w (w.alloc (.cells #[.int .i64 nx, .int .i64 sq, .slice A n c, .slice B m d] 25)) := (Below.refl _ _).alloc (Nat.le_refl _) _
  have h3 : Below w.heap.size w (((w.alloc (.cells #[.int .i64 nx, .int .i64 sq, .slice A n c, .slice B m d] 25)).alloc (.map #[] 0)).alloc (.cells #[.map (some (w.heap.size + 1))] 99)) := (h1.alloc (by simp) _).alloc (by simp <;> omega) _
  have HX := hd_ (((Holds.new w #[.int .i64 nx, .int .i64 sq, .slice A n c, .slice B m d] 25).alloc (.map #[] 0)).alloc (.cells #[.map (some (w.heap.size + 1))] 99))
  have HV := hd_ (Holds.new ((w.alloc (.cells #[.int .i64 nx, .int .i64 sq, .slice A n c, .slice B m d] 25)).alloc (.map #[] 0)) #[.map (some (w.heap.size + 1))] 99)
  have HK := hd_ ((Km.new (w.alloc (.cells #[.int .i64 nx, .int .i64 sq, .slice A n c, .slice B m d] 25))).below (w' := (((w.alloc (.cells #[.int .i64 nx, .int .i64 sq, .slice A n c, .slice B m d] 25)).alloc (.map #[] 0)).alloc (.cells #[.map (some (w.heap.size + 1))] 99))) ((Below.refl _ _).alloc (Nat.le_refl _) _))
  have HB := hd_ h3
  have HP := hd_ (places_any nx sq A n c B m d L M (((w.alloc (.cells #[.int .i64 nx, .int .i64 sq, .slice A n c, .slice B m d] 25)).alloc (.map #[] 0)).alloc (.cells #[.map (some (w.heap.size + 1))] 99)) (hL.below h3) (hM.below h3) (by omega) (by omega) (fun x hx => by have := hlp x hx; omega) (fun x hx => by have := htp x hx; omega))
  have HS := hd_ (show (w.alloc (.cells #[.int .i64 nx, .int .i64 sq, .slice A n c, .slice B m d] 25)).heap.size = w.heap.size + 1 ∧ ((w.alloc (.cells #[.int .i64 nx, .int .i64 sq, .slice A n c, .slice B m d] 25)).alloc (.map #[] 0)).heap.size = w.heap.size + 2 ∧ (((w.alloc (.cells #[.int .i64 nx, .int .i64 sq, .slice A n c, .slice B m d] 25)).alloc (.map #[] 0)).alloc (.cells #[.map (some (w.heap.size + 1))] 99)).heap.size = w.heap.size + 3 by simp)
  have HQ := hd_ hq
  have HLen := hd_ (show (L.map (fun x => (Ed.loOf x).p) ++ M.map (fun x => (Ed.taOf x).p)).length ≤ 256 by rw [List.length_append, List.length_map, List.length_map, hL.len, hM.len]; omega)
  clear h1 h3 hL hM hlp htp hq
  have hmk := run_mk (w.alloc (.cells #[.int .i64 nx, .int .i64 sq, .slice A n c, .slice B m d] 25))
  generalize L.map (fun x => (Ed.loOf x).p) ++ M.map (fun x => (Ed.taOf x).p) = PL at *
  generalize hans : Ed.okU nx PL = ans
  have HA := hd_ hans
  clear hans
  go_enter Tryz.func34, Tryz.ntmps34
  go_upto_region 3 with fail
  clear hmk
  generalize (((w.alloc (.cells #[.int .i64 nx, .int .i64 sq, .slice A n c, .slice B m d] 25)).alloc (.map #[] 0)).alloc (.cells #[.map (some (w.heap.size + 1))] 99)) = u at *
  replace HX : Hid (Holds u w.heap.size [.int .i64 nx, .int .i64 sq, .slice A n c, .slice B m d]) := HX
  replace HV : Hid (Holds u (w.heap.size + 2) [.map (some (w.heap.size + 1))]) := hd_ (by have h := HV.out; rw [HS.out.2.1] at h; exact h)
  replace HK : Hid (Km u (w.heap.size + 1) 0 []) := hd_ (by have h := HK.out; rw [HS.out.1] at h; exact h)
  obtain ⟨x0, x1, x2, x3⟩ := HX.out.all4
  go_wp2_with fail
  refine HP.out.mono ?_
  rintro e v ⟨R, rc, F, rfl, hO, hF, hbv⟩
  have HFp := hd_ hF
  have HU0 := hd_ (show Us w v [.int .i64 nx, .int .i64 sq, .slice A n c, .slice B m d] u.heap.size (w.heap.size + 2) (w.heap.size + 1) R F.length rc F [] from ⟨HX.out.below hbv, HV.out.below hbv, hO, HK.out.below hbv, by simp, below_next HB.out hbv, by omega, by omega, by omega, by rw [HS.out.2.2]; omega, hbv.size⟩)
  clear x0 x1 x2 x3 hO hF hbv HP HX HV HK HB HS
  generalize w.heap.size + 2 = bs at *
  generalize w.heap.size + 1 = mb at *
  generalize u.heap.size = ub at *
  go_wp2_with fail
  have hmf := enter_first
  go_loopw [14] (fun ii wr => ∃ (k : Nat), k ≤ F.length ∧ ii = .int .i64 (k : Int) ∧ Hid (Us w wr [.int .i64 nx, .int .i64 sq, .slice A n c, .slice B m d] ub bs mb R F.length rc F (Ed.keys (PL.take k))) ∧ Hid (∀ p ∈ PL.take k, p.id < nx)) (fun ii _ => F.length - (intOf ii).toNat)
  case atStart => exact ⟨0, by omega, rfl, HU0, hd_ (fun p hp => nomatch hp)⟩
  case round =>
    clear HU0
    obtain ⟨k, hk, rfl, HU, HI⟩ := hrel
    by_cases hlt : k < F.length
    · have hki : (k : Int) < (F.length : Int) := by omega
      have hk0 : (0 : Int) ≤ (k : Int) := by omega
      obtain ⟨y, hy⟩ : ∃ y, F[k]? = some y := ⟨_, List.getElem?_eq_getElem hlt⟩
      have HY := hd_ (show PL[k]? = some (Ed.plOf y) by rw [← HFp.out]; exact Ed.map_at hy)
      have HPy := hd_ ((HU.out.pl.prs y (List.mem_of_getElem? hy)).ok)
      obtain ⟨b, o, hR, _, hc⟩ := HU.out.pl.row.rd.2 (by omega)
      have hym : (F.map (·.1))[k]? = some y.1 := by rw [List.getElem?_map, hy]; rfl
      have e0 := hc _ _ (Pk.flatMap_at (f := Ed.Pc.cells) (s := 3) (fun _ => rfl) (j := 0) hym rfl)
      have e1 := hc _ _ (Pk.flatMap_at (f := Ed.Pc.cells) (s := 3) (fun _ => rfl) (j := 1) hym rfl)
      have e2 := hc _ _ (Pk.flatMap_at (f := Ed.Pc.cells) (s := 3) (fun _ => rfl) (j := 2) hym rfl)
      have e0 : wr.cell? ⟨b, o + k * 3, none⟩ = some (.int .i64 y.1.id) := e0
      have e1 : wr.cell? ⟨b, o + k * 3 + 1, none⟩ = some (.int .i64 y.1.ep) := e1
      have e2 : wr.cell? ⟨b, o + k * 3 + 2, none⟩ = some (.slice y.1.P y.1.pn y.1.pc) := e2
      have hymem : y ∈ F := List.mem_of_getElem? hy
      have HXB := hd_ (show mb < wr.heap.size from Nat.lt_of_lt_of_le HU.out.lt HU.out.few)
      clear hc hy hym
      subst hR
      obtain ⟨⟨id, ep, P, pn, pc⟩, ps⟩ := y
      dsimp only at e0 e1 e2 HPy
      replace HY : Hid (PL[k]? = some ⟨id, ep, ps⟩) := HY
      have hQ := HQ.out _ (List.mem_of_getElem? HY.out)
      have hal : Below wr.heap.size wr (wr.alloc (.cells #[.int .i64 id, .int .i64 ep, .slice P pn pc] 32)) := (Below.refl _ _).alloc (Nat.le_refl _) _
      have HX := hd_ (Holds.new wr #[.int .i64 id, .int .i64 ep, .slice P pn pc] 32)
      have HUa := hd_ (HU.out.below hal)
      have HPa := hd_ (HPy.out.below hal)
      have HQi := hd_ hQ
      have HKf := hd_ (show (Ed.keys (PL.take k)).length ≤ 256 * 129 from Nat.le_trans (Ed.keys_len (fun p hp => (HQ.out p (List.mem_of_mem_take hp)).2.1)) (Nat.mul_le_mul_right _ (by rw [List.length_take]; have := HLen.out; omega)))
      have hmem : ((⟨id, ep, P, pn, pc⟩ : Ed.Pc), ps) ∈ F := hymem
      clear hal hQ
      go_upto_region 6 with fail
      clear e0 e1 e2 HU HPy
      generalize (wr.alloc (.cells #[.int .i64 id, .int .i64 ep, .slice P pn pc] 32)) = wa at *
      generalize wr.heap.size = xb at *
      replace HX : Hid (Holds wa xb [.int .i64 id, .int .i64 ep, .slice P pn pc]) := HX
      have x0 := HX.out.at_ 0 rfl
      have n0 := HUa.out.box.at_ 0 rfl
      by_cases hnx : nx ≤ id
      · have HF := hd_ (show false = ans by
          rw [← HA.out]
          unfold Ed.okU
          have : PL.all (fun p => decide (p.id < nx)) = false := by
            rw [List.all_eq_false]
            exact ⟨_, List.mem_of_getElem? HY.out, by simp; omega⟩
          rw [this]; rfl)
        go_wp2
        go_ret
        exact ⟨by rw [← HF.out]; rfl, HUa.out.bel⟩
      · have HIn := hd_ (show ∀ p ∈ PL.take (k + 1), p.id < nx by
          intro p hp
          rw [List.take_add_one, HY.out] at hp
          rcases List.mem_append.1 hp with hp | hp
          · exact HI.out p hp
          · rcases List.mem_singleton.1 hp with rfl
            show id < nx
            omega)
        by_cases hin : ((0 : Int), id) ∈ Ed.keys (PL.take k)
        · have HF := hd_ (show false = ans by
            rw [← HA.out]
            unfold Ed.okU
            rw [decide_eq_false (Ed.keys_twice HY.out rfl hin), Bool.and_false])
          have C1 := hd_ (show Calls Tryz.prog 61 #[.int .i64 0, .int .i64 id, .pointer (some ⟨bs, 0, none⟩)] wa fun e w' => e = .returned (.bool false) ∧ wa.grownBy w' (some mb) by
            have h := first_any 0 id bs mb _ _ wa (HUa.out.var.at_ 0 rfl) HUa.out.ne1 HUa.out.km (by have := HKf.out; omega) (by unfold Q64; omega) HQi.out.1 (count_le_one HUa.out.nd _)
            refine h.mono fun e w' hh => ?_
            obtain ⟨h1, h2, h3⟩ := hh
            refine ⟨?_, h3⟩
            rw [h1, decide_eq_false]
            have := List.count_pos_iff.2 hin
            omega)
          clear hin
          go_wp2_with fail
          refine C1.out.mono ?_
          rintro e v1 ⟨rfl, hg⟩
          have HBf := hd_ (HUa.out.bel.grown hg HUa.out.bel.size (fun g e => by injection e with e; have := HUa.out.ge; omega))
          clear hg
          go_wp2
          go_ret
          exact ⟨by rw [← HF.out]; rfl, HBf.out⟩
        · have C1 := hd_ (show Calls Tryz.prog 61 #[.int .i64 0, .int .i64 id, .pointer (some ⟨bs, 0, none⟩)] wa fun e w' => e = .returned (.bool true) ∧ Us w w' [.int .i64 nx, .int .i64 sq, .slice A n c, .slice B m d] ub bs mb (some ⟨b, o, none⟩) F.length rc F (Ed.keys (PL.take k) ++ [((0 : Int), id)]) ∧ wa.grownBy w' (some mb) by
            have h := first_any 0 id bs mb _ _ wa (HUa.out.var.at_ 0 rfl) HUa.out.ne1 HUa.out.km (by have := HKf.out; omega) (by unfold Q64; omega) HQi.out.1 (count_le_one HUa.out.nd _)
            refine h.mono fun e w' hh => ?_
            obtain ⟨h1, h2, h3⟩ := hh
            exact ⟨by rw [h1, decide_eq_true (List.count_eq_zero.2 hin)], HUa.out.first h2 h3 hin, h3⟩)
          clear hin
          go_wp2_with fail
          refine C1.out.mono ?_
          rintro e v1 ⟨rfl, hU1, hg⟩
          have HU1 := hd_ hU1
          have hxm : xb ≠ mb := by have := HXB.out; omega
          have x2 := (HX.out.grown hg (fun e => by injection e with e; exact hxm e.symm)).at_ 2 rfl
          clear hU1 hg x0 n0 hxm HUa HX
          go_wp2_with fail
          clear x2
          go_loopw [33] (fun jj wr => ∃ (j : Nat), j ≤ pn ∧ jj = .int .i64 (j : Int) ∧ Hid (Us w wr [.int .i64 nx, .int .i64 sq, .slice A n c, .slice B m d] ub bs mb (some ⟨b, o, none⟩) F.length rc F (Ed.keys (PL.take k) ++ [((0 : Int), id)] ++ ((Ed.fl ps).take (j * 2)).map fun x => ((1 : Int), x)))) (fun jj _ => pn - (intOf jj).toNat)
          case atStart => exact ⟨0, by omega, rfl, hd_ (by have h := HU1.out; simpa using h)⟩
          case round =>
            clear HU1
            obtain ⟨j, hj, rfl, HU⟩ := hrel
            have hps : ps.length = pn := HPa.out.1.1
            have hp64 : pn ≤ 64 := by have := HQi.out.2.1; have h2 : ps.length ≤ 64 := this; omega
            by_cases hjl : j < pn
            · have hji : (j : Int) < (pn : Int) := by omega
              obtain ⟨q, hq⟩ : ∃ q, ps[j]? = some q := ⟨_, List.getElem?_eq_getElem (by omega)⟩
              obtain ⟨b2, o2, hPb, _, hc2⟩ := (HU.out.pl.prs _ hmem).rd.at_ hq
              have hPb : P = some ⟨b2, o2, none⟩ := hPb
              subst hPb
              obtain ⟨e0, e1⟩ := hc2 wr (Below.refl _ _)
              obtain ⟨f0, f1⟩ := Ed.fl_at hq
              have HF0 := hd_ f0
              have HF1 := hd_ f1
              obtain ⟨x, y⟩ := q
              dsimp only at e0 e1
              have hqx : Q64 x := HQi.out.2.2 x (List.mem_of_getElem? HF0.out)
              have hqy : Q64 y := HQi.out.2.2 y (List.mem_of_getElem? HF1.out)
              have hal : Below wr.heap.size wr (wr.alloc (.cells #[.int .i64 x, .int .i64 y] 64)) := (Below.refl _ _).alloc (Nat.le_refl _) _
              have HUb := hd_ (HU.out.below hal)
              have HXp := hd_ (Holds.new wr #[.int .i64 x, .int .i64 y] 64)
              have HXs := hd_ (show mb < wr.heap.size from Nat.lt_of_lt_of_le HU.out.lt HU.out.few)
              clear hc2 hq f0 f1 hal
              go_upto_region 11 with fail
              clear e0 e1 HU
              generalize (wr.alloc (.cells #[.int .i64 x, .int .i64 y] 64)) = wb at *
              generalize wr.heap.size = pb at *
              replace HXp : Hid (Holds wb pb [.int .i64 x, .int .i64 y]) := HXp
              have p0 := HXp.out.at_ 0 rfl
              have hl1 : (Ed.keys (PL.take k) ++ [((0 : Int), id)] ++ ((Ed.fl ps).take (j * 2)).map fun x => ((1 : Int), x)).length < 999000 := by
                rw [List.length_append, List.length_append, List.length_map, List.length_take, Ed.fl_len]
                have := HKf.out
                simp
                omega
              have e12 : Ed.keys (PL.take k) ++ [((0 : Int), id)] ++ ((Ed.fl ps).take (j * 2)).map (fun x => ((1 : Int), x)) ++ [((1 : Int), x)] = Ed.keys (PL.take k) ++ [((0 : Int), id)] ++ ((Ed.fl ps).take (j * 2 + 1)).map fun x => ((1 : Int), x) := by
                rw [List.take_add_one, HF0.out, List.map_append, List.append_assoc]; rfl
              have e13 : Ed.keys (PL.take k) ++ [((0 : Int), id)] ++ ((Ed.fl ps).take (j * 2 + 1)).map (fun x => ((1 : Int), x)) ++ [((1 : Int), y)] = Ed.keys (PL.take k) ++ [((0 : Int), id)] ++ ((Ed.fl ps).take ((j + 1) * 2)).map fun x => ((1 : Int), x) := by
                rw [show (j + 1) * 2 = j * 2 + 1 + 1 by omega, List.take_add_one (i := j * 2 + 1), HF1.out, List.map_append, List.append_assoc]; rfl
              have E12 := hd_ (And.intro e12 e13)
              have HL1 := hd_ hl1
              clear hl1 e12 e13
              by_cases hin : ((1 : Int), x) ∈ Ed.keys (PL.take k) ++ [((0 : Int), id)] ++ ((Ed.fl ps).take (j * 2)).map fun x => ((1 : Int), x)
              · have HF := hd_ (show false = ans by
                  rw [← HA.out]
                  unfold Ed.okU
                  rw [decide_eq_false (Ed.keys_twice HY.out (Ed.keys_split HF0.out) hin), Bool.and_false])
                have C1 := hd_ (show Calls Tryz.prog 61 #[.int .i64 1, .int .i64 x, .pointer (some ⟨bs, 0, none⟩)] wb fun e w' => e = .returned (.bool false) ∧ wb.grownBy w' (some mb) by
                  have h := first_any 1 x bs mb _ _ wb (HUb.out.var.at_ 0 rfl) HUb.out.ne1 HUb.out.km (by have := HL1.out; omega) (by unfold Q64; omega) hqx (count_le_one HUb.out.nd _)
                  refine h.mono fun e w' hh => ?_
                  obtain ⟨h1, h2, h3⟩ := hh
                  refine ⟨?_, h3⟩
                  rw [h1, decide_eq_false]
                  have := List.count_pos_iff.2 hin
                  omega)
                clear hin hqx hqy
                go_wp2_with fail
                refine C1.out.mono ?_
                rintro e v1 ⟨rfl, hg⟩
                have HBf := hd_ (HUb.out.bel.grown hg HUb.out.bel.size (fun g e => by injection e with e; have := HUb.out.ge; omega))
                clear hg
                go_wp2
                go_ret
                exact ⟨by rw [← HF.out]; rfl, HBf.out⟩
              · have C1 := hd_ (show Calls Tryz.prog 61 #[.int .i64 1, .int .i64 x, .pointer (some ⟨bs, 0, none⟩)] wb fun e w' => e = .returned (.bool true) ∧ Us w w' [.int .i64 nx, .int .i64 sq, .slice A n c, .slice B m d] ub bs mb (some ⟨b, o, none⟩) F.length rc F (Ed.keys (PL.take k) ++ [((0 : Int), id)] ++ ((Ed.fl ps).take (j * 2 + 1)).map fun x => ((1 : Int), x)) ∧ wb.grownBy w' (some mb) by
                  have h := first_any 1 x bs mb _ _ wb (HUb.out.var.at_ 0 rfl) HUb.out.ne1 HUb.out.km (by have := HL1.out; omega) (by unfold Q64; omega) hqx (count_le_one HUb.out.nd _)
                  refine h.mono fun e w' hh => ?_
                  obtain ⟨h1, h2, h3⟩ := hh
                  refine ⟨by rw [h1, decide_eq_true (List.count_eq_zero.2 hin)], ?_, h3⟩
                  have := HUb.out.first h2 h3 hin
                  rwa [E12.out.1] at this)
                clear hin hqx
                go_wp2_with fail
                refine C1.out.mono ?_
                rintro e v1 ⟨rfl, hU1, hg⟩
                have HU1 := hd_ hU1
                have p1 := (HXp.out.grown hg (fun e => by injection e with e; have := HXs.out; omega)).at_ 1 rfl
                clear hU1 hg p0 HUb HXp C1
                have hl2 : (Ed.keys (PL.take k) ++ [((0 : Int), id)] ++ ((Ed.fl ps).take (j * 2 + 1)).map fun x => ((1 : Int), x)).length < 999000 := by
                  rw [List.length_append, List.length_append, List.length_map, List.length_take, Ed.fl_len]
                  have := HKf.out
                  simp
                  omega
                have HL2 := hd_ hl2
                clear hl2
                by_cases hin : ((1 : Int), y) ∈ Ed.keys (PL.take k) ++ [((0 : Int), id)] ++ ((Ed.fl ps).take (j * 2 + 1)).map fun x => ((1 : Int), x)
                · have HF := hd_ (show false = ans by
                    rw [← HA.out]
                    unfold Ed.okU
                    rw [decide_eq_false (Ed.keys_twice HY.out (Ed.keys_split HF1.out) hin), Bool.and_false])
                  have C2 := hd_ (show Calls Tryz.prog 61 #[.int .i64 1, .int .i64 y, .pointer (some ⟨bs, 0, none⟩)] v1 fun e w' => e = .returned (.bool false) ∧ v1.grownBy w' (some mb) by
                    have h := first_any 1 y bs mb _ _ v1 (HU1.out.var.at_ 0 rfl) HU1.out.ne1 HU1.out.km (by have := HL2.out; omega) (by unfold Q64; omega) hqy (count_le_one HU1.out.nd _)
                    refine h.mono fun e w' hh => ?_
                    obtain ⟨h1, h2, h3⟩ := hh
                    refine ⟨?_, h3⟩
                    rw [h1, decide_eq_false]
                    have := List.count_pos_iff.2 hin
                    omega)
                  clear hin hqy
                  go_wp2_with fail
                  refine C2.out.mono ?_
                  rintro e v2 ⟨rfl, hg⟩
                  have HBf := hd_ (HU1.out.bel.grown hg HU1.out.bel.size (fun g e => by injection e with e; have := HU1.out.ge; omega))
                  clear hg
                  go_wp2
                  go_ret
                  exact ⟨by rw [← HF.out]; rfl, HBf.out⟩
                · have C2 := hd_ (show Calls Tryz.prog 61 #[.int .i64 1, .int .i64 y, .pointer (some ⟨bs, 0, none⟩)] v1 fun e w' => e = .returned (.bool true) ∧ Us w w' [.int .i64 nx, .int .i64 sq, .slice A n c, .slice B m d] ub bs mb (some ⟨b, o, none⟩) F.length rc F (Ed.keys (PL.take k) ++ [((0 : Int), id)] ++ ((Ed.fl ps).take ((j + 1) * 2)).map fun x => ((1 : Int), x)) by
                    have h := first_any 1 y bs mb _ _ v1 (HU1.out.var.at_ 0 rfl) HU1.out.ne1 HU1.out.km (by have := HL2.out; omega) (by unfold Q64; omega) hqy (count_le_one HU1.out.nd _)
                    refine h.mono fun e w' hh => ?_
                    obtain ⟨h1, h2, h3⟩ := hh
                    refine ⟨by rw [h1, decide_eq_true (List.count_eq_zero.2 hin)], ?_⟩
                    have := HU1.out.first h2 h3 hin
                    rwa [E12.out.2] at this)
                  clear hin hqy
                  go_wp2_with fail
                  refine C2.out.mono ?_
                  rintro e v2 ⟨rfl, hU2⟩
                  have HU2 := hd_ hU2
                  clear hU2 p1
                  go_wp2
                  go_roundw
                  case rel => exact ⟨j + 1, by omega, by go_num, HU2⟩
                  case measure => simp [intOf]; omega
            · have hji : ¬ (j : Int) < (pn : Int) := by omega
              have HN := hd_ (show Us w wr [.int .i64 nx, .int .i64 sq, .slice A n c, .slice B m d] ub bs mb (some ⟨b, o, none⟩) F.length rc F (Ed.keys (PL.take (k + 1))) by
                have h := HU.out
                rw [List.take_of_length_le (l := Ed.fl ps) (by rw [Ed.fl_len]; omega)] at h
                rw [Ed.keys_snoc HY.out]
                simpa using h)
              have hF2 : F.length ≤ 256 := by have := HLen.out; rw [← HFp.out, List.length_map] at this; exact this
              clear hjl HU
              go_wp2
              go_roundw
              case rel => exact ⟨k + 1, by omega, by go_num, HN, HIn⟩
              case measure => simp [intOf]; omega
    · have hki : ¬ (k : Int) < (F.length : Int) := by omega
      have HF := hd_ (show true = ans by
        have hFl : PL.length = F.length := by rw [← HFp.out, List.length_map]
        have h1 := HI.out
        have h2 := HU.out.nd
        rw [List.take_of_length_le (l := PL) (by omega)] at h1 h2
        rw [← HA.out]
        unfold Ed.okU
        rw [decide_eq_true h2, Bool.and_true, eq_comm, List.all_eq_true]
        exact fun p hp => decide_eq_true (h1 p hp))
      clear hlt
      go_wp2
      go_ret
      exact ⟨by rw [← HF.out]; rfl, HU.out.bel⟩
end Go.Proofs.YthfcjlndaajkfaaGreat
namespace Go.Proofs.YthfcjlndaajkfaaGreat
open Go.RowKit
open Go.Shelf
set_option linter.unusedVariables false
theorem compareBytes_eq : ∀ a b : List UInt8, Lib.compareBytes a b = if a < b then -1 else if b < a then 1 else 0
  | [], [] => rfl
  | [], _ :: _ => by simp [Lib.compareBytes]
  | _ :: _, [] => by simp [Lib.compareBytes]
  | a :: x, b :: y => by
    rw [Lib.compareBytes, compareBytes_eq x y]
    by_cases h1 : a < b
    · simp [h1, List.cons_lt_cons_iff]
    · by_cases h2 : b < a
      · have h3 : ¬ a = b := fun e => by rw [e] at h2; exact absurd h2 (by simp)
        simp [h1, h2, h3, List.cons_lt_cons_iff]
      · have h3 : a = b := by
          have e1 : ¬ a.toNat < b.toNat := h1
          have e2 : ¬ b.toNat < a.toNat := h2
          exact UInt8.toNat_inj.1 (by omega)
        subst h3
        simp
theorem compareBytes_neg (a b : List UInt8) : Lib.compareBytes a b < 0 ↔ a < b := by
  rw [compareBytes_eq]
  by_cases h1 : a < b
  · simp [h1]
  · by_cases h2 : b < a <;> simp [h1, h2]
/-- A table with a level that is small. -/
abbrev Tl := { x : Pk.Tb // 0 ≤ x.lv ∧ x.lv ≤ 1000 }
instance : Inhabited Tl := ⟨⟨⟨0, 0, none, 0, 0, 0, 0, 0, ⟨#[]⟩, ⟨#[]⟩, 0⟩, by decide⟩⟩
def encT (x : Tl) : List Value := x.1.cells
def cmpA (x y : Tl) : Int := if x.1.lv = y.1.lv then Lib.compareBytes (Pk.kb x.1.lo) (Pk.kb y.1.lo) else x.1.lv - y.1.lv
/-- Does a table come ahead of another? -/
def ahead (x y : Pk.Tb) : Prop := x.lv < y.lv ∨ (x.lv = y.lv ∧ Pk.kb x.lo < Pk.kb y.lo)
theorem ltA (x y : Tl) : ltOf cmpA x y = true ↔ ahead x.1 y.1 := by
  unfold ltOf cmpA ahead
  rw [decide_eq_true_iff]
  split
  · rename_i h
    rw [compareBytes_neg]
    exact ⟨fun e => .inr ⟨h, e⟩, fun e => by rcases e with e | e; omega; exact e.2⟩
  · rename_i h
    exact ⟨fun e => .inl (by omega), fun e => by rcases e with e | e; omega; exact absurd e.1 h⟩
theorem swoA : Sort.SWO (ltOf cmpA) where
  irrefl x := by
    rw [← Bool.not_eq_true, ltA]
    rintro (h | ⟨_, h⟩)
    · omega
    · exact List.lt_irrefl _ h
  trans x y z h1 h2 := by
    rw [ltA] at *
    rcases h1 with h1 | ⟨e1, h1⟩ <;> rcases h2 with h2 | ⟨e2, h2⟩
    · exact .inl (by omega)
    · exact .inl (by omega)
    · exact .inl (by omega)
    · exact .inr ⟨by omega, List.lt_trans h1 h2⟩
  ntrans x y z h1 h2 := by
    rw [← Bool.not_eq_true, ltA] at *
    rintro (h | ⟨e, h⟩)
    · by_cases g : x.1.lv < y.1.lv
      · exact h1 (.inl g)
      · exact h2 (.inl (by omega))
    · by_cases g : x.1.lv < y.1.lv
      · exact h1 (.inl g)
      · by_cases g2 : y.1.lv < z.1.lv
        · exact h2 (.inl g2)
        · have a1 : Pk.kb y.1.lo ≤ Pk.kb x.1.lo := List.not_lt.1 fun e => h1 (.inr ⟨by omega, e⟩)
          have a2 : Pk.kb z.1.lo ≤ Pk.kb y.1.lo := List.not_lt.1 fun e => h2 (.inr ⟨by omega, e⟩)
          exact absurd h (List.not_lt.2 (List.le_trans a2 a1))
set_option maxRecDepth 100000 in
set_option maxHeartbeats 4000000 in
theorem apart1_any (x y : Tl) (W : World) : Calls Tryz.prog 64 #[.agg x.1.cells.toArray, .agg y.1.cells.toArray] W fun e w' => e = .returned (.int .i64 (cmpA x y)) ∧ ∃ q os', w' = Sort.grow (W.drewN q) os' := by
  obtain ⟨⟨id, ep, P, pn, pc, sz, lv, ct, lo, hi, tp⟩, hx0, hx1⟩ := x
  obtain ⟨⟨id2, ep2, P2, pn2, pc2, sz2, lv2, ct2, lo2, hi2, tp2⟩, hy0, hy1⟩ := y
  replace hx0 : 0 ≤ lv := hx0
  replace hx1 : lv ≤ 1000 := hx1
  replace hy0 : 0 ≤ lv2 := hy0
  replace hy1 : lv2 ≤ 1000 := hy1
  show Calls _ _ #[.agg #[.int .i64 id, .int .i64 ep, .slice P pn pc, .int .i64 sz, .int .i64 lv, .int .i64 ct, .string lo, .string hi, .int .i64 tp], .agg #[.int .i64 id2, .int .i64 ep2, .slice P2 pn2 pc2, .int .i64 sz2, .int .i64 lv2, .int .i64 ct2, .string lo2, .string hi2, .int .i64 tp2]] _ _
  generalize hans : cmpA _ _ = ans
  have HA := hd_ (show (if lv = lv2 then Lib.compareBytes (Pk.kb lo) (Pk.kb lo2) else lv - lv2) = ans from hans)
  clear hans
  have HS := hd_ (fun (u : World) => (show Calls Tryz.prog 65 #[.string lo, .string lo2] u fun e w' => e = .returned (.int .i64 (Lib.compareBytes (Pk.kb lo) (Pk.kb lo2))) ∧ w' = u from Tryz.strings_Compare lo lo2 u))
  generalize Lib.compareBytes (Pk.kb lo) (Pk.kb lo2) = cb at *
  have HG : Hid (∃ q os', ((W.alloc (.cells #[.int .i64 id, .int .i64 ep, .slice P pn pc, .int .i64 sz, .int .i64 lv, .int .i64 ct, .string lo, .string hi, .int .i64 tp] 35)).alloc (.cells #[.int .i64 id2, .int .i64 ep2, .slice P2 pn2 pc2, .int .i64 sz2, .int .i64 lv2, .int .i64 ct2, .string lo2, .string hi2, .int .i64 tp2] 35)) = Sort.grow (W.drewN q) os') := hd_ ⟨0, _, by rw [Sort.alloc_eq_grow, Sort.alloc_eq_grow, Sort.grow_grow]; rfl⟩
  go_enter Tryz.func64, Tryz.ntmps64
  by_cases h0 : lv = lv2
  · subst h0
    have HF := hd_ (show cb = ans by rw [← HA.out, if_pos rfl])
    go_wp2_with fail
    refine (HS.out _).mono ?_
    rintro e v1 ⟨rfl, rfl⟩
    go_wp2
    go_ret
    exact ⟨by rw [← HF.out]; rfl, HG.out⟩
  · have HF := hd_ (show lv - lv2 = ans by rw [← HA.out, if_neg h0])
    have e0 : (lv != lv2) = true := by simp [h0]
    have e1 : (lv == lv2) = false := beq_eq_false_iff_ne.2 h0
    go_wp2
    go_ret
    exact ⟨by rw [← HF.out]; rfl, HG.out⟩
set_option maxRecDepth 100000 in
theorem insert_none (cap : Nat) (w : World) : Calls Tryz.prog 105 #[.slice none 0 cap, .int .i64 0, .int .i64 0, .func (.func 64) #[] #[]] w fun e w' => e = .returned (.tuple #[]) ∧ w = w' := by
  go_enter Tryz.func105, Tryz.ntmps105
  go_wp2_with fail
  go_loop [8] (fun i => i = .int .i64 1) (fun _ => 0)
  case atStart => rfl
  case round =>
    subst hrel
    go_wp2
    go_end0
    exact ⟨rfl, rfl⟩
set_option maxRecDepth 100000 in
theorem pdq_none (cap : Nat) (w : World) (l : Int) : Calls Tryz.prog 91 #[.slice none 0 cap, .int .i64 0, .int .i64 0, .int .i64 l, .func (.func 64) #[] #[]] w fun e w' => e = .returned (.tuple #[]) ∧ w = w' := by
  go_enter Tryz.func91, Tryz.ntmps91
  go_wp2_with fail
  go_loop [1, 2] (fun x y => x = .int .i64 0 ∧ y = .int .i64 0) (fun _ _ => 0)
  case atStart => exact ⟨rfl, rfl⟩
  case round =>
    obtain ⟨rfl, rfl⟩ := hrel
    go_wp2_with (go_at_call 105; refine (insert_none _ _).mono ?_; rintro e w' ⟨rfl, rfl⟩)
    refine ⟨rfl, .tuple #[], ?_, rfl, rfl⟩
    simp [results, Tryz.results91, go_sem]
set_option maxRecDepth 100000 in
theorem sort_none (cap : Nat) (w : World) : Calls Tryz.prog 63 #[.slice none 0 cap, .func (.func 64) #[] #[]] w fun e w' => e = .returned (.tuple #[]) ∧ w = w' := by
  have HB := hd_ (Tryz.bits_Len 0 w (by omega) (by omega))
  go_enter Tryz.func63, Tryz.ntmps63
  go_wp2_with (first | (go_at_call 92; refine HB.out.mono ?_; rintro e w' ⟨rfl, rfl⟩) | (go_at_call 91; refine (pdq_none _ _ _).mono ?_; rintro e w' ⟨rfl, rfl⟩))
  go_end0
  exact ⟨rfl, rfl⟩
theorem cmpLaysA (blk off size : Nat) (w : World) : CmpLays Tryz.prog 64 #[] encT 9 cmpA blk off size w :=
  fun _ _ _ _ x y => apart1_any x y _
theorem toTl : ∀ xs : List Pk.Tb, (∀ x ∈ xs, 0 ≤ x.lv ∧ x.lv ≤ 1000) → ∃ l : List Tl, l.map (·.1) = xs
  | [], _ => ⟨[], rfl⟩
  | x :: r, h => by
    obtain ⟨l, hl⟩ := toTl r (fun y hy => h y (by simp [hy]))
    exact ⟨⟨x, h x (by simp)⟩ :: l, by simp [hl]⟩
theorem flatA (d : Array Tl) : (Sort.flatK encT 9 d).toList = Pk.flat (d.toList.map (·.1)) := by
  have hl : (Pk.flat (d.toList.map (·.1))).length = d.size * 9 := by
    unfold Pk.flat
    rw [List.length_flatMap, List.map_map]
    have : ∀ l : List Tl, (l.map ((fun a => (Pk.Tb.cells a).length) ∘ fun x => x.1)).sum = l.length * 9 := by
      intro l
      induction l with
      | nil => rfl
      | cons x r ih => rw [List.map_cons, List.sum_cons, ih, List.length_cons]; show 9 + _ = _; omega
    rw [this]; simp
  apply List.ext_getElem?
  intro t
  rw [Array.getElem?_toList]
  by_cases ht : t < d.size * 9
  · have h1 := Sort.get_flatK encT 9 d t ht
    have hs : t < (Sort.flatK encT 9 d).size := by simpa using ht
    rw [getElem!_pos _ t hs] at h1
    rw [Array.getElem?_eq_getElem hs, h1]
    have hi : t / 9 < d.size := by omega
    have hx : d[t / 9]! = d[t / 9] := getElem!_pos d _ hi
    rw [hx]
    have hm : (d.toList.map (·.1))[t / 9]? = some d[t / 9].1 := by simp [hi]
    have hj : t % 9 < (encT d[t / 9]).length := by show t % 9 < 9; omega
    have h2 := Pk.flatMap_at (f := Pk.Tb.cells) (s := 9) (fun _ => rfl) (j := t % 9) (v := (encT d[t / 9])[t % 9]) hm (List.getElem?_eq_getElem hj)
    rw [show t / 9 * 9 + t % 9 = t by omega] at h2
    rw [show Pk.flat (d.toList.map (·.1)) = (d.toList.map (·.1)).flatMap Pk.Tb.cells from rfl, h2]
    rw [getElem!_pos (encT d[t / 9]) (t % 9) hj]
  · rw [Array.getElem?_eq_none (by simp; omega), List.getElem?_eq_none (by rw [hl]; omega)]
set_option maxRecDepth 100000 in
theorem sort_tabs (A : Option Addr) (base n cap : Nat) (xs : List Pk.Tb) (w : World) (hl : xs.length = n) (h : OwnC 9 w base 35 A n cap (Pk.flat xs)) (hx : ∀ x ∈ xs, 0 ≤ x.lv ∧ x.lv ≤ 1000) (hn : n ≤ 1000000) :
    Calls Tryz.prog 63 #[.slice A n cap, .func (.func 64) #[] #[]] w fun e w' => e = .returned (.tuple #[]) ∧ ∃ ys : List Pk.Tb, ys.Perm xs ∧ ys.Pairwise (fun a b => ¬ ahead b a) ∧ OwnC 9 w' base 35 A n cap (Pk.flat ys) ∧ w.grownBy w' (Value.slice A n cap).ownBlock := by
  by_cases hA : A = none
  · subst hA
    have hn0 : n = 0 ∧ cap = 0 := by
      rcases h.2 with ⟨hv, h0⟩ | ⟨g, c, cur, hv, _⟩
      · injection hv with _ _ hc; exact ⟨h0, hc⟩
      · cases hv
    obtain ⟨rfl, rfl⟩ := hn0
    refine (sort_none 0 w).mono ?_
    rintro e w' ⟨rfl, rfl⟩
    have hx0 : xs = [] := List.eq_nil_of_length_eq_zero hl
    exact ⟨rfl, xs, List.Perm.refl _, by rw [hx0]; exact List.Pairwise.nil, h, World.grownBy.refl _ _⟩
  · obtain ⟨h1, h2⟩ := h
    rcases h2 with ⟨hv, h0⟩ | ⟨g, c, cur, hv, hb, hg, hnc, hc, hs, ht⟩
    · injection hv with hv; exact absurd hv hA
    · injection hv with hA' _ hc'
      subst hA' hc'
      obtain ⟨l, hl2⟩ := toTl xs hx
      have hd : (Sort.flatK encT 9 l.toArray).toList = Pk.flat xs := by rw [flatA]; simp [hl2]
      have hdn : l.toArray.size = n := by have : l.length = xs.length := by rw [← hl2]; simp
                                          simp; omega
      have hH : Sort.HoldsK encT 9 w g 0 l.toArray := by
        intro j hj
        rw [Nat.zero_add]
        have hj2 : j < n * 9 := by have := hj; rw [Sort.size_flatK, hdn] at this; exact this
        have e1 : (Sort.flatK encT 9 l.toArray)[j]? = cur[j]? := by
          rw [← Array.getElem?_toList, ← Array.getElem?_toList, hd, ← ht, List.getElem?_take, if_pos hj2]
        refine ⟨?_, frozen_of_row _ _ _ _ _ hg⟩
        refine (cell_of_row _ _ _ _ _ _ hg).trans ?_
        rw [← e1, Array.getElem?_eq_getElem hj, getElem!_pos _ j hj]
        rfl
      have eg : ∀ args w, (callFunc 64 args).run Tryz.prog w = .ok (.enter 64 args) w := enters_of Tryz.func64 (by kernel_rfl) rfl
      have hcon := AnyQ.slices_SortFunc Tryz.sortTabs 9 Tryz.isAgg35 Tryz.sizeOf35 encT (fun _ => rfl) (fun x v hv => Pk.cells_one x.1 v hv) cmpA swoA 64 #[] g 0 cap l.toArray w eg (cmpLaysA g 0 l.toArray.size w) hH (Array.getElem?_eq_some_iff.1 hg).1 (by omega)
      rw [hdn] at hcon
      refine hcon.mono ?_
      rintro e w' ⟨he, d', m, os, ⟨hps, _, hp⟩, hsd, rfl⟩
      have hsz : d'.size = n := by rw [hps, hdn]
      have hp2 : d'.toList.Perm l := by
        have a1 : d'.extract 0 n = d' := by rw [← hsz]; exact Array.extract_size
        have a2 : l.toArray.extract 0 n = l.toArray := by rw [← hdn]; exact Array.extract_size
        rw [a1, a2] at hp
        exact hp
      refine ⟨he, d'.toList.map (·.1), by rw [← hl2]; exact hp2.map _, ?_, ⟨by rw [← flatA]; simp [hsz], .inr ⟨g, cap, Sort.putCells id 0 (Sort.flatK encT 9 d') cur, rfl, hb, ?_, hnc, hc, by simp [Sort.putCells, hs], ?_⟩⟩, ?_⟩
      · rw [List.pairwise_map, List.pairwise_iff_getElem]
        intro i j hi hj hij
        have hi' : i < d'.size := by simpa using hi
        have hj' : j < d'.size := by simpa using hj
        have := hsd i j (Nat.zero_le _) hij (by omega)
        rw [getElem!_pos _ i hi', getElem!_pos _ j hj', ← Bool.not_eq_true, ltA] at this
        simpa using this
      · have hgs : g < (Sort.putRow id (Sort.ahead w m) g 0 (Sort.flatK encT 9 d')).heap.size := by
          rw [Sort.size_putRow]
          exact (Array.getElem?_eq_some_iff.1 hg).1
        show (Sort.grow (Sort.putRow id (Sort.ahead w m) g 0 (Sort.flatK encT 9 d')) os).heap[g]? = _
        rw [Sort.heap_grow_old _ _ hgs]
        show ((Sort.ahead w m).heap.modify g _)[g]? = _
        rw [Array.getElem?_modify]
        have : (Sort.ahead w m).heap[g]? = w.heap[g]? := rfl
        rw [this, hg]
        simp [Sort.onCells]
      · have e1 : (Sort.putCells id 0 (Sort.flatK encT 9 d') cur).toList.take (n * 9) = (Sort.flatK encT 9 d').toList := by
          apply List.ext_getElem?
          intro j
          rw [List.getElem?_take]
          have hF : (Sort.flatK encT 9 d').size = n * 9 := by rw [Sort.size_flatK, hsz]
          by_cases hj : j < n * 9
          · rw [if_pos hj, Array.getElem?_toList, Array.getElem?_toList]
            have hcj : j < cur.size := by
              have : n * 9 ≤ cap * 9 := Nat.mul_le_mul_right 9 hnc
              omega
            have hjF : j < (Sort.flatK encT 9 d').size := by rw [hF]; exact hj
            have e3 : (Sort.flatK encT 9 d')[j]? = some (Sort.flatK encT 9 d')[j]! := by rw [getElem!_pos _ j hjF, Array.getElem?_eq_getElem hjF]
            rw [e3]
            simp only [Sort.putCells, Array.getElem?_mapIdx, Array.getElem?_eq_getElem hcj, Option.map_some]
            rw [if_pos ⟨Nat.zero_le _, by omega⟩, Nat.sub_zero]
            rfl
          · rw [if_neg hj, List.getElem?_eq_none (by simp [hsz]; omega)]
        rw [e1, flatA]
      · have hsz2 : w.heap.size ≤ (Sort.grow (Sort.putRow id (Sort.ahead w m) g 0 (Sort.flatK encT 9 d')) os).heap.size := by
          have : (Sort.putRow id (Sort.ahead w m) g 0 (Sort.flatK encT 9 d')).heap.size = w.heap.size := Sort.size_putRow _ _ _ _ _
          simp only [Sort.grow, Array.size_append]
          omega
        refine ⟨rfl, rfl, rfl, hsz2, fun k hk hne => ?_⟩
        have hks : k < (Sort.putRow id (Sort.ahead w m) g 0 (Sort.flatK encT 9 d')).heap.size := by
          rw [Sort.size_putRow]
          exact hk
        show (Sort.grow (Sort.putRow id (Sort.ahead w m) g 0 (Sort.flatK encT 9 d')) os).heap[k]? = _
        rw [Sort.heap_grow_old _ _ hks]
        show ((Sort.ahead w m).heap.modify g _)[k]? = _
        have hkg : ¬ g = k := fun e => hne (by rw [← e]; rfl)
        rw [Array.getElem?_modify, if_neg hkg]
        rfl
end Go.Proofs.YthfcjlndaajkfaaGreat
