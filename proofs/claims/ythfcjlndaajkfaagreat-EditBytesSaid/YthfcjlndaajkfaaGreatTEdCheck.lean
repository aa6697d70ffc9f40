/- edit.Check: may a version be? -/
import Derived.Test.YthfcjlndaajkfaaGreatG12
namespace Go.Proofs.YthfcjlndaajkfaaGreat
open Go.RowKit
set_option linter.unusedVariables false
set_option maxRecDepth 100000 in
set_option maxHeartbeats 32000000 in
theorem check_any (nx sq : Int) (A : Option Addr) (n c : Nat) (B : Option Addr) (m d : Nat) (L : List (Ed.Lg × List (Int × Int))) (M : List (Pk.Tb × List (Int × Int))) (w : World) (hL : RdLs w A n L) (hM : RdTs w B m M) :
    Calls Tryz.prog 11 #[.agg #[.int .i64 nx, .int .i64 sq, .slice A n c, .slice B m d]] w fun e w' => e = .returned (.int .i64 (if (⟨nx, sq, L.map Ed.loOf, M.map Ed.taOf⟩ : Ed.Ve).ok then 0 else 151)) ∧ Below w.heap.size w w' := by
  have hal : Below w.heap.size w (w.alloc (.cells #[.int .i64 nx, .int .i64 sq, .slice A n c, .slice B m d] 25)) := (Below.refl _ _).alloc (Nat.le_refl _) _
  have HX0 := Lib.hid (Holds.new w #[.int .i64 nx, .int .i64 sq, .slice A n c, .slice B m d] 25)
  have HB0 := Lib.hid hal
  have HRL := Lib.hid hL
  have HRT := Lib.hid hM
  have HPL := Lib.hid (show (L.map Ed.loOf).map (·.p) ++ (M.map Ed.taOf).map (·.p) = L.map (fun x => (Ed.loOf x).p) ++ M.map (fun x => (Ed.taOf x).p) by rw [List.map_map, List.map_map]; rfl)
  rw [Ed.ok_eq]
  dsimp only
  rw [HPL.out, List.length_map, List.length_map, hL.len, hM.len]
  have HU := Lib.hid (fun (V : World) (h1 : RdLs V A n L) (h2 : RdTs V B m M) (hn : n ≤ 128) (hm : m ≤ 128) (hlp : ∀ x ∈ L, x.1.pn ≤ 64) (htp : ∀ x ∈ M, x.1.pn ≤ 64) hq => punlike_any nx sq A n c B m d L M V h1 h2 hn hm hlp htp hq)
  have HAp := Lib.hid (fun (V : World) (h2 : RdTs V B m M) (hm : m ≤ 128) hq => apart_any B m d M V h2 hm hq)
  have W1 := Lib.hid (fun V => within_any nx 1 2147483647 V)
  have W2 := Lib.hid (fun V => within_any sq 0 1099511627776 V)
  have HLs := Lib.hid (And.intro (fun k (hk : k < n) (h : Ed.lokAt (L.map Ed.loOf) k = false) => Ed.okLs_no (L := L.map Ed.loOf) (by rw [List.length_map, hL.len]; exact hk) h) (fun (h : ∀ k, k < n → Ed.lokAt (L.map Ed.loOf) k = true) => Ed.okLs_yes (L := L.map Ed.loOf) (fun k hk => h k (by rwa [List.length_map, hL.len] at hk))))
  have HTs := Lib.hid (And.intro (fun k (hk : k < m) (h : Ed.tokAt sq (M.map Ed.taOf) k = false) => Ed.okTs_no (L := M.map Ed.taOf) (by rw [List.length_map, hM.len]; exact hk) h) (fun (h : ∀ k, k < m → Ed.tokAt sq (M.map Ed.taOf) k = true) => Ed.okTs_yes (L := M.map Ed.taOf) (fun k hk => h k (by rwa [List.length_map, hM.len] at hk))))
  have HLq := Lib.hid (fun (h : Ed.okLs (L.map Ed.loOf) = true) x (hx : x ∈ L) => Ed.okLs_q h _ (List.mem_map_of_mem hx))
  have HTq := Lib.hid (fun (h : Ed.okTs sq (M.map Ed.taOf) = true) x (hx : x ∈ M) => Ed.okTs_q h _ (List.mem_map_of_mem hx))
  generalize Ed.from_ nx 1 2147483647 = a1 at *
  generalize Ed.from_ sq 0 1099511627776 = a2 at *
  generalize Ed.okLs (L.map Ed.loOf) = bL at *
  generalize Ed.okTs sq (M.map Ed.taOf) = bT at *
  generalize Ed.okU nx (L.map (fun x => (Ed.loOf x).p) ++ M.map (fun x => (Ed.taOf x).p)) = bU at *
  generalize Ed.apartB (M.map Ed.taOf) = bA at *
  generalize hans : (if (a1 && a2 && decide (n ≤ 32) && decide (m ≤ 128) && bL && bT && bU && bA) = true then (0 : Int) else 151) = r
  have HA := Lib.hid (show (if (a1 && a2 && decide (n ≤ 32) && decide (m ≤ 128) && bL && bT && bU && bA) then (0 : Int) else 151) = r from hans)
  clear hans hal hL hM
  go_enter Tryz.func11, Tryz.ntmps11
  go_upto_region 1 with fail
  generalize (w.alloc (.cells #[.int .i64 nx, .int .i64 sq, .slice A n c, .slice B m d] 25)) = u at *
  replace HX0 : Hid (Holds u w.heap.size [.int .i64 nx, .int .i64 sq, .slice A n c, .slice B m d]) := HX0
  have HLu := Lib.hid (HRL.out.below HB0.out)
  have HTu := Lib.hid (HRT.out.below HB0.out)
  clear HRL HRT
  obtain ⟨b0, b1, b2, b3⟩ := HX0.out.all4
  cases a1 with
  | false =>
    have HF := Lib.hid (show (151 : Int) = r by rw [← HA.out]; rfl)
    have HBf := HB0
    go_wp2_with fail
    refine (W1.out _).mono ?_
    rintro e u ⟨rfl, rfl⟩
    go_wp2
    go_ret
    exact ⟨by rw [← HF.out]; rfl, HBf.out⟩
  | true =>
  cases a2 with
  | false =>
    have HF := Lib.hid (show (151 : Int) = r by rw [← HA.out]; rfl)
    have HBf := HB0
    go_wp2_with fail
    refine (W1.out _).mono ?_
    rintro e u ⟨rfl, rfl⟩
    go_wp2_with fail
    refine (W2.out _).mono ?_
    rintro e u ⟨rfl, rfl⟩
    go_wp2
    go_ret
    exact ⟨by rw [← HF.out]; rfl, HBf.out⟩
  | true =>
  go_wp2_with fail
  refine (W1.out _).mono ?_
  rintro e u ⟨rfl, rfl⟩
  go_wp2_with fail
  refine (W2.out _).mono ?_
  rintro e u ⟨rfl, rfl⟩
  clear W1 W2
  by_cases h32 : n ≤ 32
  case neg =>
    have hi32 : (32 : Int) < (n : Int) := by omega
    have HF := Lib.hid (show (151 : Int) = r by rw [← HA.out, decide_eq_false h32]; rfl)
    have HBf := HB0
    go_wp2
    go_ret
    exact ⟨by rw [← HF.out]; rfl, HBf.out⟩
  rw [decide_eq_true h32] at HA
  have hi32 : ¬ (32 : Int) < (n : Int) := by omega
  by_cases h128 : m ≤ 128
  case neg =>
    have hi128 : (128 : Int) < (m : Int) := by omega
    have HF := Lib.hid (show (151 : Int) = r by rw [← HA.out, decide_eq_false h128]; rfl)
    have HBf := HB0
    go_wp2
    go_ret
    exact ⟨by rw [← HF.out]; rfl, HBf.out⟩
  rw [decide_eq_true h128] at HA
  have hi128 : ¬ (128 : Int) < (m : Int) := by omega
  have HLno := Lib.hid (show ∀ k, k < n → Ed.lokAt (L.map Ed.loOf) k = false → (151 : Int) = r from fun k hk h => by rw [← HA.out, HLs.out.1 k hk h]; simp)
  have HTno := Lib.hid (show ∀ k, k < m → Ed.tokAt sq (M.map Ed.taOf) k = false → (151 : Int) = r from fun k hk h => by rw [← HA.out, HTs.out.1 k hk h]; simp)
  have HBfS := Lib.hid (show ∀ (k : Nat) (x : Ed.Lg × List (Int × Int)), L[k]? = some x → Ed.before ((L.map Ed.loOf).map (·.p.id)) (k + 1) = x.1.id from fun k x hx => Ed.before_succ (by rw [List.map_map, List.getElem?_map, hx]; rfl))
  have HBgS := Lib.hid (show ∀ (k : Nat) (x : Pk.Tb × List (Int × Int)), M[k]? = some x → Ed.before ((M.map Ed.taOf).map (·.p.id)) (k + 1) = x.1.id from fun k x hx => Ed.before_succ (by rw [List.map_map, List.getElem?_map, hx]; rfl))
  have HLl := Lib.hid (show ∀ (k : Nat) (x : Ed.Lg × List (Int × Int)), L[k]? = some x → k + 1 = n → Ed.lokAt (L.map Ed.loOf) k = (Ed.okP x.1.id x.1.ep x.2 && Ed.from_ x.1.se (-1) 1099511627776 && decide (Ed.before ((L.map Ed.loOf).map (·.p.id)) k < x.1.id)) from fun k x hx hk => Ed.lok_last (l := Ed.loOf x) (by rw [List.getElem?_map, hx]; rfl) (by rw [List.length_map, HLu.out.len]; exact hk))
  have HLa0 := Lib.hid (show ∀ (k : Nat) (x : Ed.Lg × List (Int × Int)), L[k]? = some x → ¬ k + 1 = n → Ed.lokAt (L.map Ed.loOf) k = (Ed.okP x.1.id x.1.ep x.2 && Ed.from_ x.1.se 0 1099511627776 && decide (Ed.before ((L.map Ed.loOf).map (·.p.id)) k < x.1.id)) from fun k x hx hk => Ed.lok_ahead (l := Ed.loOf x) (by rw [List.getElem?_map, hx]; rfl) (by rw [List.length_map, HLu.out.len]; exact hk))
  have HTa0 := Lib.hid (show ∀ (k : Nat) (x : Pk.Tb × List (Int × Int)), M[k]? = some x → Ed.tokAt sq (M.map Ed.taOf) k = (Ed.okT x.1 x.2 && decide (x.1.tp ≤ sq) && decide (Ed.before ((M.map Ed.taOf).map (·.p.id)) k < x.1.id)) from fun k x hx => Ed.tokAt_eq (t := Ed.taOf x) (by rw [List.getElem?_map, hx]; rfl))
  have hbf0 : Ed.before ((L.map Ed.loOf).map (·.p.id)) 0 = 0 := rfl
  have hbg0 : Ed.before ((M.map Ed.taOf).map (·.p.id)) 0 = 0 := rfl
  generalize Ed.before ((L.map Ed.loOf).map (·.p.id)) = bf at *
  generalize Ed.before ((M.map Ed.taOf).map (·.p.id)) = bg at *
  go_upto_region 5 with fail
  clear b0 b1 b2 b3
  go_loopw [3, 34] (fun la ii wr => ∃ (k : Nat), k ≤ n ∧ la = .int .i64 (bf k) ∧ ii = .int .i64 (k : Int) ∧ Hid (∀ i, i < k → Ed.lokAt (L.map Ed.loOf) i = true) ∧ Hid (Below u.heap.size u wr)) (fun la ii _ => n - (intOf ii).toNat)
  case atStart => exact ⟨0, by omega, by rw [hbf0], rfl, Lib.hid (fun i hi => by omega), Lib.hid (Below.refl _ _)⟩
  case round =>
    obtain ⟨k, hk, rfl, rfl, HI, HB⟩ := hrel
    by_cases hlt : k < n
    · have hki : (k : Int) < (n : Int) := by omega
      have hk0 : (0 : Int) ≤ (k : Int) := by omega
      obtain ⟨y, hy⟩ : ∃ y, L[k]? = some y := ⟨_, List.getElem?_eq_getElem (by rw [HLu.out.len]; exact hlt)⟩
      obtain ⟨b, o, hAb, _, hp, hc⟩ := HLu.out.four hy
      have HY := Lib.hid hy
      clear hy
      subst hAb
      obtain ⟨⟨id, ep, P, pn, pc, se⟩, ps⟩ := y
      dsimp only at hc hp HY
      obtain ⟨e0, e1, e2, e3⟩ := hc wr HB.out
      have hal : Below wr.heap.size wr (wr.alloc (.cells #[.int .i64 id, .int .i64 ep, .slice P pn pc, .int .i64 se] 62)) := (Below.refl _ _).alloc (Nat.le_refl _) _
      have HX := Lib.hid (Holds.new wr #[.int .i64 id, .int .i64 ep, .slice P pn pc, .int .i64 se] 62)
      have HBx := Lib.hid (below_next HB.out hal)
      have HP := Lib.hid (hp.below HBx.out)
      have HBa := Lib.hid (below_next HB0.out HBx.out)
      clear hal hc hp
      go_upto_region 8 with fail
      clear e0 e1 e2 e3 HB HLu HTu HU HAp HTs HLs HLq HTq HTno HBgS HTa0
      generalize (wr.alloc (.cells #[.int .i64 id, .int .i64 ep, .slice P pn pc, .int .i64 se] 62)) = wa at *
      generalize wr.heap.size = xb at *
      replace HX : Hid (Holds wa xb [.int .i64 id, .int .i64 ep, .slice P pn pc, .int .i64 se]) := HX
      obtain ⟨x0, x1, x2, x3⟩ := HX.out.all4
      have z2 := (HX0.out.below HBx.out).at_ 2 rfl
      by_cases hlast : k + 1 = n
      · have he : ((k : Int) == (n : Int) - 1) = true := by simp; omega
        have HLa := Lib.hid (HLl.out k _ HY.out hlast)
        dsimp only at HLa
        clear HLl HLa0
        go_upto_region 10 with fail
        clear z2
        have W1 := Lib.hid (within_any se (-1) 1099511627776 wa)
        generalize Ed.from_ se (-1) 1099511627776 = k1 at *
        by_cases hid : id ≤ bf k
        · have HF := Lib.hid (show (151 : Int) = r from HLno.out k hlt (by rw [HLa.out, decide_eq_false (by omega), Bool.and_false]))
          have HBf := HBa
          go_wp2
          go_ret
          exact ⟨by rw [← HF.out]; rfl, HBf.out⟩
        · rw [decide_eq_true (show bf k < id by omega), Bool.and_true] at HLa
          cases k1 with
          | false =>
            have HF := Lib.hid (show (151 : Int) = r from HLno.out k hlt (by rw [HLa.out, Bool.and_false]))
            have HBf := HBa
            go_wp2_with fail
            refine W1.out.mono ?_
            rintro e y1 ⟨rfl, rfl⟩
            go_wp2
            go_ret
            exact ⟨by rw [← HF.out]; rfl, HBf.out⟩
          | true =>
            rw [Bool.and_true] at HLa
            have W2 := Lib.hid (mbplace_any id ep P pn pc ps wa HP.out.1 HP.out.2.2)
            generalize Ed.okP id ep ps = k2 at *
            cases k2 with
            | false =>
              have HF := Lib.hid (show (151 : Int) = r from HLno.out k hlt HLa.out)
              go_wp2_with fail
              refine W1.out.mono ?_
              rintro e y1 ⟨rfl, rfl⟩
              go_wp2_with fail
              refine W2.out.mono ?_
              rintro e y2 ⟨rfl, hby⟩
              have HBf := Lib.hid (below_next HBa.out hby)
              clear hby
              go_wp2
              go_ret
              exact ⟨by rw [← HF.out]; rfl, HBf.out⟩
            | true =>
              have HIn := Lib.hid (show ∀ i, i < k + 1 → Ed.lokAt (L.map Ed.loOf) i = true from fun i hi => by
                by_cases e : i = k
                · rw [e]; exact HLa.out
                · exact HI.out i (by omega))
              have hbn := HBfS.out k _ HY.out
              go_wp2_with fail
              refine W1.out.mono ?_
              rintro e y1 ⟨rfl, rfl⟩
              go_wp2_with fail
              refine W2.out.mono ?_
              rintro e y2 ⟨rfl, hby⟩
              have HBn := Lib.hid (below_next HBx.out hby)
              have xx := (HX.out.below hby).at_ 0 rfl
              clear hby x0 x1 x2 x3
              go_wp2
              go_roundw
              case rel => exact ⟨k + 1, by omega, by rw [hbn], by go_num, HIn, HBn⟩
              case measure => simp [intOf]; omega
      · have he : ((k : Int) == (n : Int) - 1) = false := beq_eq_false_iff_ne.2 (by omega)
        have HLa := Lib.hid (HLa0.out k _ HY.out hlast)
        dsimp only at HLa
        clear HLl HLa0
        go_upto_region 10 with fail
        clear z2
        have W1 := Lib.hid (within_any se (0) 1099511627776 wa)
        generalize Ed.from_ se (0) 1099511627776 = k1 at *
        by_cases hid : id ≤ bf k
        · have HF := Lib.hid (show (151 : Int) = r from HLno.out k hlt (by rw [HLa.out, decide_eq_false (by omega), Bool.and_false]))
          have HBf := HBa
          go_wp2
          go_ret
          exact ⟨by rw [← HF.out]; rfl, HBf.out⟩
        · rw [decide_eq_true (show bf k < id by omega), Bool.and_true] at HLa
          cases k1 with
          | false =>
            have HF := Lib.hid (show (151 : Int) = r from HLno.out k hlt (by rw [HLa.out, Bool.and_false]))
            have HBf := HBa
            go_wp2_with fail
            refine W1.out.mono ?_
            rintro e y1 ⟨rfl, rfl⟩
            go_wp2
            go_ret
            exact ⟨by rw [← HF.out]; rfl, HBf.out⟩
          | true =>
            rw [Bool.and_true] at HLa
            have W2 := Lib.hid (mbplace_any id ep P pn pc ps wa HP.out.1 HP.out.2.2)
            generalize Ed.okP id ep ps = k2 at *
            cases k2 with
            | false =>
              have HF := Lib.hid (show (151 : Int) = r from HLno.out k hlt HLa.out)
              go_wp2_with fail
              refine W1.out.mono ?_
              rintro e y1 ⟨rfl, rfl⟩
              go_wp2_with fail
              refine W2.out.mono ?_
              rintro e y2 ⟨rfl, hby⟩
              have HBf := Lib.hid (below_next HBa.out hby)
              clear hby
              go_wp2
              go_ret
              exact ⟨by rw [← HF.out]; rfl, HBf.out⟩
            | true =>
              have HIn := Lib.hid (show ∀ i, i < k + 1 → Ed.lokAt (L.map Ed.loOf) i = true from fun i hi => by
                by_cases e : i = k
                · rw [e]; exact HLa.out
                · exact HI.out i (by omega))
              have hbn := HBfS.out k _ HY.out
              go_wp2_with fail
              refine W1.out.mono ?_
              rintro e y1 ⟨rfl, rfl⟩
              go_wp2_with fail
              refine W2.out.mono ?_
              rintro e y2 ⟨rfl, hby⟩
              have HBn := Lib.hid (below_next HBx.out hby)
              have xx := (HX.out.below hby).at_ 0 rfl
              clear hby x0 x1 x2 x3
              go_wp2
              go_roundw
              case rel => exact ⟨k + 1, by omega, by rw [hbn], by go_num, HIn, HBn⟩
              case measure => simp [intOf]; omega
    · have hki : ¬ (k : Int) < (n : Int) := by omega
      have hLt : bL = true := HLs.out.2 (fun i hi => HI.out i (by omega))
      clear hlt HI HLno HLs HLl HLa0 HBfS
      obtain ⟨wo, hwo⟩ : ∃ wo, wo = wr := ⟨wr, rfl⟩
      subst hwo
      have HLu2 := Lib.hid (HLu.out.below HB.out)
      have HTu2 := Lib.hid (HTu.out.below HB.out)
      have HB2 := Lib.hid (below_next HB0.out HB.out)
      have HX2 := Lib.hid (HX0.out.below HB.out)
      clear HLu HTu HB HB0 HX0
      obtain ⟨b0, b1, b2, b3⟩ := HX2.out.all4
      go_upto_region 16 with fail
      clear b0 b1 b2 b3
      go_loopw [3, 70] (fun la ii wr => ∃ (j : Nat), j ≤ m ∧ la = .int .i64 (bg j) ∧ ii = .int .i64 (j : Int) ∧ Hid (∀ i, i < j → Ed.tokAt sq (M.map Ed.taOf) i = true) ∧ Hid (Below wo.heap.size wo wr)) (fun la ii _ => m - (intOf ii).toNat)
      case atStart => exact ⟨0, by omega, by rw [hbg0], rfl, Lib.hid (fun i hi => by omega), Lib.hid (Below.refl _ _)⟩
      case round =>
        obtain ⟨j, hj, rfl, rfl, HI, HB⟩ := hrel
        by_cases hlt : j < m
        · have hji : (j : Int) < (m : Int) := by omega
          have hj0 : (0 : Int) ≤ (j : Int) := by omega
          obtain ⟨y, hy⟩ : ∃ y, M[j]? = some y := ⟨_, List.getElem?_eq_getElem (by rw [HTu2.out.len]; exact hlt)⟩
          obtain ⟨b, o, hAb, _, hp, hc⟩ := HTu2.out.nine hy
          have HY := Lib.hid hy
          have HFt := Lib.hid (HTu2.out.1.2.2 y.1 (List.mem_map_of_mem (List.mem_of_getElem? hy)))
          clear hy
          subst hAb
          obtain ⟨⟨id, ep, P, pn, pc, sz, lv, ct, lo, hi, tp⟩, ps⟩ := y
          dsimp only at hc hp HY HFt
          obtain ⟨e0, e1, e2, e3, e4, e5, e6, e7, e8⟩ := hc wr HB.out
          have hal : Below wr.heap.size wr (wr.alloc (.cells #[.int .i64 id, .int .i64 ep, .slice P pn pc, .int .i64 sz, .int .i64 lv, .int .i64 ct, .string lo, .string hi, .int .i64 tp] 35)) := (Below.refl _ _).alloc (Nat.le_refl _) _
          have HX := Lib.hid (Holds.new wr #[.int .i64 id, .int .i64 ep, .slice P pn pc, .int .i64 sz, .int .i64 lv, .int .i64 ct, .string lo, .string hi, .int .i64 tp] 35)
          have HBx := Lib.hid (below_next HB.out hal)
          have HP := Lib.hid (hp.below HBx.out)
          have HBa := Lib.hid (below_next HB2.out HBx.out)
          have HLa := Lib.hid (HTa0.out j _ HY.out)
          dsimp only at HLa
          clear hal hc hp
          go_upto_region 18 with fail
          clear e0 e1 e2 e3 e4 e5 e6 e7 e8 HB HLu2 HTu2 HU HAp HTs HLq HTq HTa0
          generalize (wr.alloc (.cells #[.int .i64 id, .int .i64 ep, .slice P pn pc, .int .i64 sz, .int .i64 lv, .int .i64 ct, .string lo, .string hi, .int .i64 tp] 35)) = wa at *
          generalize wr.heap.size = xb at *
          replace HX : Hid (Holds wa xb [.int .i64 id, .int .i64 ep, .slice P pn pc, .int .i64 sz, .int .i64 lv, .int .i64 ct, .string lo, .string hi, .int .i64 tp]) := HX
          obtain ⟨x0, x1, x2, x3, x4, x5, x6, x7, x8⟩ := HX.out.all9
          have z1 := (HX2.out.below HBx.out).at_ 1 rfl
          by_cases hid : id ≤ bg j
          · have HF := Lib.hid (show (151 : Int) = r from HTno.out j hlt (by rw [HLa.out, decide_eq_false (show ¬ bg j < id by omega), Bool.and_false]))
            have HBf := HBa
            go_wp2
            go_ret
            exact ⟨by rw [← HF.out]; rfl, HBf.out⟩
          · rw [decide_eq_true (show bg j < id by omega), Bool.and_true] at HLa
            by_cases htp : sq < tp
            · have HF := Lib.hid (show (151 : Int) = r from HTno.out j hlt (by rw [HLa.out, decide_eq_false (by omega), Bool.and_false]))
              have HBf := HBa
              go_wp2
              go_ret
              exact ⟨by rw [← HF.out]; rfl, HBf.out⟩
            · rw [decide_eq_true (show tp ≤ sq by omega), Bool.and_true] at HLa
              have W2 := Lib.hid (show Calls Tryz.prog 33 #[.agg #[.int .i64 id, .int .i64 ep, .slice P pn pc, .int .i64 sz, .int .i64 lv, .int .i64 ct, .string lo, .string hi, .int .i64 tp]] wa fun e w' => e = .returned (.bool (Ed.okT ⟨id, ep, P, pn, pc, sz, lv, ct, lo, hi, tp⟩ ps)) ∧ Below wa.heap.size wa w' from mbtable_any ⟨id, ep, P, pn, pc, sz, lv, ct, lo, hi, tp⟩ ps wa HP.out.1 HFt.out HP.out.2.2)
              generalize Ed.okT ⟨id, ep, P, pn, pc, sz, lv, ct, lo, hi, tp⟩ ps = k2 at *
              cases k2 with
              | false =>
                have HF := Lib.hid (show (151 : Int) = r from HTno.out j hlt HLa.out)
                go_wp2_with fail
                refine W2.out.mono ?_
                rintro e y2 ⟨rfl, hby⟩
                have HBf := Lib.hid (below_next HBa.out hby)
                clear hby
                go_wp2
                go_ret
                exact ⟨by rw [← HF.out]; rfl, HBf.out⟩
              | true =>
                have HIn := Lib.hid (show ∀ i, i < j + 1 → Ed.tokAt sq (M.map Ed.taOf) i = true from fun i hi => by
                  by_cases e : i = j
                  · rw [e]; exact HLa.out
                  · exact HI.out i (by omega))
                have hbn := HBgS.out j _ HY.out
                go_wp2_with fail
                refine W2.out.mono ?_
                rintro e y2 ⟨rfl, hby⟩
                have HBn := Lib.hid (below_next HBx.out hby)
                have xx := (HX.out.below hby).at_ 0 rfl
                clear hby x0 x1 x2 x3 x4 x5 x6 x7 x8 z1
                go_wp2
                go_roundw
                case rel => exact ⟨j + 1, by omega, by rw [hbn], by go_num, HIn, HBn⟩
                case measure => simp [intOf]; omega
        · have hji : ¬ (j : Int) < (m : Int) := by omega
          have hTt : bT = true := HTs.out.2 (fun i hi => HI.out i (by omega))
          have HLu3 := Lib.hid (HLu2.out.below HB.out)
          have HTu3 := Lib.hid (HTu2.out.below HB.out)
          have HB3 := Lib.hid (below_next HB2.out HB.out)
          have HX3 := Lib.hid (HX2.out.below HB.out)
          have HLp := Lib.hid (show ∀ x ∈ L, (Ed.loOf x).p.ok = true from HLq.out hLt)
          have HTp := Lib.hid (show ∀ x ∈ M, (Ed.taOf x).ok = true from HTq.out hTt)
          have U := Lib.hid (HU.out wr HLu3.out HTu3.out (by omega) h128 (fun x hx => by
            have h1 := (Ed.okP_q (HLp.out x hx)).2.1
            have h2 := (HLu3.out.2.2 x hx).2.1.1
            have h3 : x.2.length ≤ 64 := h1
            omega) (fun x hx => by
            have h1 := (Ed.okP_q (Ed.okT_q (HTp.out x hx)).1).2.1
            have h2 := (HTu3.out.2 x hx).1.1
            have h3 : x.2.length ≤ 64 := h1
            omega) (fun p hp => by
            rcases List.mem_append.1 hp with hp | hp
            · obtain ⟨x, hx, rfl⟩ := List.mem_map.1 hp
              exact Ed.okP_q (HLp.out x hx)
            · obtain ⟨x, hx, rfl⟩ := List.mem_map.1 hp
              exact Ed.okP_q (Ed.okT_q (HTp.out x hx)).1))
          have hT4 : ∀ x ∈ M, 0 ≤ x.1.lv ∧ x.1.lv ≤ 1000 ∧ Pk.lt x.1.hi x.1.lo = false := fun x hx => (Ed.okT_q (HTp.out x hx)).2
          have HT4 := Lib.hid hT4
          rw [hLt, hTt] at HA
          clear hlt HI HTno HTs HTa0 HBgS HLu2 HTu2 HB HB2 HX2 HLp HTp HLu3 HU HLq HTq hT4 hLt hTt
          obtain ⟨b0, b1, b2, b3⟩ := HX3.out.all4
          cases bU with
          | false =>
            have HF := Lib.hid (show (151 : Int) = r by rw [← HA.out]; rfl)
            go_wp2_with fail
            refine U.out.mono ?_
            rintro e v1 ⟨rfl, hb1⟩
            have HBf := Lib.hid (below_next HB3.out hb1)
            clear hb1
            go_wp2
            go_ret
            exact ⟨by rw [← HF.out]; rfl, HBf.out⟩
          | true =>
            go_wp2_with fail
            refine U.out.mono ?_
            rintro e v1 ⟨rfl, hb1⟩
            have HB4 := Lib.hid (below_next HB3.out hb1)
            have HX4 := Lib.hid (HX3.out.below hb1)
            have P4 := Lib.hid (HAp.out v1 (HTu3.out.below hb1) h128 HT4.out)
            clear hb1 b0 b1 b2 b3
            have b3 := HX4.out.at_ 3 rfl
            cases bA with
            | false =>
              have HF := Lib.hid (show (151 : Int) = r by rw [← HA.out]; rfl)
              go_wp2_with fail
              refine P4.out.mono ?_
              rintro e v2 ⟨rfl, hb2⟩
              have HBf := Lib.hid (below_next HB4.out hb2)
              clear hb2
              go_wp2
              go_ret
              exact ⟨by rw [← HF.out]; rfl, HBf.out⟩
            | true =>
              have HF := Lib.hid (show (0 : Int) = r by rw [← HA.out]; rfl)
              go_wp2_with fail
              refine P4.out.mono ?_
              rintro e v2 ⟨rfl, hb2⟩
              have HBf := Lib.hid (below_next HB4.out hb2)
              clear hb2
              go_wp2
              go_ret
              exact ⟨by rw [← HF.out]; rfl, HBf.out⟩
end Go.Proofs.YthfcjlndaajkfaaGreat
