/- The document's Is: which superblocks may be. The document's Encode of a superblock. Both Encodes and Check, of any superblock. -/
import Derived.Test.YtbdomhookjmmgaaSuM
import Derived.Test.YtbdomhookjmmgaaSuA
import Derived.Test.YtbdomhookjmmgaaSuLowB
import Derived.Test.YtbdomhookjmmgaaSuQ
import Derived.Deep.RegionHeld3
import Derived.Test.YtbdomhookjmmgaaRg
namespace Go.Proofs.Ytbdomhookjmmgaa
open Go.RowKit Fr Su
set_option linter.unusedVariables false
theorem oneInt : One 114 3 (.int .i64 0) 8 := ⟨by kernel_rfl, by kernel_rfl, rfl, by decide⟩
theorem pv_one (ps : List (Int × Int)) : ∀ u ∈ pv ps, u.oneCell' = true := by
  intro u hu
  unfold pv at hu
  obtain ⟨n, _, rfl⟩ := List.mem_map.1 hu
  rfl
theorem pv_take {ps : List (Int × Int)} {k : Nat} {x y : Int} (h : ps[k]? = some (x, y)) : (pv ps).take ((k + 1) * 2) = (pv ps).take (k * 2) ++ [.int .i64 x, .int .i64 y] := by
  obtain ⟨a, b⟩ := pv_at h
  rw [show (k + 1) * 2 = k * 2 + 1 + 1 by omega, List.take_add_one, List.take_add_one, a, b]
  simp
/-- Words of two ints that were just built. -/
theorem rdv_two (w : World) (x y : Value) (t : TypeId) : RdV (w.alloc (.cells #[x, y] t)) (some ⟨w.heap.size, 0, none⟩) 2 [x, y] :=
  ⟨rfl, fun _ => ⟨w.heap.size, 0, rfl, by simp, fun j v hv => by
    rw [Nat.zero_add, World.cell?_alloc_mark]
    match j, hv with
    | 0, hv => simpa using hv
    | 1, hv => simpa using hv⟩⟩
set_option maxRecDepth 100000 in
set_option maxHeartbeats 4000000 in
theorem is_any (s : S) (A : Option Addr) (c : Nat) (w : World) (hr : RdC 2 w A s.ps.length (pv s.ps)) : Calls Try.prog 43 #[Su.val s A c] w fun e w' => e = .returned (.bool (Su.ok s)) ∧ Below w.heap.size w w' := by
  have HR := Lib.hid hr
  clear hr
  unfold Su.val
  obtain ⟨r, hr⟩ : ∃ r : Bool, r = Su.ok s := ⟨_, rfl⟩
  rw [← hr]
  have Hr := Lib.hid hr
  clear hr
  by_cases h0 : s.g < 1
  · have hno : Su.ok s = false := by rw [Bool.eq_false_iff]; intro hh; have := okH_iff.1 (ok_iff.1 hh).1; omega
    have HNo := Lib.hid hno
    clear hno
    go_enter Try.func43, Try.ntmps43
    go_wp2_with fail
    go_ret
    exact ⟨by rw [Hr.out, HNo.out]; rfl, by repeat (first | exact Below.refl _ _ | refine Below.alloc ?_ (by simp <;> omega) _)⟩
  by_cases h1 : 2147483647 < s.g
  · have hno : Su.ok s = false := by rw [Bool.eq_false_iff]; intro hh; have := okH_iff.1 (ok_iff.1 hh).1; omega
    have HNo := Lib.hid hno
    clear hno
    go_enter Try.func43, Try.ntmps43
    go_wp2_with fail
    go_ret
    exact ⟨by rw [Hr.out, HNo.out]; rfl, by repeat (first | exact Below.refl _ _ | refine Below.alloc ?_ (by simp <;> omega) _)⟩
  by_cases h2 : s.e < 1
  · have hno : Su.ok s = false := by rw [Bool.eq_false_iff]; intro hh; have := okH_iff.1 (ok_iff.1 hh).1; omega
    have HNo := Lib.hid hno
    clear hno
    go_enter Try.func43, Try.ntmps43
    go_wp2_with fail
    go_ret
    exact ⟨by rw [Hr.out, HNo.out]; rfl, by repeat (first | exact Below.refl _ _ | refine Below.alloc ?_ (by simp <;> omega) _)⟩
  by_cases h3 : 2147483647 < s.e
  · have hno : Su.ok s = false := by rw [Bool.eq_false_iff]; intro hh; have := okH_iff.1 (ok_iff.1 hh).1; omega
    have HNo := Lib.hid hno
    clear hno
    go_enter Try.func43, Try.ntmps43
    go_wp2_with fail
    go_ret
    exact ⟨by rw [Hr.out, HNo.out]; rfl, by repeat (first | exact Below.refl _ _ | refine Below.alloc ?_ (by simp <;> omega) _)⟩
  by_cases h4 : s.i < 1
  · have hno : Su.ok s = false := by rw [Bool.eq_false_iff]; intro hh; have := okH_iff.1 (ok_iff.1 hh).1; omega
    have HNo := Lib.hid hno
    clear hno
    go_enter Try.func43, Try.ntmps43
    go_wp2_with fail
    go_ret
    exact ⟨by rw [Hr.out, HNo.out]; rfl, by repeat (first | exact Below.refl _ _ | refine Below.alloc ?_ (by simp <;> omega) _)⟩
  by_cases h5 : 2147483647 < s.i
  · have hno : Su.ok s = false := by rw [Bool.eq_false_iff]; intro hh; have := okH_iff.1 (ok_iff.1 hh).1; omega
    have HNo := Lib.hid hno
    clear hno
    go_enter Try.func43, Try.ntmps43
    go_wp2_with fail
    go_ret
    exact ⟨by rw [Hr.out, HNo.out]; rfl, by repeat (first | exact Below.refl _ _ | refine Below.alloc ?_ (by simp <;> omega) _)⟩
  by_cases h6 : s.m < 1
  · have hno : Su.ok s = false := by rw [Bool.eq_false_iff]; intro hh; have := okH_iff.1 (ok_iff.1 hh).1; omega
    have HNo := Lib.hid hno
    clear hno
    go_enter Try.func43, Try.ntmps43
    go_wp2_with fail
    go_ret
    exact ⟨by rw [Hr.out, HNo.out]; rfl, by repeat (first | exact Below.refl _ _ | refine Below.alloc ?_ (by simp <;> omega) _)⟩
  by_cases h7 : s.e < s.m
  · have hno : Su.ok s = false := by rw [Bool.eq_false_iff]; intro hh; have := okH_iff.1 (ok_iff.1 hh).1; omega
    have HNo := Lib.hid hno
    clear hno
    go_enter Try.func43, Try.ntmps43
    go_wp2_with fail
    go_ret
    exact ⟨by rw [Hr.out, HNo.out]; rfl, by repeat (first | exact Below.refl _ _ | refine Below.alloc ?_ (by simp <;> omega) _)⟩
  by_cases h8 : (s.ps.length : Int) < 1
  · have hno : Su.ok s = false := by rw [Bool.eq_false_iff]; intro hh; have := okH_iff.1 (ok_iff.1 hh).1; omega
    have HNo := Lib.hid hno
    clear hno
    go_enter Try.func43, Try.ntmps43
    go_wp2_with fail
    go_ret
    exact ⟨by rw [Hr.out, HNo.out]; rfl, by repeat (first | exact Below.refl _ _ | refine Below.alloc ?_ (by simp <;> omega) _)⟩
  by_cases h9 : 8 < (s.ps.length : Int)
  · have hno : Su.ok s = false := by rw [Bool.eq_false_iff]; intro hh; have := okH_iff.1 (ok_iff.1 hh).1; omega
    have HNo := Lib.hid hno
    clear hno
    go_enter Try.func43, Try.ntmps43
    go_wp2_with fail
    go_ret
    exact ⟨by rw [Hr.out, HNo.out]; rfl, by repeat (first | exact Below.refl _ _ | refine Below.alloc ?_ (by simp <;> omega) _)⟩
  have HH := Lib.hid (show okH s = true from okH_iff.2 (by omega))
  obtain ⟨N, hN⟩ : ∃ N, N = s.ps.length := ⟨_, rfl⟩
  rw [← hN] at h8 h9 HR ⊢
  have HN := Lib.hid hN
  have hN8 : N ≤ 8 := by omega
  clear hN
  go_enter Try.func43, Try.ntmps43
  go_upto_region 4 with fail
  have hPl : Holds ((w.alloc (.cells #[.int .i64 s.g, .int .i64 s.e, .int .i64 s.i, .int .i64 s.m, .slice A N c] 26)).alloc (.cells #[.int .i64 s.i, .int .i64 s.m, .slice A N c] 24)) (w.heap.size + 1) [.int .i64 s.i, .int .i64 s.m, .slice A N c] := by
    have := Holds.new (w.alloc (.cells #[.int .i64 s.g, .int .i64 s.e, .int .i64 s.i, .int .i64 s.m, .slice A N c] 26)) #[.int .i64 s.i, .int .i64 s.m, .slice A N c] 24
    simpa using this
  have hB0 : Below w.heap.size w ((w.alloc (.cells #[.int .i64 s.g, .int .i64 s.e, .int .i64 s.i, .int .i64 s.m, .slice A N c] 26)).alloc (.cells #[.int .i64 s.i, .int .i64 s.m, .slice A N c] 24)) := by repeat (first | exact Below.refl _ _ | refine Below.alloc ?_ (by simp <;> omega) _)
  generalize ((w.alloc (.cells #[.int .i64 s.g, .int .i64 s.e, .int .i64 s.i, .int .i64 s.m, .slice A N c] 26)).alloc (.cells #[.int .i64 s.i, .int .i64 s.m, .slice A N c] 24)) = v0 at hPl hB0 ⊢
  have HPl := Lib.hid hPl
  have HB0 := Lib.hid hB0
  clear hPl hB0
  clear h0 h1 h2 h3 h4 h5 h6 h7 h8 h9
  go_wp2_with fail
  go_loopw [4, 5] (fun l i wr => ∃ (k : Nat) (B : Option Addr) (cb : Nat), k ≤ N ∧ i = .int .i64 (k : Int) ∧ l = .slice B (k * 2) cb ∧ Hid (OwnV wr v0.heap.size 3 B (k * 2) cb ((pv s.ps).take (k * 2))) ∧ Hid (Below v0.heap.size v0 wr)) (fun _ i _ => N - (intOf i).toNat)
  case atStart => exact ⟨0, none, 0, by omega, rfl, rfl, Lib.hid (OwnV.none_ _ _ _), Lib.hid (Below.refl _ _)⟩
  case round =>
    obtain ⟨k, B, cb, hk, rfl, rfl, HO, HB⟩ := hrel
    have p2 := (HPl.out.below HB.out).at_ 2 rfl
    by_cases hkn : k < N
    · have hki : (k : Int) < (N : Int) := by omega
      obtain ⟨p, hp⟩ : ∃ p, s.ps[k]? = some p := ⟨_, List.getElem?_eq_getElem (by rw [← HN.out]; exact hkn)⟩
      obtain ⟨b, o, rfl, hb, e0, e1⟩ := ((HR.out.below HB0.out).below HB.out).two2 hkn (pv_at hp).1 (pv_at hp).2
      obtain ⟨x, y⟩ := p
      simp only at e0 e1
      have HPt := Lib.hid (pv_take hp)
      clear hp
      have hsz : v0.heap.size ≤ (wr.drew.alloc (.cells #[.int .i64 x, .int .i64 y] 3)).heap.size := by have := HB.out.size; simp; omega
      have hO1 : OwnV (wr.drew.alloc (.cells #[.int .i64 x, .int .i64 y] 3)) v0.heap.size 3 B (k * 2) cb ((pv s.ps).take (k * 2)) := HO.out.drew.alloc _
      have hR1 := rdv_two wr.drew (.int .i64 x) (.int .i64 y) 3
      have hl1 : k * 2 + 2 ≤ 1000000 := by omega
      have h1c : ∀ u ∈ [Value.int .i64 x, Value.int .i64 y], u.oneCell' = true := by intro u hu; simp at hu; rcases hu with rfl | rfl <;> rfl
      go_upto_region 8 with fail
      go_region_law (refine step_appV oneInt (by simp [Region.wanted]) (.tmp 69) (.tmp 82) rfl rfl hO1 (some ⟨wr.heap.size, 0, none⟩) 2 2 [.int .i64 x, .int .i64 y] h1c rfl hR1 hl1 hsz ?_; intro A3 c3 w3 hg3)
      all_goals
        have HO3 := Lib.hid (show OwnV w3 v0.heap.size 3 A3 ((k + 1) * 2) c3 ((pv s.ps).take ((k + 1) * 2)) by rw [HPt.out, show (k + 1) * 2 = k * 2 + 2 by omega]; exact hg3.own)
        have HB3 := Lib.hid (hg3.below (HB.out.drew.alloc HB.out.size _) hsz (fun g hg => (HO.out.blk g hg).1))
        clear hg3
        go_wp2_with fail
        go_roundw
        case rel => exact ⟨k + 1, A3, c3, by omega, by go_num, by rw [show (k + 1) * 2 = k * 2 + 2 by omega], HO3, HB3⟩
        case measure => simp [intOf]; omega
    · have hkN : k = N := by omega
      obtain ⟨v1, rfl⟩ : ∃ z : World, z = wr := ⟨wr, rfl⟩
      have HO1 := Lib.hid (show RdV v1 B (k * 2) (pv s.ps) by
        have := HO.out.rd
        rw [List.take_of_length_le (by rw [pv_length, ← HN.out]; omega)] at this
        exact this)
      obtain ⟨M, hM⟩ : ∃ M, M = k * 2 := ⟨_, rfl⟩
      rw [← hM] at HO1 ⊢
      have hMN : Hid (M = N * 2) := Lib.hid (by omega)
      have hM16 : M ≤ 16 := by omega
      have hkl : k = N := by omega
      subst hkl
      clear hM HO
      go_wp2_with fail
      go_loopw [6] (fun i wx => ∃ j : Nat, j ≤ M ∧ i = .int .i64 (j : Int) ∧ Hid (okP ((flat s.ps).take j) = true) ∧ Hid (Below v1.heap.size v1 wx)) (fun i _ => M - (intOf i).toNat)
      case atStart => exact ⟨0, by omega, rfl, Lib.hid okP_nil, Lib.hid (Below.refl _ _)⟩
      case round =>
        obtain ⟨v2, rfl⟩ : ∃ z : World, z = wr := ⟨wr, rfl⟩
        obtain ⟨j, hj, rfl, HP, HW⟩ := hrel
        by_cases hjM : j < M
        · have hji : (j : Int) < (M : Int) := by omega
          obtain ⟨b, o, v, rfl, hb, hv, e0⟩ := (HO1.out.below HW.out).at_ hjM
          obtain ⟨x, hx⟩ : ∃ x, (flat s.ps)[j]? = some x := ⟨_, List.getElem?_eq_getElem (by rw [flat_length, ← HN.out]; have := hMN.out; omega)⟩
          have hvx : v = .int .i64 x := by
            unfold pv at hv
            rw [List.getElem?_map, hx] at hv
            injection hv with hv
            exact hv.symm
          subst hvx
          have HX := Lib.hid hx
          have HNo := Lib.hid (fun (h : ¬ ((0 ≤ x ∧ x ≤ 510) ∧ x ∉ (flat s.ps).take j)) => (show Su.ok s = false by
            rw [Bool.eq_false_iff]
            intro hh
            have := okP_not HX.out h
            rw [(ok_iff.1 hh).2] at this
            cases this))
          clear hx hv
          by_cases x1 : x < 0
          · have HNo2 := Lib.hid (HNo.out (fun h => by omega))
            go_wp2_with fail
            go_ret
            exact ⟨by rw [Hr.out, HNo2.out]; rfl, HB0.out.trans ((HB.out.trans (HW.out.mono HB.out.size)).mono HB0.out.size)⟩
          by_cases x2 : 511 ≤ x
          · have HNo2 := Lib.hid (HNo.out (fun h => by omega))
            go_wp2_with fail
            go_ret
            exact ⟨by rw [Hr.out, HNo2.out]; rfl, HB0.out.trans ((HB.out.trans (HW.out.mono HB.out.size)).mono HB0.out.size)⟩
          go_wp2_with fail
          go_loopw [7] (fun i wy => ∃ t : Nat, t ≤ j ∧ i = .int .i64 (t : Int) ∧ Hid (∀ u z, u < t → (flat s.ps)[u]? = some z → z ≠ x) ∧ Hid (Below v2.heap.size v2 wy)) (fun i _ => j - (intOf i).toNat)
          case atStart => exact ⟨0, by omega, rfl, Lib.hid (fun u z h => by omega), Lib.hid (Below.refl _ _)⟩
          case round =>
            obtain ⟨t, ht, rfl, HT, HY⟩ := hrel
            by_cases htj : t < j
            · have hti : (t : Int) < (j : Int) := by omega
              have htM : (t : Int) < (M : Int) := by omega
              obtain ⟨z, hz⟩ : ∃ z, (flat s.ps)[t]? = some z := ⟨_, List.getElem?_eq_getElem (by have := (List.getElem?_eq_some_iff.1 HX.out).1; omega)⟩
              have HZ := Lib.hid hz
              obtain ⟨b', o', v', e', hb', hv', e1⟩ := (HO1.out.below HW.out).at_ (show t < M by omega)
              injection e' with e'
              injection e' with e1' e2'
              subst e1' e2'
              have hvz : v' = .int .i64 z := by
                unfold pv at hv'
                rw [List.getElem?_map, hz] at hv'
                injection hv' with hv'
                exact hv'.symm
              subst hvz
              have y0 := (HY.out.cell hb).trans e0
              have y1 := (HY.out.cell hb).trans e1
              clear e0 e1 hz hv' 
              by_cases hzx : z = x
              · have HNo2 := Lib.hid (HNo.out (fun h => h.2 (by
                  rw [← hzx]
                  refine List.mem_of_getElem? (i := t) ?_
                  rw [List.getElem?_take, if_pos htj]
                  exact HZ.out)))
                subst hzx
                go_upto_region 17 with fail
                go_region
                go_wp2_with fail
                go_ret
                exact ⟨by rw [Hr.out, HNo2.out]; rfl, HB0.out.trans ((HB.out.trans ((HW.out.trans (HY.out.drew.mono HW.out.size)).mono HB.out.size)).mono HB0.out.size)⟩
              · have hzb : (z == x) = false := by simpa using hzx
                go_upto_region 17 with fail
                go_region
                go_wp2_with fail
                go_roundw
                case rel => exact ⟨t + 1, by omega, by go_num, Lib.hid (fun u y hu hy => by
                  by_cases e : u = t
                  · subst e; rw [HZ.out] at hy; injection hy with hy; rw [← hy]; exact hzx
                  · exact HT.out u y (by omega) hy), Lib.hid HY.out.drew⟩
                case measure => simp [intOf]; omega
            · have htj2 : t = j := by omega
              subst htj2
              have HP2 := Lib.hid (okP_more HX.out HP.out ⟨by omega, fun hm => by
                obtain ⟨u, hu⟩ := List.getElem?_of_mem hm
                rw [List.getElem?_take] at hu
                split at hu
                · exact HT.out u x (by assumption) hu rfl
                · cases hu⟩)
              go_wp2_with fail
              go_roundw
              case rel => exact ⟨t + 1, by omega, by go_num, HP2, Lib.hid (HW.out.trans (HY.out.mono HW.out.size))⟩
              case measure => simp [intOf]; omega
        · have hyes : Su.ok s = true := by
            refine ok_iff.2 ⟨HH.out, ?_⟩
            have := HP.out
            rw [List.take_of_length_le (by rw [flat_length, ← HN.out]; have := hMN.out; omega)] at this
            exact this
          have HYes := Lib.hid hyes
          clear hyes
          have hjM2 : j = M := by omega
          subst hjM2
          go_wp2_with fail
          go_ret
          exact ⟨by rw [Hr.out, HYes.out]; rfl, HB0.out.trans ((HB.out.trans (HW.out.mono HB.out.size)).mono HB0.out.size)⟩
end Go.Proofs.Ytbdomhookjmmgaa
namespace Go.Proofs.Ytbdomhookjmmgaa
open Go.RowKit Fr Su
set_option linter.unusedVariables false
theorem below_next2 {B : Nat} {a w w' : World} (h : Below B a w) (h2 : Below w.heap.size w w') (hs : B ≤ w.heap.size) : Below B a w' := h.trans (h2.mono hs)
set_option maxRecDepth 100000 in
theorem enter_low (args : Array Value) (w : World) : (callFunc 49 args).run Try.prog w = .ok (.enter 49 args) w := run_enter Try.func49 (by kernel_rfl) (by kernel_rfl) args w
theorem slow_own (n k : Nat) (w : World) (hn : n < 9223372036854775808) (hk : k ≤ 8) : Calls Try.prog 49 #[.int .i64 (n : Int), .int .i64 (k : Int)] w fun e w' => ∃ A c, e = .returned (.slice A k c) ∧ Own w' w.heap.size A k c (le k n) ∧ Below w.heap.size w w' := by
  refine (slow_any n k w hn hk).mono ?_
  rintro e w' ⟨A, c, rfl, hO, hb⟩
  rw [le_len] at hO
  exact ⟨A, c, by rw [le_len], hO, hb⟩
theorem slow_lit (n : Nat) (w : World) (hn : n < 9223372036854775808) : Calls Try.prog 49 #[.int .i64 (n : Int), .int .i64 4] w fun e w' => ∃ A c, e = .returned (.slice A 4 c) ∧ Own w' w.heap.size A 4 c (le 4 n) ∧ Below w.heap.size w w' := slow_own n 4 w hn (by omega)
theorem slow_lit2 (n : Nat) (w : World) (hn : n < 9223372036854775808) : Calls Try.prog 49 #[.int .i64 (n : Int), .int .i64 2] w fun e w' => ∃ A c, e = .returned (.slice A 2 c) ∧ Own w' w.heap.size A 2 c (le 2 n) ∧ Below w.heap.size w w' := slow_own n 2 w hn (by omega)
theorem rencode_su (e i n : Nat) (A : Option Addr) (c : Nat) (p : List Nat) (w : World) (h : e ≤ 2147483647 ∧ i ≤ 2147483647) (hpn : n = p.length) (hp : Rd w A n p) (hn : n ≤ 108) : Calls Try.prog 50 #[.agg #[.int .i64 0, .int .i64 (e : Int), .int .i64 (i : Int)], .int .i64 1, .slice A n c] w (GivesEnc w (frame 1 0 e i p) 0) := by
  subst hpn
  exact rencode_ok 0 e i 1 A c p w (okS_iff.2 ⟨by omega, by omega, by omega⟩) (by decide) hp hn
set_option maxRecDepth 100000 in
set_option maxHeartbeats 2000000 in
theorem srencode_no (s : S) (A : Option Addr) (c : Nat) (w : World) (hr : RdC 2 w A s.ps.length (pv s.ps)) (hno : Su.ok s = false) : Calls Try.prog 12 #[Su.val s A c] w (GivesEnc w [] 50) := by
  have HC := Lib.hid (fun v (hb : Below w.heap.size w v) => is_any s A c v (hr.below hb))
  have HNo := Lib.hid hno
  clear hr hno
  unfold Su.val at HC ⊢
  go_enter Try.func12, Try.ntmps12
  go_wp2_with fail
  refine (HC.out _ ((Below.refl _ _).alloc (Nat.le_refl _) _)).mono ?_
  rintro e v1 ⟨rfl, hb1⟩
  rw [HNo.out]
  have hB1 : Below w.heap.size w v1 := ((Below.refl _ _).alloc (Nat.le_refl _) _).trans (hb1.mono (by simp))
  clear hb1
  go_wp2_with fail
  go_ret2
  exact ⟨none, 0, rfl, Rd.nil _ _, Nat.le_refl _, hB1⟩
set_option maxRecDepth 100000 in
set_option maxHeartbeats 4000000 in
theorem srencode_yes (s : S) (A : Option Addr) (c : Nat) (w : World) (hr : RdC 2 w A s.ps.length (pv s.ps)) (hok : Su.ok s = true) : Calls Try.prog 12 #[Su.val s A c] w (GivesEnc w (sec s) 0) := by
  have HC := Lib.hid (fun v (hb : Below w.heap.size w v) => is_any s A c v (hr.below hb))
  have HR := Lib.hid hr
  have HOk := Lib.hid hok
  have HPt := Lib.hid (fun k x y => ok_pair hok (k := k) (x := x) (y := y))
  obtain ⟨g, e, i, m, hg, he, hi, hm, g1, g2, e1, e2, i1, i2, m1, m2, n1, n2⟩ := ok_nat hok
  obtain ⟨N, hN⟩ : ∃ N, N = s.ps.length := ⟨_, rfl⟩
  have HPay := Lib.hid (show sec s = frame 1 0 e g (le 4 i ++ le 4 m ++ [N] ++ pairsB s.ps) by
    unfold sec pay
    rw [hg, he, hi, hm, hN, Nat.mod_eq_of_lt (by omega)]
    rfl)
  unfold Su.val at HC ⊢
  rw [hg, he, hi, hm] at HC ⊢
  rw [← hN] at HC HR n1 n2 ⊢
  have HN := Lib.hid hN
  clear hr hok hg he hi hm hN
  have hb0 := Holds.new w #[.int .i64 (g : Int), .int .i64 (e : Int), .int .i64 (i : Int), .int .i64 (m : Int), .slice A N c] 26
  have HB0 := Lib.hid hb0
  clear hb0
  go_enter Try.func12, Try.ntmps12
  go_wp2_with fail
  refine (HC.out _ ((Below.refl _ _).alloc (Nat.le_refl _) _)).mono ?_
  rintro e' v1 ⟨rfl, hb1⟩
  rw [HOk.out]
  have HB1 := Lib.hid (show Below w.heap.size w v1 from ((Below.refl _ _).alloc (Nat.le_refl _) _).trans (hb1.mono (by simp)))
  have HK1 := Lib.hid (HB0.out.below hb1)
  have hb0s : w.heap.size < v1.heap.size := HK1.out.1
  clear hb1
  generalize hb : w.heap.size = b0 at *
  have HS := Lib.hid (fun wx (hbx : Below v1.heap.size v1 wx) => (⟨(HK1.out.below hbx).at_ 2 rfl, (HK1.out.below hbx).at_ 3 rfl⟩ : wx.cell? ⟨b0, 2, none⟩ = some (.int .i64 (i : Int)) ∧ wx.cell? ⟨b0, 3, none⟩ = some (.int .i64 (m : Int))))
  have hd0 : Below v1.heap.size v1 v1.drew := (Below.refl _ _).drew
  go_upto_region 3 with fail
  refine wp_region_held_drew (S := fun wx => wx.cell? ⟨b0, 2, none⟩ = some (.int .i64 (i : Int)) ∧ wx.cell? ⟨b0, 3, none⟩ = some (.int .i64 (m : Int))) (by kernel_rfl) ?_ (fun hHeld => ?_)
  · exact HS.out _ hd0
  refine take_at (i := 0) (v := ?_) (some 11) rfl rfl (by kernel_rfl) (by kernel_rfl) (by kernel_rfl) (fun _ _ _ h => h) (by rfl) hHeld ?_ ?_
  rotate_left
  · intro wz hSw; (try dsimp only at hSw); go_simp; (try with_reducible rfl)
  (try simp only [Act.put, List.setIfInBounds_toArray, List.set_cons_zero, List.set_cons_succ])
  refine take_at (i := 1) (v := ?_) (some 12) rfl rfl (by kernel_rfl) (by kernel_rfl) (by kernel_rfl) (fun _ _ _ h => h) (by rfl) hHeld ?_ ?_
  rotate_left
  · intro wz hSw; (try dsimp only at hSw); go_simp; (try with_reducible rfl)
  (try simp only [Act.put, List.setIfInBounds_toArray, List.set_cons_zero, List.set_cons_succ])
  refine take_at (i := 2) (v := ?_) (some 13) rfl rfl (by kernel_rfl) (by kernel_rfl) (by kernel_rfl) (fun _ _ _ h => h) (by rfl) hHeld ?_ ?_
  rotate_left
  · intro wz hSw; (try dsimp only at hSw); go_simp; (try with_reducible rfl)
  (try simp only [Act.put, List.setIfInBounds_toArray, List.set_cons_zero, List.set_cons_succ])
  refine take_at (i := 4) (v := ?_) (some 15) rfl rfl (by kernel_rfl) (by kernel_rfl) (by kernel_rfl) (fun _ _ _ h => h) (by rfl) hHeld ?_ ?_
  rotate_left
  · intro wz hSw; (try dsimp only at hSw); go_simp; (try with_reducible rfl)
  (try simp only [Act.put, List.setIfInBounds_toArray, List.set_cons_zero, List.set_cons_succ])
  refine take_at (i := 5) (v := ?_) (some 16) rfl rfl (by kernel_rfl) (by kernel_rfl) (by kernel_rfl) (fun _ _ _ h => h) (by rfl) hHeld ?_ ?_
  rotate_left
  · intro wz hSw; (try dsimp only at hSw); go_simp; (try with_reducible rfl)
  (try simp only [Act.put, List.setIfInBounds_toArray, List.set_cons_zero, List.set_cons_succ])
  refine take_at (i := 6) (v := ?_) (some 17) rfl rfl (by kernel_rfl) (by kernel_rfl) (by kernel_rfl) (fun _ _ _ h => h) (by rfl) hHeld ?_ ?_
  rotate_left
  · intro wz hSw; (try dsimp only at hSw); go_simp; (try with_reducible rfl)
  (try simp only [Act.put, List.setIfInBounds_toArray, List.set_cons_zero, List.set_cons_succ])
  refine wpAnyH_ready (rs := [3]) (by kernel_rfl) (by simp) ?_
  refine ready_cons (i := 3) rfl (by rfl) (fun K' hK => ?_) (AllReadyH.nil)
  refine wp_call2 14 rfl (.tmp 13) (.const (.int .i64 4)) rfl rfl rfl enter_low ((slow_lit i v1.drew (by omega)).mono ?_)
  rintro e u1 ⟨A1, c1, rfl, hO1, hb1⟩
  refine ⟨_, rfl, ?_⟩
  have hk1 : Below v1.heap.size v1 u1 := below_next2 hd0 hb1 (Nat.le_refl _)
  refine hK.out _ _ ?_ ?_
  · exact HS.out _ hk1
  clear hK K'
  (try simp only [Act.put, List.setIfInBounds_toArray, List.set_cons_zero, List.set_cons_succ])
  refine wpAnyH_ready (rs := [7]) (by kernel_rfl) (by simp) ?_
  refine ready_cons (i := 7) rfl (by rfl) (fun K' hK => ?_) (AllReadyH.nil)
  refine wp_call2 18 rfl (.tmp 17) (.const (.int .i64 4)) rfl rfl rfl enter_low ((slow_lit m u1 (by omega)).mono ?_)
  rintro e u2 ⟨A2, c2, rfl, hO2, hb2⟩
  refine ⟨_, rfl, ?_⟩
  have hk2 : Below v1.heap.size v1 u2 := below_next2 hk1 hb2 hk1.size
  have hp2 := hO1.below hb2
  refine hK.out _ _ ?_ ?_
  · exact HS.out _ hk2
  clear hK K'
  (try simp only [Act.put, List.setIfInBounds_toArray, List.set_cons_zero, List.set_cons_succ])
  refine wpAnyH_ready (rs := [8]) (by kernel_rfl) (by simp) ?_
  refine ready_cons (i := 8) rfl (by rfl) (fun K' hK => ?_) (AllReadyH.nil)
  refine wp_appB 19 rfl (.tmp 14) (.tmp 18) rfl rfl hp2 A2 4 c2 (le 4 m) rfl hO2.rd (by omega) hk2.size ?_
  intro A3 c3 u3 hg3
  have hk3 : Below v1.heap.size v1 u3 := hg3.below hk2 hk2.size (fun g hg => (hp2.blk g hg).1)
  refine hK.out _ _ ?_ ?_
  · exact HS.out _ hk3
  clear hK K'
  (try simp only [Act.put, List.setIfInBounds_toArray, List.set_cons_zero, List.set_cons_succ])
  have hH3 := HS.out _ hk3
  refine take_at (i := 9) (v := ?_) (some 4) rfl rfl (by kernel_rfl) (by kernel_rfl) (by kernel_rfl) (fun _ _ _ h => h) (by rfl) hH3 ?_ ?_
  rotate_left
  · intro wz hSw; (try dsimp only at hSw); go_simp; (try with_reducible rfl)
  (try simp only [Act.put, List.setIfInBounds_toArray, List.set_cons_zero, List.set_cons_succ])
  refine wpAnyH_done (by kernel_rfl) ?_ _
  have HO3 := Lib.hid (show Own u3 v1.heap.size A3 8 c3 (le 4 i ++ le 4 m) from hg3.own)
  have HK3 := Lib.hid hk3
  have cc4 := (HK1.out.below hk3).at_ 4 rfl
  have hv1 : IntKind.u8.wrap (N : Int) = (N : Int) := by show (N : Int) % 256 = _; omega
  have hv2 : (N : Int) % 256 = (N : Int) := by omega
  have hOa : Own (u3.alloc (.cells #[.int .u8 (N : Int)] 5)) v1.heap.size A3 8 c3 (le 4 i ++ le 4 m) := HO3.out.alloc _
  have hra : Rd (u3.alloc (.cells #[.int .u8 (N : Int)] 5)) (some ⟨u3.heap.size, 0, none⟩) 1 [N] := by
    have := rd_new u3 [N] (by intro x hx; rw [List.mem_singleton] at hx; omega) (0, 0)
    simpa [bv] using this
  have hba : v1.heap.size ≤ (u3.alloc (.cells #[.int .u8 (N : Int)] 5)).heap.size := by have := hk3.size; simp; omega
  clear hg3 hk1 hk2 hk3 hH3 hHeld hp2 hO1 hO2 hb1 hb2
  go_wp2_with (first | (at_builtin; refine wpList_appB rfl (.tmp 20) (.tmp 26) rfl rfl hOa (some ⟨u3.heap.size, 0, none⟩) 1 1 [N] rfl hra (by omega) hba ?_; intro A4 c4 u4 hg4))
  have hB4 : Below v1.heap.size v1 u4 := hg4.below (HK3.out.alloc HK3.out.size _) hba (fun g hg => (HO3.out.blk g hg).1)
  obtain ⟨pre, hpre⟩ : ∃ pre, pre = le 4 i ++ le 4 m ++ [N] := ⟨_, rfl⟩
  have HO4 := Lib.hid (show Own u4 v1.heap.size A4 9 c4 pre by rw [hpre]; exact hg4.own)
  have hplen : pre.length = 9 := by rw [hpre]; simp [le_len]
  rw [← hpre] at HPay
  have HB4 := Lib.hid hB4
  clear hg4 hB4 hpre cc4 hOa hra hba hv1 hv2
  go_loopw [4, 5] (fun l i wr => ∃ (k M : Nat) (B : Option Addr) (cb : Nat), k ≤ N ∧ M ≤ 60 ∧ l = .slice B M cb ∧ i = .int .i64 (k : Int) ∧ Hid (M = 9 + k * 4) ∧ Hid (Own wr v1.heap.size B M cb (pre ++ pairsB (s.ps.take k))) ∧ Hid (Below v1.heap.size v1 wr)) (fun _ i _ => N - (intOf i).toNat)
  case atStart => exact ⟨0, 9, A4, _, by omega, by omega, rfl, rfl, Lib.hid (by omega), Lib.hid (by simpa [pairsB] using HO4.out), HB4⟩
  case round =>
    obtain ⟨k, M, B, cb, hk, hM60, rfl, rfl, HM, HO, HB⟩ := hrel
    have cc4 := (HK1.out.below HB.out).at_ 4 rfl
    by_cases hkN : k < N
    · have hki : (k : Int) < (N : Int) := by omega
      have hk0 : ¬ (k : Int) < 0 := by omega
      obtain ⟨⟨X, Y⟩, hp⟩ : ∃ p, s.ps[k]? = some p := ⟨_, List.getElem?_eq_getElem (by rw [← HN.out]; exact hkN)⟩
      obtain ⟨X, Y, rfl, rfl, hX, hY⟩ := HPt.out k X Y hp
      have hM2 : M ≤ 40 := by have := HM.out; omega
      have HBw := Lib.hid (show Below w.heap.size w v1 by rw [hb]; exact HB1.out)
      obtain ⟨b, q, rfl, hbl, f0, f1⟩ := (HR.out.below HBw.out).two2 hkN (pv_at hp).1 (pv_at hp).2
      simp only at f0 f1
      have HPs := Lib.hid (show pre ++ pairsB (s.ps.take (k + 1)) = (pre ++ pairsB (s.ps.take k) ++ le 2 X) ++ le 2 Y by
        rw [List.take_add_one, hp]
        simp only [Option.toList_some]
        rw [pairsB_snoc]
        simp [pairB, List.append_assoc])
      have HS2 := Lib.hid (fun wx (hbx : Below v1.heap.size v1 wx) => (⟨(HK1.out.below hbx).at_ 4 rfl, (hbx.cell (p := ⟨b, q + k * 2, none⟩) hbl).trans f0, (hbx.cell (p := ⟨b, q + k * 2 + 1, none⟩) hbl).trans f1⟩ : wx.cell? ⟨b0, 4, none⟩ = some (.slice (some ⟨b, q, none⟩) N c) ∧ wx.cell? ⟨b, q + k * 2, none⟩ = some (.int .i64 (X : Int)) ∧ wx.cell? ⟨b, q + k * 2 + 1, none⟩ = some (.int .i64 (Y : Int))))
      have hd1v : Below v1.heap.size v1 wr.drew := HB.out.drew
      have hsz : v1.heap.size ≤ wr.heap.size := HB.out.size
      have hd1 := hd1v
      have hw0 : Below wr.heap.size wr wr.drew := (Below.refl _ _).drew
      clear hp f0 f1
      go_upto_region 8 with fail
      refine wp_region_held_drew (S := fun wx => wx.cell? ⟨b0, 4, none⟩ = some (.slice (some ⟨b, q, none⟩) N c) ∧ wx.cell? ⟨b, q + k * 2, none⟩ = some (.int .i64 (X : Int)) ∧ wx.cell? ⟨b, q + k * 2 + 1, none⟩ = some (.int .i64 (Y : Int))) (by kernel_rfl) ?_ (fun hHeld => ?_)
      · exact HS2.out _ hd1
      refine take_at (i := 0) (v := ?_) (some 36) rfl rfl (by kernel_rfl) (by kernel_rfl) (by kernel_rfl) (fun _ _ _ h => h) (by rfl) hHeld ?_ ?_
      rotate_left
      · intro wz hSw; (try dsimp only at hSw); go_simp; (try with_reducible rfl)
      (try simp only [Act.put, List.setIfInBounds_toArray, List.set_cons_zero, List.set_cons_succ])
      refine take_at (i := 1) (v := ?_) (some 37) rfl rfl (by kernel_rfl) (by kernel_rfl) (by kernel_rfl) (fun _ _ _ h => h) (by rfl) hHeld ?_ ?_
      rotate_left
      · intro wz hSw; (try dsimp only at hSw); go_simp; (try with_reducible rfl)
      (try simp only [Act.put, List.setIfInBounds_toArray, List.set_cons_zero, List.set_cons_succ])
      refine take_at (i := 2) (v := ?_) (some 38) rfl rfl (by kernel_rfl) (by kernel_rfl) (by kernel_rfl) (fun _ _ _ h => h) (by rfl) hHeld ?_ ?_
      rotate_left
      · intro wz hSw; (try dsimp only at hSw); go_simp; (try with_reducible rfl)
      (try simp only [Act.put, List.setIfInBounds_toArray, List.set_cons_zero, List.set_cons_succ])
      refine take_at (i := 3) (v := ?_) (some 39) rfl rfl (by kernel_rfl) (by kernel_rfl) (by kernel_rfl) (fun _ _ _ h => h) (by rfl) hHeld ?_ ?_
      rotate_left
      · intro wz hSw; (try dsimp only at hSw); go_simp; (try with_reducible rfl)
      (try simp only [Act.put, List.setIfInBounds_toArray, List.set_cons_zero, List.set_cons_succ])
      refine take_at (i := 4) (v := ?_) (some 40) rfl rfl (by kernel_rfl) (by kernel_rfl) (by kernel_rfl) (fun _ _ _ h => h) (by rfl) hHeld ?_ ?_
      rotate_left
      · intro wz hSw; (try dsimp only at hSw); go_simp; (try with_reducible rfl)
      (try simp only [Act.put, List.setIfInBounds_toArray, List.set_cons_zero, List.set_cons_succ])
      refine take_at (i := 5) (v := ?_) (some 41) rfl rfl (by kernel_rfl) (by kernel_rfl) (by kernel_rfl) (fun _ _ _ h => h) (by rfl) hHeld ?_ ?_
      rotate_left
      · intro wz hSw; (try dsimp only at hSw); go_simp; (try with_reducible rfl)
      (try simp only [Act.put, List.setIfInBounds_toArray, List.set_cons_zero, List.set_cons_succ])
      refine take_at (i := 6) (v := ?_) (some 42) rfl rfl (by kernel_rfl) (by kernel_rfl) (by kernel_rfl) (fun _ _ _ h => h) (by rfl) hHeld ?_ ?_
      rotate_left
      · intro wz hSw; (try dsimp only at hSw); go_simp; (try with_reducible rfl)
      (try simp only [Act.put, List.setIfInBounds_toArray, List.set_cons_zero, List.set_cons_succ])
      refine take_at (i := 7) (v := ?_) (some 43) rfl rfl (by kernel_rfl) (by kernel_rfl) (by kernel_rfl) (fun _ _ _ h => h) (by rfl) hHeld ?_ ?_
      rotate_left
      · intro wz hSw; (try dsimp only at hSw); go_simp; (try with_reducible rfl)
      (try simp only [Act.put, List.setIfInBounds_toArray, List.set_cons_zero, List.set_cons_succ])
      refine take_at (i := 10) (v := ?_) (some 46) rfl rfl (by kernel_rfl) (by kernel_rfl) (by kernel_rfl) (fun _ _ _ h => h) (by rfl) hHeld ?_ ?_
      rotate_left
      · intro wz hSw; (try dsimp only at hSw); go_simp; (try with_reducible rfl)
      (try simp only [Act.put, List.setIfInBounds_toArray, List.set_cons_zero, List.set_cons_succ])
      refine take_at (i := 11) (v := ?_) (some 47) rfl rfl (by kernel_rfl) (by kernel_rfl) (by kernel_rfl) (fun _ _ _ h => h) (by rfl) hHeld ?_ ?_
      rotate_left
      · intro wz hSw; (try dsimp only at hSw); go_simp; (try with_reducible rfl)
      (try simp only [Act.put, List.setIfInBounds_toArray, List.set_cons_zero, List.set_cons_succ])
      refine take_at (i := 12) (v := ?_) (some 48) rfl rfl (by kernel_rfl) (by kernel_rfl) (by kernel_rfl) (fun _ _ _ h => h) (by rfl) hHeld ?_ ?_
      rotate_left
      · intro wz hSw; (try dsimp only at hSw); go_simp; (try with_reducible rfl)
      (try simp only [Act.put, List.setIfInBounds_toArray, List.set_cons_zero, List.set_cons_succ])
      refine take_at (i := 13) (v := ?_) (some 49) rfl rfl (by kernel_rfl) (by kernel_rfl) (by kernel_rfl) (fun _ _ _ h => h) (by rfl) hHeld ?_ ?_
      rotate_left
      · intro wz hSw; (try dsimp only at hSw); go_simp; (try with_reducible rfl)
      (try simp only [Act.put, List.setIfInBounds_toArray, List.set_cons_zero, List.set_cons_succ])
      refine take_at (i := 14) (v := ?_) (some 50) rfl rfl (by kernel_rfl) (by kernel_rfl) (by kernel_rfl) (fun _ _ _ h => h) (by rfl) hHeld ?_ ?_
      rotate_left
      · intro wz hSw; (try dsimp only at hSw); go_simp; (try with_reducible rfl)
      (try simp only [Act.put, List.setIfInBounds_toArray, List.set_cons_zero, List.set_cons_succ])
      refine take_at (i := 15) (v := ?_) (some 51) rfl rfl (by kernel_rfl) (by kernel_rfl) (by kernel_rfl) (fun _ _ _ h => h) (by rfl) hHeld ?_ ?_
      rotate_left
      · intro wz hSw; (try dsimp only at hSw); go_simp; (try with_reducible rfl)
      (try simp only [Act.put, List.setIfInBounds_toArray, List.set_cons_zero, List.set_cons_succ])
      refine take_at (i := 16) (v := ?_) (some 52) rfl rfl (by kernel_rfl) (by kernel_rfl) (by kernel_rfl) (fun _ _ _ h => h) (by rfl) hHeld ?_ ?_
      rotate_left
      · intro wz hSw; (try dsimp only at hSw); go_simp; (try with_reducible rfl)
      (try simp only [Act.put, List.setIfInBounds_toArray, List.set_cons_zero, List.set_cons_succ])
      refine wpAnyH_ready (rs := [8]) (by kernel_rfl) (by simp) ?_
      refine ready_cons (i := 8) rfl (by rfl) (fun K' hK => ?_) (AllReadyH.nil)
      refine wp_call2 44 rfl (.tmp 43) (.const (.int .i64 2)) rfl rfl rfl enter_low ((slow_lit2 X wr.drew (by omega)).mono ?_)
      rintro e w1 ⟨A1, c1, rfl, hO1, hb1⟩
      refine ⟨_, rfl, ?_⟩
      have hk1 : Below v1.heap.size v1 w1 := below_next2 hd1 hb1 hsz
      have hp1 := HO.out.drew.below hb1
      refine hK.out _ _ ?_ ?_
      · exact HS2.out _ hk1
      clear hK K'
      (try simp only [Act.put, List.setIfInBounds_toArray, List.set_cons_zero, List.set_cons_succ])
      refine wpAnyH_ready (rs := [9]) (by kernel_rfl) (by simp) ?_
      refine ready_cons (i := 9) rfl (by rfl) (fun K' hK => ?_) (AllReadyH.nil)
      refine wp_appB 45 rfl (.tmp 36) (.tmp 44) rfl rfl hp1 A1 2 c1 (le 2 X) rfl hO1.rd (by omega) hk1.size ?_
      intro A2 c2 w2 hg2
      have hk2 : Below v1.heap.size v1 w2 := hg2.below hk1 hk1.size (fun g hg => (hp1.blk g hg).1)
      have hk2v := hk2
      refine hK.out _ _ ?_ ?_
      · exact HS2.out _ (hk2v)
      clear hK K'
      (try simp only [Act.put, List.setIfInBounds_toArray, List.set_cons_zero, List.set_cons_succ])
      refine wpAnyH_ready (rs := [17]) (by kernel_rfl) (by simp) ?_
      refine ready_cons (i := 17) rfl (by rfl) (fun K' hK => ?_) (AllReadyH.nil)
      refine wp_call2 53 rfl (.tmp 52) (.const (.int .i64 2)) rfl rfl rfl enter_low ((slow_lit2 Y w2 (by omega)).mono ?_)
      rintro e w3 ⟨A3, c3, rfl, hO3, hb3⟩
      refine ⟨_, rfl, ?_⟩
      have hk3 : Below v1.heap.size v1 w3 := below_next2 hk2 hb3 hk2.size
      have hp3 := hg2.own.below hb3
      refine hK.out _ _ ?_ ?_
      · exact HS2.out _ hk3
      clear hK K'
      (try simp only [Act.put, List.setIfInBounds_toArray, List.set_cons_zero, List.set_cons_succ])
      refine wpAnyH_ready (rs := [18]) (by kernel_rfl) (by simp) ?_
      refine ready_cons (i := 18) rfl (by rfl) (fun K' hK => ?_) (AllReadyH.nil)
      refine wp_appB 54 rfl (.tmp 45) (.tmp 53) rfl rfl hp3 A3 2 c3 (le 2 Y) rfl hO3.rd (by omega) hk3.size ?_
      intro A4 c4 w4 hg4
      have hk4 : Below v1.heap.size v1 w4 := hg4.below hk3 hk3.size (fun g hg => (hp3.blk g hg).1)
      refine hK.out _ _ ?_ ?_
      · exact HS2.out _ hk4
      clear hK K'
      (try simp only [Act.put, List.setIfInBounds_toArray, List.set_cons_zero, List.set_cons_succ])
      have hH4 := HS2.out _ hk4
      refine take_at (i := 19) (v := ?_) (some 4) rfl rfl (by kernel_rfl) (by kernel_rfl) (by kernel_rfl) (fun _ _ _ h => h) (by rfl) hH4 ?_ ?_
      rotate_left
      · intro wz hSw; (try dsimp only at hSw); go_simp; (try with_reducible rfl)
      (try simp only [Act.put, List.setIfInBounds_toArray, List.set_cons_zero, List.set_cons_succ])
      refine wpAnyH_done (by kernel_rfl) ?_ _
      have HO5 := Lib.hid (show Own w4 v1.heap.size A4 (M + 4) c4 (pre ++ pairsB (s.ps.take (k + 1))) by rw [HPs.out]; exact hg4.own)
      have HK5 := Lib.hid hk4
      clear hg4 hk4 hk3 hk2 hk2v hk1 hp1 hp3 hO1 hO3 hb1 hb3 hg2 hHeld hH4
      go_wp2_with fail
      go_roundw
      case rel => exact ⟨k + 1, M + 4, A4, c4, by omega, by omega, rfl, by go_num, Lib.hid (by have := HM.out; omega), HO5, HK5⟩
      case measure => simp [intOf]; omega
    · have hkl : k = N := by omega
      have d0 := (HK1.out.below HB.out).at_ 0 rfl
      have d1 := (HK1.out.below HB.out).at_ 1 rfl
      have hRB := HO.out.rd
      rw [List.take_of_length_le (by rw [← HN.out]; omega)] at hRB
      have HRB := Lib.hid hRB
      have hM2 : M ≤ 41 := by have := HM.out; omega
      have HML := Lib.hid (show M = (pre ++ pairsB s.ps).length from hRB.1.symm)
      subst hkl
      clear hRB
      go_wp2_with fail
      refine (rencode_su e g M B cb (pre ++ pairsB s.ps) wr ⟨by omega, by omega⟩ HML.out HRB.out (by omega)).mono ?_
      rintro e' v9 ⟨A9, c9, rfl, hR9, hc9, hb9⟩
      have hB9 : Below w.heap.size w v9 := by
        rw [hb]
        have h1 := HB1.out.size
        exact HB1.out.trans ((HB.out.trans (hb9.mono HB.out.size)).mono (by omega))
      rw [← HPay.out] at hR9 hc9 ⊢
      have HR9 := Lib.hid hR9
      clear hR9 hb9 cc4 d0 d1
      go_wp2_with fail
      go_ret2
      exact ⟨A9, c9, rfl, HR9.out, hc9, hB9⟩
end Go.Proofs.Ytbdomhookjmmgaa
namespace Go.Proofs.Ytbdomhookjmmgaa
open Go.RowKit Fr Su
set_option linter.unusedVariables false
namespace Su
def encL (s : S) : List Nat := if Su.ok s = true then sec s else []
def encR (s : S) : Int := if Su.ok s = true then 0 else 50
end Su
theorem senc_any (s : S) (A : Option Addr) (c : Nat) (w : World) (hr : RdC 2 w A s.ps.length (pv s.ps)) : Calls Try.prog 11 #[Su.val s A c] w (GivesEnc w (encL s) (encR s)) := by
  unfold encL encR
  by_cases h : Su.ok s = true
  · rw [if_pos h, if_pos h]; exact sencode_yes s A c w hr h
  · rw [if_neg h, if_neg h]; exact sencode_no s A c w hr (by simpa using h)
theorem srenc_any (s : S) (A : Option Addr) (c : Nat) (w : World) (hr : RdC 2 w A s.ps.length (pv s.ps)) : Calls Try.prog 12 #[Su.val s A c] w (GivesEnc w (encL s) (encR s)) := by
  unfold encL encR
  by_cases h : Su.ok s = true
  · rw [if_pos h, if_pos h]; exact srencode_yes s A c w hr h
  · rw [if_neg h, if_neg h]; exact srencode_no s A c w hr (by simpa using h)
theorem rd_apart {w : World} {A : Option Addr} {n b : Nat} {vs : List Value} (h : RdC 2 w A n vs) (hb : w.heap.size ≤ b) {v : World} (hv : Below w.heap.size w v) (y0 y1 y2 y3 y4 : Value) : RdC 2 (((((v.setCell ⟨b, 0, none⟩ y0).setCell ⟨b, 1, none⟩ y1).setCell ⟨b, 2, none⟩ y2).setCell ⟨b, 3, none⟩ y3).setCell ⟨b, 4, none⟩ y4) A n vs :=
  h.below (((((hv.setCell (p := ⟨b, 0, none⟩) hb y0).setCell (p := ⟨b, 1, none⟩) hb y1).setCell (p := ⟨b, 2, none⟩) hb y2).setCell (p := ⟨b, 3, none⟩) hb y3).setCell (p := ⟨b, 4, none⟩) hb y4)
end Go.Proofs.Ytbdomhookjmmgaa
