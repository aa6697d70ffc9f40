/- The document's message of any bytes. -/
import Derived.Test.YtonjjihbpeblkaaRfMsg
import Derived.BigRegion
namespace Go.Proofs.Ytonjjihbpeblkaa
open Go.RowKit
namespace Wr
theorem read_msg_none {l : List Nat} (h : Cd.takeNum l = none) : msgRead l = none := by unfold msgRead num; rw [h]
theorem read_msg_other {l r : List Nat} {k : Nat} (h : Cd.takeNum l = some (k, r)) (h1 : k ≠ 1) (h2 : k ≠ 2) : msgRead l = none := by
  unfold msgRead num
  rw [h]
  show (match (if k < 9223372036854775808 then some (k, r) else none) with | none => none | some (k, r) => _) = _
  split
  · rfl
  · rename_i k2 r2 e
    split at e
    · injection e with e; injection e with e1 e2; subst e1 e2
      have : msgs (k : Int) = [] := by unfold msgs; rw [if_neg (by omega), if_neg (by omega)]
      rw [this]
      rfl
    · cases e
theorem read_msg_one {l r : List Nat} (h : Cd.takeNum l = some (1, r)) : msgRead l = (all [false, false, true, false] r).map fun vs => Mg.puts (msgs 1) vs (Mg.bare 1) := by
  unfold msgRead num; rw [h]; rfl
theorem read_msg_two {l r : List Nat} (h : Cd.takeNum l = some (2, r)) : msgRead l = (all [false, false] r).map fun vs => Mg.puts (msgs 2) vs (Mg.bare 2) := by
  unfold msgRead num; rw [h]; rfl
theorem all_cases {t : Bool} {ts : List Bool} {l : List Nat} : all (t :: ts) l = match taken (t :: ts) l with
    | some (vs, []) => some vs
    | _ => none := by
  rcases h : taken (t :: ts) l with _ | ⟨vs, _ | ⟨x, r⟩⟩
  · exact all_none h
  · exact all_some h
  · exact all_more h
theorem four_of {l r : List Nat} {us : List Value} (h : taken [false, false, true, false] l = some (us, r)) (hl : ∀ x ∈ l, x < 256) : ∃ (p q : Int) (s : ByteArray) (n : Int), us = [.int .i64 p, .int .i64 q, .string s, .int .i64 n] := by
  have hlen := (taken_only hl h).1
  match us, hlen with
  | [a, b, c, d], _ =>
    have ht := taken_fits h
    obtain ⟨x0, rfl, _⟩ := ht 0 false _ rfl rfl
    obtain ⟨x1, rfl, _⟩ := ht 1 false _ rfl rfl
    obtain ⟨x2, rfl⟩ := ht 2 true _ rfl rfl
    obtain ⟨x3, rfl, _⟩ := ht 3 false _ rfl rfl
    exact ⟨x0, x1, x2, x3, rfl⟩
theorem two_of {l r : List Nat} {us : List Value} (h : taken [false, false] l = some (us, r)) (hl : ∀ x ∈ l, x < 256) : ∃ p q : Int, us = [.int .i64 p, .int .i64 q] := by
  have hlen := (taken_only hl h).1
  match us, hlen with
  | [a, b], _ =>
    have ht := taken_fits h
    obtain ⟨x0, rfl, _⟩ := ht 0 false _ rfl rfl
    obtain ⟨x1, rfl, _⟩ := ht 1 false _ rfl rfl
    exact ⟨x0, x1, rfl⟩
end Wr
set_option maxRecDepth 100000 in
set_option maxHeartbeats 16000000 in
theorem rreadmsg_any (A : Option Addr) (n c : Nat) (l : List Nat) (w : World) (hl : Rd w A n l) (hc : n ≤ c) (hn : n ≤ 1000000) :
    Calls Try.prog 22 #[.slice A n c] w (GivesRd w (Wr.Mg.bare 0).cells ((Wr.msgRead l).map Wr.Mg.cells)) := by
  have hl256 := hl.2.1
  have hlen := hl.1
  have htn := Lib.hid (fun (wx : World) (h : Below w.heap.size w wx) => rtakenum_own A n c l wx (hl.below h) hc hn)
  have k0 := Holds.new w #[Value.int .i64 0, .int .i64 0, .int .i64 0, .string ⟨#[]⟩, .int .i64 0] 43
  have hb0 : Below w.heap.size w (w.alloc (.cells #[Value.int .i64 0, .int .i64 0, .int .i64 0, .string ⟨#[]⟩, .int .i64 0] 43)) := (Below.refl _ _).alloc (Nat.le_refl _) _
  have hs0 : (w.alloc (.cells #[Value.int .i64 0, .int .i64 0, .int .i64 0, .string ⟨#[]⟩, .int .i64 0] 43)).heap.size = w.heap.size + 1 := by simp
  have Hs0 := Lib.hid hs0
  have K0 := Lib.hid k0
  have HB0 := Lib.hid hb0
  clear k0 hb0 hs0 hl
  go_enter Try.func22, Try.ntmps22
  go_wp2_with fail
  generalize w.alloc (.cells #[Value.int .i64 0, .int .i64 0, .int .i64 0, .string ⟨#[]⟩, .int .i64 0] 43) = w1 at *
  have hsw : w.heap.size + 1 ≤ w1.heap.size := Nat.le_of_eq Hs0.out.symm
  refine (htn.out w1 HB0.out).mono ?_
  rcases ht : Cd.takeNum l with _ | ⟨k, r⟩
  · rintro e w2 ⟨rfl, hb2⟩
    have HB2 := Lib.hid (below_next HB0.out hb2)
    have E0 := Lib.hid (Wr.read_msg_none ht)
    have kz := K0.out.below hb2
    have c0 := kz.at_ 0 rfl
    have fc0 := kz.2.2 0
    have c1 := kz.at_ 1 rfl
    have fc1 := kz.2.2 1
    have c2 := kz.at_ 2 rfl
    have fc2 := kz.2.2 2
    have c3 := kz.at_ 3 rfl
    have fc3 := kz.2.2 3
    have c4 := kz.at_ 4 rfl
    have fc4 := kz.2.2 4
    have Fin := Lib.hid (show Holds (((((w2.setCell ⟨w.heap.size, 0, none⟩ (.int .i64 0)).setCell ⟨w.heap.size, 1, none⟩ (.int .i64 0)).setCell ⟨w.heap.size, 2, none⟩ (.int .i64 0)).setCell ⟨w.heap.size, 3, none⟩ (.string ⟨#[]⟩)).setCell ⟨w.heap.size, 4, none⟩ (.int .i64 0)) w.heap.size [.int .i64 0, .int .i64 0, .int .i64 0, .string ⟨#[]⟩, .int .i64 0] from (((((kz.set 0 (.int .i64 0) (by simp)).set 1 (.int .i64 0) (by simp)).set 2 (.int .i64 0) (by simp)).set 3 (.string ⟨#[]⟩) (by simp)).set 4 (.int .i64 0) (by simp)))
    have Fb := Lib.hid (show Below w.heap.size w (((((w2.setCell ⟨w.heap.size, 0, none⟩ (.int .i64 0)).setCell ⟨w.heap.size, 1, none⟩ (.int .i64 0)).setCell ⟨w.heap.size, 2, none⟩ (.int .i64 0)).setCell ⟨w.heap.size, 3, none⟩ (.string ⟨#[]⟩)).setCell ⟨w.heap.size, 4, none⟩ (.int .i64 0)) from below_set (below_set (below_set (below_set (below_set (HB2.out) _ _ (Nat.le_refl _)) _ _ (Nat.le_refl _)) _ _ (Nat.le_refl _)) _ _ (Nat.le_refl _)) _ _ (Nat.le_refl _))
    clear kz
    go_wp2
    have i0 := Fin.out
    have d0 := i0.at_ 0 rfl
    have d1 := i0.at_ 1 rfl
    have d2 := i0.at_ 2 rfl
    have d3 := i0.at_ 3 rfl
    have d4 := i0.at_ 4 rfl
    refine ⟨rfl, .tuple #[.agg #[.int .i64 0, .int .i64 0, .int .i64 0, .string ⟨#[]⟩, .int .i64 0], .int .i64 220], ?_, ?_⟩
    · simp [results, Try.results22, go_sem, d0, d1, d2, d3, d4]
    · rw [E0.out]
      exact ⟨rfl, Fb.out⟩
  · rintro e w2 ⟨A2, c2, rfl, ho2, hb2⟩
    have HB2 := Lib.hid (below_next HB0.out hb2)
    have K2 := Lib.hid (K0.out.below hb2)
    have hrl : r.length ≤ n := by have := (takeNum_bound ht).2.1; omega
    have hr256 : ∀ x ∈ r, x < 256 := fun x hx => hl256 x ((takeNum_bound ht).2.2 x hx)
    have HO2 := Lib.hid ho2
    have hc2 := ho2.cap
    have Ht := Lib.hid ht
    clear hb2 ho2 ht
    by_cases hk2 : k = 2
    · subst hk2
      have hrd := Lib.hid (Wr.read_msg_two Ht.out)
      have HBl := Lib.hid (Below.refl w2.heap.size w2)
      have hlk : RdF (w2.alloc (.cells #[Value.bool false, .int .i64 0, .string ⟨#[]⟩, .bool false, .int .i64 0, .string ⟨#[]⟩] 76)) (some ⟨w2.heap.size, 0, none⟩) 2 [.int .i64 0, .int .i64 0] := rdf_new w2 76 [.int .i64 0, .int .i64 0] 2 rfl
      have hb5 : Below w2.heap.size w2 (w2.alloc (.cells #[Value.bool false, .int .i64 0, .string ⟨#[]⟩, .bool false, .int .i64 0, .string ⟨#[]⟩] 76)) := HBl.out.alloc HBl.out.size _
      have htk := Lib.hid (taken_any A2 r.length c2 r (some ⟨w2.heap.size, 0, none⟩) 2 2 [.int .i64 0, .int .i64 0] _ (HO2.out.rd.below hb5) hc2 (by omega) hlk (by omega))
      have HB5 := Lib.hid hb5
      clear hlk hb5
      go_wp2_with fail
      generalize w2.alloc (.cells #[Value.bool false, .int .i64 0, .string ⟨#[]⟩, .bool false, .int .i64 0, .string ⟨#[]⟩] 76) = w5 at *
      have hkinds : [Value.int .i64 0, .int .i64 0].map Wr.kindOf = [false, false] := rfl
      rw [hkinds] at htk
      have hsz5 : w2.heap.size ≤ w5.heap.size := HB5.out.size
      have hsz2 : w.heap.size ≤ w2.heap.size := HB2.out.size
      refine htk.out.mono ?_
      rcases htkn : Wr.taken [false, false] r with _ | ⟨us, _ | ⟨y, r2⟩⟩
      · rintro e w6 ⟨rfl, hb6⟩
        have hb26 := HB5.out.trans (hb6.mono hsz5)
        have HB6 := Lib.hid (HB2.out.trans (hb26.mono hsz2))
        have E0 := Lib.hid (show Wr.msgRead l = none by rw [hrd.out, Wr.all_cases, htkn]; rfl)
        have kz := K2.out.below hb26
        have c0 := kz.at_ 0 rfl
        have fc0 := kz.2.2 0
        have c1 := kz.at_ 1 rfl
        have fc1 := kz.2.2 1
        have c2 := kz.at_ 2 rfl
        have fc2 := kz.2.2 2
        have c3 := kz.at_ 3 rfl
        have fc3 := kz.2.2 3
        have c4 := kz.at_ 4 rfl
        have fc4 := kz.2.2 4
        have Fin := Lib.hid (show Holds (((((w6.setCell ⟨w.heap.size, 0, none⟩ (.int .i64 0)).setCell ⟨w.heap.size, 1, none⟩ (.int .i64 0)).setCell ⟨w.heap.size, 2, none⟩ (.int .i64 0)).setCell ⟨w.heap.size, 3, none⟩ (.string ⟨#[]⟩)).setCell ⟨w.heap.size, 4, none⟩ (.int .i64 0)) w.heap.size [.int .i64 0, .int .i64 0, .int .i64 0, .string ⟨#[]⟩, .int .i64 0] from (((((kz.set 0 (.int .i64 0) (by simp)).set 1 (.int .i64 0) (by simp)).set 2 (.int .i64 0) (by simp)).set 3 (.string ⟨#[]⟩) (by simp)).set 4 (.int .i64 0) (by simp)))
        have Fb := Lib.hid (show Below w.heap.size w (((((w6.setCell ⟨w.heap.size, 0, none⟩ (.int .i64 0)).setCell ⟨w.heap.size, 1, none⟩ (.int .i64 0)).setCell ⟨w.heap.size, 2, none⟩ (.int .i64 0)).setCell ⟨w.heap.size, 3, none⟩ (.string ⟨#[]⟩)).setCell ⟨w.heap.size, 4, none⟩ (.int .i64 0)) from below_set (below_set (below_set (below_set (below_set (HB6.out) _ _ (Nat.le_refl _)) _ _ (Nat.le_refl _)) _ _ (Nat.le_refl _)) _ _ (Nat.le_refl _)) _ _ (Nat.le_refl _))
        clear kz
        go_wp2
        have i0 := Fin.out
        have d0 := i0.at_ 0 rfl
        have d1 := i0.at_ 1 rfl
        have d2 := i0.at_ 2 rfl
        have d3 := i0.at_ 3 rfl
        have d4 := i0.at_ 4 rfl
        refine ⟨rfl, .tuple #[.agg #[.int .i64 0, .int .i64 0, .int .i64 0, .string ⟨#[]⟩, .int .i64 0], .int .i64 220], ?_, ?_⟩
        · simp [results, Try.results22, go_sem, d0, d1, d2, d3, d4]
        · rw [E0.out]
          exact ⟨rfl, Fb.out⟩
      · rintro e w6 ⟨D, dc, t, rfl, ht, hD, hdc, hb6⟩
        have ht1 : t = true := ht.2 rfl
        subst ht1
        have hb26 := HB5.out.trans (hb6.mono hsz5)
        have HB6 := Lib.hid (HB2.out.trans (hb26.mono hsz2))
        obtain ⟨p, q, rfl⟩ := Wr.two_of htkn hr256
        have E0 := Lib.hid (show Wr.msgRead l = some ⟨2, p, q, ⟨#[]⟩, 0⟩ by rw [hrd.out, Wr.all_cases, htkn]; rfl)
        obtain ⟨db, do_, rfl, hdb, _⟩ := hD.at_ (k := 0) rfl
        have hba : Below w6.heap.size w6 (w6.alloc (.cells #[.int .i64 0, .int .i64 0, .int .i64 0, .string ⟨#[]⟩, .int .i64 0] 43)) := (Below.refl _ _).alloc (Nat.le_refl _) _
        have hbm : Below w6.heap.size w6 (w6.alloc (.cells #[.int .i64 2, .int .i64 p, .int .i64 q, .string ⟨#[]⟩, .int .i64 0] 43)).drew := ((Below.refl _ _).alloc (Nat.le_refl _) _).drew
        have a0 : w6.cell? ⟨db, do_ + 1, none⟩ = some (.int .i64 p) := by
          obtain ⟨b', o', e', _, hc'⟩ := hD.at_ (k := 0) rfl
          injection e' with e'; injection e' with e1 e2; subst e1 e2
          exact hc' 1 _ rfl
        have a0' := (hba.cell (p := ⟨db, do_ + 1, none⟩) hdb).trans a0
        have b0 := (hbm.cell (p := ⟨db, do_ + 1, none⟩) hdb).trans a0
        have a1 : w6.cell? ⟨db, do_ + 3 + 1, none⟩ = some (.int .i64 q) := by
          obtain ⟨b', o', e', _, hc'⟩ := hD.at_ (k := 1) rfl
          injection e' with e'; injection e' with e1 e2; subst e1 e2
          exact hc' 1 _ rfl
        have a1' := (hba.cell (p := ⟨db, do_ + 3 + 1, none⟩) hdb).trans a1
        have b1 := (hbm.cell (p := ⟨db, do_ + 3 + 1, none⟩) hdb).trans a1
        have k6 := K2.out.below hb26
        have K6 := Lib.hid k6
        have Hdb := Lib.hid hdb
        clear k6 hdb hD ht htkn hba hb26 hb6
        go_wp2
        go_cut [10] from 47 to 57 (fun s10 wx => s10 = .pointer (some ⟨w6.heap.size, 0, none⟩) ∧ wx = (w6.alloc (.cells #[.int .i64 2, .int .i64 p, .int .i64 q, .string ⟨#[]⟩, .int .i64 0] 43)).drew)
        case first =>
          go_region
          all_goals go_wp2
          all_goals go_meet
          all_goals exact ⟨rfl, rfl⟩
        obtain ⟨rfl, rfl⟩ := hcut
        have hN : Holds (w6.alloc (.cells #[.int .i64 2, .int .i64 p, .int .i64 q, .string ⟨#[]⟩, .int .i64 0] 43)).drew w6.heap.size [.int .i64 2, .int .i64 p, .int .i64 q, .string ⟨#[]⟩, .int .i64 0] := (Holds.new w6 #[.int .i64 2, .int .i64 p, .int .i64 q, .string ⟨#[]⟩, .int .i64 0] 43).drew
        have k7 := K6.out.below hbm
        have hb7 := HB6.out.trans (hbm.mono HB6.out.size)
        have hlt : w.heap.size < w6.heap.size := K6.out.1
        clear hbm a0 a0' a1 a1'
        generalize (w6.alloc (.cells #[.int .i64 2, .int .i64 p, .int .i64 q, .string ⟨#[]⟩, .int .i64 0] 43)).drew = w7 at *
        have g0 := hN.at_ 0 rfl
        have fg0 := hN.2.2 0
        have g1 := hN.at_ 1 rfl
        have fg1 := hN.2.2 1
        have g2 := hN.at_ 2 rfl
        have fg2 := hN.2.2 2
        have g3 := hN.at_ 3 rfl
        have fg3 := hN.2.2 3
        have g4 := hN.at_ 4 rfl
        have fg4 := hN.2.2 4
        have c0 := k7.at_ 0 rfl
        have fc0 := k7.2.2 0
        have c1 := k7.at_ 1 rfl
        have fc1 := k7.2.2 1
        have c2 := k7.at_ 2 rfl
        have fc2 := k7.2.2 2
        have c3 := k7.at_ 3 rfl
        have fc3 := k7.2.2 3
        have c4 := k7.at_ 4 rfl
        have fc4 := k7.2.2 4
        have Fin := Lib.hid (show Holds (((((w7.setCell ⟨w.heap.size, 0, none⟩ (.int .i64 2)).setCell ⟨w.heap.size, 1, none⟩ (.int .i64 p)).setCell ⟨w.heap.size, 2, none⟩ (.int .i64 q)).setCell ⟨w.heap.size, 3, none⟩ (.string ⟨#[]⟩)).setCell ⟨w.heap.size, 4, none⟩ (.int .i64 0)) w.heap.size [.int .i64 2, .int .i64 p, .int .i64 q, .string ⟨#[]⟩, .int .i64 0] from (((((k7.set 0 (.int .i64 2) (by simp)).set 1 (.int .i64 p) (by simp)).set 2 (.int .i64 q) (by simp)).set 3 (.string ⟨#[]⟩) (by simp)).set 4 (.int .i64 0) (by simp)))
        have Fb := Lib.hid (show Below w.heap.size w (((((w7.setCell ⟨w.heap.size, 0, none⟩ (.int .i64 2)).setCell ⟨w.heap.size, 1, none⟩ (.int .i64 p)).setCell ⟨w.heap.size, 2, none⟩ (.int .i64 q)).setCell ⟨w.heap.size, 3, none⟩ (.string ⟨#[]⟩)).setCell ⟨w.heap.size, 4, none⟩ (.int .i64 0)) from below_set (below_set (below_set (below_set (below_set (hb7) _ _ (Nat.le_refl _)) _ _ (Nat.le_refl _)) _ _ (Nat.le_refl _)) _ _ (Nat.le_refl _)) _ _ (Nat.le_refl _))
        go_wp2
        have i0 := Fin.out
        have d0 := i0.at_ 0 rfl
        have d1 := i0.at_ 1 rfl
        have d2 := i0.at_ 2 rfl
        have d3 := i0.at_ 3 rfl
        have d4 := i0.at_ 4 rfl
        refine ⟨rfl, .tuple #[.agg #[.int .i64 2, .int .i64 p, .int .i64 q, .string ⟨#[]⟩, .int .i64 0], .int .i64 0], ?_, ?_⟩
        · simp [results, Try.results22, go_sem, d0, d1, d2, d3, d4]
        · rw [E0.out]
          exact ⟨rfl, Fb.out⟩
      · rintro e w6 ⟨D, dc, t, rfl, ht, hD, hdc, hb6⟩
        have ht1 : t = false := by
          cases t with
          | false => rfl
          | true => exact absurd (ht.1 rfl) (by simp)
        subst ht1
        have hb26 := HB5.out.trans (hb6.mono hsz5)
        have HB6 := Lib.hid (HB2.out.trans (hb26.mono hsz2))
        have E0 := Lib.hid (show Wr.msgRead l = none by rw [hrd.out, Wr.all_cases, htkn]; rfl)
        have kz := K2.out.below hb26
        have c0 := kz.at_ 0 rfl
        have fc0 := kz.2.2 0
        have c1 := kz.at_ 1 rfl
        have fc1 := kz.2.2 1
        have c2 := kz.at_ 2 rfl
        have fc2 := kz.2.2 2
        have c3 := kz.at_ 3 rfl
        have fc3 := kz.2.2 3
        have c4 := kz.at_ 4 rfl
        have fc4 := kz.2.2 4
        have Fin := Lib.hid (show Holds (((((w6.setCell ⟨w.heap.size, 0, none⟩ (.int .i64 0)).setCell ⟨w.heap.size, 1, none⟩ (.int .i64 0)).setCell ⟨w.heap.size, 2, none⟩ (.int .i64 0)).setCell ⟨w.heap.size, 3, none⟩ (.string ⟨#[]⟩)).setCell ⟨w.heap.size, 4, none⟩ (.int .i64 0)) w.heap.size [.int .i64 0, .int .i64 0, .int .i64 0, .string ⟨#[]⟩, .int .i64 0] from (((((kz.set 0 (.int .i64 0) (by simp)).set 1 (.int .i64 0) (by simp)).set 2 (.int .i64 0) (by simp)).set 3 (.string ⟨#[]⟩) (by simp)).set 4 (.int .i64 0) (by simp)))
        have Fb := Lib.hid (show Below w.heap.size w (((((w6.setCell ⟨w.heap.size, 0, none⟩ (.int .i64 0)).setCell ⟨w.heap.size, 1, none⟩ (.int .i64 0)).setCell ⟨w.heap.size, 2, none⟩ (.int .i64 0)).setCell ⟨w.heap.size, 3, none⟩ (.string ⟨#[]⟩)).setCell ⟨w.heap.size, 4, none⟩ (.int .i64 0)) from below_set (below_set (below_set (below_set (below_set (HB6.out) _ _ (Nat.le_refl _)) _ _ (Nat.le_refl _)) _ _ (Nat.le_refl _)) _ _ (Nat.le_refl _)) _ _ (Nat.le_refl _))
        clear kz
        go_wp2
        have i0 := Fin.out
        have d0 := i0.at_ 0 rfl
        have d1 := i0.at_ 1 rfl
        have d2 := i0.at_ 2 rfl
        have d3 := i0.at_ 3 rfl
        have d4 := i0.at_ 4 rfl
        refine ⟨rfl, .tuple #[.agg #[.int .i64 0, .int .i64 0, .int .i64 0, .string ⟨#[]⟩, .int .i64 0], .int .i64 220], ?_, ?_⟩
        · simp [results, Try.results22, go_sem, d0, d1, d2, d3, d4]
        · rw [E0.out]
          exact ⟨rfl, Fb.out⟩
    · by_cases hk1 : k = 1
      · subst hk1
        clear hk2
        have hrd := Lib.hid (Wr.read_msg_one Ht.out)
        have hb3 : Below w2.heap.size w2 (w2.alloc (.cells #[Value.bool false, .int .i64 0, .string ⟨#[]⟩, .bool false, .int .i64 0, .string ⟨#[]⟩] 76)) := (Below.refl _ _).alloc (Nat.le_refl _) _
        have HB3 := Lib.hid hb3
        clear hb3
        go_wp2_with fail
        generalize w2.alloc (.cells #[Value.bool false, .int .i64 0, .string ⟨#[]⟩, .bool false, .int .i64 0, .string ⟨#[]⟩] 76) = w3 at *
        refine (ftext_any _ _).mono ?_
        rintro e w4 ⟨rfl, hb4⟩
        have HBl := Lib.hid (HB3.out.trans (hb4.mono HB3.out.size))
        clear hb4
        have hlk : RdF (w4.alloc (.cells #[Value.bool false, .int .i64 0, .string ⟨#[]⟩, .bool false, .int .i64 0, .string ⟨#[]⟩, .bool true, .int .i64 0, .string ⟨#[]⟩, .bool false, .int .i64 0, .string ⟨#[]⟩] 76)) (some ⟨w4.heap.size, 0, none⟩) 4 [.int .i64 0, .int .i64 0, .string ⟨#[]⟩, .int .i64 0] := rdf_new w4 76 [.int .i64 0, .int .i64 0, .string ⟨#[]⟩, .int .i64 0] 4 rfl
        have hb5 : Below w2.heap.size w2 (w4.alloc (.cells #[Value.bool false, .int .i64 0, .string ⟨#[]⟩, .bool false, .int .i64 0, .string ⟨#[]⟩, .bool true, .int .i64 0, .string ⟨#[]⟩, .bool false, .int .i64 0, .string ⟨#[]⟩] 76)) := HBl.out.alloc HBl.out.size _
        have htk := Lib.hid (taken_any A2 r.length c2 r (some ⟨w4.heap.size, 0, none⟩) 4 4 [.int .i64 0, .int .i64 0, .string ⟨#[]⟩, .int .i64 0] _ (HO2.out.rd.below hb5) hc2 (by omega) hlk (by omega))
        have HB5 := Lib.hid hb5
        clear hlk hb5
        go_wp2_with fail
        generalize w4.alloc (.cells #[Value.bool false, .int .i64 0, .string ⟨#[]⟩, .bool false, .int .i64 0, .string ⟨#[]⟩, .bool true, .int .i64 0, .string ⟨#[]⟩, .bool false, .int .i64 0, .string ⟨#[]⟩] 76) = w5 at *
        have hkinds : [Value.int .i64 0, .int .i64 0, .string ⟨#[]⟩, .int .i64 0].map Wr.kindOf = [false, false, true, false] := rfl
        rw [hkinds] at htk
        have hsz5 : w2.heap.size ≤ w5.heap.size := HB5.out.size
        have hsz2 : w.heap.size ≤ w2.heap.size := HB2.out.size
        refine htk.out.mono ?_
        rcases htkn : Wr.taken [false, false, true, false] r with _ | ⟨us, _ | ⟨y, r2⟩⟩
        · rintro e w6 ⟨rfl, hb6⟩
          have hb26 := HB5.out.trans (hb6.mono hsz5)
          have HB6 := Lib.hid (HB2.out.trans (hb26.mono hsz2))
          have E0 := Lib.hid (show Wr.msgRead l = none by rw [hrd.out, Wr.all_cases, htkn]; rfl)
          have kz := K2.out.below hb26
          have c0 := kz.at_ 0 rfl
          have fc0 := kz.2.2 0
          have c1 := kz.at_ 1 rfl
          have fc1 := kz.2.2 1
          have c2 := kz.at_ 2 rfl
          have fc2 := kz.2.2 2
          have c3 := kz.at_ 3 rfl
          have fc3 := kz.2.2 3
          have c4 := kz.at_ 4 rfl
          have fc4 := kz.2.2 4
          have Fin := Lib.hid (show Holds (((((w6.setCell ⟨w.heap.size, 0, none⟩ (.int .i64 0)).setCell ⟨w.heap.size, 1, none⟩ (.int .i64 0)).setCell ⟨w.heap.size, 2, none⟩ (.int .i64 0)).setCell ⟨w.heap.size, 3, none⟩ (.string ⟨#[]⟩)).setCell ⟨w.heap.size, 4, none⟩ (.int .i64 0)) w.heap.size [.int .i64 0, .int .i64 0, .int .i64 0, .string ⟨#[]⟩, .int .i64 0] from (((((kz.set 0 (.int .i64 0) (by simp)).set 1 (.int .i64 0) (by simp)).set 2 (.int .i64 0) (by simp)).set 3 (.string ⟨#[]⟩) (by simp)).set 4 (.int .i64 0) (by simp)))
          have Fb := Lib.hid (show Below w.heap.size w (((((w6.setCell ⟨w.heap.size, 0, none⟩ (.int .i64 0)).setCell ⟨w.heap.size, 1, none⟩ (.int .i64 0)).setCell ⟨w.heap.size, 2, none⟩ (.int .i64 0)).setCell ⟨w.heap.size, 3, none⟩ (.string ⟨#[]⟩)).setCell ⟨w.heap.size, 4, none⟩ (.int .i64 0)) from below_set (below_set (below_set (below_set (below_set (HB6.out) _ _ (Nat.le_refl _)) _ _ (Nat.le_refl _)) _ _ (Nat.le_refl _)) _ _ (Nat.le_refl _)) _ _ (Nat.le_refl _))
          clear kz
          go_wp2
          have i0 := Fin.out
          have d0 := i0.at_ 0 rfl
          have d1 := i0.at_ 1 rfl
          have d2 := i0.at_ 2 rfl
          have d3 := i0.at_ 3 rfl
          have d4 := i0.at_ 4 rfl
          refine ⟨rfl, .tuple #[.agg #[.int .i64 0, .int .i64 0, .int .i64 0, .string ⟨#[]⟩, .int .i64 0], .int .i64 220], ?_, ?_⟩
          · simp [results, Try.results22, go_sem, d0, d1, d2, d3, d4]
          · rw [E0.out]
            exact ⟨rfl, Fb.out⟩
        · rintro e w6 ⟨D, dc, t, rfl, ht, hD, hdc, hb6⟩
          have ht1 : t = true := ht.2 rfl
          subst ht1
          have hb26 := HB5.out.trans (hb6.mono hsz5)
          have HB6 := Lib.hid (HB2.out.trans (hb26.mono hsz2))
          obtain ⟨p, q, s, n2, rfl⟩ := Wr.four_of htkn hr256
          have E0 := Lib.hid (show Wr.msgRead l = some ⟨1, p, q, s, n2⟩ by rw [hrd.out, Wr.all_cases, htkn]; rfl)
          obtain ⟨db, do_, rfl, hdb, _⟩ := hD.at_ (k := 0) rfl
          have hba : Below w6.heap.size w6 (w6.alloc (.cells #[.int .i64 0, .int .i64 0, .int .i64 0, .string ⟨#[]⟩, .int .i64 0] 43)) := (Below.refl _ _).alloc (Nat.le_refl _) _
          have hbm : Below w6.heap.size w6 (w6.alloc (.cells #[.int .i64 1, .int .i64 p, .int .i64 q, .string ⟨#[]⟩, .int .i64 0] 43)).drew := ((Below.refl _ _).alloc (Nat.le_refl _) _).drew
          have a0 : w6.cell? ⟨db, do_ + 1, none⟩ = some (.int .i64 p) := by
            obtain ⟨b', o', e', _, hc'⟩ := hD.at_ (k := 0) rfl
            injection e' with e'; injection e' with e1 e2; subst e1 e2
            exact hc' 1 _ rfl
          have a0' := (hba.cell (p := ⟨db, do_ + 1, none⟩) hdb).trans a0
          have b0 := (hbm.cell (p := ⟨db, do_ + 1, none⟩) hdb).trans a0
          have a1 : w6.cell? ⟨db, do_ + 3 + 1, none⟩ = some (.int .i64 q) := by
            obtain ⟨b', o', e', _, hc'⟩ := hD.at_ (k := 1) rfl
            injection e' with e'; injection e' with e1 e2; subst e1 e2
            exact hc' 1 _ rfl
          have a1' := (hba.cell (p := ⟨db, do_ + 3 + 1, none⟩) hdb).trans a1
          have b1 := (hbm.cell (p := ⟨db, do_ + 3 + 1, none⟩) hdb).trans a1
          have a2 : w6.cell? ⟨db, do_ + 6 + 2, none⟩ = some (.string s) := by
            obtain ⟨b', o', e', _, hc'⟩ := hD.at_ (k := 2) rfl
            injection e' with e'; injection e' with e1 e2; subst e1 e2
            exact hc' 2 _ rfl
          have a2' := (hba.cell (p := ⟨db, do_ + 6 + 2, none⟩) hdb).trans a2
          have b2 := (hbm.cell (p := ⟨db, do_ + 6 + 2, none⟩) hdb).trans a2
          have a3 : w6.cell? ⟨db, do_ + 9 + 1, none⟩ = some (.int .i64 n2) := by
            obtain ⟨b', o', e', _, hc'⟩ := hD.at_ (k := 3) rfl
            injection e' with e'; injection e' with e1 e2; subst e1 e2
            exact hc' 1 _ rfl
          have a3' := (hba.cell (p := ⟨db, do_ + 9 + 1, none⟩) hdb).trans a3
          have b3 := (hbm.cell (p := ⟨db, do_ + 9 + 1, none⟩) hdb).trans a3
          have k6 := K2.out.below hb26
          have K6 := Lib.hid k6
          have Hdb := Lib.hid hdb
          clear k6 hdb hD ht htkn hba hb26 hb6
          go_wp2
          go_cut [10] from 47 to 57 (fun s10 wx => s10 = .pointer (some ⟨w6.heap.size, 0, none⟩) ∧ wx = (w6.alloc (.cells #[.int .i64 1, .int .i64 p, .int .i64 q, .string ⟨#[]⟩, .int .i64 0] 43)).drew)
          case first =>
            go_region
            all_goals go_wp2
            all_goals go_meet
            all_goals exact ⟨rfl, rfl⟩
          obtain ⟨rfl, rfl⟩ := hcut
          have hN : Holds (w6.alloc (.cells #[.int .i64 1, .int .i64 p, .int .i64 q, .string ⟨#[]⟩, .int .i64 0] 43)).drew w6.heap.size [.int .i64 1, .int .i64 p, .int .i64 q, .string ⟨#[]⟩, .int .i64 0] := (Holds.new w6 #[.int .i64 1, .int .i64 p, .int .i64 q, .string ⟨#[]⟩, .int .i64 0] 43).drew
          have k7 := K6.out.below hbm
          have hb7 := HB6.out.trans (hbm.mono HB6.out.size)
          have hlt : w.heap.size < w6.heap.size := K6.out.1
          clear hbm a0 a0' a1 a1' a2 a2' a3 a3'
          generalize (w6.alloc (.cells #[.int .i64 1, .int .i64 p, .int .i64 q, .string ⟨#[]⟩, .int .i64 0] 43)).drew = w7 at *
          have gN := (hN.set 3 (.string s) (by simp)).set 4 (.int .i64 n2) (by simp)
          have k8 := (k7.other (b := w6.heap.size) (i := 3) (v := .string s) (by omega)).other (b := w6.heap.size) (i := 4) (v := .int .i64 n2) (by omega)
          have hb8 := below_set (below_set hb7 ⟨w6.heap.size, 3, none⟩ (.string s) (Nat.le_of_lt hlt)) ⟨w6.heap.size, 4, none⟩ (.int .i64 n2) (Nat.le_of_lt hlt)
          have q3 : (w7.setCell ⟨w6.heap.size, 3, none⟩ (.string s)).cell? ⟨db, do_ + 9 + 1, none⟩ = some (.int .i64 n2) := by
            refine (World.cell?_setCell_other _ _ _ _ ?_).trans b3
            intro e
            injection e with e1 e2
            have := Hdb.out
            omega
          have q4 := (hN.set 3 (.string s) (by simp)).at_ 4 rfl
          have g0 := hN.at_ 0 rfl
          have fg0 := hN.2.2 0
          have g1 := hN.at_ 1 rfl
          have fg1 := hN.2.2 1
          have g2 := hN.at_ 2 rfl
          have fg2 := hN.2.2 2
          have g3 := hN.at_ 3 rfl
          have fg3 := hN.2.2 3
          have g4 := hN.at_ 4 rfl
          have fg4 := hN.2.2 4
          have h0 := gN.at_ 0 rfl
          have h1 := gN.at_ 1 rfl
          have h2 := gN.at_ 2 rfl
          have h3 := gN.at_ 3 rfl
          have h4 := gN.at_ 4 rfl
          have c0 := k8.at_ 0 rfl
          have fc0 := k8.2.2 0
          have c1 := k8.at_ 1 rfl
          have fc1 := k8.2.2 1
          have c2 := k8.at_ 2 rfl
          have fc2 := k8.2.2 2
          have c3 := k8.at_ 3 rfl
          have fc3 := k8.2.2 3
          have c4 := k8.at_ 4 rfl
          have fc4 := k8.2.2 4
          have Fin := Lib.hid (show Holds (((((((w7.setCell ⟨w6.heap.size, 3, none⟩ (.string s)).setCell ⟨w6.heap.size, 4, none⟩ (.int .i64 n2)).setCell ⟨w.heap.size, 0, none⟩ (.int .i64 1)).setCell ⟨w.heap.size, 1, none⟩ (.int .i64 p)).setCell ⟨w.heap.size, 2, none⟩ (.int .i64 q)).setCell ⟨w.heap.size, 3, none⟩ (.string s)).setCell ⟨w.heap.size, 4, none⟩ (.int .i64 n2)) w.heap.size [.int .i64 1, .int .i64 p, .int .i64 q, .string s, .int .i64 n2] from (((((k8.set 0 (.int .i64 1) (by simp)).set 1 (.int .i64 p) (by simp)).set 2 (.int .i64 q) (by simp)).set 3 (.string s) (by simp)).set 4 (.int .i64 n2) (by simp)))
          have Fb := Lib.hid (show Below w.heap.size w (((((((w7.setCell ⟨w6.heap.size, 3, none⟩ (.string s)).setCell ⟨w6.heap.size, 4, none⟩ (.int .i64 n2)).setCell ⟨w.heap.size, 0, none⟩ (.int .i64 1)).setCell ⟨w.heap.size, 1, none⟩ (.int .i64 p)).setCell ⟨w.heap.size, 2, none⟩ (.int .i64 q)).setCell ⟨w.heap.size, 3, none⟩ (.string s)).setCell ⟨w.heap.size, 4, none⟩ (.int .i64 n2)) from below_set (below_set (below_set (below_set (below_set (hb8) _ _ (Nat.le_refl _)) _ _ (Nat.le_refl _)) _ _ (Nat.le_refl _)) _ _ (Nat.le_refl _)) _ _ (Nat.le_refl _))
          go_wp2
          have i0 := Fin.out
          have d0 := i0.at_ 0 rfl
          have d1 := i0.at_ 1 rfl
          have d2 := i0.at_ 2 rfl
          have d3 := i0.at_ 3 rfl
          have d4 := i0.at_ 4 rfl
          refine ⟨rfl, .tuple #[.agg #[.int .i64 1, .int .i64 p, .int .i64 q, .string s, .int .i64 n2], .int .i64 0], ?_, ?_⟩
          · simp [results, Try.results22, go_sem, d0, d1, d2, d3, d4]
          · rw [E0.out]
            exact ⟨rfl, Fb.out⟩
        · rintro e w6 ⟨D, dc, t, rfl, ht, hD, hdc, hb6⟩
          have ht1 : t = false := by
            cases t with
            | false => rfl
            | true => exact absurd (ht.1 rfl) (by simp)
          subst ht1
          have hb26 := HB5.out.trans (hb6.mono hsz5)
          have HB6 := Lib.hid (HB2.out.trans (hb26.mono hsz2))
          have E0 := Lib.hid (show Wr.msgRead l = none by rw [hrd.out, Wr.all_cases, htkn]; rfl)
          have kz := K2.out.below hb26
          have c0 := kz.at_ 0 rfl
          have fc0 := kz.2.2 0
          have c1 := kz.at_ 1 rfl
          have fc1 := kz.2.2 1
          have c2 := kz.at_ 2 rfl
          have fc2 := kz.2.2 2
          have c3 := kz.at_ 3 rfl
          have fc3 := kz.2.2 3
          have c4 := kz.at_ 4 rfl
          have fc4 := kz.2.2 4
          have Fin := Lib.hid (show Holds (((((w6.setCell ⟨w.heap.size, 0, none⟩ (.int .i64 0)).setCell ⟨w.heap.size, 1, none⟩ (.int .i64 0)).setCell ⟨w.heap.size, 2, none⟩ (.int .i64 0)).setCell ⟨w.heap.size, 3, none⟩ (.string ⟨#[]⟩)).setCell ⟨w.heap.size, 4, none⟩ (.int .i64 0)) w.heap.size [.int .i64 0, .int .i64 0, .int .i64 0, .string ⟨#[]⟩, .int .i64 0] from (((((kz.set 0 (.int .i64 0) (by simp)).set 1 (.int .i64 0) (by simp)).set 2 (.int .i64 0) (by simp)).set 3 (.string ⟨#[]⟩) (by simp)).set 4 (.int .i64 0) (by simp)))
          have Fb := Lib.hid (show Below w.heap.size w (((((w6.setCell ⟨w.heap.size, 0, none⟩ (.int .i64 0)).setCell ⟨w.heap.size, 1, none⟩ (.int .i64 0)).setCell ⟨w.heap.size, 2, none⟩ (.int .i64 0)).setCell ⟨w.heap.size, 3, none⟩ (.string ⟨#[]⟩)).setCell ⟨w.heap.size, 4, none⟩ (.int .i64 0)) from below_set (below_set (below_set (below_set (below_set (HB6.out) _ _ (Nat.le_refl _)) _ _ (Nat.le_refl _)) _ _ (Nat.le_refl _)) _ _ (Nat.le_refl _)) _ _ (Nat.le_refl _))
          clear kz
          go_wp2
          have i0 := Fin.out
          have d0 := i0.at_ 0 rfl
          have d1 := i0.at_ 1 rfl
          have d2 := i0.at_ 2 rfl
          have d3 := i0.at_ 3 rfl
          have d4 := i0.at_ 4 rfl
          refine ⟨rfl, .tuple #[.agg #[.int .i64 0, .int .i64 0, .int .i64 0, .string ⟨#[]⟩, .int .i64 0], .int .i64 220], ?_, ?_⟩
          · simp [results, Try.results22, go_sem, d0, d1, d2, d3, d4]
          · rw [E0.out]
            exact ⟨rfl, Fb.out⟩
      · have n1 : ((k : Int) == 1) = false := by rw [beq_eq_false_iff_ne]; omega
        have n2 : ((k : Int) == 2) = false := by rw [beq_eq_false_iff_ne]; omega
        have n3 : ((k : Int) != 1) = true := by rw [bne_iff_ne]; omega
        have n4 : ((k : Int) != 2) = true := by rw [bne_iff_ne]; omega
        have E0 := Lib.hid (Wr.read_msg_other Ht.out hk1 hk2)
        have kz := K2.out
        have c0 := kz.at_ 0 rfl
        have fc0 := kz.2.2 0
        have c1 := kz.at_ 1 rfl
        have fc1 := kz.2.2 1
        have c2 := kz.at_ 2 rfl
        have fc2 := kz.2.2 2
        have c3 := kz.at_ 3 rfl
        have fc3 := kz.2.2 3
        have c4 := kz.at_ 4 rfl
        have fc4 := kz.2.2 4
        have Fin := Lib.hid (show Holds (((((w2.setCell ⟨w.heap.size, 0, none⟩ (.int .i64 0)).setCell ⟨w.heap.size, 1, none⟩ (.int .i64 0)).setCell ⟨w.heap.size, 2, none⟩ (.int .i64 0)).setCell ⟨w.heap.size, 3, none⟩ (.string ⟨#[]⟩)).setCell ⟨w.heap.size, 4, none⟩ (.int .i64 0)) w.heap.size [.int .i64 0, .int .i64 0, .int .i64 0, .string ⟨#[]⟩, .int .i64 0] from (((((kz.set 0 (.int .i64 0) (by simp)).set 1 (.int .i64 0) (by simp)).set 2 (.int .i64 0) (by simp)).set 3 (.string ⟨#[]⟩) (by simp)).set 4 (.int .i64 0) (by simp)))
        have Fb := Lib.hid (show Below w.heap.size w (((((w2.setCell ⟨w.heap.size, 0, none⟩ (.int .i64 0)).setCell ⟨w.heap.size, 1, none⟩ (.int .i64 0)).setCell ⟨w.heap.size, 2, none⟩ (.int .i64 0)).setCell ⟨w.heap.size, 3, none⟩ (.string ⟨#[]⟩)).setCell ⟨w.heap.size, 4, none⟩ (.int .i64 0)) from below_set (below_set (below_set (below_set (below_set (HB2.out) _ _ (Nat.le_refl _)) _ _ (Nat.le_refl _)) _ _ (Nat.le_refl _)) _ _ (Nat.le_refl _)) _ _ (Nat.le_refl _))
        clear kz
        go_wp2
        have i0 := Fin.out
        have d0 := i0.at_ 0 rfl
        have d1 := i0.at_ 1 rfl
        have d2 := i0.at_ 2 rfl
        have d3 := i0.at_ 3 rfl
        have d4 := i0.at_ 4 rfl
        refine ⟨rfl, .tuple #[.agg #[.int .i64 0, .int .i64 0, .int .i64 0, .string ⟨#[]⟩, .int .i64 0], .int .i64 220], ?_, ?_⟩
        · simp [results, Try.results22, go_sem, d0, d1, d2, d3, d4]
        · rw [E0.out]
          exact ⟨rfl, Fb.out⟩
end Go.Proofs.Ytonjjihbpeblkaa
