/- The document's request of any bytes. -/
import Derived.Test.YtonjjihbpeblkaaRfAskB
import Derived.Test.YtonjjihbpeblkaaRfRMsg
namespace Go.Proofs.Ytonjjihbpeblkaa
open Go.RowKit
namespace Wr
theorem read_ask_none {l : List Nat} (h : Cd.takeNum l = none) : askRead l = none := by unfold askRead num; rw [h]
theorem read_ask_no {l r : List Nat} {k : Nat} (h : Cd.takeNum l = some (k, r)) (h0 : asks (k : Int) = []) : askRead l = none := by
  unfold askRead num
  rw [h]
  show (match (if k < 9223372036854775808 then some (k, r) else none) with | none => none | some (k, r) => _) = _
  split
  · rfl
  · rename_i k2 r2 e
    split at e
    · injection e with e; injection e with e1 e2; subst e1 e2
      rw [h0]
      rfl
    · cases e
theorem read_ask_big {l r : List Nat} {k : Nat} (h : Cd.takeNum l = some (k, r)) (hk : 12 < k) : askRead l = none :=
  read_ask_no h ((asks_cases (k : Int)).resolve_right (by omega))
theorem read_ask_some {l r : List Nat} {k : Nat} (h : Cd.takeNum l = some (k, r)) (hk : k ≤ 12) : askRead l = (all ((asks (k : Int)).map Prod.snd) r).map fun vs => Rq.puts (asks k) vs (Rq.bare k) := by
  unfold askRead num
  rw [h]
  show (match (if k < 9223372036854775808 then some (k, r) else none) with | none => none | some (k, r) => _) = _
  rw [if_pos (by omega)]
theorem bare_kinds (k : Int) : (askVals (Rq.bare k)).map kindOf = (asks k).map Prod.snd := by
  unfold askVals
  rw [List.map_map]
  refine List.map_congr_left fun p hp => ?_
  have hall := List.all_eq_true.1 (asks_ok k).1 p hp
  simp at hall
  rcases hall with (((((rfl | rfl) | rfl) | rfl) | rfl) | rfl) <;> rfl
theorem all_form {ts : List Bool} (hn : ts ≠ []) {l : List Nat} : all ts l = match taken ts l with
    | some (vs, []) => some vs
    | _ => none := by
  cases ts with
  | nil => exact absurd rfl hn
  | cons t ts => exact all_cases
end Wr
set_option maxRecDepth 100000 in
set_option maxHeartbeats 16000000 in
theorem rread_any (A : Option Addr) (n c : Nat) (l : List Nat) (w : World) (hl : Rd w A n l) (hc : n ≤ c) (hn : n ≤ 1000000) :
    Calls Try.prog 13 #[.slice A n c] w (GivesRd w (Wr.Rq.bare 0).cells ((Wr.askRead l).map Wr.Rq.cells)) := by
  have hl256 := hl.2.1
  have hlen := hl.1
  have htn := Lib.hid (fun (wx : World) (h : Below w.heap.size w wx) => rtakenum_own A n c l wx (hl.below h) hc hn)
  have k0 := Holds.new w #[Value.int .i64 0, .string ⟨#[]⟩, .int .i64 0, .int .i64 0, .int .i64 0, .int .i64 0, .int .i64 0] 24
  have hb0 : Below w.heap.size w (w.alloc (.cells #[Value.int .i64 0, .string ⟨#[]⟩, .int .i64 0, .int .i64 0, .int .i64 0, .int .i64 0, .int .i64 0] 24)) := (Below.refl _ _).alloc (Nat.le_refl _) _
  have K0 := Lib.hid k0
  have HB0 := Lib.hid hb0
  clear k0 hb0 hl
  go_enter Try.func13, Try.ntmps13
  go_wp2_with fail
  generalize w.alloc (.cells #[Value.int .i64 0, .string ⟨#[]⟩, .int .i64 0, .int .i64 0, .int .i64 0, .int .i64 0, .int .i64 0] 24) = w1 at *
  refine (htn.out w1 HB0.out).mono ?_
  rcases ht : Cd.takeNum l with _ | ⟨k, r⟩
  · rintro e w2 ⟨rfl, hb2⟩
    have HB2 := Lib.hid (below_next HB0.out hb2)
    have E0 := Lib.hid (Wr.read_ask_none ht)
    have kz := K0.out.below hb2
    have c0 := kz.at_ 0 rfl
    have fc0 := kz.2.2 0
    have c1 := kz.at_ 1 rfl
    have fc1 := kz.2.2 1
    have c2 := kz.at_ 2 rfl
    have fc2 := kz.2.2 2
    have c3 := kz.at_ 3 rfl
    have fc3 := kz.2.2 3
    have c4 := kz.at_ 4 rfl
    have fc4 := kz.2.2 4
    have c5 := kz.at_ 5 rfl
    have fc5 := kz.2.2 5
    have c6 := kz.at_ 6 rfl
    have fc6 := kz.2.2 6
    have Fin := Lib.hid (show Holds (((((((w2.setCell ⟨w.heap.size, 0, none⟩ (.int .i64 0)).setCell ⟨w.heap.size, 1, none⟩ (.string ⟨#[]⟩)).setCell ⟨w.heap.size, 2, none⟩ (.int .i64 0)).setCell ⟨w.heap.size, 3, none⟩ (.int .i64 0)).setCell ⟨w.heap.size, 4, none⟩ (.int .i64 0)).setCell ⟨w.heap.size, 5, none⟩ (.int .i64 0)).setCell ⟨w.heap.size, 6, none⟩ (.int .i64 0)) w.heap.size [.int .i64 0, .string ⟨#[]⟩, .int .i64 0, .int .i64 0, .int .i64 0, .int .i64 0, .int .i64 0] from (((((((kz.set 0 (.int .i64 0) (by simp)).set 1 (.string ⟨#[]⟩) (by simp)).set 2 (.int .i64 0) (by simp)).set 3 (.int .i64 0) (by simp)).set 4 (.int .i64 0) (by simp)).set 5 (.int .i64 0) (by simp)).set 6 (.int .i64 0) (by simp)))
    have Fb := Lib.hid (show Below w.heap.size w (((((((w2.setCell ⟨w.heap.size, 0, none⟩ (.int .i64 0)).setCell ⟨w.heap.size, 1, none⟩ (.string ⟨#[]⟩)).setCell ⟨w.heap.size, 2, none⟩ (.int .i64 0)).setCell ⟨w.heap.size, 3, none⟩ (.int .i64 0)).setCell ⟨w.heap.size, 4, none⟩ (.int .i64 0)).setCell ⟨w.heap.size, 5, none⟩ (.int .i64 0)).setCell ⟨w.heap.size, 6, none⟩ (.int .i64 0)) from below_set (below_set (below_set (below_set (below_set (below_set (below_set (HB2.out) _ _ (Nat.le_refl _)) _ _ (Nat.le_refl _)) _ _ (Nat.le_refl _)) _ _ (Nat.le_refl _)) _ _ (Nat.le_refl _)) _ _ (Nat.le_refl _)) _ _ (Nat.le_refl _))
    clear kz
    go_wp2
    have i0 := Fin.out
    have d0 := i0.at_ 0 rfl
    have d1 := i0.at_ 1 rfl
    have d2 := i0.at_ 2 rfl
    have d3 := i0.at_ 3 rfl
    have d4 := i0.at_ 4 rfl
    have d5 := i0.at_ 5 rfl
    have d6 := i0.at_ 6 rfl
    refine ⟨rfl, .tuple #[.agg #[.int .i64 0, .string ⟨#[]⟩, .int .i64 0, .int .i64 0, .int .i64 0, .int .i64 0, .int .i64 0], .int .i64 220], ?_, ?_⟩
    · simp [results, Try.results13, go_sem, d0, d1, d2, d3, d4, d5, d6]
    · rw [E0.out]
      exact ⟨rfl, Fb.out⟩
  · rintro e w2 ⟨A2, c2, rfl, ho2, hb2⟩
    have HB2 := Lib.hid (below_next HB0.out hb2)
    have K2 := Lib.hid (K0.out.below hb2)
    have hrl : r.length ≤ n := by have := (takeNum_bound ht).2.1; omega
    have hr256 : ∀ x ∈ r, x < 256 := fun x hx => hl256 x ((takeNum_bound ht).2.2 x hx)
    have HO2 := Lib.hid ho2
    have hc2 := ho2.cap
    have Ht := Lib.hid ht
    clear hb2 ho2 ht
    by_cases hbig : 12 < k
    · have hbi : (12 : Int) < (k : Int) := by omega
      have E0 := Lib.hid (Wr.read_ask_big Ht.out hbig)
      have kz := K2.out
      have c0 := kz.at_ 0 rfl
      have fc0 := kz.2.2 0
      have c1 := kz.at_ 1 rfl
      have fc1 := kz.2.2 1
      have c2 := kz.at_ 2 rfl
      have fc2 := kz.2.2 2
      have c3 := kz.at_ 3 rfl
      have fc3 := kz.2.2 3
      have c4 := kz.at_ 4 rfl
      have fc4 := kz.2.2 4
      have c5 := kz.at_ 5 rfl
      have fc5 := kz.2.2 5
      have c6 := kz.at_ 6 rfl
      have fc6 := kz.2.2 6
      have Fin := Lib.hid (show Holds (((((((w2.setCell ⟨w.heap.size, 0, none⟩ (.int .i64 0)).setCell ⟨w.heap.size, 1, none⟩ (.string ⟨#[]⟩)).setCell ⟨w.heap.size, 2, none⟩ (.int .i64 0)).setCell ⟨w.heap.size, 3, none⟩ (.int .i64 0)).setCell ⟨w.heap.size, 4, none⟩ (.int .i64 0)).setCell ⟨w.heap.size, 5, none⟩ (.int .i64 0)).setCell ⟨w.heap.size, 6, none⟩ (.int .i64 0)) w.heap.size [.int .i64 0, .string ⟨#[]⟩, .int .i64 0, .int .i64 0, .int .i64 0, .int .i64 0, .int .i64 0] from (((((((kz.set 0 (.int .i64 0) (by simp)).set 1 (.string ⟨#[]⟩) (by simp)).set 2 (.int .i64 0) (by simp)).set 3 (.int .i64 0) (by simp)).set 4 (.int .i64 0) (by simp)).set 5 (.int .i64 0) (by simp)).set 6 (.int .i64 0) (by simp)))
      have Fb := Lib.hid (show Below w.heap.size w (((((((w2.setCell ⟨w.heap.size, 0, none⟩ (.int .i64 0)).setCell ⟨w.heap.size, 1, none⟩ (.string ⟨#[]⟩)).setCell ⟨w.heap.size, 2, none⟩ (.int .i64 0)).setCell ⟨w.heap.size, 3, none⟩ (.int .i64 0)).setCell ⟨w.heap.size, 4, none⟩ (.int .i64 0)).setCell ⟨w.heap.size, 5, none⟩ (.int .i64 0)).setCell ⟨w.heap.size, 6, none⟩ (.int .i64 0)) from below_set (below_set (below_set (below_set (below_set (below_set (below_set (HB2.out) _ _ (Nat.le_refl _)) _ _ (Nat.le_refl _)) _ _ (Nat.le_refl _)) _ _ (Nat.le_refl _)) _ _ (Nat.le_refl _)) _ _ (Nat.le_refl _)) _ _ (Nat.le_refl _))
      clear kz
      go_wp2
      have i0 := Fin.out
      have d0 := i0.at_ 0 rfl
      have d1 := i0.at_ 1 rfl
      have d2 := i0.at_ 2 rfl
      have d3 := i0.at_ 3 rfl
      have d4 := i0.at_ 4 rfl
      have d5 := i0.at_ 5 rfl
      have d6 := i0.at_ 6 rfl
      refine ⟨rfl, .tuple #[.agg #[.int .i64 0, .string ⟨#[]⟩, .int .i64 0, .int .i64 0, .int .i64 0, .int .i64 0, .int .i64 0], .int .i64 220], ?_, ?_⟩
      · simp [results, Try.results13, go_sem, d0, d1, d2, d3, d4, d5, d6]
      · rw [E0.out]
        exact ⟨rfl, Fb.out⟩
    · have hbi : ¬ (12 : Int) < (k : Int) := by omega
      have hwk := wrap_i64_nat k (by omega)
      have hrd := Lib.hid (Wr.read_ask_some Ht.out (by omega))
      by_cases h0 : Wr.asks (k : Int) = []
      · have hf := Lib.hid (fun wx => fields_none (Wr.Rq.bare (k : Int)) h0 wx)
        have Hno := Lib.hid (Wr.read_ask_no Ht.out h0)
        clear h0 hbig
        go_wp2_with fail
        refine (hf.out w2).mono ?_
        rintro e w3 ⟨rfl, hb3⟩
        have HB3 := Lib.hid (below_next HB2.out hb3)
        have K3 := Lib.hid (K2.out.below hb3)
        have htk := Lib.hid (taken_any A2 r.length c2 r none 0 0 [] w3 (HO2.out.rd.below hb3) hc2 (by omega) ⟨rfl, RdC.nil 3 w3 none⟩ (by omega))
        clear hb3
        go_wp2_with fail
        refine htk.out.mono ?_
        rintro e w4 ⟨D, dc, t, rfl, ht, hD, hdc, hb4⟩
        have HB4 := Lib.hid (below_next HB3.out hb4)
        have K4 := Lib.hid (K3.out.below hb4)
        clear ht hD hdc hb4
        have E0 := Lib.hid (Hno.out)
        have kz := K4.out
        have c0 := kz.at_ 0 rfl
        have fc0 := kz.2.2 0
        have c1 := kz.at_ 1 rfl
        have fc1 := kz.2.2 1
        have c2 := kz.at_ 2 rfl
        have fc2 := kz.2.2 2
        have c3 := kz.at_ 3 rfl
        have fc3 := kz.2.2 3
        have c4 := kz.at_ 4 rfl
        have fc4 := kz.2.2 4
        have c5 := kz.at_ 5 rfl
        have fc5 := kz.2.2 5
        have c6 := kz.at_ 6 rfl
        have fc6 := kz.2.2 6
        have Fin := Lib.hid (show Holds (((((((w4.setCell ⟨w.heap.size, 0, none⟩ (.int .i64 0)).setCell ⟨w.heap.size, 1, none⟩ (.string ⟨#[]⟩)).setCell ⟨w.heap.size, 2, none⟩ (.int .i64 0)).setCell ⟨w.heap.size, 3, none⟩ (.int .i64 0)).setCell ⟨w.heap.size, 4, none⟩ (.int .i64 0)).setCell ⟨w.heap.size, 5, none⟩ (.int .i64 0)).setCell ⟨w.heap.size, 6, none⟩ (.int .i64 0)) w.heap.size [.int .i64 0, .string ⟨#[]⟩, .int .i64 0, .int .i64 0, .int .i64 0, .int .i64 0, .int .i64 0] from (((((((kz.set 0 (.int .i64 0) (by simp)).set 1 (.string ⟨#[]⟩) (by simp)).set 2 (.int .i64 0) (by simp)).set 3 (.int .i64 0) (by simp)).set 4 (.int .i64 0) (by simp)).set 5 (.int .i64 0) (by simp)).set 6 (.int .i64 0) (by simp)))
        have Fb := Lib.hid (show Below w.heap.size w (((((((w4.setCell ⟨w.heap.size, 0, none⟩ (.int .i64 0)).setCell ⟨w.heap.size, 1, none⟩ (.string ⟨#[]⟩)).setCell ⟨w.heap.size, 2, none⟩ (.int .i64 0)).setCell ⟨w.heap.size, 3, none⟩ (.int .i64 0)).setCell ⟨w.heap.size, 4, none⟩ (.int .i64 0)).setCell ⟨w.heap.size, 5, none⟩ (.int .i64 0)).setCell ⟨w.heap.size, 6, none⟩ (.int .i64 0)) from below_set (below_set (below_set (below_set (below_set (below_set (below_set (HB4.out) _ _ (Nat.le_refl _)) _ _ (Nat.le_refl _)) _ _ (Nat.le_refl _)) _ _ (Nat.le_refl _)) _ _ (Nat.le_refl _)) _ _ (Nat.le_refl _)) _ _ (Nat.le_refl _))
        clear kz
        go_wp2
        have i0 := Fin.out
        have d0 := i0.at_ 0 rfl
        have d1 := i0.at_ 1 rfl
        have d2 := i0.at_ 2 rfl
        have d3 := i0.at_ 3 rfl
        have d4 := i0.at_ 4 rfl
        have d5 := i0.at_ 5 rfl
        have d6 := i0.at_ 6 rfl
        refine ⟨rfl, .tuple #[.agg #[.int .i64 0, .string ⟨#[]⟩, .int .i64 0, .int .i64 0, .int .i64 0, .int .i64 0, .int .i64 0], .int .i64 220], ?_, ?_⟩
        · simp [results, Try.results13, go_sem, d0, d1, d2, d3, d4, d5, d6]
        · rw [E0.out]
          exact ⟨rfl, Fb.out⟩
      · have hf := Lib.hid (fun wx => fields_any (Wr.Rq.bare (k : Int)) h0 wx)
        have hlv : (Wr.askVals (Wr.Rq.bare (k : Int))).length = (Wr.asks (k : Int)).length := by unfold Wr.askVals; rw [List.length_map]; rfl
        have h10 : (Wr.asks (k : Int)).length ≤ 10 := by have := (Wr.asks_ok (k : Int)).2; unfold Wr.apart at this; rw [Bool.and_eq_true, decide_eq_true_eq, decide_eq_true_eq] at this; omega
        have H10 := Lib.hid (show (Wr.askVals (Wr.Rq.bare (k : Int))).length ≤ 10 by omega)
        have hne0 : (Wr.asks (k : Int)).map Prod.snd ≠ [] := fun e => h0 (List.map_eq_nil_iff.1 e)
        have hmd := Lib.hid (fun (us : List Value) (hl : us.length = (Wr.asks (k : Int)).length) (hft : Wr.fit (Wr.asks (k : Int)) us) (A : Option Addr) (c : Nat) (wx : World) (hD : RdF wx A us.length us) => made_any (k : Int) h0 A c us wx hl hft hD)
        have Hkinds := Lib.hid (Wr.bare_kinds (k : Int))
        clear h0 hbig hlv h10
        generalize hvs : Wr.askVals (Wr.Rq.bare (k : Int)) = vs at hf H10 Hkinds
        clear hvs
        go_wp2_with fail
        refine (hf.out w2).mono ?_
        rintro e w3 ⟨A3, c3, rfl, hD3, hc3, hb3⟩
        have HB3 := Lib.hid (below_next HB2.out hb3)
        have K3 := Lib.hid (K2.out.below hb3)
        have htk0 := taken_any A2 r.length c2 r A3 vs.length c3 vs w3 (HO2.out.rd.below hb3) hc2 (by omega) hD3 H10.out
        rw [Hkinds.out] at htk0
        have htk := Lib.hid htk0
        clear hb3 htk0 hD3
        go_wp2_with fail
        refine htk.out.mono ?_
        have hall := Wr.all_form hne0 (l := r)
        rcases htkn : Wr.taken ((Wr.asks (k : Int)).map Prod.snd) r with _ | ⟨us, _ | ⟨y, r2⟩⟩
        · rintro e w4 ⟨rfl, hb4⟩
          have HB4 := Lib.hid (below_next HB3.out hb4)
          have K4 := Lib.hid (K3.out.below hb4)
          have e0 : Wr.askRead l = none := by rw [hrd.out, hall, htkn]; rfl
          have E1 := Lib.hid e0
          clear hb4 hall htkn e0
          have E0 := Lib.hid (E1.out)
          have kz := K4.out
          have c0 := kz.at_ 0 rfl
          have fc0 := kz.2.2 0
          have c1 := kz.at_ 1 rfl
          have fc1 := kz.2.2 1
          have c2 := kz.at_ 2 rfl
          have fc2 := kz.2.2 2
          have c3 := kz.at_ 3 rfl
          have fc3 := kz.2.2 3
          have c4 := kz.at_ 4 rfl
          have fc4 := kz.2.2 4
          have c5 := kz.at_ 5 rfl
          have fc5 := kz.2.2 5
          have c6 := kz.at_ 6 rfl
          have fc6 := kz.2.2 6
          have Fin := Lib.hid (show Holds (((((((w4.setCell ⟨w.heap.size, 0, none⟩ (.int .i64 0)).setCell ⟨w.heap.size, 1, none⟩ (.string ⟨#[]⟩)).setCell ⟨w.heap.size, 2, none⟩ (.int .i64 0)).setCell ⟨w.heap.size, 3, none⟩ (.int .i64 0)).setCell ⟨w.heap.size, 4, none⟩ (.int .i64 0)).setCell ⟨w.heap.size, 5, none⟩ (.int .i64 0)).setCell ⟨w.heap.size, 6, none⟩ (.int .i64 0)) w.heap.size [.int .i64 0, .string ⟨#[]⟩, .int .i64 0, .int .i64 0, .int .i64 0, .int .i64 0, .int .i64 0] from (((((((kz.set 0 (.int .i64 0) (by simp)).set 1 (.string ⟨#[]⟩) (by simp)).set 2 (.int .i64 0) (by simp)).set 3 (.int .i64 0) (by simp)).set 4 (.int .i64 0) (by simp)).set 5 (.int .i64 0) (by simp)).set 6 (.int .i64 0) (by simp)))
          have Fb := Lib.hid (show Below w.heap.size w (((((((w4.setCell ⟨w.heap.size, 0, none⟩ (.int .i64 0)).setCell ⟨w.heap.size, 1, none⟩ (.string ⟨#[]⟩)).setCell ⟨w.heap.size, 2, none⟩ (.int .i64 0)).setCell ⟨w.heap.size, 3, none⟩ (.int .i64 0)).setCell ⟨w.heap.size, 4, none⟩ (.int .i64 0)).setCell ⟨w.heap.size, 5, none⟩ (.int .i64 0)).setCell ⟨w.heap.size, 6, none⟩ (.int .i64 0)) from below_set (below_set (below_set (below_set (below_set (below_set (below_set (HB4.out) _ _ (Nat.le_refl _)) _ _ (Nat.le_refl _)) _ _ (Nat.le_refl _)) _ _ (Nat.le_refl _)) _ _ (Nat.le_refl _)) _ _ (Nat.le_refl _)) _ _ (Nat.le_refl _))
          clear kz
          go_wp2
          have i0 := Fin.out
          have d0 := i0.at_ 0 rfl
          have d1 := i0.at_ 1 rfl
          have d2 := i0.at_ 2 rfl
          have d3 := i0.at_ 3 rfl
          have d4 := i0.at_ 4 rfl
          have d5 := i0.at_ 5 rfl
          have d6 := i0.at_ 6 rfl
          refine ⟨rfl, .tuple #[.agg #[.int .i64 0, .string ⟨#[]⟩, .int .i64 0, .int .i64 0, .int .i64 0, .int .i64 0, .int .i64 0], .int .i64 220], ?_, ?_⟩
          · simp [results, Try.results13, go_sem, d0, d1, d2, d3, d4, d5, d6]
          · rw [E0.out]
            exact ⟨rfl, Fb.out⟩
        · rintro e w4 ⟨D, dc, t, rfl, ht, hD, hdc, hb4⟩
          have ht1 : t = true := ht.2 rfl
          subst ht1
          have HB4 := Lib.hid (below_next HB3.out hb4)
          have K4 := Lib.hid (K3.out.below hb4)
          have e0 : Wr.askRead l = some (Wr.Rq.puts (Wr.asks (k : Int)) us (Wr.Rq.bare (k : Int))) := by rw [hrd.out, hall, htkn]; rfl
          have hal : Wr.all ((Wr.asks (k : Int)).map Prod.snd) r = some us := by rw [hall, htkn]
          have hul := (Wr.all_only hr256 hal).2.1
          rw [List.length_map] at hul
          have hm := hmd.out us hul (Wr.all_fits hal) D dc w4 hD
          generalize Wr.Rq.puts (Wr.asks (k : Int)) us (Wr.Rq.bare (k : Int)) = PP at e0 hm
          obtain ⟨yk, ys, yd, yn, yu, yp, yq⟩ := PP
          simp only [Wr.Rq.cells] at hm
          have Hm := Lib.hid hm
          have E0 := Lib.hid e0
          clear hb4 hall htkn e0 hal hul hm ht hD hmd hne0
          go_wp2_with fail
          refine Hm.out.mono ?_
          rintro e w5 ⟨rfl, hb5⟩
          have HB5 := Lib.hid (below_next HB4.out hb5)
          have k5 := K4.out.below hb5
          have c0 := k5.at_ 0 rfl
          have fc0 := k5.2.2 0
          have c1 := k5.at_ 1 rfl
          have fc1 := k5.2.2 1
          have c2 := k5.at_ 2 rfl
          have fc2 := k5.2.2 2
          have c3 := k5.at_ 3 rfl
          have fc3 := k5.2.2 3
          have c4 := k5.at_ 4 rfl
          have fc4 := k5.2.2 4
          have c5 := k5.at_ 5 rfl
          have fc5 := k5.2.2 5
          have c6 := k5.at_ 6 rfl
          have fc6 := k5.2.2 6
          have Fin := Lib.hid (show Holds (((((((w5.setCell ⟨w.heap.size, 0, none⟩ (.int .i64 yk)).setCell ⟨w.heap.size, 1, none⟩ (.string ys)).setCell ⟨w.heap.size, 2, none⟩ (.int .i64 yd)).setCell ⟨w.heap.size, 3, none⟩ (.int .i64 yn)).setCell ⟨w.heap.size, 4, none⟩ (.int .i64 yu)).setCell ⟨w.heap.size, 5, none⟩ (.int .i64 yp)).setCell ⟨w.heap.size, 6, none⟩ (.int .i64 yq)) w.heap.size [.int .i64 yk, .string ys, .int .i64 yd, .int .i64 yn, .int .i64 yu, .int .i64 yp, .int .i64 yq] from (((((((k5.set 0 (.int .i64 yk) (by simp)).set 1 (.string ys) (by simp)).set 2 (.int .i64 yd) (by simp)).set 3 (.int .i64 yn) (by simp)).set 4 (.int .i64 yu) (by simp)).set 5 (.int .i64 yp) (by simp)).set 6 (.int .i64 yq) (by simp)))
          have Fb := Lib.hid (show Below w.heap.size w (((((((w5.setCell ⟨w.heap.size, 0, none⟩ (.int .i64 yk)).setCell ⟨w.heap.size, 1, none⟩ (.string ys)).setCell ⟨w.heap.size, 2, none⟩ (.int .i64 yd)).setCell ⟨w.heap.size, 3, none⟩ (.int .i64 yn)).setCell ⟨w.heap.size, 4, none⟩ (.int .i64 yu)).setCell ⟨w.heap.size, 5, none⟩ (.int .i64 yp)).setCell ⟨w.heap.size, 6, none⟩ (.int .i64 yq)) from below_set (below_set (below_set (below_set (below_set (below_set (below_set (HB5.out) _ _ (Nat.le_refl _)) _ _ (Nat.le_refl _)) _ _ (Nat.le_refl _)) _ _ (Nat.le_refl _)) _ _ (Nat.le_refl _)) _ _ (Nat.le_refl _)) _ _ (Nat.le_refl _))
          clear hb5 k5
          go_wp2
          have i0 := Fin.out
          have d0 := i0.at_ 0 rfl
          have d1 := i0.at_ 1 rfl
          have d2 := i0.at_ 2 rfl
          have d3 := i0.at_ 3 rfl
          have d4 := i0.at_ 4 rfl
          have d5 := i0.at_ 5 rfl
          have d6 := i0.at_ 6 rfl
          refine ⟨rfl, .tuple #[.agg #[.int .i64 yk, .string ys, .int .i64 yd, .int .i64 yn, .int .i64 yu, .int .i64 yp, .int .i64 yq], .int .i64 0], ?_, ?_⟩
          · simp [results, Try.results13, go_sem, d0, d1, d2, d3, d4, d5, d6]
          · rw [E0.out]
            exact ⟨rfl, Fb.out⟩
        · rintro e w4 ⟨D, dc, t, rfl, ht, hD, hdc, hb4⟩
          have ht1 : t = false := by
            cases t with
            | false => rfl
            | true => exact absurd (ht.1 rfl) (by simp)
          subst ht1
          have HB4 := Lib.hid (below_next HB3.out hb4)
          have K4 := Lib.hid (K3.out.below hb4)
          have e0 : Wr.askRead l = none := by rw [hrd.out, hall, htkn]; rfl
          have E1 := Lib.hid e0
          clear hb4 hall htkn e0 ht hD
          have E0 := Lib.hid (E1.out)
          have kz := K4.out
          have c0 := kz.at_ 0 rfl
          have fc0 := kz.2.2 0
          have c1 := kz.at_ 1 rfl
          have fc1 := kz.2.2 1
          have c2 := kz.at_ 2 rfl
          have fc2 := kz.2.2 2
          have c3 := kz.at_ 3 rfl
          have fc3 := kz.2.2 3
          have c4 := kz.at_ 4 rfl
          have fc4 := kz.2.2 4
          have c5 := kz.at_ 5 rfl
          have fc5 := kz.2.2 5
          have c6 := kz.at_ 6 rfl
          have fc6 := kz.2.2 6
          have Fin := Lib.hid (show Holds (((((((w4.setCell ⟨w.heap.size, 0, none⟩ (.int .i64 0)).setCell ⟨w.heap.size, 1, none⟩ (.string ⟨#[]⟩)).setCell ⟨w.heap.size, 2, none⟩ (.int .i64 0)).setCell ⟨w.heap.size, 3, none⟩ (.int .i64 0)).setCell ⟨w.heap.size, 4, none⟩ (.int .i64 0)).setCell ⟨w.heap.size, 5, none⟩ (.int .i64 0)).setCell ⟨w.heap.size, 6, none⟩ (.int .i64 0)) w.heap.size [.int .i64 0, .string ⟨#[]⟩, .int .i64 0, .int .i64 0, .int .i64 0, .int .i64 0, .int .i64 0] from (((((((kz.set 0 (.int .i64 0) (by simp)).set 1 (.string ⟨#[]⟩) (by simp)).set 2 (.int .i64 0) (by simp)).set 3 (.int .i64 0) (by simp)).set 4 (.int .i64 0) (by simp)).set 5 (.int .i64 0) (by simp)).set 6 (.int .i64 0) (by simp)))
          have Fb := Lib.hid (show Below w.heap.size w (((((((w4.setCell ⟨w.heap.size, 0, none⟩ (.int .i64 0)).setCell ⟨w.heap.size, 1, none⟩ (.string ⟨#[]⟩)).setCell ⟨w.heap.size, 2, none⟩ (.int .i64 0)).setCell ⟨w.heap.size, 3, none⟩ (.int .i64 0)).setCell ⟨w.heap.size, 4, none⟩ (.int .i64 0)).setCell ⟨w.heap.size, 5, none⟩ (.int .i64 0)).setCell ⟨w.heap.size, 6, none⟩ (.int .i64 0)) from below_set (below_set (below_set (below_set (below_set (below_set (below_set (HB4.out) _ _ (Nat.le_refl _)) _ _ (Nat.le_refl _)) _ _ (Nat.le_refl _)) _ _ (Nat.le_refl _)) _ _ (Nat.le_refl _)) _ _ (Nat.le_refl _)) _ _ (Nat.le_refl _))
          clear kz
          go_wp2
          have i0 := Fin.out
          have d0 := i0.at_ 0 rfl
          have d1 := i0.at_ 1 rfl
          have d2 := i0.at_ 2 rfl
          have d3 := i0.at_ 3 rfl
          have d4 := i0.at_ 4 rfl
          have d5 := i0.at_ 5 rfl
          have d6 := i0.at_ 6 rfl
          refine ⟨rfl, .tuple #[.agg #[.int .i64 0, .string ⟨#[]⟩, .int .i64 0, .int .i64 0, .int .i64 0, .int .i64 0, .int .i64 0], .int .i64 220], ?_, ?_⟩
          · simp [results, Try.results13, go_sem, d0, d1, d2, d3, d4, d5, d6]
          · rw [E0.out]
            exact ⟨rfl, Fb.out⟩
end Go.Proofs.Ytonjjihbpeblkaa
