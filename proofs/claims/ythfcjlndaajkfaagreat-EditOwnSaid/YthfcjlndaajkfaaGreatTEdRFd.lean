/- The document's log and table: where a file of a number stands. -/
import Derived.Test.YthfcjlndaajkfaaGreatTEdIs
namespace Go.Proofs.YthfcjlndaajkfaaGreat
open Go.RowKit
set_option linter.unusedVariables false
set_option linter.unusedSimpArgs false
namespace Ed
/-- Where a number stands; below 0: nowhere. -/
def at_ (ids : List Int) (x : Int) : Int := match find ids x with
  | some k => (k : Int)
  | none => -1
theorem find_yes {ids : List Int} {x : Int} {k : Nat} (h : ids[k]? = some x) (hb : ∀ (j : Nat) (y : Int), j < k → ids[j]? = some y → y ≠ x) : find ids x = some k := by
  unfold find
  rw [List.findIdx?_eq_some_iff_getElem]
  obtain ⟨hl, he⟩ := List.getElem?_eq_some_iff.1 h
  exact ⟨hl, by simpa using he, fun j hj => by
    have := hb j _ hj (List.getElem?_eq_getElem (by omega))
    simpa using this⟩
theorem find_no2 {ids : List Int} {x : Int} (h : ∀ y ∈ ids, y ≠ x) : find ids x = none := by
  unfold find
  rw [List.findIdx?_eq_none_iff]
  intro y hy
  simpa using h y hy
theorem at_yes {ids : List Int} {x : Int} {k : Nat} (h : ids[k]? = some x) (hb : ∀ (j : Nat) (y : Int), j < k → ids[j]? = some y → y ≠ x) : at_ ids x = (k : Int) := by unfold at_; rw [find_yes h hb]
theorem at_no {ids : List Int} {x : Int} (h : ∀ y ∈ ids, y ≠ x) : at_ ids x = -1 := by unfold at_; rw [find_no2 h]
theorem find_lt2 {ids : List Int} {x : Int} {k : Nat} (h : find ids x = some k) : k < ids.length := by
  unfold find at h
  rw [List.findIdx?_eq_some_iff_getElem] at h
  exact h.1
theorem at_some {ids : List Int} {x : Int} {k : Nat} (h : find ids x = some k) : at_ ids x = (k : Int) := by unfold at_; rw [h]
theorem at_none {ids : List Int} {x : Int} (h : find ids x = none) : at_ ids x = -1 := by unfold at_; rw [h]
end Ed
set_option maxRecDepth 100000 in
set_option maxHeartbeats 8000000 in
theorem rlog_any (nx sq : Int) (A : Option Addr) (n c : Nat) (B : Option Addr) (m d : Nat) (L : List (Ed.Lg × List (Int × Int))) (x : Int) (w : World) (hL : RdLs w A n L) (hn : n ≤ 9223372036854775807) :
    Calls Tryz.prog 78 #[.agg #[.int .i64 nx, .int .i64 sq, .slice A n c, .slice B m d], .int .i64 x] w fun e w' => e = .returned (.int .i64 (Ed.at_ (L.map (·.1.id)) x)) ∧ Below w.heap.size w w' := by
  have hbu : Below w.heap.size w (w.alloc (.cells #[.int .i64 nx, .int .i64 sq, .slice A n c, .slice B m d] 25)) := (Below.refl _ _).alloc (Nat.le_refl _) _
  have HBu := hd_ hbu
  have HL := hd_ (hL.below hbu)
  have HXu := hd_ (Holds.new w #[.int .i64 nx, .int .i64 sq, .slice A n c, .slice B m d] 25)
  clear hL hbu
  obtain ⟨ids, hids⟩ : ∃ i, i = L.map (·.1.id) := ⟨_, rfl⟩
  have HI := hd_ hids
  rw [← hids]
  obtain ⟨ans, hans⟩ : ∃ a, a = Ed.at_ ids x := ⟨_, rfl⟩
  have HA := hd_ hans
  rw [← hans]
  clear hids hans
  go_enter Tryz.func78, Tryz.ntmps78
  go_upto_region 1 with fail
  generalize (w.alloc (.cells #[.int .i64 nx, .int .i64 sq, .slice A n c, .slice B m d] 25)) = u at *
  replace HXu : Hid (Holds u w.heap.size [.int .i64 nx, .int .i64 sq, .slice A n c, .slice B m d]) := HXu
  have HXp := hd_ (fun (W : World) (hW : Below u.heap.size u W) => HXu.out.below hW)
  go_wp2_with fail
  go_loopw [5] (fun s5 wr => ∃ (k : Nat), k ≤ n ∧ s5 = .int .i64 (k : Int) ∧ Hid (∀ (j : Nat) (y : Int), j < k → ids[j]? = some y → y ≠ x) ∧ Hid (Below u.heap.size u wr)) (fun s5 _ => n - (intOf s5).toNat)
  case atStart => exact ⟨0, by omega, rfl, hd_ (fun j y hj => by omega), hd_ (Below.refl _ _)⟩
  case round =>
    obtain ⟨k, hk, rfl, HN, HB⟩ := hrel
    have xb := (HXp.out _ HB.out).at_ 2 rfl
    by_cases hlt : k < n
    · have hki : (k : Int) < (n : Int) := by omega
      have hk0 : (0 : Int) ≤ (k : Int) := by omega
      obtain ⟨y, hy⟩ : ∃ y, L[k]? = some y := ⟨_, List.getElem?_eq_getElem (by rw [HL.out.len]; exact hlt)⟩
      obtain ⟨b, o, hAb, _, _, hc⟩ := HL.out.four hy
      have HY := hd_ (show ids[k]? = some y.1.id by rw [HI.out, List.getElem?_map, hy]; rfl)
      subst hAb
      obtain ⟨⟨id, ep, P, pn, pc, se⟩, ps⟩ := y
      obtain ⟨e0, e1, e2, e3⟩ := hc wr HB.out
      dsimp only at e0 HY
      clear hy hc e1 e2 e3
      by_cases hq : id = x
      · have q : (id == x) = true := by rw [beq_iff_eq]; exact hq
        have HF := hd_ (show (k : Int) = ans by rw [HA.out]; exact (Ed.at_yes (by rw [HY.out, hq]) HN.out).symm)
        clear hq
        go_wp2
        go_ret
        exact ⟨by rw [← HF.out]; rfl, below_next HBu.out HB.out⟩
      · have q : (id == x) = false := by rw [beq_eq_false_iff_ne]; exact hq
        have HNn := hd_ (show ∀ (j : Nat) (z : Int), j < k + 1 → ids[j]? = some z → z ≠ x from fun j z hj hz => by
          by_cases e : j = k
          · subst e
            rw [HY.out] at hz
            injection hz with hz
            rw [← hz]; exact hq
          · exact HN.out j z (by omega) hz)
        clear hq
        go_wp2_with fail
        go_roundw
        case rel => exact ⟨k + 1, by omega, by go_num, HNn, HB⟩
        case measure => simp [intOf]; omega
    · have hki : ¬ (k : Int) < (n : Int) := by omega
      have HF := hd_ (show (-1 : Int) = ans by rw [HA.out]; exact (Ed.at_no (fun y hy => by
        obtain ⟨j, hj⟩ := List.getElem?_of_mem hy
        have hl : ids.length = n := by rw [HI.out, List.length_map, HL.out.len]
        exact HN.out j y (by have := (List.getElem?_eq_some_iff.1 hj).1; omega) hj)).symm)
      clear hlt hk
      go_wp2
      go_ret
      exact ⟨by rw [← HF.out]; rfl, below_next HBu.out HB.out⟩
set_option maxRecDepth 100000 in
set_option maxHeartbeats 8000000 in
theorem rtable_any (nx sq : Int) (A : Option Addr) (n c : Nat) (B : Option Addr) (m d : Nat) (M : List (Pk.Tb × List (Int × Int))) (x : Int) (w : World) (hL : RdTs w B m M) (hn : m ≤ 9223372036854775807) :
    Calls Tryz.prog 79 #[.agg #[.int .i64 nx, .int .i64 sq, .slice A n c, .slice B m d], .int .i64 x] w fun e w' => e = .returned (.int .i64 (Ed.at_ (M.map (·.1.id)) x)) ∧ Below w.heap.size w w' := by
  have hbu : Below w.heap.size w (w.alloc (.cells #[.int .i64 nx, .int .i64 sq, .slice A n c, .slice B m d] 25)) := (Below.refl _ _).alloc (Nat.le_refl _) _
  have HBu := hd_ hbu
  have HL := hd_ (hL.below hbu)
  have HXu := hd_ (Holds.new w #[.int .i64 nx, .int .i64 sq, .slice A n c, .slice B m d] 25)
  clear hL hbu
  obtain ⟨ids, hids⟩ : ∃ i, i = M.map (·.1.id) := ⟨_, rfl⟩
  have HI := hd_ hids
  rw [← hids]
  obtain ⟨ans, hans⟩ : ∃ a, a = Ed.at_ ids x := ⟨_, rfl⟩
  have HA := hd_ hans
  rw [← hans]
  clear hids hans
  go_enter Tryz.func79, Tryz.ntmps79
  go_upto_region 1 with fail
  generalize (w.alloc (.cells #[.int .i64 nx, .int .i64 sq, .slice A n c, .slice B m d] 25)) = u at *
  replace HXu : Hid (Holds u w.heap.size [.int .i64 nx, .int .i64 sq, .slice A n c, .slice B m d]) := HXu
  have HXp := hd_ (fun (W : World) (hW : Below u.heap.size u W) => HXu.out.below hW)
  go_wp2_with fail
  go_loopw [5] (fun s5 wr => ∃ (k : Nat), k ≤ m ∧ s5 = .int .i64 (k : Int) ∧ Hid (∀ (j : Nat) (y : Int), j < k → ids[j]? = some y → y ≠ x) ∧ Hid (Below u.heap.size u wr)) (fun s5 _ => m - (intOf s5).toNat)
  case atStart => exact ⟨0, by omega, rfl, hd_ (fun j y hj => by omega), hd_ (Below.refl _ _)⟩
  case round =>
    obtain ⟨k, hk, rfl, HN, HB⟩ := hrel
    have xb := (HXp.out _ HB.out).at_ 3 rfl
    by_cases hlt : k < m
    · have hki : (k : Int) < (m : Int) := by omega
      have hk0 : (0 : Int) ≤ (k : Int) := by omega
      obtain ⟨y, hy⟩ : ∃ y, M[k]? = some y := ⟨_, List.getElem?_eq_getElem (by rw [HL.out.len]; exact hlt)⟩
      obtain ⟨b, o, hAb, _, _, hc⟩ := HL.out.nine hy
      have HY := hd_ (show ids[k]? = some y.1.id by rw [HI.out, List.getElem?_map, hy]; rfl)
      subst hAb
      obtain ⟨⟨id, ep, P, pn, pc, sz, lv, ct, lo, hi, tp⟩, ps⟩ := y
      obtain ⟨e0, e1, e2, e3, e4, e5, e6, e7, e8⟩ := hc wr HB.out
      dsimp only at e0 HY
      clear hy hc e1 e2 e3 e4 e5 e6 e7 e8
      by_cases hq : id = x
      · have q : (id == x) = true := by rw [beq_iff_eq]; exact hq
        have HF := hd_ (show (k : Int) = ans by rw [HA.out]; exact (Ed.at_yes (by rw [HY.out, hq]) HN.out).symm)
        clear hq
        go_wp2
        go_ret
        exact ⟨by rw [← HF.out]; rfl, below_next HBu.out HB.out⟩
      · have q : (id == x) = false := by rw [beq_eq_false_iff_ne]; exact hq
        have HNn := hd_ (show ∀ (j : Nat) (z : Int), j < k + 1 → ids[j]? = some z → z ≠ x from fun j z hj hz => by
          by_cases e : j = k
          · subst e
            rw [HY.out] at hz
            injection hz with hz
            rw [← hz]; exact hq
          · exact HN.out j z (by omega) hz)
        clear hq
        go_wp2_with fail
        go_roundw
        case rel => exact ⟨k + 1, by omega, by go_num, HNn, HB⟩
        case measure => simp [intOf]; omega
    · have hki : ¬ (k : Int) < (m : Int) := by omega
      have HF := hd_ (show (-1 : Int) = ans by rw [HA.out]; exact (Ed.at_no (fun y hy => by
        obtain ⟨j, hj⟩ := List.getElem?_of_mem hy
        have hl : ids.length = m := by rw [HI.out, List.length_map, HL.out.len]
        exact HN.out j y (by have := (List.getElem?_eq_some_iff.1 hj).1; omega) hj)).symm)
      clear hlt hk
      go_wp2
      go_ret
      exact ⟨by rw [← HF.out]; rfl, below_next HBu.out HB.out⟩
end Go.Proofs.YthfcjlndaajkfaaGreat
