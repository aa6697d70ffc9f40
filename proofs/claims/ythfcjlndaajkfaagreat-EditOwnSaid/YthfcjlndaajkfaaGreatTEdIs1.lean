/- What the document's Is looks at, plain; two rows of numbers side by side. -/
import Derived.Test.YthfcjlndaajkfaaGreatG16
import Derived.Test.YthfcjlndaajkfaaGreatTHeldS
namespace Go.Proofs.YthfcjlndaajkfaaGreat
open Go.RowKit
set_option linter.unusedVariables false
structure TwoR (base : Nat) (W : World) (R : Option Addr) (r rc : Nat) (ids : List Int) (T : Option Addr) (t tc : Nat) (al : List Int) : Prop where
  ol : OwnC 1 W base 3 R r rc (Pk.iv ids)
  ot : OwnC 1 W base 3 T t tc (Pk.iv al)
  off : ∀ g, (Value.slice R r rc).ownBlock = some g → (Value.slice T t tc).ownBlock ≠ some g
theorem TwoR.below {base : Nat} {W W' : World} {R : Option Addr} {r rc : Nat} {ids : List Int} {T : Option Addr} {t tc : Nat} {al : List Int} (h : TwoR base W R r rc ids T t tc al) (hb : Below W.heap.size W W') : TwoR base W' R r rc ids T t tc al := ⟨h.ol.below hb, h.ot.below hb, h.off⟩
theorem Pk.iv_app (a b : List Int) : Pk.iv (a ++ b) = Pk.iv a ++ Pk.iv b := by unfold Pk.iv; rw [List.map_append]
theorem TwoR.first {base : Nat} {W W' : World} {R R' : Option Addr} {r rc r' rc' : Nat} {ids new : List Int} {T : Option Addr} {t tc : Nat} {al : List Int} (h : TwoR base W R r rc ids T t tc al) (hg : GrewC 1 W W' base 3 R R' r rc r' rc' (Pk.iv ids ++ Pk.iv new)) : TwoR base W' R' r' rc' (ids ++ new) T t tc al :=
  ⟨by rw [Pk.iv_app]; exact hg.own, h.ot.grown hg.grew (.inr h.off), fun g hg1 e => by
    rcases hg.blk with h2 | h2
    · exact h.off g (h2 ▸ hg1) e
    · rw [h2] at hg1
      injection hg1 with hg1
      have := (h.ot.blk g e).2
      omega⟩
theorem TwoR.second {base : Nat} {W W' : World} {R : Option Addr} {r rc : Nat} {ids new : List Int} {T T' : Option Addr} {t tc t' tc' : Nat} {al : List Int} (h : TwoR base W R r rc ids T t tc al) (hg : GrewC 1 W W' base 3 T T' t tc t' tc' (Pk.iv al ++ Pk.iv new)) : TwoR base W' R r rc ids T' t' tc' (al ++ new) :=
  ⟨h.ol.grown hg.grew (.inr fun g h1 h2 => h.off g h2 h1), by rw [Pk.iv_app]; exact hg.own, fun g hg1 e => by
    rcases hg.blk with h2 | h2
    · exact h.off g hg1 (h2 ▸ e)
    · rw [h2] at e
      injection e with e
      have := (h.ol.blk g hg1).2
      omega⟩
theorem TwoR.nil (base : Nat) (W : World) : TwoR base W none 0 0 [] none 0 0 [] := ⟨OwnC.none_ _ _ _ _, OwnC.none_ _ _ _ _, fun g h => by cases h⟩
namespace Ed
theorem ok_parts (v : Ve) : v.ok = ((((((head v && okLs v.ls) && okTs v.sq v.ts) && v.ids.all (fun x => decide (x < v.nx))) && decide v.ids.Nodup) && decide v.plots.Nodup) && apartB v.ts) := rfl
theorem no_head {v : Ve} (h : head v = false) : v.ok = false := by rw [ok_parts, h]; simp
theorem no_ls {v : Ve} {i : Nat} (hi : i < v.ls.length) (h : lokAt v.ls i = false) : v.ok = false := by rw [ok_parts, okLs_no hi h]; simp
theorem no_ts {v : Ve} {i : Nat} (hi : i < v.ts.length) (h : tokAt v.sq v.ts i = false) : v.ok = false := by rw [ok_parts, okTs_no hi h]; simp
theorem no_apart {v : Ve} {i k : Nat} {a b : Ta} (hk : k < i) (ha : v.ts[i]? = some a) (hb : v.ts[k]? = some b) (h : clash a b = true) : v.ok = false := by
  have h2 : apartB v.ts = false := by
    rw [Bool.eq_false_iff]
    intro h3
    rw [apartB_iff.1 h3 i k a b hk ha hb] at h
    cases h
  rw [ok_parts, h2]; simp
/-- So many numbers below n that are all unlike are at most n. -/
theorem pigeon : ∀ (n : Nat) (l : List Int), l.Nodup → (∀ z ∈ l, 0 ≤ z ∧ z < (n : Int)) → l.length ≤ n
  | 0, l, _, h => by
    cases l with
    | nil => exact Nat.le_refl _
    | cons x r => have := h x (by simp); omega
  | n + 1, l, hn, h => by
    have h1 := pigeon n (l.filter fun z => decide (z < (n : Int))) (hn.sublist List.filter_sublist) (fun z hz => by
      obtain ⟨h2, h3⟩ := List.mem_filter.1 hz
      have := h z h2
      simp at h3
      omega)
    have h2 : (l.filter fun z => !decide (z < (n : Int))).length ≤ 1 := by
      have hnd : (l.filter fun z => !decide (z < (n : Int))).Nodup := hn.sublist List.filter_sublist
      have hall : ∀ z ∈ (l.filter fun z => !decide (z < (n : Int))), z = (n : Int) := fun z hz => by
        obtain ⟨h2, h3⟩ := List.mem_filter.1 hz
        have := h z h2
        simp at h3
        omega
      generalize (l.filter fun z => !decide (z < (n : Int))) = q at *
      match q, hnd, hall with
      | [], _, _ => exact Nat.zero_le _
      | [x], _, _ => exact Nat.le_refl _
      | x :: y :: r, hnd, hall =>
        have h3 := hall x (by simp)
        have h4 := hall y (by simp)
        rw [h3, h4] at hnd
        simp at hnd
    have h3 : l.length = (l.filter fun z => decide (z < (n : Int))).length + (l.filter fun z => !decide (z < (n : Int))).length := by
      clear hn h h1 h2
      induction l with
      | nil => rfl
      | cons x r ih =>
        rw [List.filter_cons, List.filter_cons]
        by_cases hx : x < (n : Int)
        · simp [hx]; omega
        · simp [hx]; omega
    omega
theorem okP_rng {id ep : Int} {ps : List (Int × Int)} (h : okP id ep ps = true) : 1 ≤ id ∧ ps.length ≤ 64 ∧ ∀ z ∈ fl ps, 0 ≤ z ∧ z < ((511 : Nat) : Int) := by
  unfold okP at h
  simp only [Bool.and_eq_true, from_iff, List.all_eq_true] at h
  obtain ⟨⟨⟨⟨h1, h2⟩, h3⟩, h4⟩, h5⟩ := h
  exact ⟨h1.1, by omega, fun z hz => by have := h4 z hz; omega⟩
theorem lok_yes {L : List Lo} {k : Nat} {l : Lo} (h : L[k]? = some l) : lokAt L k = (l.p.ok && ((decide (k + 1 = L.length) && decide (l.se = -1)) || from_ l.se 0 1099511627776) && decide (before (L.map (·.p.id)) k < l.p.id)) := lokAt_eq h
end Ed
end Go.Proofs.YthfcjlndaajkfaaGreat
