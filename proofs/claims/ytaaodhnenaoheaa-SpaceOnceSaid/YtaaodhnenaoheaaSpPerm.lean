/- Which plots are taken does not hang on the order in which they were claimed. -/
import Derived.Test.YtaaodhnenaoheaaSpTurn
namespace Go.Proofs.Ytaaodhnenaoheaa
set_option linter.unusedVariables false
namespace Sp
variable {f : Bool} {bad : Int}
/-- All may be turned: each is a plot, and as it should be, and none stands twice. -/
def AllOk (f : Bool) (T : List Bool) (ps : List Int) : Prop := (∀ p ∈ ps, 0 ≤ p ∧ p < (T.length : Int) ∧ T.getD p.toNat false = f) ∧ ps.Nodup
theorem getD_set (T : List Bool) (k q : Nat) (t : Bool) (hk : k < T.length) : (T.set k t).getD q false = if k = q then t else T.getD q false := by
  rw [List.getD_eq_getElem?_getD, List.getElem?_set]
  by_cases e : k = q
  · rw [if_pos e, if_pos hk, if_pos e]; rfl
  · rw [if_neg e, if_neg e, ← List.getD_eq_getElem?_getD]
theorem turn1_ok {T : List Bool} {p : Int} (h : (turn1 f bad T p).2 = 0) (hb : bad ≠ 0) : 0 ≤ p ∧ p < (T.length : Int) ∧ T.getD p.toNat false = f ∧ turn1 f bad T p = (T.set p.toNat (!f), 0) := by
  unfold turn1 at *
  split at h
  · cases h
  · rename_i h1
    rw [if_neg h1]
    split at h
    · rename_i h2
      rw [if_pos h2]
      exact ⟨by omega, by omega, h2, rfl⟩
    · exact absurd h hb
theorem turn1_of {T : List Bool} {p : Int} (h1 : 0 ≤ p) (h2 : p < (T.length : Int)) (h3 : T.getD p.toNat false = f) : turn1 f bad T p = (T.set p.toNat (!f), 0) := by
  unfold turn1; rw [if_neg (by omega), if_pos h3]
theorem allOk_step {T : List Bool} {p : Int} {ps : List Int} (h1 : 0 ≤ p) (h2 : p < (T.length : Int)) (h3 : T.getD p.toNat false = f) : AllOk f T (p :: ps) ↔ AllOk f (T.set p.toNat (!f)) ps := by
  have hk : p.toNat < T.length := by omega
  unfold AllOk
  rw [List.nodup_cons]
  constructor
  · rintro ⟨ha, hn, hd⟩
    refine ⟨fun q hq => ?_, hd⟩
    obtain ⟨q1, q2, q3⟩ := ha q (List.mem_cons_of_mem _ hq)
    refine ⟨q1, by rw [List.length_set]; exact q2, ?_⟩
    rw [getD_set _ _ _ _ hk, if_neg]
    · exact q3
    · intro e
      have : p = q := by omega
      rw [this] at hn
      exact hn hq
  · rintro ⟨ha, hd⟩
    have hn : ¬ p ∈ ps := by
      intro hp
      obtain ⟨_, _, q3⟩ := ha p hp
      rw [getD_set _ _ _ _ hk, if_pos rfl] at q3
      cases f <;> cases q3
    refine ⟨fun q hq => ?_, hn, hd⟩
    rcases List.mem_cons.1 hq with e | e
    · subst e; exact ⟨h1, h2, h3⟩
    · obtain ⟨q1, q2, q3⟩ := ha q e
      rw [List.length_set] at q2
      refine ⟨q1, q2, ?_⟩
      rw [getD_set _ _ _ _ hk] at q3
      split at q3
      · rename_i e2
        have : p = q := by omega
        rw [← this] at e
        exact absurd e hn
      · exact q3
theorem turnAll_iff (hb : bad ≠ 0) (T : List Bool) (ps : List Int) : (turnAll f bad T ps).2 = 0 ↔ AllOk f T ps := by
  induction ps generalizing T with
  | nil => exact ⟨fun _ => ⟨fun p hp => (by cases hp), List.nodup_nil⟩, fun _ => rfl⟩
  | cons p ps ih =>
    by_cases h : (turn1 f bad T p).2 = 0
    · obtain ⟨h1, h2, h3, h4⟩ := turn1_ok h hb
      rw [turnAll_ok h4, ih, allOk_step h1 h2 h3]
    · rw [turnAll, if_neg h]
      constructor
      · intro e; exact absurd e h
      · intro hA
        obtain ⟨h1, h2, h3⟩ := hA.1 p (by simp)
        rw [turn1_of h1 h2 h3]
theorem turnAll_get (hb : bad ≠ 0) (T : List Bool) (ps : List Int) (h : AllOk f T ps) (q : Nat) : (turnAll f bad T ps).1.getD q false = if (q : Int) ∈ ps then !f else T.getD q false := by
  induction ps generalizing T with
  | nil => rw [if_neg (by simp)]; rfl
  | cons p ps ih =>
    obtain ⟨h1, h2, h3⟩ := h.1 p (by simp)
    have h4 := (allOk_step h1 h2 h3).1 h
    rw [turnAll_ok (turn1_of h1 h2 h3), ih _ h4, getD_set _ _ _ _ (by omega)]
    by_cases e : (q : Int) ∈ ps
    · rw [if_pos e, if_pos (List.mem_cons_of_mem _ e)]
    · rw [if_neg e]
      by_cases e2 : p.toNat = q
      · rw [if_pos e2, if_pos (by rw [List.mem_cons]; exact .inl (by omega))]
      · rw [if_neg e2, if_neg (by rw [List.mem_cons]; rintro (e3 | e3); · omega
                                  · exact e e3)]
theorem list_ext {S T : List Bool} (hl : S.length = T.length) (h : ∀ q, S.getD q false = T.getD q false) : S = T := by
  refine List.ext_getElem hl fun i h1 h2 => ?_
  have := h i
  rw [List.getD_eq_getElem?_getD, List.getD_eq_getElem?_getD, List.getElem?_eq_getElem h1, List.getElem?_eq_getElem h2] at this
  exact this
theorem allOk_perm {T : List Bool} {ps qs : List Int} (h : ps.Perm qs) : AllOk f T ps ↔ AllOk f T qs := by
  unfold AllOk
  rw [h.nodup_iff]
  exact and_congr_left fun _ => ⟨fun ha p hp => ha p (h.mem_iff.2 hp), fun ha p hp => ha p (h.mem_iff.1 hp)⟩
/-- In whatever order: the same map, or each tells an error. -/
theorem turnAll_perm (hb : bad ≠ 0) {T : List Bool} {ps qs : List Int} (h : ps.Perm qs) : ((turnAll f bad T ps).2 = 0 ↔ (turnAll f bad T qs).2 = 0) ∧ (fin T (turnAll f bad T ps)).1 = (fin T (turnAll f bad T qs)).1 := by
  have hiff : (turnAll f bad T ps).2 = 0 ↔ (turnAll f bad T qs).2 = 0 := by rw [turnAll_iff hb, turnAll_iff hb, allOk_perm h]
  refine ⟨hiff, ?_⟩
  unfold fin
  by_cases h1 : (turnAll f bad T ps).2 = 0
  · have h2 := hiff.1 h1
    rw [if_pos h1, if_pos h2]
    rw [turnAll_iff hb] at h1 h2
    refine list_ext (by rw [turnAll_len, turnAll_len]) fun q => ?_
    rw [turnAll_get hb T ps h1, turnAll_get hb T qs h2]
    by_cases e : (q : Int) ∈ ps
    · rw [if_pos e, if_pos (h.mem_iff.1 e)]
    · rw [if_neg e, if_neg (fun e2 => e (h.mem_iff.2 e2))]
  · rw [if_neg h1, if_neg (fun e => h1 (hiff.2 e))]
/-- Pairs from the last to the first, each turned round. -/
def back (ps : List (Int × Int)) : List (Int × Int) := (ps.map fun p => (p.2, p.1)).reverse
theorem flat_append (a b : List (Int × Int)) : flat (a ++ b) = flat a ++ flat b := by
  induction a with
  | nil => rfl
  | cons p a ih => simp [flat, ih]
theorem back_flat (ps : List (Int × Int)) : flat (back ps) = (flat ps).reverse := by
  unfold back
  induction ps with
  | nil => rfl
  | cons p ps ih => simp only [List.map_cons, List.reverse_cons, flat_append, ih, flat]; simp
theorem back_step {ps : List (Int × Int)} {k : Nat} (h : k < ps.length) : back (ps.drop k) = back (ps.drop (k + 1)) ++ [(ps[k].2, ps[k].1)] := by
  unfold back
  rw [List.drop_eq_getElem_cons h, List.map_cons, List.reverse_cons]
theorem back_perm (ps : List (Int × Int)) : (flat ps).Perm (flat (back ps)) := by
  rw [back_flat]; exact (List.reverse_perm _).symm
end Sp
open Go.RowKit Sp
theorem few_any (A : Option Addr) (m c : Nat) (ps : List (Int × Int)) (w : World) (hm : ps.length = m) (hc : m ≤ c) (hbig : m ≤ 9223372036854775807) : Calls Try.prog 16 #[.slice A m c] w fun e w' => e = .returned (.slice A (ps.take 300).length c) ∧ w = w' := by
  rw [List.length_take, hm]
  by_cases h : 300 < m
  · rw [Nat.min_eq_left (by omega)]
    have h2 : (300 : Int) < (m : Int) := by omega
    have h3 : 300 ≤ c := by omega
    have h4 : (300 : Int) ≤ (c : Int) := by omega
    clear hm
    go_enter Try.func16, Try.ntmps16
    go_wp2
    go_ret
    exact ⟨rfl, rfl⟩
  · rw [Nat.min_eq_right (by omega)]
    have h2 : ¬ (300 : Int) < (m : Int) := by omega
    clear hm
    go_enter Try.func16, Try.ntmps16
    go_wp2
    go_ret
    exact ⟨rfl, rfl⟩
theorem few_flat (ps : List (Int × Int)) (k : Nat) : flat (ps.take k) = (flat ps).take (k * 2) := by
  induction ps generalizing k with
  | nil => simp [flat]
  | cons p ps ih =>
    match k with
    | 0 => simp [flat]
    | k + 1 =>
      rw [show (k + 1) * 2 = k * 2 + 1 + 1 by omega]
      simp only [List.take_succ_cons, flat, ih]
theorem few_rd {w : World} {A : Option Addr} {m : Nat} {ps : List (Int × Int)} (h : RdC 2 w A m (iv (flat ps))) (hm : ps.length = m) : RdC 2 w A (ps.take 300).length (iv (flat (ps.take 300))) := by
  have h1 := h.take (k := (ps.take 300).length) (by rw [List.length_take]; omega)
  have e : (iv (flat ps)).take ((ps.take 300).length * 2) = iv (flat (ps.take 300)) := by
    rw [few_flat, List.length_take]
    unfold iv
    rw [List.map_take, List.take_eq_take_iff]
    simp [flat_length]
    omega
  rw [e] at h1
  exact h1
end Go.Proofs.Ytaaodhnenaoheaa
