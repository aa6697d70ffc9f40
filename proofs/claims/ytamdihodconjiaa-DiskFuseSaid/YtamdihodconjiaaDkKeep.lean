/- For DiskReads: how one sector stands through writes of others and flushes. -/
import Derived.Test.YtamdihodconjiaaDkRun
namespace Go.Proofs.Ytamdihodconjiaa
open Go.RowKit
set_option linter.unusedVariables false
/-- Sector a stands as X. -/
def Stands (st : Dk.St) (a : Nat) (X : List Nat) : Prop := ∃ s : Dk.Sec, st.s[a]? = some s ∧ s.now = X
theorem Stands.other {st : Dk.St} {a : Nat} {X : List Nat} (h : Stands st a X) {i : Int} (hi : i ≠ (a : Int)) (b : List Nat) : Stands (st.write i b) a X := by
  obtain ⟨s, h1, h2⟩ := h
  unfold Dk.St.write
  split
  · rename_i hw
    have h0 : 0 ≤ i := by
      unfold Dk.St.writeE at hw
      split at hw
      · rename_i hr
        obtain ⟨j, _, rfl, _⟩ := ready_in hr
        omega
      · omega
    exact ⟨s, by show (Dk.upd st.s i.toNat _)[a]? = some s; rw [upd_other (by omega)]; exact h1, h2⟩
  · exact ⟨s, h1, h2⟩
theorem Stands.flush {st : Dk.St} {a : Nat} {X : List Nat} (h : Stands st a X) : Stands st.flush a X := by
  obtain ⟨s, h1, h2⟩ := h
  unfold Dk.St.flush
  split
  · exact ⟨⟨s.now, []⟩, by show (Dk.fixed st.s)[a]? = _; unfold Dk.fixed; rw [List.getElem?_map, h1]; rfl, h2⟩
  · exact ⟨s, h1, h2⟩
theorem Stands.read {st : Dk.St} {a k c : Nat} {X : List Nat} (h : Stands st a X) (hp : Plain st k c) : st.ready (a : Int) = 0 ∧ st.readB (a : Int) = X := by
  obtain ⟨s, h1, h2⟩ := h
  have hl := (List.getElem?_eq_some_iff.1 h1).1
  have hr : st.ready (a : Int) = 0 := by
    unfold Dk.St.ready Dk.St.has
    rw [hp.down, decide_eq_true (by omega : (0 : Int) ≤ (a : Int)), decide_eq_true (by omega : (a : Int) < (st.s.length : Int))]
    rfl
  refine ⟨hr, ?_⟩
  unfold Dk.St.readB Dk.St.sec
  rw [if_pos hr, Int.toNat_natCast, h1]
  exact h2
/-- What was just written stands. -/
theorem stands_new {st : Dk.St} {a k c : Nat} {X : List Nat} (hp : Plain st k c) (ha : a < k) (hX : X.length = 128) : st.writeE (a : Int) X.length = 0 ∧ Stands (st.write (a : Int) X) a X := by
  have hr : st.ready (a : Int) = 0 := by
    unfold Dk.St.ready Dk.St.has
    rw [hp.down, hp.len, decide_eq_true (by omega : (0 : Int) ≤ (a : Int)), decide_eq_true (by omega : (a : Int) < (k : Int))]
    rfl
  obtain ⟨h1, h2⟩ := write_yes hr hX
  refine ⟨h1, ?_⟩
  obtain ⟨s, hs⟩ : ∃ s, st.s[a]? = some s := ⟨_, List.getElem?_eq_getElem (by rw [hp.len]; exact ha)⟩
  rw [h2]
  refine ⟨⟨s.f, s.l ++ [X]⟩, by show (Dk.upd st.s a _)[a]? = _; rw [upd_at hs], ?_⟩
  unfold Dk.Sec.now
  simp
end Go.Proofs.Ytamdihodconjiaa
