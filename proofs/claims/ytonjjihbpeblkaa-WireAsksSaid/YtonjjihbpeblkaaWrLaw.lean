/- The readers' results in one form; what is read is small. -/
import Derived.Test.YtonjjihbpeblkaaWrAwake
import Derived.Deep.DeepCutAuto
import Derived.Deep.CutRange
namespace Go.Proofs.Ytonjjihbpeblkaa
open Go.RowKit
namespace Wr
theorem Rq.put_small {p : Nat × Bool} {v : Value} (m : Rq) (hp : p = (1, true) ∨ p = (2, false) ∨ p = (3, false) ∨ p = (4, false) ∨ p = (5, false) ∨ p = (6, false)) (hv : fits p.2 v) (hm : m.small) : (m.put p.1 v).small := by
  obtain ⟨q1, q2, q3, q4, q5⟩ := hm
  rcases hp with rfl | rfl | rfl | rfl | rfl | rfl
  · obtain ⟨x, rfl⟩ := hv; exact ⟨q1, q2, q3, q4, q5⟩
  · obtain ⟨x, rfl, hx⟩ := hv; exact ⟨hx, q2, q3, q4, q5⟩
  · obtain ⟨x, rfl, hx⟩ := hv; exact ⟨q1, hx, q3, q4, q5⟩
  · obtain ⟨x, rfl, hx⟩ := hv; exact ⟨q1, q2, hx, q4, q5⟩
  · obtain ⟨x, rfl, hx⟩ := hv; exact ⟨q1, q2, q3, hx, q5⟩
  · obtain ⟨x, rfl, hx⟩ := hv; exact ⟨q1, q2, q3, q4, hx⟩
theorem Rq.puts_small {offs : List (Nat × Bool)} {vs : List Value} {m : Rq} (ho : okAsks offs = true) (hf : fit offs vs) (hm : m.small) : (Rq.puts offs vs m).small := by
  induction offs generalizing vs m with
  | nil => exact hm
  | cons p ps ih =>
    cases vs with
    | nil => exact hm
    | cons v vs =>
      have hall : p = (1, true) ∨ p = (2, false) ∨ p = (3, false) ∨ p = (4, false) ∨ p = (5, false) ∨ p = (6, false) := by
        have := List.all_eq_true.1 ho p List.mem_cons_self
        simpa [or_assoc] using this
      exact ih (by unfold okAsks at ho ⊢; simp only [List.all_cons, Bool.and_eq_true] at ho; exact ho.2) (fun i q u hq hu => hf (i + 1) q u hq hu) (Rq.put_small m hall (hf 0 p v rfl rfl) hm)
theorem ask_small {l : List Nat} {r : Rq} (h : askRead l = some r) : r.small := by
  unfold askRead at h
  rcases hn : num l with _ | ⟨k, rest⟩
  · rw [hn] at h; cases h
  · rw [hn] at h
    simp only at h
    rcases ha : all ((asks (k : Int)).map Prod.snd) rest with _ | vs
    · rw [ha] at h; cases h
    · rw [ha] at h
      injection h with h
      subst h
      exact Rq.puts_small (asks_ok _).1 (all_fits ha) ⟨(show (0 : Int) < 9223372036854775808 by decide), (show (0 : Int) < 9223372036854775808 by decide), (show (0 : Int) < 9223372036854775808 by decide), (show (0 : Int) < 9223372036854775808 by decide), (show (0 : Int) < 9223372036854775808 by decide)⟩
theorem Mg.put_small {p : Nat × Bool} {v : Value} (m : Mg) (hp : p = (1, false) ∨ p = (2, false) ∨ p = (3, true) ∨ p = (4, false)) (hv : fits p.2 v) (hm : m.small) : (m.put p.1 v).small := by
  obtain ⟨q1, q2, q3⟩ := hm
  rcases hp with rfl | rfl | rfl | rfl
  · obtain ⟨x, rfl, hx⟩ := hv; exact ⟨hx, q2, q3⟩
  · obtain ⟨x, rfl, hx⟩ := hv; exact ⟨q1, hx, q3⟩
  · obtain ⟨x, rfl⟩ := hv; exact ⟨q1, q2, q3⟩
  · obtain ⟨x, rfl, hx⟩ := hv; exact ⟨q1, q2, hx⟩
theorem Mg.puts_small {offs : List (Nat × Bool)} {vs : List Value} {m : Mg} (ho : okMsgs offs = true) (hf : fit offs vs) (hm : m.small) : (Mg.puts offs vs m).small := by
  induction offs generalizing vs m with
  | nil => exact hm
  | cons p ps ih =>
    cases vs with
    | nil => exact hm
    | cons v vs =>
      have hall : p = (1, false) ∨ p = (2, false) ∨ p = (3, true) ∨ p = (4, false) := by
        have := List.all_eq_true.1 ho p List.mem_cons_self
        simpa [or_assoc] using this
      exact ih (by unfold okMsgs at ho ⊢; simp only [List.all_cons, Bool.and_eq_true] at ho; exact ho.2) (fun i q u hq hu => hf (i + 1) q u hq hu) (Mg.put_small m hall (hf 0 p v rfl rfl) hm)
theorem msg_small {l : List Nat} {r : Mg} (h : msgRead l = some r) : r.small := by
  unfold msgRead at h
  rcases hn : num l with _ | ⟨k, rest⟩
  · rw [hn] at h; cases h
  · rw [hn] at h
    simp only at h
    rcases ha : all ((msgs (k : Int)).map Prod.snd) rest with _ | vs
    · rw [ha] at h; cases h
    · rw [ha] at h
      injection h with h
      subst h
      exact Mg.puts_small (msgs_ok _).1 (all_fits ha) ⟨(show (0 : Int) < 9223372036854775808 by decide), (show (0 : Int) < 9223372036854775808 by decide), (show (0 : Int) < 9223372036854775808 by decide)⟩
theorem rep_small {l : List Nat} {r : Rp} (h : repRead l = some r) : r.small := by
  unfold repRead at h
  rcases ha : all [false, false, false, false, false] l with _ | vs
  · rw [ha] at h; cases h
  · rw [ha] at h
    simp only at h
    have hlen : vs.length = 5 ∨ vs.length ≠ 5 := by omega
    split at h
    · cases h
    · injection h with h
      subst h
      rcases hlen with hlen | hlen
      · obtain ⟨a, b, c, d, e, rfl⟩ := len5 hlen
        have ht := taken_fits (all_taken ha).2
        obtain ⟨x0, rfl, p0⟩ := ht 0 false _ rfl rfl
        obtain ⟨x1, rfl, p1⟩ := ht 1 false _ rfl rfl
        obtain ⟨x2, rfl, p2⟩ := ht 2 false _ rfl rfl
        obtain ⟨x3, rfl, p3⟩ := ht 3 false _ rfl rfl
        obtain ⟨x4, rfl, p4⟩ := ht 4 false _ rfl rfl
        exact ⟨p0, p1, p2, p3, p4⟩
      · match vs, hlen with
        | [], _ => exact ⟨by decide, by decide, by decide, by decide, by decide⟩
        | [_], _ => unfold Rp.of; exact ⟨by simp, by simp, by simp, by simp, by simp⟩
        | [_, _], _ => unfold Rp.of; exact ⟨by simp, by simp, by simp, by simp, by simp⟩
        | [_, _, _], _ => unfold Rp.of; exact ⟨by simp, by simp, by simp, by simp, by simp⟩
        | [_, _, _, _], _ => unfold Rp.of; exact ⟨by simp, by simp, by simp, by simp, by simp⟩
        | [_, _, _, _, _], h => exact absurd rfl h
        | _ :: _ :: _ :: _ :: _ :: _ :: _, _ => unfold Rp.of; exact ⟨by simp, by simp, by simp, by simp, by simp⟩
end Wr
theorem ask_uni {w w' : World} {o : Option Wr.Rq} {e : Ending} (h : GivesRd w (Wr.Rq.bare 0).cells (o.map Wr.Rq.cells) e w') : ∃ (X : Wr.Rq) (E : Int), e = .returned (.tuple #[.agg X.cells.toArray, .int .i64 E]) ∧ Below w.heap.size w w' ∧ (E = 220 ∧ X = Wr.Rq.bare 0 ∧ o = none ∨ E = 0 ∧ o = some X) := by
  cases o with
  | none => obtain ⟨rfl, hb⟩ := h; exact ⟨Wr.Rq.bare 0, 220, rfl, hb, .inl ⟨rfl, rfl, rfl⟩⟩
  | some X => obtain ⟨rfl, hb⟩ := h; exact ⟨X, 0, rfl, hb, .inr ⟨rfl, rfl⟩⟩
theorem msg_uni {w w' : World} {o : Option Wr.Mg} {e : Ending} (h : GivesRd w (Wr.Mg.bare 0).cells (o.map Wr.Mg.cells) e w') : ∃ (X : Wr.Mg) (E : Int), e = .returned (.tuple #[.agg X.cells.toArray, .int .i64 E]) ∧ Below w.heap.size w w' ∧ (E = 220 ∧ X = Wr.Mg.bare 0 ∧ o = none ∨ E = 0 ∧ o = some X) := by
  cases o with
  | none => obtain ⟨rfl, hb⟩ := h; exact ⟨Wr.Mg.bare 0, 220, rfl, hb, .inl ⟨rfl, rfl, rfl⟩⟩
  | some X => obtain ⟨rfl, hb⟩ := h; exact ⟨X, 0, rfl, hb, .inr ⟨rfl, rfl⟩⟩
theorem rep_uni {w w' : World} {o : Option Wr.Rp} {e : Ending} (h : GivesRd w (Wr.Rp.bare 0).cells (o.map Wr.Rp.cells) e w') : ∃ (X : Wr.Rp) (E : Int), e = .returned (.tuple #[.agg X.cells.toArray, .int .i64 E]) ∧ Below w.heap.size w w' ∧ (E = 220 ∧ X = Wr.Rp.bare 0 ∧ o = none ∨ E = 0 ∧ o = some X) := by
  cases o with
  | none => obtain ⟨rfl, hb⟩ := h; exact ⟨Wr.Rp.bare 0, 220, rfl, hb, .inl ⟨rfl, rfl, rfl⟩⟩
  | some X => obtain ⟨rfl, hb⟩ := h; exact ⟨X, 0, rfl, hb, .inr ⟨rfl, rfl⟩⟩
theorem bs_uni {w w' : World} {o : Option (List Nat)} {e : Ending} (h : GivesBs w o e w') : ∃ (A : Option Addr) (c : Nat) (l : List Nat) (E : Int), e = .returned (.tuple #[.slice A l.length c, .int .i64 E]) ∧ Own w' w.heap.size A l.length c l ∧ Below w.heap.size w w' ∧ (E = 220 ∧ l = [] ∧ o = none ∨ E = 0 ∧ o = some l) := by
  cases o with
  | none => obtain ⟨rfl, hb⟩ := h; exact ⟨none, 0, [], 220, rfl, Own.none_ _ _, hb, .inl ⟨rfl, rfl, rfl⟩⟩
  | some l => obtain ⟨A, c, rfl, ho, hb⟩ := h; exact ⟨A, c, l, 0, rfl, ho, hb, .inr ⟨rfl, rfl⟩⟩
end Go.Proofs.Ytonjjihbpeblkaa
