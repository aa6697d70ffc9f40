/- What the laws of the books lean on: lines in whatever order, rows of Add's as they read. -/
import Derived.Test.YtcoekdfmfjglpaaBoAwake
import Derived.Test.YtcoekdfmfjglpaaBoIn
namespace Go.Proofs.Ytcoekdfmfjglpaa
open Go.RowKit
namespace Bo
theorem code_other {T : List Tt} (hs : Srt T) {a b : Ln} (h : a.key ≠ b.key) : code (next T a) b = code T b ∧ get (next T a) b.key = get T b.key := by
  have hg : get (next T a) b.key = get T b.key := by
    unfold next
    refine get_ins_other hs _ ?_
    rw [put_key, get_key]
    exact h.symm
  refine ⟨?_, hg⟩
  unfold code
  rw [hg]
theorem next_comm {T : List Tt} (hs : Srt T) {a b : Ln} (h : a.key ≠ b.key) : next (next T a) b = next (next T b) a := by
  have h1 := (code_other hs h).2
  have h2 := (code_other hs h.symm).2
  have sa : Srt (next T a) := srt_ins hs _
  have sb : Srt (next T b) := srt_ins hs _
  refine srt_ext (srt_ins sa _) (srt_ins sb _) fun x => ?_
  show x ∈ ins (next T a) (put (get (next T a) b.key) b) ↔ x ∈ ins (next T b) (put (get (next T b) a.key) a)
  rw [mem_ins sa, mem_ins sb, h1, h2]
  unfold next
  rw [mem_ins hs, mem_ins hs]
  simp only [put_key, get_key]
  constructor
  · rintro (rfl | ⟨rfl | ⟨h3, h4⟩, h5⟩)
    · exact .inr ⟨.inl rfl, by rw [put_key, get_key]; exact h.symm⟩
    · exact .inl rfl
    · exact .inr ⟨.inr ⟨h3, h5⟩, h4⟩
  · rintro (rfl | ⟨rfl | ⟨h3, h4⟩, h5⟩)
    · exact .inr ⟨.inl rfl, by rw [put_key, get_key]; exact h⟩
    · exact .inl rfl
    · exact .inr ⟨.inr ⟨h3, h5⟩, h4⟩
theorem addC_zero {T : List Tt} {l : Ln} (h : addC T l = 0) : okT none T = true ∧ okL l = true ∧ code T l = 0 ∧ addT T l = next T l := by
  have ht : addT T l = next T l := by unfold addT; rw [if_pos h]
  unfold addC at h
  cases h1 : okT none T with
  | false => rw [h1, Bool.false_and, if_neg (by decide)] at h; exact absurd h (by decide)
  | true =>
    cases h2 : okL l with
    | false => rw [h1, h2, Bool.and_false, if_neg (by decide)] at h; exact absurd h (by decide)
    | true =>
      rw [h1, h2] at h
      exact ⟨rfl, rfl, h, ht⟩
theorem addC_next {T : List Tt} {a b : Ln} (h : a.key ≠ b.key) (ha : addC T a = 0) (hb : addC T b = 0) : addC (addT T a) b = 0 ∧ addT (addT T a) b = next (next T a) b := by
  obtain ⟨h1, h2, h3, h4⟩ := addC_zero ha
  obtain ⟨_, h6, h7, _⟩ := addC_zero hb
  have hT := okT_iff.1 h1
  have h8 : okT none (next T a) = true := okT_iff.2 ⟨srt_ins hT.1 _, next_in hT.1 hT.2 h2 h3⟩
  have h9 : addC (next T a) b = 0 := by
    unfold addC
    rw [h8, h6, (code_other hT.1 h).1, h7]
    rfl
  rw [h4]
  exact ⟨h9, by unfold addT; rw [if_pos h9]⟩
theorem addT_small {T : List Tt} {l : Ln} : ∀ x ∈ addT T l, x.key.size ≤ 16 := by
  intro x hx
  by_cases h : addC T l = 0
  · obtain ⟨h1, h2, h3, h4⟩ := addC_zero h
    have hT := okT_iff.1 h1
    rw [h4] at hx
    exact nm_le (next_in hT.1 hT.2 h2 h3 x hx).2
  · unfold addT at hx
    rw [if_neg h] at hx
    cases hx
theorem addT_len (T : List Tt) (l : Ln) : (addT T l).length ≤ T.length + 1 := by
  unfold addT
  split
  · exact (ins_len T _).1
  · simp
theorem addT_none {T : List Tt} {l : Ln} (h : addC T l ≠ 0) : addT T l = [] := by unfold addT; rw [if_neg h]
theorem less_most (l : List Tt) : (less l).length ≤ 30 := by unfold less; rw [List.length_map, List.length_take]; omega
end Bo
theorem add_rd {w : World} {base : Nat} {B : Option Addr} {c : Nat} {T : List Bo.Tt} {l : Bo.Ln} (h : OwnC 4 w base 46 B (Bo.addT T l).length c (Bo.tflat (Bo.addT T l))) : RdT w B (Bo.addT T l).length (Bo.addT T l) :=
  ⟨rfl, h.rd, fun x hx => by have := Bo.addT_small x hx; omega⟩
/-- Two lines, where they lie. -/
theorem RdL.two {w : World} {A : Option Addr} {x y : Bo.Ln} (h : RdL w A 2 [x, y]) : ∃ b o, A = some ⟨b, o, none⟩ ∧ b < w.heap.size ∧ ∀ w', Below w.heap.size w w' → (w'.cell? ⟨b, o, none⟩ = some (.int .i64 x.kind) ∧ w'.cell? ⟨b, o + 1, none⟩ = some (.string x.key) ∧ w'.cell? ⟨b, o + 2, none⟩ = some (.int .i64 x.n)) ∧ w'.cell? ⟨b, o + 3, none⟩ = some (.int .i64 y.kind) ∧ w'.cell? ⟨b, o + 4, none⟩ = some (.string y.key) ∧ w'.cell? ⟨b, o + 5, none⟩ = some (.int .i64 y.n) := by
  obtain ⟨b, o, rfl, hb, hc⟩ := h.2.1.2 (by decide)
  exact ⟨b, o, rfl, hb, fun w' hw => ⟨⟨(hw.cell hb).trans (hc 0 _ rfl), (hw.cell hb).trans (hc 1 _ rfl), (hw.cell hb).trans (hc 2 _ rfl)⟩, (hw.cell hb).trans (hc 3 _ rfl), (hw.cell hb).trans (hc 4 _ rfl), (hw.cell hb).trans (hc 5 _ rfl)⟩⟩
theorem RdL.below {w w' : World} {A : Option Addr} {n : Nat} {l : List Bo.Ln} (h : RdL w A n l) (hb : Below w.heap.size w w') : RdL w' A n l := ⟨h.1, h.2.1.below hb, h.2.2⟩
end Go.Proofs.Ytcoekdfmfjglpaa
