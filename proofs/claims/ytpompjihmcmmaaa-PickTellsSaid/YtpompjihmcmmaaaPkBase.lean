/- Tables of a version: rows of them; which keys are ahead; which tables meet a range. -/
import Derived.Test.YtpompjihmcmmaaaRowC
import Derived.Test.YtpompjihmcmmaaaHolds
import Derived.Test.YtpompjihmcmmaaaStepV
namespace Go.Proofs.Ytpompjihmcmmaaa
open Go.RowKit
namespace Pk
/-- A table. -/
structure Tb where
  id : Int
  ep : Int
  P : Option Addr
  pn : Nat
  pc : Nat
  sz : Int
  lv : Int
  ct : Int
  lo : ByteArray
  hi : ByteArray
  tp : Int
def Tb.cells (t : Tb) : List Value := [.int .i64 t.id, .int .i64 t.ep, .slice t.P t.pn t.pc, .int .i64 t.sz, .int .i64 t.lv, .int .i64 t.ct, .string t.lo, .string t.hi, .int .i64 t.tp]
def flat (l : List Tb) : List Value := l.flatMap Tb.cells
theorem flatMap_at {α : Type} {f : α → List Value} {s : Nat} (hs : ∀ x, (f x).length = s) {j : Nat} {v : Value} : ∀ {l : List α} {k : Nat} {x : α}, l[k]? = some x → (f x)[j]? = some v → (l.flatMap f)[k * s + j]? = some v
  | [], k, x, h, _ => by cases h
  | y :: ys, k, x, h, hj => by
    rw [List.flatMap_cons]
    have hjs : j < s := by rw [← hs x]; exact (List.getElem?_eq_some_iff.1 hj).1
    cases k with
    | zero =>
      have h : y = x := by simpa using h
      subst h
      rw [Nat.zero_mul, Nat.zero_add, List.getElem?_append_left (by rw [hs]; exact hjs)]
      exact hj
    | succ k =>
      rw [List.getElem?_append_right (by rw [hs, Nat.succ_mul]; omega), hs, show (k + 1) * s + j - s = k * s + j by rw [Nat.succ_mul]; omega]
      exact flatMap_at hs (by simpa using h) hj
theorem flatMap_length {α : Type} {f : α → List Value} {s : Nat} (hs : ∀ x, (f x).length = s) : ∀ l : List α, (l.flatMap f).length = l.length * s
  | [] => by simp
  | y :: ys => by rw [List.flatMap_cons, List.length_append, hs, flatMap_length hs ys, List.length_cons, Nat.succ_mul]; omega
theorem flat_append (a b : List Tb) : flat (a ++ b) = flat a ++ flat b := by unfold flat; rw [List.flatMap_append]
theorem cells_one (x : Tb) : ∀ u ∈ Tb.cells x, u.oneCell' = true := by
  intro u hu
  simp only [Tb.cells, List.mem_cons, List.not_mem_nil, or_false] at hu
  rcases hu with rfl | rfl | rfl | rfl | rfl | rfl | rfl | rfl | rfl <;> rfl
/-- Numbers and texts as a machine has them. -/
def Tb.fits (t : Tb) : Prop := t.lo.size ≤ 9223372036854775807 ∧ t.hi.size ≤ 9223372036854775807 ∧ (-9223372036854775808 ≤ t.lv ∧ t.lv ≤ 9223372036854775807) ∧ (-9223372036854775808 ≤ t.ct ∧ t.ct ≤ 9223372036854775807) ∧ (-9223372036854775808 ≤ t.id ∧ t.id ≤ 9223372036854775807)
/-- A key's bytes. -/
def kb (s : ByteArray) : List UInt8 := s.data.toList
theorem kb_inj {s t : ByteArray} (h : kb s = kb t) : s = t := by
  cases s; cases t
  simp [kb] at h
  rw [h]
theorem bytesLess_lt : ∀ x y : List UInt8, Op.bytesLess x y = decide (x < y)
  | [], [] => by simp [Op.bytesLess]
  | _ :: _, [] => by simp [Op.bytesLess]
  | [], _ :: _ => by simp [Op.bytesLess]
  | a :: x, b :: y => by
    rw [Op.bytesLess, bytesLess_lt x y]
    by_cases h1 : a < b
    · simp [h1, List.cons_lt_cons_iff]
    · by_cases h2 : a = b
      · subst h2; simp [h1]
      · have h3 : (a == b) = false := beq_eq_false_iff_ne.2 h2
        simp [h1, h2, h3, List.cons_lt_cons_iff]
/-- Is a key ahead of another? -/
def lt (a b : ByteArray) : Bool := Op.bytesLess a.toList b.toList
theorem lt_iff (a b : ByteArray) : lt a b = true ↔ kb a < kb b := by
  unfold lt
  rw [ByteArray.toList_eq, ByteArray.toList_eq, bytesLess_lt]
  exact decide_eq_true_iff
/-- '<=' on texts, as the walk has it. -/
theorem le_eq (a b : ByteArray) : (Op.bytesLess a.toList b.toList || a.toList == b.toList) = !lt b a := by
  have h1 := lt_iff a b
  have h2 := lt_iff b a
  unfold lt at h1 h2 ⊢
  by_cases e : a = b
  · subst e
    have h3 : Op.bytesLess a.toList a.toList = false := by
      cases h : Op.bytesLess a.toList a.toList with
      | false => rfl
      | true => exact absurd (h1.1 h) (List.lt_irrefl _)
    rw [h3]; simp
  · have h3 : (a.toList == b.toList) = false := by
      rw [beq_eq_false_iff_ne]
      intro h
      apply e
      rw [ByteArray.toList_eq, ByteArray.toList_eq] at h
      exact kb_inj h
    rw [h3, Bool.or_false]
    cases h4 : Op.bytesLess b.toList a.toList with
    | true =>
      have h5 := h2.1 h4
      cases h6 : Op.bytesLess a.toList b.toList with
      | false => rfl
      | true => exact absurd (List.lt_trans (h1.1 h6) h5) (List.lt_irrefl _)
    | false =>
      cases h6 : Op.bytesLess a.toList b.toList with
      | true => rfl
      | false =>
        have h7 : kb b ≤ kb a := List.not_lt.1 (fun h => by rw [h1.2 h] at h6; cases h6)
        have h8 : kb a ≤ kb b := List.not_lt.1 (fun h => by rw [h2.2 h] at h4; cases h4)
        exact absurd (kb_inj (List.le_antisymm h8 h7)) e
/-- Does a table meet a range? -/
def meets (t : Tb) (low high : ByteArray) : Bool := !lt t.hi low && !lt high t.lo
end Pk
/-- A slice that reads as tables. -/
def RdTb (w : World) (A : Option Addr) (n : Nat) (l : List Pk.Tb) : Prop := l.length = n ∧ RdC 9 w A n (Pk.flat l) ∧ ∀ x ∈ l, x.fits
theorem RdTb.at_ {w : World} {A : Option Addr} {n k : Nat} {l : List Pk.Tb} {x : Pk.Tb} (h : RdTb w A n l) (hx : l[k]? = some x) : ∃ b o, A = some ⟨b, o, none⟩ ∧ b < w.heap.size ∧ ∀ j u, x.cells[j]? = some u → w.cell? ⟨b, o + (k * 9 + j), none⟩ = some u := by
  have hk : k < n := by rw [← h.1]; exact (List.getElem?_eq_some_iff.1 hx).1
  obtain ⟨b, o, rfl, hb, hc⟩ := h.2.1.2 (by omega)
  exact ⟨b, o, rfl, hb, fun j u hu => hc _ u (Pk.flatMap_at (f := Pk.Tb.cells) (s := 9) (fun _ => rfl) hx hu)⟩
theorem RdTb.below {w w' : World} {A : Option Addr} {n : Nat} {l : List Pk.Tb} (h : RdTb w A n l) (hb : Below w.heap.size w w') : RdTb w' A n l := ⟨h.1, h.2.1.below hb, h.2.2⟩
/-- The nine cells of one. -/
theorem RdTb.nine {w : World} {A : Option Addr} {n k : Nat} {l : List Pk.Tb} {x : Pk.Tb} (h : RdTb w A n l) (hx : l[k]? = some x) : ∃ b o, A = some ⟨b, o, none⟩ ∧ b < w.heap.size ∧ ∀ w', Below w.heap.size w w' →
    w'.cell? ⟨b, o + k * 9, none⟩ = some (.int .i64 x.id) ∧ w'.cell? ⟨b, o + k * 9 + 1, none⟩ = some (.int .i64 x.ep) ∧ w'.cell? ⟨b, o + k * 9 + 2, none⟩ = some (.slice x.P x.pn x.pc) ∧ w'.cell? ⟨b, o + k * 9 + 3, none⟩ = some (.int .i64 x.sz) ∧ w'.cell? ⟨b, o + k * 9 + 4, none⟩ = some (.int .i64 x.lv) ∧ w'.cell? ⟨b, o + k * 9 + 5, none⟩ = some (.int .i64 x.ct) ∧ w'.cell? ⟨b, o + k * 9 + 6, none⟩ = some (.string x.lo) ∧ w'.cell? ⟨b, o + k * 9 + 7, none⟩ = some (.string x.hi) ∧ w'.cell? ⟨b, o + k * 9 + 8, none⟩ = some (.int .i64 x.tp) := by
  obtain ⟨b, o, rfl, hb, hc⟩ := h.at_ hx
  exact ⟨b, o, rfl, hb, fun w' hw => ⟨(hw.cell hb).trans (hc 0 _ rfl), (hw.cell hb).trans (hc 1 _ rfl), (hw.cell hb).trans (hc 2 _ rfl), (hw.cell hb).trans (hc 3 _ rfl), (hw.cell hb).trans (hc 4 _ rfl), (hw.cell hb).trans (hc 5 _ rfl), (hw.cell hb).trans (hc 6 _ rfl), (hw.cell hb).trans (hc 7 _ rfl), (hw.cell hb).trans (hc 8 _ rfl)⟩⟩
end Go.Proofs.Ytpompjihmcmmaaa
