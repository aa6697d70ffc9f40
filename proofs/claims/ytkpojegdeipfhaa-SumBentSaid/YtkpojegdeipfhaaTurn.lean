/- Plain mathematics: a turned bit and a burst of turned bits. -/
import Derived.Test.YtkpojegdeipfhaaSet
namespace Go.Proofs.Ytkpojegdeipfhaa
open Go.RowKit
namespace Cr
/-- What a turned byte turns. -/
theorem run_set (l : List Nat) (q x m r : Nat) (h : l[q]? = some x) : run r (l.set q (x ^^^ m)) = run r l ^^^ steps (8 * (l.length - q)) m := by
  induction l generalizing q r with
  | nil => simp at h
  | cons y t ih =>
    cases q with
    | zero =>
      simp only [List.getElem?_cons_zero, Option.some.injEq] at h
      subst h
      show run (inB r (y ^^^ m)) t = run (inB r y) t ^^^ _
      have e : inB r (y ^^^ m) = steps 8 m ^^^ inB r y := by
        unfold inB
        rw [← steps_xor]
        congr 1
        rw [← Nat.xor_assoc, Nat.xor_comm (r ^^^ y) m]
      rw [e, run_lin, ← steps_add, Nat.xor_comm]
      congr 2
      rw [List.length_cons]; omega
    | succ q =>
      show run (inB r y) (t.set q (x ^^^ m)) = run (inB r y) t ^^^ _
      rw [ih q _ (by simpa using h)]
      congr 2
      rw [List.length_cons]; omega
theorem more_set (l : List Nat) (q x m : Nat) (h : l[q]? = some x) : more 0 (l.set q (x ^^^ m)) = more 0 l ^^^ steps (8 * (l.length - q)) m := by
  unfold more
  rw [run_set l q x m _ h, Nat.xor_assoc, Nat.xor_comm (steps _ _), ← Nat.xor_assoc]
end Cr
theorem Own.form {w : World} {base n cap : Nat} {A : Option Addr} {l : List Nat} (h : Own w base A n cap l) (hn : 0 < n) : ∃ g, A = some ⟨g, 0, none⟩ ∧ base ≤ g ∧ g < w.heap.size := by
  rcases h.2.2.2 with ⟨hv, h0⟩ | ⟨g, c, cur, hv, hb, hg, _⟩
  · omega
  · injection hv with hA _ _
    exact ⟨g, hA, hb, (Array.getElem?_eq_some_iff.1 hg).1⟩
/-- append onto a new, empty slice. -/
theorem Grew.fresh {w w1 : World} {A1 : Option Addr} {n cap1 : Nat} {l : List Nat} (h : Grew (w.alloc (.cells #[] 5)) w1 w.heap.size (some ⟨w.heap.size, 0, none⟩) A1 0 0 (0 + n) cap1 ([] ++ l)) : Below w.heap.size w w1 ∧ Own w1 w.heap.size A1 n cap1 l := by
  refine ⟨h.below ((Below.refl _ _).alloc (Nat.le_refl _) _) (by simp) (fun g hg => by simp [Value.ownBlock] at hg; omega), ?_⟩
  have := h.own
  rw [Nat.zero_add, List.nil_append] at this
  exact this
theorem Own.empty (w : World) : Own (w.alloc (.cells #[] 5)) w.heap.size (some ⟨w.heap.size, 0, none⟩) 0 0 [] := Own.lit (base := w.heap.size) w [] (by simp) (Nat.le_refl _) (by simp)
theorem size_alloc_le (w : World) (o : Obj) : w.heap.size ≤ (w.alloc o).heap.size := by simp
theorem len20_small {n : Nat} (h : n ≤ 1048576) : len20 (n : Int) = n := by unfold len20; split <;> (try split) <;> omega
theorem bentN_in {n p : Nat} (hn : n ≤ 1048576) (hp : p < 8 * n) : bentN (n : Int) (p : Int) = Cr.steps (8 * (n - p / 8)) (2 ^ (p % 8)) := by
  unfold bentN
  rw [len20_small hn, if_neg (by omega), Int.toNat_natCast]
end Go.Proofs.Ytkpojegdeipfhaa
