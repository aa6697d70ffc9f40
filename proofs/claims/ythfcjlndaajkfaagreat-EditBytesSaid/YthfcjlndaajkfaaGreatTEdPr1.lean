/- Rows of edits cut in two; what stays while Apply is called; two operations that may come up. -/
import Derived.Test.YthfcjlndaajkfaaGreatTEdLEd
import Derived.Test.YthfcjlndaajkfaaGreatTEdApply
import Derived.Test.YthfcjlndaajkfaaGreatTHeldS
namespace Go.Proofs.YthfcjlndaajkfaaGreat
open Go.RowKit
set_option linter.unusedVariables false
section
variable {P : Program} {ops : Array Oper} {Q : Exit → Act → World → Prop} {md : Region.Mode} {S T : World → Prop} {t : Nat}
theorem wpAnyT_two {i j : Nat} {oi oj : Oper} {fuel : Nat} {listed : Array Bool} {a : Act} {w : World} (hr : Region.ready md ops listed = [i, j]) (ho : ops[i]? = some oi) (hj : ops[j]? = some oj)
    (h1 : ∀ K' : Act → World → Prop, Shut (∀ a w, S w → ((listed.setIfInBounds i true).getD t true = false → T w) → wpAnyT P md ops Q S T t fuel (listed.setIfInBounds i true) a w → K' a w) → if Region.wanted oi (yielded ops a.tmps) = true then Oper.wp P oi a w K' Q else K' (a.put oi.dst undef) w)
    (h2 : ∀ K' : Act → World → Prop, Shut (∀ a w, S w → ((listed.setIfInBounds j true).getD t true = false → T w) → wpAnyT P md ops Q S T t fuel (listed.setIfInBounds j true) a w → K' a w) → if Region.wanted oj (yielded ops a.tmps) = true then Oper.wp P oj a w K' Q else K' (a.put oj.dst undef) w) :
    wpAnyT P md ops Q S T t (fuel + 1) listed a w := by
  refine ⟨fun h0 => (by rw [hr] at h0; cases h0), fun q hq => ?_⟩
  rw [hr] at hq
  rcases List.mem_cons.1 hq with rfl | hq
  · exact wpOp_step ho (fun K' hK => h1 K' (fun a w hS hT hW => hK a w ⟨⟨hS, hT⟩, hW⟩))
  · obtain rfl := List.mem_singleton.1 hq
    exact wpOp_step hj (fun K' hK => h2 K' (fun a w hS hT hW => hK a w ⟨⟨hS, hT⟩, hW⟩))
end
/-- A row of edits from its f-th on. -/
def behindE (A : Option Addr) (c f : Nat) : Option Addr := if c = f then A else A.map (·.add (f * 15))
theorem Ed.eflat_take (l : List Ed.Er) (k : Nat) : Ed.eflat (l.take k) = (Ed.eflat l).take (k * 15) := by
  induction l generalizing k with
  | nil => simp [Ed.eflat]
  | cons x r ih =>
    cases k with
    | zero => simp [Ed.eflat]
    | succ k =>
      have h2 := ih k
      unfold Ed.eflat at h2 ⊢
      rw [List.take_succ_cons, List.flatMap_cons, List.flatMap_cons, h2, List.take_append, show (Ed.Er.cells x).length = 15 from rfl, show (Ed.Er.cells x).take ((k + 1) * 15) = Ed.Er.cells x from List.take_of_length_le (by show 15 ≤ (k + 1) * 15; omega), show (k + 1) * 15 - 15 = k * 15 by omega]
theorem Ed.eflat_drop (l : List Ed.Er) (k : Nat) : Ed.eflat (l.drop k) = (Ed.eflat l).drop (k * 15) := by
  induction l generalizing k with
  | nil => simp [Ed.eflat]
  | cons x r ih =>
    cases k with
    | zero => simp
    | succ k =>
      have h2 := ih k
      unfold Ed.eflat at h2 ⊢
      rw [List.drop_succ_cons, List.flatMap_cons, h2, List.drop_append, show (Ed.Er.cells x).length = 15 from rfl, show (Ed.Er.cells x).drop ((k + 1) * 15) = [] from List.drop_of_length_le (by show 15 ≤ (k + 1) * 15; omega), show (k + 1) * 15 - 15 = k * 15 by omega]
      rfl
theorem RdEs.take {w : World} {A : Option Addr} {n k : Nat} {E : List Ed.Ex} (h : RdEs w A n E) (hk : k ≤ n) : RdEs w A k (E.take k) := by
  refine ⟨by rw [List.length_take, h.1]; omega, ?_, fun x hx => h.2.2 x (List.mem_of_mem_take hx)⟩
  rw [List.map_take, Ed.eflat_take]
  exact h.2.1.take hk
theorem RdEs.from_ {w : World} {A : Option Addr} {n c k : Nat} {E : List Ed.Ex} (h : RdEs w A n E) (hk : k ≤ n) (hc : n ≤ c) : RdEs w (behindE A c k) (n - k) (E.drop k) := by
  refine ⟨by rw [List.length_drop, h.1], ?_, fun x hx => h.2.2 x (List.mem_of_mem_drop hx)⟩
  rw [List.map_drop, Ed.eflat_drop]
  refine ⟨by rw [List.length_drop, h.2.1.1, Nat.sub_mul], fun hm => ?_⟩
  obtain ⟨b, o, rfl, hb, hcl⟩ := h.2.1.2 (by omega)
  refine ⟨b, o + k * 15, ?_, hb, fun j x hx => ?_⟩
  · unfold behindE
    rw [if_neg (by omega)]
    simp only [Option.map_some, Addr.add]
    split
    · rename_i e; rw [e, Nat.add_zero]
    · rfl
  · rw [List.getElem?_drop] at hx
    have := hcl _ _ hx
    rwa [← Nat.add_assoc] at this
/-- What stays while Apply is called: the version's box, the rows that were handed in. -/
structure Prt (w : World) (nx sq : Int) (A' : Option Addr) (n' c' : Nat) (B' : Option Addr) (m' d' : Nat) (Q : Option Addr) (q' qc : Nat) (l1 l2 l3 : List Value) (W : World) : Prop where
  box : Holds W w.heap.size [.int .i64 nx, .int .i64 sq, .slice A' n' c', .slice B' m' d']
  ol : OwnC 4 W (w.heap.size + 1) 62 A' n' c' l1
  ot : OwnC 9 W (w.heap.size + 1) 35 B' m' d' l2
  oe : OwnC 15 W (w.heap.size + 1) 37 Q q' qc l3
  bel : Below w.heap.size w W
theorem Prt.below {w : World} {nx sq : Int} {A' : Option Addr} {n' c' : Nat} {B' : Option Addr} {m' d' : Nat} {Q : Option Addr} {q' qc : Nat} {l1 l2 l3 : List Value} {W W' : World} (h : Prt w nx sq A' n' c' B' m' d' Q q' qc l1 l2 l3 W) (hb : Below W.heap.size W W') : Prt w nx sq A' n' c' B' m' d' Q q' qc l1 l2 l3 W' :=
  ⟨h.box.below hb, h.ol.below hb, h.ot.below hb, h.oe.below hb, below_next h.bel hb⟩
end Go.Proofs.YthfcjlndaajkfaaGreat
