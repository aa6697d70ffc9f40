/- A byte of a slice that the call owns is written; make of bytes; a region that draws its order and keeps what was there. -/
import Derived.Test.YtkpojegdeipfhaaLin
import Derived.BigRegion
import Derived.RegionTactic
import Derived.Deep.QuietTactic
import Derived.BigQuiet
import Derived.Deep.RegionWith
namespace Go.Proofs.Ytkpojegdeipfhaa
open Go.RowKit
theorem Own.set {w : World} {base n cap g : Nat} {l : List Nat} (h : Own w base (some ⟨g, 0, none⟩) n cap l) (j y : Nat) (hy : y < 256) : Own (w.setCell ⟨g, j, none⟩ (.int .u8 (y : Int))) base (some ⟨g, 0, none⟩) n cap (l.set j y) := by
  refine ⟨by rw [List.length_set]; exact h.1, fun x hx => ?_, ?_⟩
  · rcases List.mem_or_eq_of_mem_set hx with h1 | h1
    · exact h.2.1 x h1
    · omega
  · have e : bv (l.set j y) = (bv l).set j (.int .u8 (y : Int)) := by unfold bv; rw [List.map_set]
    rw [e]
    exact (h.2.2.stored j _).1
theorem Own.cell {w : World} {base n cap g : Nat} {l : List Nat} (h : Own w base (some ⟨g, 0, none⟩) n cap l) {j x : Nat} (hx : l[j]? = some x) : w.cell? ⟨g, j, none⟩ = some (.int .u8 (x : Int)) := by
  have hj : j < n := by have := (List.getElem?_eq_some_iff.1 hx).1; rw [h.1] at this; exact this
  rw [h.2.2.cellAt j (by omega)]
  exact bv_at hx
theorem Own.free {w : World} {base n cap g : Nat} {l : List Nat} (h : Own w base (some ⟨g, 0, none⟩) n cap l) (j : Nat) : w.frozen? ⟨g, j, none⟩ = false := h.2.2.frozenAt j
/-- make of n bytes. -/
theorem make_all (n : Nat) (hn : n ≤ 1000000) : ∀ w : World, (Instr.makeSlice 22 (.int .i64 (n : Int)) (.int .i64 (n : Int))).run Try.prog w = .ok (.slice (some ⟨w.heap.size, 0, none⟩) n n) (w.alloc (.cells (madeCells #[.int .u8 0] n) 5)) := by
  intro w
  obtain ⟨i0, hi, hz0, hz1, hz2⟩ := info_parts info5
  have hr := run_make (P := Try.prog) w 22 5 i0 _ Try.underlying22 hi hz0 .i64 .i64 n n (by omega) (by omega) (by rw [hz2]; omega) (by omega)
  rw [hz1] at hr
  rw [Int.toNat_natCast, Nat.mul_one] at hr
  exact hr
theorem Own.zeros (w : World) (base n : Nat) (hb : base ≤ w.heap.size) (hn : n ≤ 100000000) : Own (w.alloc (.cells (madeCells #[.int .u8 0] n) 5)) base (some ⟨w.heap.size, 0, none⟩) n n (List.replicate n 0) := by
  refine ⟨by simp, fun x hx => by rw [List.eq_of_mem_replicate hx]; omega, ?_⟩
  have h := World.ownsRow_lit (base := base) (e := 5) (size := 1) w (madeCells #[.int .u8 0] n) n hb (by simp only [maxLen]; omega) (by rw [size_madeCells, Nat.mul_one])
  rw [toList_madeCells_one] at h
  have e : bv (List.replicate n 0) = List.replicate n (.int .u8 0) := by simp [bv]
  rw [e]
  exact h
theorem min_four (a b c n : Nat) (hn : n ≤ a ∧ n ≤ b ∧ n ≤ c ∧ n ≤ 2000 ∧ (n = a ∨ n = b ∨ n = c ∨ n = 2000)) (w : World) : (Builtin.min_ #[3, 3, 3, 3] 3 #[.int .i64 (a : Int), .int .i64 (b : Int), .int .i64 (c : Int), .int .i64 2000]).run Try.prog w = .ok (.int .i64 (n : Int)) w := by
  simp [Builtin.min_, Builtin.min2]
  obtain ⟨h1, h2, h3, h4, h5⟩ := hn
  split <;> (try split) <;> (try split) <;> (first | (congr 2; omega) | (congr 1; omega) | omega)
/-- A region that draws its order and whose operations leave a world of the class C: one walk serves every order. -/
theorem region_class {P : Program} {id : Nat} {Q : Exit → Act → World → Prop} {a : Act} {w : World} {l : List Oper} (C : World → Prop) (hm : P.follows .mixedOrders = true) (hB : Region.lexB .any l.toArray = true) (hC : C w.drew)
    (h : wpQuiet P l.toArray C (fun a' => ∀ w', C w' → Q .normal a' w') l a) : (Code.region id l.toArray true).wp P Q a w :=
  wp_region_quiet (C := C) hm hB hC (by simpa using h)
theorem calls_class {P : Program} {f : FuncId} {args : Array Value} {W w : World} {v : Value} (hq : Below W.heap.size W w) (h : Calls P f args w fun e w' => e = .returned v ∧ Below w.heap.size w w') :
    Calls P f args w fun e w' => e = .returned v ∧ Below W.heap.size W w' := h.mono fun _ _ ⟨he, hb⟩ => ⟨he, hq.trans (hb.mono hq.size)⟩
end Go.Proofs.Ytkpojegdeipfhaa
