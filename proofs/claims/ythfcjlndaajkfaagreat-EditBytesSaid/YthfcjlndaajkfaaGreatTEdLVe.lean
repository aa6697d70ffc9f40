/- The statement's version: not many more logs and tables than are looked at. -/
import Derived.Test.YthfcjlndaajkfaaGreatTEdLTa
import Derived.Test.YthfcjlndaajkfaaGreatG09
import Derived.Test.YthfcjlndaajkfaaGreatTHeldS
namespace Go.Proofs.YthfcjlndaajkfaaGreat
open Go.RowKit
set_option linter.unusedVariables false
set_option linter.unusedSimpArgs false
namespace Ed
def cutL (x : Lg × List (Int × Int)) : Lg × List (Int × Int) := (⟨x.1.id, x.1.ep, x.1.P, min x.1.pn 66, x.1.pc, x.1.se⟩, x.2.take 66)
def cutT (x : Pk.Tb × List (Int × Int)) : Pk.Tb × List (Int × Int) := (⟨x.1.id, x.1.ep, x.1.P, min x.1.pn 66, x.1.pc, x.1.sz, x.1.lv, x.1.ct, x.1.lo.extract 0 (min x.1.lo.size 70), x.1.hi.extract 0 (min x.1.hi.size 70), x.1.tp⟩, x.2.take 66)
end Ed
/-- What the statement's version gives: the same numbers, some logs and tables. -/
def GivesVer (w : World) (nx sq : Int) (n m : Nat) (L : List (Ed.Lg × List (Int × Int))) (M : List (Pk.Tb × List (Int × Int))) (e : Ending) (w' : World) : Prop :=
  ∃ (A' : Option Addr) (c' : Nat) (B' : Option Addr) (d' : Nat), e = .returned (.agg #[.int .i64 nx, .int .i64 sq, .slice A' (min n 34) c', .slice B' (min m 130) d']) ∧ RdLs w' A' (min n 34) ((L.take 34).map Ed.cutL) ∧ RdTs w' B' (min m 130) ((M.take 130).map Ed.cutT) ∧ Below w.heap.size w w' ∧ OwnC 4 w' w.heap.size 62 A' (min n 34) c' (Ed.lflat ((L.take (min n 34)).map fun x => (Ed.cutL x).1)) ∧ OwnC 9 w' w.heap.size 35 B' (min m 130) d' (Pk.flat ((M.take (min m 130)).map fun x => (Ed.cutT x).1))
theorem take_min {α : Type} {l : List α} {n k : Nat} (h : l.length = n) : l.take (min n k) = l.take k := by
  by_cases hk : n ≤ k
  · rw [Nat.min_eq_left hk, List.take_of_length_le (by omega), List.take_of_length_le (by omega)]
  · rw [Nat.min_eq_right (by omega)]
end Go.Proofs.YthfcjlndaajkfaaGreat
