/- Accounts and holds that came in. -/
import Derived.Test.YtionaciiaahacaaInInt
import Derived.Test.YtionaciiaahacaaAccRef
import Derived.Lib.SmallJoins
namespace Go.Proofs.Ytionaciiaahacaa
open Go.ChangeShapes Go.WideShapes Go.ChangeAt Go.RowKit Go.Joins
section
variable {H : Type} {enc : TypeId × Value → H} {W : World} {base : Nat} {v : Value} {d : DataW H} {p : List MemPlace}
theorem cells_acc : Try.prog.cellsOf 23 = 3 := by kernel_rfl
theorem cells_hold : Try.prog.cellsOf 25 = 2 := by kernel_rfl
theorem one_int {f : Nat} {c : Value} {y : DataW H × List MemPlace} {sp : Nat → Bool} {hd : Bool} (h : DataW.trod enc Try.prog W 0 sp hd f 3 [c] = some y) : ∃ n : Int, c = .int .i64 n ∧ -9223372036854775808 ≤ n ∧ n ≤ 9223372036854775807 := by
  obtain ⟨a, e0, _, wa⟩ := DataW.trod_int Try.underlying3 h
  simp at e0
  exact ⟨a, e0, i64_in wa⟩
theorem in_acc (hval : Value.okWide Try.prog W .any base 23 v) (h : Reads enc W 23 v d p) : ∃ f h' q : Int, v = acc f h' q := by
  obtain ⟨v0, v1, v2, y0, y1, y2, m, rfl, _, _, h0, h1, h2⟩ := open_agg3 Try.underlying23 (by kernel_rfl) cells_acc hval h
  obtain ⟨a, rfl, _⟩ := one_int h0
  obtain ⟨b, rfl, _⟩ := one_int h1
  obtain ⟨c, rfl, _⟩ := one_int h2
  exact ⟨a, b, c, rfl⟩
theorem in_hold (hval : Value.okWide Try.prog W .any base 25 v) (h : Reads enc W 25 v d p) : ∃ n u : Int, v = hold n u := by
  obtain ⟨v0, v1, y0, y1, m, rfl, _, _, h0, h1⟩ := open_agg2 Try.underlying25 (by kernel_rfl) cells_hold hval h
  obtain ⟨a, rfl, _⟩ := one_int h0
  obtain ⟨b, rfl, _⟩ := one_int h1
  exact ⟨a, b, rfl⟩
end
end Go.Proofs.Ytionaciiaahacaa
