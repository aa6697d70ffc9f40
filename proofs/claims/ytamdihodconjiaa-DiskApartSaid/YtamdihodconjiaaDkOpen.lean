/- An op that came in. -/
import Derived.Test.YtamdihodconjiaaIns
import Derived.Test.YtamdihodconjiaaDkNil
import Derived.Lib.SmallJoins
namespace Go.Proofs.Ytamdihodconjiaa
open Go.ChangeShapes Go.WideShapes Go.ChangeAt Go.RowKit Go.Joins Go.Deep
theorem array8 {α : Type} {cs : Array α} (h : cs.size = 8) : ∃ c0 c1 c2 c3 c4 c5 c6 c7, cs = #[c0, c1, c2, c3, c4, c5, c6, c7] := by
  obtain ⟨l⟩ := cs
  match l, h with
  | [c0, c1, c2, c3, c4, c5, c6, c7], _ => exact ⟨c0, c1, c2, c3, c4, c5, c6, c7, rfl⟩
section
variable {H : Type} {enc : TypeId × Value → H} {W : World} {base : Nat} {v : Value} {d : DataW H} {p : List MemPlace}
theorem one_int {t : TypeId} (hu : Try.prog.underlying t = some (.int .i64)) {f : Nat} {c : Value} {y : DataW H × List MemPlace} {sp : Nat → Bool} {hd : Bool} (h : DataW.trod enc Try.prog W 0 sp hd f t [c] = some y) : ∃ n : Int, c = .int .i64 n ∧ -9223372036854775808 ≤ n ∧ n ≤ 9223372036854775807 := by
  obtain ⟨a, e0, _, wa⟩ := DataW.trod_int hu h
  simp at e0
  exact ⟨a, e0, i64_in wa⟩
set_option maxRecDepth 100000 in
set_option maxHeartbeats 2000000 in
theorem open_agg8 {spare : Nat → Bool} {held : Bool} {r : Reach} {b0 : Nat} {t : TypeId} {f0 f1 f2 f3 f4 f5 f6 f7 : Field} (hs : Try.prog.underlying t = some (.struct #[f0, f1, f2, f3, f4, f5, f6, f7])) (hone : oneCellFields Try.prog #[f0, f1, f2, f3, f4, f5, f6, f7] = true) (hC : Try.prog.cellsOf t = 8)
    (hv : Value.okWide Try.prog W r b0 t v) (h : DataW.Trod enc Try.prog W 0 spare held t v d p) :
    ∃ (v0 v1 v2 v3 v4 v5 v6 v7 : Value) (y1 y4 y5 y6 : DataW H × List MemPlace) (n : Nat), v = .agg #[v0, v1, v2, v3, v4, v5, v6, v7] ∧ DataW.trod enc Try.prog W 0 spare held n f1.type [v1] = some y1 ∧ DataW.trod enc Try.prog W 0 spare held n f4.type [v4] = some y4 ∧ DataW.trod enc Try.prog W 0 spare held n f5.type [v5] = some y5 ∧ DataW.trod enc Try.prog W 0 spare held n f6.type [v6] = some y6 := by
  obtain ⟨cs, rfl, hsz⟩ := okWide_struct hs hv
  obtain ⟨v0, v1, v2, v3, v4, v5, v6, v7, rfl⟩ := array8 (hsz.trans hC)
  obtain ⟨fuel, hf⟩ := h
  obtain ⟨xs, n, _, hx, hl, hlen, hf⟩ := DataW.trod_struct hs hf
  obtain ⟨o1, k1⟩ := hone_of hone 1 f1 rfl
  obtain ⟨o4, k4⟩ := hone_of hone 4 f4 rfl
  obtain ⟨o5, k5⟩ := hone_of hone 5 f5 rfl
  obtain ⟨o6, k6⟩ := hone_of hone 6 f6 rfl
  match xs, hlen with
  | [y0, y1, y2, y3, y4, y5, y6, y7], _ => exact ⟨v0, v1, v2, v3, v4, v5, v6, v7, y1, y4, y5, y6, n, rfl, by simpa [Value.cells, o1, k1] using hf 1 f1 rfl, by simpa [Value.cells, o4, k4] using hf 4 f4 rfl, by simpa [Value.cells, o5, k5] using hf 5 f5 rfl, by simpa [Value.cells, o6, k6] using hf 6 f6 rfl⟩
theorem cells_op : Try.prog.cellsOf 38 = 8 := by kernel_rfl
set_option maxRecDepth 100000 in
theorem in_op (hval : Value.okWide Try.prog W .any base 38 v) (h : Reads enc W 38 v d p) : ∃ (x0 : Value) (x1 : Int) (x2 x3 : Value) (x4 x5 x6 : Int) (x7 : Value), v = .agg #[x0, .int .i64 x1, x2, x3, .int .i64 x4, .int .i64 x5, .int .u8 x6, x7] := by
  obtain ⟨v0, v1, v2, v3, v4, v5, v6, v7, _, _, _, _, m, rfl, h1, h4, h5, h6⟩ := open_agg8 Try.underlying38 (by kernel_rfl) cells_op hval h
  obtain ⟨x1, rfl, _⟩ := one_int Try.underlying3 h1
  obtain ⟨x4, rfl, _⟩ := one_int Try.underlying3 h4
  obtain ⟨x5, rfl, _⟩ := one_int Try.underlying3 h5
  obtain ⟨x6, e6, _⟩ := DataW.trod_int Try.underlying5 h6
  simp at e6
  subst e6
  exact ⟨v0, x1, v2, v3, x4, x5, x6, v7, rfl⟩
theorem three_new (w : World) (a b c : Array Value) (ta tb tc : TypeId) : Holds (((w.alloc (.cells a ta)).alloc (.cells b tb)).alloc (.cells c tc)) w.heap.size a.toList ∧ Holds (((w.alloc (.cells a ta)).alloc (.cells b tb)).alloc (.cells c tc)) (w.heap.size + 1) b.toList ∧ Holds (((w.alloc (.cells a ta)).alloc (.cells b tb)).alloc (.cells c tc)) (w.heap.size + 1 + 1) c.toList ∧ Below w.heap.size w (((w.alloc (.cells a ta)).alloc (.cells b tb)).alloc (.cells c tc)) := by
  have e1 : (w.alloc (.cells a ta)).heap.size = w.heap.size + 1 := by simp
  have e2 : ((w.alloc (.cells a ta)).alloc (.cells b tb)).heap.size = w.heap.size + 1 + 1 := by simp
  refine ⟨((Holds.new w a ta).alloc _).alloc _, ?_, ?_, (((Below.refl _ _).alloc (Nat.le_refl _) _).alloc (by omega) _).alloc (by omega) _⟩
  · have h := (Holds.new (w.alloc (.cells a ta)) b tb).alloc (.cells c tc)
    rw [e1] at h
    exact h
  · have h := Holds.new ((w.alloc (.cells a ta)).alloc (.cells b tb)) c tc
    rw [e2] at h
    exact h
end
end Go.Proofs.Ytamdihodconjiaa
