/- Mails and messages that came in. -/
import Derived.Test.YthganbbiclmgpaaIns
import Derived.Test.YthganbbiclmgpaaMlNet
import Derived.Lib.SmallJoins
namespace Go.Proofs.Ythganbbiclmgpaa
open Go.ChangeShapes Go.WideShapes Go.ChangeAt Go.RowKit Go.Joins Go.Deep
theorem array5 {α : Type} {cs : Array α} (h : cs.size = 5) : ∃ c0 c1 c2 c3 c4, cs = #[c0, c1, c2, c3, c4] := by
  obtain ⟨l⟩ := cs
  match l, h with
  | [c0, c1, c2, c3, c4], _ => exact ⟨c0, c1, c2, c3, c4, rfl⟩
section
variable {H : Type} {enc : TypeId × Value → H} {W : World} {base : Nat} {v : Value} {d : DataW H} {p : List MemPlace}
theorem one_int {t : TypeId} (hu : Try.prog.underlying t = some (.int .i64)) {f : Nat} {c : Value} {y : DataW H × List MemPlace} {sp : Nat → Bool} {hd : Bool} (h : DataW.trod enc Try.prog W 0 sp hd f t [c] = some y) : ∃ n : Int, c = .int .i64 n ∧ -9223372036854775808 ≤ n ∧ n ≤ 9223372036854775807 := by
  obtain ⟨a, e0, _, wa⟩ := DataW.trod_int hu h
  simp at e0
  exact ⟨a, e0, i64_in wa⟩
set_option maxRecDepth 100000 in
theorem one_str {f : Nat} {c : Value} {y : DataW H × List MemPlace} {sp : Nat → Bool} {hd : Bool} (h : DataW.trod enc Try.prog W 0 sp hd f 9 [c] = some y) : ∃ s : ByteArray, c = .string s ∧ s.size ≤ 9223372036854775807 := by
  obtain ⟨a, e0, _, wa⟩ := DataW.trod_string Try.underlying9 h
  simp at e0
  simp only [maxLen] at wa
  exact ⟨a, e0, by omega⟩
set_option maxRecDepth 100000 in
set_option maxHeartbeats 2000000 in
theorem open_agg5 {spare : Nat → Bool} {held : Bool} {r : Reach} {b0 : Nat} {t : TypeId} {f0 f1 f2 f3 f4 : Field} (hs : Try.prog.underlying t = some (.struct #[f0, f1, f2, f3, f4])) (hone : oneCellFields Try.prog #[f0, f1, f2, f3, f4] = true) (hC : Try.prog.cellsOf t = 5)
    (hv : Value.okWide Try.prog W r b0 t v) (h : DataW.Trod enc Try.prog W 0 spare held t v d p) :
    ∃ (v0 v1 v2 v3 v4 : Value) (y0 y1 y2 y3 y4 : DataW H × List MemPlace) (n : Nat), v = .agg #[v0, v1, v2, v3, v4] ∧ DataW.trod enc Try.prog W 0 spare held n f0.type [v0] = some y0 ∧ DataW.trod enc Try.prog W 0 spare held n f1.type [v1] = some y1 ∧ DataW.trod enc Try.prog W 0 spare held n f2.type [v2] = some y2 ∧ DataW.trod enc Try.prog W 0 spare held n f3.type [v3] = some y3 ∧ DataW.trod enc Try.prog W 0 spare held n f4.type [v4] = some y4 := by
  obtain ⟨cs, rfl, hsz⟩ := okWide_struct hs hv
  obtain ⟨v0, v1, v2, v3, v4, rfl⟩ := array5 (hsz.trans hC)
  obtain ⟨fuel, hf⟩ := h
  obtain ⟨xs, n, _, hx, hl, hlen, hf⟩ := DataW.trod_struct hs hf
  obtain ⟨o0, k0⟩ := hone_of hone 0 f0 rfl
  obtain ⟨o1, k1⟩ := hone_of hone 1 f1 rfl
  obtain ⟨o2, k2⟩ := hone_of hone 2 f2 rfl
  obtain ⟨o3, k3⟩ := hone_of hone 3 f3 rfl
  obtain ⟨o4, k4⟩ := hone_of hone 4 f4 rfl
  match xs, hlen with
  | [y0, y1, y2, y3, y4], _ => exact ⟨v0, v1, v2, v3, v4, y0, y1, y2, y3, y4, n, rfl, by simpa [Value.cells, o0, k0] using hf 0 f0 rfl, by simpa [Value.cells, o1, k1] using hf 1 f1 rfl, by simpa [Value.cells, o2, k2] using hf 2 f2 rfl, by simpa [Value.cells, o3, k3] using hf 3 f3 rfl, by simpa [Value.cells, o4, k4] using hf 4 f4 rfl⟩
theorem cells_mail : Try.prog.cellsOf 28 = 3 := by kernel_rfl
set_option maxRecDepth 100000 in
theorem in_mail (hval : Value.okWide Try.prog W .any base 28 v) (h : Reads enc W 28 v d p) : ∃ r : Ml.M, v = .agg (Ml.cells r).toArray ∧ r.s.size ≤ 9223372036854775807 := by
  obtain ⟨v0, v1, v2, y0, y1, y2, m, rfl, _, _, h0, h1, h2⟩ := open_agg3 Try.underlying28 (by kernel_rfl) cells_mail hval h
  obtain ⟨x0, rfl, _⟩ := one_int Try.underlying3 h0
  obtain ⟨x1, rfl, _⟩ := one_int Try.underlying3 h1
  obtain ⟨x2, rfl, l2⟩ := one_str h2
  exact ⟨⟨x0, x1, x2⟩, rfl, l2⟩
theorem cells_msg : Try.prog.cellsOf 59 = 5 := by kernel_rfl
set_option maxRecDepth 100000 in
theorem in_message (hval : Value.okWide Try.prog W .any base 59 v) (h : Reads enc W 59 v d p) : ∃ (x0 x1 x2 : Int) (x3 : ByteArray) (x4 : Int), v = .agg #[.int .i64 x0, .int .i64 x1, .int .i64 x2, .string x3, .int .i64 x4] ∧ x3.size ≤ 9223372036854775807 := by
  obtain ⟨v0, v1, v2, v3, v4, _, _, _, _, _, m, rfl, h0, h1, h2, h3, h4⟩ := open_agg5 Try.underlying59 (by kernel_rfl) cells_msg hval h
  obtain ⟨x0, rfl, _⟩ := one_int Try.underlying57 h0
  obtain ⟨x1, rfl, _⟩ := one_int Try.underlying3 h1
  obtain ⟨x2, rfl, _⟩ := one_int Try.underlying3 h2
  obtain ⟨x3, rfl, l3⟩ := one_str h3
  obtain ⟨x4, rfl, _⟩ := one_int Try.underlying3 h4
  exact ⟨x0, x1, x2, x3, x4, rfl, l3⟩
end
end Go.Proofs.Ythganbbiclmgpaa
