/- Requests, replies and messages that came in; the laws' own short and cut. -/
import Derived.Test.YtonjjihbpeblkaaIns
import Derived.Test.YtonjjihbpeblkaaWrBack
import Derived.Lib.SmallJoins
namespace Go.Proofs.Ytonjjihbpeblkaa
open Go.ChangeShapes Go.WideShapes Go.ChangeAt Go.RowKit Go.Joins Go.Deep
theorem array5 {α : Type} {cs : Array α} (h : cs.size = 5) : ∃ c0 c1 c2 c3 c4, cs = #[c0, c1, c2, c3, c4] := by
  obtain ⟨l⟩ := cs
  match l, h with
  | [c0, c1, c2, c3, c4], _ => exact ⟨c0, c1, c2, c3, c4, rfl⟩
theorem array7 {α : Type} {cs : Array α} (h : cs.size = 7) : ∃ c0 c1 c2 c3 c4 c5 c6, cs = #[c0, c1, c2, c3, c4, c5, c6] := by
  obtain ⟨l⟩ := cs
  match l, h with
  | [c0, c1, c2, c3, c4, c5, c6], _ => exact ⟨c0, c1, c2, c3, c4, c5, c6, rfl⟩
section
variable {H : Type} {enc : TypeId × Value → H} {W : World} {base : Nat} {v : Value} {d : DataW H} {p : List MemPlace}
theorem one_int {t : TypeId} (hu : Try.prog.underlying t = some (.int .i64)) {f : Nat} {c : Value} {y : DataW H × List MemPlace} {sp : Nat → Bool} {hd : Bool} (h : DataW.trod enc Try.prog W 0 sp hd f t [c] = some y) : ∃ n : Int, c = .int .i64 n ∧ -9223372036854775808 ≤ n ∧ n ≤ 9223372036854775807 := by
  obtain ⟨a, e0, _, wa⟩ := DataW.trod_int hu h
  simp at e0
  exact ⟨a, e0, i64_in wa⟩
set_option maxRecDepth 100000 in
theorem one_str {f : Nat} {c : Value} {y : DataW H × List MemPlace} {sp : Nat → Bool} {hd : Bool} (h : DataW.trod enc Try.prog W 0 sp hd f 9 [c] = some y) : ∃ s : ByteArray, c = .string s ∧ s.size ≤ 9223372036854775807 := by
  obtain ⟨a, e0, _, wa⟩ := DataW.trod_string Try.underlying9 h
  simp at e0
  simp only [maxLen] at wa
  exact ⟨a, e0, by omega⟩
set_option maxHeartbeats 2000000 in
theorem open_agg5 {spare : Nat → Bool} {held : Bool} {r : Reach} {b0 : Nat} {t : TypeId} {f0 f1 f2 f3 f4 : Field} (hs : Try.prog.underlying t = some (.struct #[f0, f1, f2, f3, f4])) (hone : oneCellFields Try.prog #[f0, f1, f2, f3, f4] = true) (hC : Try.prog.cellsOf t = 5)
    (hv : Value.okWide Try.prog W r b0 t v) (h : DataW.Trod enc Try.prog W 0 spare held t v d p) :
    ∃ (v0 v1 v2 v3 v4 : Value) (y0 y1 y2 y3 y4 : DataW H × List MemPlace) (n : Nat), v = .agg #[v0, v1, v2, v3, v4] ∧ DataW.trod enc Try.prog W 0 spare held n f0.type [v0] = some y0 ∧ DataW.trod enc Try.prog W 0 spare held n f1.type [v1] = some y1 ∧ DataW.trod enc Try.prog W 0 spare held n f2.type [v2] = some y2 ∧ DataW.trod enc Try.prog W 0 spare held n f3.type [v3] = some y3 ∧ DataW.trod enc Try.prog W 0 spare held n f4.type [v4] = some y4 := by
  obtain ⟨cs, rfl, hsz⟩ := okWide_struct hs hv
  obtain ⟨v0, v1, v2, v3, v4, rfl⟩ := array5 (hsz.trans hC)
  obtain ⟨fuel, hf⟩ := h
  obtain ⟨xs, n, _, hx, hl, hlen, hf⟩ := DataW.trod_struct hs hf
  obtain ⟨o0, k0⟩ := hone_of hone 0 f0 rfl
  obtain ⟨o1, k1⟩ := hone_of hone 1 f1 rfl
  obtain ⟨o2, k2⟩ := hone_of hone 2 f2 rfl
  obtain ⟨o3, k3⟩ := hone_of hone 3 f3 rfl
  obtain ⟨o4, k4⟩ := hone_of hone 4 f4 rfl
  match xs, hlen with
  | [y0, y1, y2, y3, y4], _ => exact ⟨v0, v1, v2, v3, v4, y0, y1, y2, y3, y4, n, rfl, by simpa [Value.cells, o0, k0] using hf 0 f0 rfl, by simpa [Value.cells, o1, k1] using hf 1 f1 rfl, by simpa [Value.cells, o2, k2] using hf 2 f2 rfl, by simpa [Value.cells, o3, k3] using hf 3 f3 rfl, by simpa [Value.cells, o4, k4] using hf 4 f4 rfl⟩
set_option maxHeartbeats 2000000 in
theorem open_agg7 {spare : Nat → Bool} {held : Bool} {r : Reach} {b0 : Nat} {t : TypeId} {f0 f1 f2 f3 f4 f5 f6 : Field} (hs : Try.prog.underlying t = some (.struct #[f0, f1, f2, f3, f4, f5, f6])) (hone : oneCellFields Try.prog #[f0, f1, f2, f3, f4, f5, f6] = true) (hC : Try.prog.cellsOf t = 7)
    (hv : Value.okWide Try.prog W r b0 t v) (h : DataW.Trod enc Try.prog W 0 spare held t v d p) :
    ∃ (v0 v1 v2 v3 v4 v5 v6 : Value) (y0 y1 y2 y3 y4 y5 y6 : DataW H × List MemPlace) (n : Nat), v = .agg #[v0, v1, v2, v3, v4, v5, v6] ∧ DataW.trod enc Try.prog W 0 spare held n f0.type [v0] = some y0 ∧ DataW.trod enc Try.prog W 0 spare held n f1.type [v1] = some y1 ∧ DataW.trod enc Try.prog W 0 spare held n f2.type [v2] = some y2 ∧ DataW.trod enc Try.prog W 0 spare held n f3.type [v3] = some y3 ∧ DataW.trod enc Try.prog W 0 spare held n f4.type [v4] = some y4 ∧ DataW.trod enc Try.prog W 0 spare held n f5.type [v5] = some y5 ∧ DataW.trod enc Try.prog W 0 spare held n f6.type [v6] = some y6 := by
  obtain ⟨cs, rfl, hsz⟩ := okWide_struct hs hv
  obtain ⟨v0, v1, v2, v3, v4, v5, v6, rfl⟩ := array7 (hsz.trans hC)
  obtain ⟨fuel, hf⟩ := h
  obtain ⟨xs, n, _, hx, hl, hlen, hf⟩ := DataW.trod_struct hs hf
  obtain ⟨o0, k0⟩ := hone_of hone 0 f0 rfl
  obtain ⟨o1, k1⟩ := hone_of hone 1 f1 rfl
  obtain ⟨o2, k2⟩ := hone_of hone 2 f2 rfl
  obtain ⟨o3, k3⟩ := hone_of hone 3 f3 rfl
  obtain ⟨o4, k4⟩ := hone_of hone 4 f4 rfl
  obtain ⟨o5, k5⟩ := hone_of hone 5 f5 rfl
  obtain ⟨o6, k6⟩ := hone_of hone 6 f6 rfl
  match xs, hlen with
  | [y0, y1, y2, y3, y4, y5, y6], _ => exact ⟨v0, v1, v2, v3, v4, v5, v6, y0, y1, y2, y3, y4, y5, y6, n, rfl, by simpa [Value.cells, o0, k0] using hf 0 f0 rfl, by simpa [Value.cells, o1, k1] using hf 1 f1 rfl, by simpa [Value.cells, o2, k2] using hf 2 f2 rfl, by simpa [Value.cells, o3, k3] using hf 3 f3 rfl, by simpa [Value.cells, o4, k4] using hf 4 f4 rfl, by simpa [Value.cells, o5, k5] using hf 5 f5 rfl, by simpa [Value.cells, o6, k6] using hf 6 f6 rfl⟩
theorem cells_ask : Try.prog.cellsOf 24 = 7 := by kernel_rfl
set_option maxRecDepth 100000 in
theorem in_ask (hval : Value.okWide Try.prog W .any base 24 v) (h : Reads enc W 24 v d p) : ∃ r : Wr.Rq, v = .agg r.cells.toArray ∧ r.small ∧ r.s.size ≤ 9223372036854775807 := by
  obtain ⟨v0, v1, v2, v3, v4, v5, v6, _, _, _, _, _, _, _, m, rfl, h0, h1, h2, h3, h4, h5, h6⟩ := open_agg7 Try.underlying24 (by kernel_rfl) cells_ask hval h
  obtain ⟨x0, rfl, _, l0⟩ := one_int Try.underlying22 h0
  obtain ⟨x1, rfl, l1⟩ := one_str h1
  obtain ⟨x2, rfl, _, l2⟩ := one_int Try.underlying3 h2
  obtain ⟨x3, rfl, _, l3⟩ := one_int Try.underlying3 h3
  obtain ⟨x4, rfl, _, l4⟩ := one_int Try.underlying3 h4
  obtain ⟨x5, rfl, _, l5⟩ := one_int Try.underlying3 h5
  obtain ⟨x6, rfl, _, l6⟩ := one_int Try.underlying3 h6
  exact ⟨⟨x0, x1, x2, x3, x4, x5, x6⟩, rfl, ⟨by show x2 < _; omega, by show x3 < _; omega, by show x4 < _; omega, by show x5 < _; omega, by show x6 < _; omega⟩, l1⟩
theorem cells_rep : Try.prog.cellsOf 36 = 5 := by kernel_rfl
set_option maxRecDepth 100000 in
theorem in_rep (hval : Value.okWide Try.prog W .any base 36 v) (h : Reads enc W 36 v d p) : ∃ r : Wr.Rp, v = .agg r.cells.toArray ∧ r.small := by
  obtain ⟨v0, v1, v2, v3, v4, _, _, _, _, _, m, rfl, h0, h1, h2, h3, h4⟩ := open_agg5 Try.underlying36 (by kernel_rfl) cells_rep hval h
  obtain ⟨x0, rfl, _, l0⟩ := one_int Try.underlying28 h0
  obtain ⟨x1, rfl, _, l1⟩ := one_int Try.underlying3 h1
  obtain ⟨x2, rfl, _, l2⟩ := one_int Try.underlying3 h2
  obtain ⟨x3, rfl, _, l3⟩ := one_int Try.underlying3 h3
  obtain ⟨x4, rfl, _, l4⟩ := one_int Try.underlying3 h4
  exact ⟨⟨x0, x1, x2, x3, x4⟩, rfl, ⟨by show x0 < _; omega, by show x1 < _; omega, by show x2 < _; omega, by show x3 < _; omega, by show x4 < _; omega⟩⟩
theorem cells_msg : Try.prog.cellsOf 43 = 5 := by kernel_rfl
set_option maxRecDepth 100000 in
theorem in_msg (hval : Value.okWide Try.prog W .any base 43 v) (h : Reads enc W 43 v d p) : ∃ r : Wr.Mg, v = .agg r.cells.toArray ∧ r.small ∧ r.s.size ≤ 9223372036854775807 := by
  obtain ⟨v0, v1, v2, v3, v4, _, _, _, _, _, m, rfl, h0, h1, h2, h3, h4⟩ := open_agg5 Try.underlying43 (by kernel_rfl) cells_msg hval h
  obtain ⟨x0, rfl, _, l0⟩ := one_int Try.underlying41 h0
  obtain ⟨x1, rfl, _, l1⟩ := one_int Try.underlying3 h1
  obtain ⟨x2, rfl, _, l2⟩ := one_int Try.underlying3 h2
  obtain ⟨x3, rfl, l3⟩ := one_str h3
  obtain ⟨x4, rfl, _, l4⟩ := one_int Try.underlying3 h4
  exact ⟨⟨x0, x1, x2, x3, x4⟩, rfl, ⟨by show x1 < _; omega, by show x2 < _; omega, by show x4 < _; omega⟩, l3⟩
end
/-- A string, as far as it is looked at. -/
def cutS (s : ByteArray) : ByteArray := if 5000 < s.size then s.extract 0 5000 else s
theorem cutS_size (s : ByteArray) : (cutS s).size ≤ 5000 := by
  unfold cutS
  split
  · rw [← bs_length, bs_extract, List.length_take]; omega
  · omega
set_option maxRecDepth 100000 in
theorem short_any (s : ByteArray) (hs : s.size ≤ 9223372036854775807) (w : World) : Calls Try.prog 8 #[.string s] w fun e w' => e = .returned (.string (cutS s)) ∧ w = w' := by
  unfold cutS
  by_cases h : 5000 < s.size
  · rw [if_pos h]
    have h1 : (5000 : Int) < (s.size : Int) := by omega
    have h2 : (5000 : Int) ≤ (s.size : Int) := by omega
    go_enter Try.func8, Try.ntmps8
    go_wp2
    go_ret
    exact ⟨rfl, rfl⟩
  · rw [if_neg h]
    have h1 : ¬ (5000 : Int) < (s.size : Int) := by omega
    go_enter Try.func8, Try.ntmps8
    go_wp2
    go_ret
    exact ⟨rfl, rfl⟩
set_option maxRecDepth 100000 in
theorem cut_any (A : Option Addr) (m c : Nat) (l : List Nat) (w : World) (hm : l.length = m) (hc : m ≤ c) (hbig : m ≤ 9223372036854775807) : Calls Try.prog 9 #[.slice A m c] w fun e w' => e = .returned (.slice A (l.take 5000).length c) ∧ w = w' := by
  rw [List.length_take, hm]
  by_cases h : 5000 < m
  · rw [Nat.min_eq_left (by omega)]
    have h2 : (5000 : Int) < (m : Int) := by omega
    have h3 : 5000 ≤ c := by omega
    have h4 : (5000 : Int) ≤ (c : Int) := by omega
    clear hm
    go_enter Try.func9, Try.ntmps9
    go_wp2
    go_ret
    exact ⟨rfl, rfl⟩
  · rw [Nat.min_eq_right (by omega)]
    have h2 : ¬ (5000 : Int) < (m : Int) := by omega
    clear hm
    go_enter Try.func9, Try.ntmps9
    go_wp2
    go_ret
    exact ⟨rfl, rfl⟩
end Go.Proofs.Ytonjjihbpeblkaa
