/- Lines and totals that came in. -/
import Derived.Test.YtcoekdfmfjglpaaBoBase
import Derived.Test.YtcoekdfmfjglpaaStructsI
import Derived.Lib.SmallJoins
namespace Go.Proofs.Ytcoekdfmfjglpaa
open Go.ChangeShapes Go.WideShapes Go.ChangeAt Go.RowKit Go.Joins Go.Deep
namespace Bo
theorem flat_get {α : Type} {f : α → List Value} {s : Nat} (h0 : 0 < s) (hs : ∀ x, (f x).length = s) : ∀ {l : List α} {j : Nat} {u : Value}, (l.flatMap f)[j]? = some u → ∃ v, l[j / s]? = some v ∧ (f v)[j % s]? = some u := by
  intro l
  induction l with
  | nil => intro j u h; simp at h
  | cons x xs ih =>
    intro j u h
    rw [List.flatMap_cons] at h
    by_cases hj : j < s
    · rw [List.getElem?_append_left (by rw [hs]; exact hj)] at h
      rw [Nat.div_eq_of_lt hj, Nat.mod_eq_of_lt hj]
      exact ⟨x, rfl, h⟩
    · rw [List.getElem?_append_right (by rw [hs]; omega), hs] at h
      obtain ⟨v, h1, h2⟩ := ih h
      refine ⟨v, ?_, ?_⟩
      · rw [Nat.div_eq_sub_div h0 (by omega), List.getElem?_cons_succ]; exact h1
      · rw [Nat.mod_eq_sub_mod (by omega)]; exact h2
end Bo
section
variable {H : Type} {enc : TypeId × Value → H} {W : World} {base : Nat} {v : Value} {d : DataW H} {p : List MemPlace}
theorem one_int {t : TypeId} (hu : Try.prog.underlying t = some (.int .i64)) {f : Nat} {c : Value} {y : DataW H × List MemPlace} {sp : Nat → Bool} {hd : Bool} (h : DataW.trod enc Try.prog W 0 sp hd f t [c] = some y) : ∃ n : Int, c = .int .i64 n ∧ -9223372036854775808 ≤ n ∧ n ≤ 9223372036854775807 := by
  obtain ⟨a, e0, _, wa⟩ := DataW.trod_int hu h
  simp at e0
  exact ⟨a, e0, i64_in wa⟩
set_option maxRecDepth 100000 in
theorem one_str {f : Nat} {c : Value} {y : DataW H × List MemPlace} {sp : Nat → Bool} {hd : Bool} (h : DataW.trod enc Try.prog W 0 sp hd f 9 [c] = some y) : ∃ s : ByteArray, c = .string s ∧ s.size ≤ 9223372036854775807 := by
  obtain ⟨a, e0, _, wa⟩ := DataW.trod_string Try.underlying9 h
  simp at e0
  simp only [maxLen] at wa
  exact ⟨a, e0, by omega⟩
theorem cells_line : Try.prog.cellsOf 25 = 3 := by kernel_rfl
theorem cells_total : Try.prog.cellsOf 46 = 4 := by kernel_rfl
set_option maxRecDepth 100000 in
theorem in_line (hval : Value.okWide Try.prog W .any base 25 v) (h : Reads enc W 25 v d p) : ∃ x : Bo.Ln, v = .agg x.cells.toArray ∧ x.key.size ≤ 9223372036854775807 ∧ (-9223372036854775808 ≤ x.n ∧ x.n ≤ 9223372036854775807) := by
  obtain ⟨v0, v1, v2, y0, y1, y2, m, rfl, _, _, h0, h1, h2⟩ := open_agg3 Try.underlying25 (by kernel_rfl) cells_line hval h
  obtain ⟨x0, rfl, _⟩ := one_int Try.underlying23 h0
  obtain ⟨x1, rfl, l1⟩ := one_str h1
  obtain ⟨x2, rfl, l2⟩ := one_int Try.underlying3 h2
  exact ⟨⟨x0, x1, x2⟩, rfl, l1, l2⟩
set_option maxRecDepth 100000 in
theorem in_lines (hval : Value.okWide Try.prog W .any base 27 v) (h : Reads enc W 27 v d p) : ∃ (A : Option Addr) (n cap : Nat) (l : List Bo.Ln), v = .slice A n cap ∧ RdL W A n l ∧ n ≤ cap ∧ n ≤ 9223372036854775807 := by
  obtain ⟨A, n, cap, rfl, hc, hn, hr⟩ := in_structs Try.underlying27 Try.underlying25 (by kernel_rfl) cells_line (by decide) hval h
  by_cases h0 : 0 < n
  · obtain ⟨b, o, rfl, hb, he⟩ := hr h0
    obtain ⟨l, hl, hp⟩ := exists_list (α := Bo.Ln) (P := fun i s => (∀ j u, (Bo.Ln.cells s)[j]? = some u → W.cell? ⟨b, o + (i * 3 + j), none⟩ = some u) ∧ s.key.size ≤ 9223372036854775807 ∧ (-9223372036854775808 ≤ s.n ∧ s.n ≤ 9223372036854775807)) n (fun i hi => by
      obtain ⟨u0, c0, m0, y0, r0⟩ := he i hi 0 _ rfl
      obtain ⟨u1, c1, m1, y1, r1⟩ := he i hi 1 _ rfl
      obtain ⟨u2, c2, m2, y2, r2⟩ := he i hi 2 _ rfl
      obtain ⟨x0, rfl, _⟩ := one_int Try.underlying23 r0
      obtain ⟨x1, rfl, l1⟩ := one_str r1
      obtain ⟨x2, rfl, l2⟩ := one_int Try.underlying3 r2
      refine ⟨⟨x0, x1, x2⟩, fun j u hu => ?_, l1, l2⟩
      match j, hu with
      | 0, hu => injection hu with hu; subst hu; exact c0
      | 1, hu => injection hu with hu; subst hu; exact c1
      | 2, hu => injection hu with hu; subst hu; exact c2
      | j + 3, hu => cases hu)
    refine ⟨some ⟨b, o, none⟩, n, cap, l, rfl, ⟨hl, ⟨by rw [show (Bo.lflat l).length = l.length * 3 from Bo.flatMap_length (f := Bo.Ln.cells) (fun _ => rfl) l, hl], fun _ => ⟨b, o, rfl, hb, fun j u hu => ?_⟩⟩, fun q hq => ?_⟩, hc, hn⟩
    · obtain ⟨q, h1, h2⟩ := Bo.flat_get (f := Bo.Ln.cells) (s := 3) (by omega) (fun _ => rfl) hu
      have := (hp _ _ h1).1 _ _ h2
      rwa [show o + (j / 3 * 3 + j % 3) = o + j by omega] at this
    · obtain ⟨i, hi⟩ := List.getElem?_of_mem hq
      exact (hp i q hi).2
  · have : n = 0 := by omega
    subst this
    exact ⟨A, 0, cap, [], rfl, ⟨rfl, RdC.nil 3 W A, (fun q hq => nomatch hq)⟩, hc, hn⟩
set_option maxRecDepth 100000 in
theorem in_tots (hval : Value.okWide Try.prog W .any base 22 v) (h : Reads enc W 22 v d p) : ∃ (A : Option Addr) (n cap : Nat) (l : List Bo.Tt), v = .slice A n cap ∧ RdT W A n l ∧ n ≤ cap ∧ n ≤ 9223372036854775807 := by
  obtain ⟨A, n, cap, rfl, hc, hn, hr⟩ := in_structs Try.underlying22 Try.underlying46 (by kernel_rfl) cells_total (by decide) hval h
  by_cases h0 : 0 < n
  · obtain ⟨b, o, rfl, hb, he⟩ := hr h0
    obtain ⟨l, hl, hp⟩ := exists_list (α := Bo.Tt) (P := fun i s => (∀ j u, (Bo.Tt.cells s)[j]? = some u → W.cell? ⟨b, o + (i * 4 + j), none⟩ = some u) ∧ s.key.size ≤ 9223372036854775807) n (fun i hi => by
      obtain ⟨u0, c0, m0, y0, r0⟩ := he i hi 0 _ rfl
      obtain ⟨u1, c1, m1, y1, r1⟩ := he i hi 1 _ rfl
      obtain ⟨u2, c2, m2, y2, r2⟩ := he i hi 2 _ rfl
      obtain ⟨u3, c3, m3, y3, r3⟩ := he i hi 3 _ rfl
      obtain ⟨x0, rfl, l0⟩ := one_str r0
      obtain ⟨x1, rfl, _⟩ := one_int Try.underlying3 r1
      obtain ⟨x2, rfl, _⟩ := one_int Try.underlying3 r2
      obtain ⟨x3, rfl, _⟩ := one_int Try.underlying3 r3
      refine ⟨⟨x0, x1, x2, x3⟩, fun j u hu => ?_, l0⟩
      match j, hu with
      | 0, hu => injection hu with hu; subst hu; exact c0
      | 1, hu => injection hu with hu; subst hu; exact c1
      | 2, hu => injection hu with hu; subst hu; exact c2
      | 3, hu => injection hu with hu; subst hu; exact c3
      | j + 4, hu => cases hu)
    refine ⟨some ⟨b, o, none⟩, n, cap, l, rfl, ⟨hl, ⟨by rw [show (Bo.tflat l).length = l.length * 4 from Bo.flatMap_length (f := Bo.Tt.cells) (fun _ => rfl) l, hl], fun _ => ⟨b, o, rfl, hb, fun j u hu => ?_⟩⟩, fun q hq => ?_⟩, hc, hn⟩
    · obtain ⟨q, h1, h2⟩ := Bo.flat_get (f := Bo.Tt.cells) (s := 4) (by omega) (fun _ => rfl) hu
      have := (hp _ _ h1).1 _ _ h2
      rwa [show o + (j / 4 * 4 + j % 4) = o + j by omega] at this
    · obtain ⟨i, hi⟩ := List.getElem?_of_mem hq
      exact (hp i q hi).2
  · have : n = 0 := by omega
    subst this
    exact ⟨A, 0, cap, [], rfl, ⟨rfl, RdC.nil 4 W A, (fun q hq => nomatch hq)⟩, hc, hn⟩
end
end Go.Proofs.Ytcoekdfmfjglpaa
