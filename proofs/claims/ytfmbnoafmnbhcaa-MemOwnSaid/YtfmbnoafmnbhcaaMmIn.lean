/- Entries that came in, and which of them the laws look at. -/
import Derived.Test.YtfmbnoafmnbhcaaMmRef
import Derived.Test.YtfmbnoafmnbhcaaStructsI
namespace Go.Proofs.Ytfmbnoafmnbhcaa
open Go.ChangeShapes Go.WideShapes Go.ChangeAt Go.RowKit Go.Deep
namespace Bk
theorem flat_get {es : List (En × Sl)} : ∀ {j : Nat} {u : Value}, (flat es)[j]? = some u → ∃ v, es[j / 4]? = some v ∧ (cells v)[j % 4]? = some u := by
  induction es with
  | nil => intro j u h; simp [flat] at h
  | cons x xs ih =>
    intro j u h
    have h4 : (cells x).length = 4 := rfl
    have h : (cells x ++ flat xs)[j]? = some u := h
    by_cases hj : j < 4
    · rw [List.getElem?_append_left (by omega)] at h
      rw [Nat.div_eq_of_lt hj, Nat.mod_eq_of_lt hj]
      exact ⟨x, rfl, h⟩
    · rw [List.getElem?_append_right (by omega), h4] at h
      obtain ⟨v, h1, h2⟩ := ih h
      refine ⟨v, ?_, ?_⟩
      · rw [show j / 4 = (j - 4) / 4 + 1 by omega, List.getElem?_cons_succ]; exact h1
      · rw [show j % 4 = (j - 4) % 4 by omega]; exact h2
/-- An entry that came in. -/
def AtI (w : World) (p : En × Sl) : Prop := Rd w p.2.1 p.2.2.1 p.1.val ∧ p.2.2.1 ≤ p.2.2.2 ∧ p.1.key.size ≤ 9223372036854775807 ∧ p.1.seq < 9223372036854775808 ∧ -9223372036854775808 ≤ p.1.seq ∧ p.2.2.1 ≤ 9223372036854775807
theorem AtI.below {w w' : World} {p : En × Sl} (h : AtI w p) (hb : Below w.heap.size w w') : AtI w' p := ⟨h.1.below hb, h.2⟩
end Bk
def RdI (w : World) (A : Option Addr) (n : Nat) (es : List (Bk.En × Bk.Sl)) : Prop := es.length = n ∧ RdC 4 w A n (Bk.flat es) ∧ ∀ p ∈ es, Bk.AtI w p
theorem RdI.at_ {w : World} {A : Option Addr} {n k : Nat} {es : List (Bk.En × Bk.Sl)} {v : Bk.En × Bk.Sl} (h : RdI w A n es) (hv : es[k]? = some v) : ∃ b o, A = some ⟨b, o, none⟩ ∧ b < w.heap.size ∧ ∀ j u, (Bk.cells v)[j]? = some u → w.cell? ⟨b, o + (k * 4 + j), none⟩ = some u := by
  have hk : k < n := by rw [← h.1]; exact (List.getElem?_eq_some_iff.1 hv).1
  obtain ⟨b, o, rfl, hb, hc⟩ := h.2.1.2 (by omega)
  exact ⟨b, o, rfl, hb, fun j u hu => hc _ u (Bk.flat_at hv hu)⟩
section
variable {H : Type} {enc : TypeId × Value → H} {W : World} {base : Nat} {v : Value} {d : DataW H} {p : List MemPlace}
theorem one_int {f : Nat} {c : Value} {y : DataW H × List MemPlace} {sp : Nat → Bool} {hd : Bool} (h : DataW.trod enc Try.prog W 0 sp hd f 3 [c] = some y) : ∃ n : Int, c = .int .i64 n ∧ -9223372036854775808 ≤ n ∧ n ≤ 9223372036854775807 := by
  obtain ⟨a, e0, _, wa⟩ := DataW.trod_int Try.underlying3 h
  simp at e0
  exact ⟨a, e0, i64_in wa⟩
theorem one_bool {f : Nat} {c : Value} {y : DataW H × List MemPlace} {sp : Nat → Bool} {hd : Bool} (h : DataW.trod enc Try.prog W 0 sp hd f 4 [c] = some y) : ∃ b : Bool, c = .bool b := by
  obtain ⟨a, e0, _⟩ := DataW.trod_bool Try.underlying4 h
  simp at e0
  exact ⟨a, e0⟩
set_option maxRecDepth 100000 in
theorem one_str {f : Nat} {c : Value} {y : DataW H × List MemPlace} {sp : Nat → Bool} {hd : Bool} (h : DataW.trod enc Try.prog W 0 sp hd f 9 [c] = some y) : ∃ s : ByteArray, c = .string s ∧ s.size ≤ 9223372036854775807 := by
  obtain ⟨a, e0, _, wa⟩ := DataW.trod_string Try.underlying9 h
  simp at e0
  simp only [maxLen] at wa
  exact ⟨a, e0, by omega⟩
set_option maxRecDepth 100000 in
theorem field_bytes (h : Field1 enc W 22 v) : ∃ (A : Option Addr) (n cap : Nat) (l : List Nat), v = .slice A n cap ∧ Rd W A n l ∧ n ≤ cap ∧ n ≤ 9223372036854775807 := by
  obtain ⟨fuel, y, hf⟩ := h
  rcases open_ints Try.underlying22 Try.underlying5 (by kernel_rfl) hf with ⟨hcs, _⟩ | ⟨x, l, c, zs, hcs, _, hl, hm, hz, _, hcell, hwz⟩
  · injection hcs with hcs _
    exact ⟨none, 0, 0, [], hcs, Rd.nil _ _, Nat.le_refl _, by omega⟩
  · injection hcs with hcs _
    obtain ⟨r, hr, hc, hn⟩ := row_rd (w := W) (a := some x) (len := l) (cap := c) (zs := zs) (.inr ⟨_, rfl, hl, hm, by simpa using hz, hcell, hwz⟩)
    exact ⟨some x, l, c, r, hcs, hr, hc, hn⟩
theorem cells_entry : Try.prog.cellsOf 24 = 4 := by kernel_rfl
set_option maxRecDepth 100000 in
theorem in_entries (hval : Value.okWide Try.prog W .any base 30 v) (h : Reads enc W 30 v d p) : ∃ (A : Option Addr) (n cap : Nat) (l : List (Bk.En × Bk.Sl)), v = .slice A n cap ∧ RdI W A n l ∧ n ≤ cap ∧ n ≤ 9223372036854775807 := by
  obtain ⟨A, n, cap, rfl, hc, hn, hr⟩ := in_structs Try.underlying30 Try.underlying24 (by kernel_rfl) cells_entry (by decide) hval h
  by_cases h0 : 0 < n
  · obtain ⟨b, o, rfl, hb, he⟩ := hr h0
    obtain ⟨l, hl, hp⟩ := exists_list (α := Bk.En × Bk.Sl) (P := fun i s => (∀ j u, (Bk.cells s)[j]? = some u → W.cell? ⟨b, o + (i * 4 + j), none⟩ = some u) ∧ Bk.AtI W s) n (fun i hi => by
      obtain ⟨u0, c0, m0, y0, r0⟩ := he i hi 0 _ rfl
      obtain ⟨u1, c1, m1, y1, r1⟩ := he i hi 1 _ rfl
      obtain ⟨u2, c2, m2, y2, r2⟩ := he i hi 2 _ rfl
      obtain ⟨u3, c3, r3⟩ := he i hi 3 _ rfl
      obtain ⟨k, rfl, hk⟩ := one_str r0
      obtain ⟨q, rfl, q1, q2⟩ := one_int r1
      obtain ⟨t, rfl⟩ := one_bool r2
      obtain ⟨B, m, c, x, rfl, h1, h2, h3⟩ := field_bytes r3
      refine ⟨(⟨k, q, t, x⟩, B, m, c), fun j u hu => ?_, h1, h2, hk, by show q < _; omega, q1, h3⟩
      match j, hu with
      | 0, hu => injection hu with hu; subst hu; exact c0
      | 1, hu => injection hu with hu; subst hu; exact c1
      | 2, hu => injection hu with hu; subst hu; exact c2
      | 3, hu => injection hu with hu; subst hu; exact c3
      | j + 4, hu => cases hu)
    refine ⟨some ⟨b, o, none⟩, n, cap, l, rfl, ⟨hl, ⟨by rw [Bk.flat_length, hl], fun _ => ⟨b, o, rfl, hb, fun j u hu => ?_⟩⟩, fun q hq => ?_⟩, hc, hn⟩
    · obtain ⟨q, h1, h2⟩ := Bk.flat_get hu
      have := (hp _ _ h1).1 _ _ h2
      rwa [show o + (j / 4 * 4 + j % 4) = o + j by omega] at this
    · obtain ⟨i, hi⟩ := List.getElem?_of_mem hq
      exact (hp i q hi).2
  · have : n = 0 := by omega
    subst this
    exact ⟨A, 0, cap, [], rfl, ⟨rfl, RdC.nil 4 W A, fun q hq => by cases hq⟩, hc, hn⟩
end
end Go.Proofs.Ytfmbnoafmnbhcaa
