/- A version that came in: its tables. -/
import Derived.Test.YtpompjihmcmmaaaPkBase
import Derived.Test.YtpompjihmcmmaaaIns
import Derived.Deep.Slices
import Derived.Deep.Fields
import Derived.Lib.SmallJoins
import Derived.Deep.RegionHeld3
namespace Go.Proofs.Ytpompjihmcmmaaa
open Go.ChangeShapes Go.WideShapes Go.ChangeAt Go.RowKit Go.Joins Go.Deep
theorem exists_list {α : Type} {P : Nat → α → Prop} (n : Nat) (h : ∀ i, i < n → ∃ a, P i a) : ∃ l : List α, l.length = n ∧ ∀ i a, l[i]? = some a → P i a := by
  induction n with
  | zero => exact ⟨[], rfl, fun i a e => by cases e⟩
  | succ n ih =>
    obtain ⟨l, hl, hp⟩ := ih fun i hi => h i (by omega)
    obtain ⟨a, ha⟩ := h n (by omega)
    refine ⟨l ++ [a], by simp [hl], fun i x e => ?_⟩
    by_cases hi : i < l.length
    · rw [List.getElem?_append_left hi] at e; exact hp i x e
    · rw [List.getElem?_append_right (by omega)] at e
      have hi2 : i - l.length = 0 := by
        have := (List.getElem?_eq_some_iff.1 e).1
        simp at this; omega
      rw [hi2] at e
      have hin : i = n := by omega
      simp at e
      subst e
      rw [hin]
      exact ha
theorem plain_addr {w : World} {x : Addr} {v : Value} (h : w.cell? (x.add 0) = some v) : ∃ b o, x = ⟨b, o, none⟩ := by
  obtain ⟨b, o, s⟩ := x
  cases s with
  | none => exact ⟨b, o, rfl⟩
  | some s =>
    unfold World.cell? at h
    split at h
    · simp [Addr.add] at h
    · cases h
theorem plain_add (b o k : Nat) : (⟨b, o, none⟩ : Addr).add k = ⟨b, o + k, none⟩ := by unfold Addr.add; split <;> simp_all
namespace Pk
theorem flat_get {α : Type} {f : α → List Value} {s : Nat} (h0 : 0 < s) (hs : ∀ x, (f x).length = s) : ∀ {l : List α} {j : Nat} {u : Value}, (l.flatMap f)[j]? = some u → ∃ v, l[j / s]? = some v ∧ (f v)[j % s]? = some u := by
  intro l
  induction l with
  | nil => intro j u h; simp at h
  | cons x xs ih =>
    intro j u h
    rw [List.flatMap_cons] at h
    by_cases hj : j < s
    · rw [List.getElem?_append_left (by rw [hs]; exact hj)] at h
      rw [Nat.div_eq_of_lt hj, Nat.mod_eq_of_lt hj]
      exact ⟨x, rfl, h⟩
    · rw [List.getElem?_append_right (by rw [hs]; omega), hs] at h
      obtain ⟨v, h1, h2⟩ := ih h
      refine ⟨v, ?_, ?_⟩
      · rw [Nat.div_eq_sub_div h0 (by omega), List.getElem?_cons_succ]; exact h1
      · rw [Nat.mod_eq_sub_mod (by omega)]; exact h2
end Pk
theorem list9 {α : Type} {cs : List α} (h : cs.length = 9) : ∃ c0 c1 c2 c3 c4 c5 c6 c7 c8, cs = [c0, c1, c2, c3, c4, c5, c6, c7, c8] := by
  match cs, h with
  | [c0, c1, c2, c3, c4, c5, c6, c7, c8], _ => exact ⟨c0, c1, c2, c3, c4, c5, c6, c7, c8, rfl⟩
section
variable {H : Type} {enc : TypeId × Value → H} {W : World} {base : Nat} {v : Value} {d : DataW H} {p : List MemPlace}
set_option maxRecDepth 100000 in
/-- A slice in a field of what came in: each element's cells, and that they read. -/
theorem field_elems {t e : TypeId} {C : Nat} {fuel : Nat} {x : DataW H × List MemPlace} (ht : Try.prog.underlying t = some (.slice e)) (hC : Try.prog.cellsOf e = C) (hpos : 0 < C)
    (hf : DataW.trod enc Try.prog W 0 (fun _ => true) true fuel t [v] = some x) :
    ∃ (A : Option Addr) (n cap : Nat), v = .slice A n cap ∧ n ≤ cap ∧ n ≤ 9223372036854775807 ∧ (0 < n → ∃ b o, A = some ⟨b, o, none⟩ ∧ b < W.heap.size ∧ ∀ i, i < n → ∃ (cs : List Value) (q : Nat) (y : DataW H × List MemPlace), cs.length = C ∧ (∀ (j : Nat) (u : Value), cs[j]? = some u → W.cell? ⟨b, o + (i * C + j), none⟩ = some u) ∧ DataW.trod enc Try.prog W 0 (fun _ => true) true q e cs = some y) := by
  rcases open_slice ht hf with ⟨hcs, _⟩ | ⟨a, len0, cap0, m, k, D, Pl, hcs, hb, hl, hm, hmm, hx, hi⟩
  · injection hcs with hcs _
    exact ⟨none, 0, 0, hcs, Nat.le_refl _, by omega, fun h => absurd h (Nat.lt_irrefl 0)⟩
  · injection hcs with hcs _
    subst hcs
    have hm' : m = cap0 := by simpa using hmm
    simp only [maxLen] at hm
    have each : ∀ i, i < len0 → ∃ (cs : List Value) (q : Nat) (y : DataW H × List MemPlace), cs.length = C ∧ (∀ (j : Nat) (u : Value), cs[j]? = some u → W.cell? (a.add (i * C + j)) = some u) ∧ DataW.trod enc Try.prog W 0 (fun _ => true) true q e cs = some y := by
      intro i hin
      obtain ⟨cs, hc, htr⟩ := hi i (by omega)
      rw [hC] at hc
      obtain ⟨_, hcl, hat⟩ := World.cells?_some hc
      refine ⟨cs, _, _, hcl, fun j u hj => ?_, htr⟩
      have hj2 : j < C := by have := (List.getElem?_eq_some_iff.1 hj).1; omega
      have hcell := hat j hj2
      rw [Go.Deep.add_add, hj] at hcell
      exact hcell
    refine ⟨some a, len0, cap0, rfl, hl, by omega, fun hn => ?_⟩
    obtain ⟨cs0, q0, y0, hl0, hc0, _⟩ := each 0 hn
    obtain ⟨u0, hu0⟩ : ∃ u, cs0[0]? = some u := ⟨_, List.getElem?_eq_getElem (by omega)⟩
    have h00 := hc0 0 u0 hu0
    rw [Nat.zero_mul, Nat.zero_add] at h00
    obtain ⟨b, o, rfl⟩ := plain_addr h00
    refine ⟨b, o, rfl, ?_, fun i hin => ?_⟩
    · rw [plain_add] at h00
      exact block_lt_of_cell h00
    · obtain ⟨cs, q, y, h1, h2, h3⟩ := each i hin
      refine ⟨cs, q, y, h1, fun j u hj => ?_, h3⟩
      have := h2 j u hj
      rwa [plain_add] at this
theorem one_int {t : TypeId} (hu : Try.prog.underlying t = some (.int .i64)) {f : Nat} {c : Value} {y : DataW H × List MemPlace} {sp : Nat → Bool} {hd : Bool} (h : DataW.trod enc Try.prog W 0 sp hd f t [c] = some y) : ∃ n : Int, c = .int .i64 n ∧ -9223372036854775808 ≤ n ∧ n ≤ 9223372036854775807 := by
  obtain ⟨a, e0, _, wa⟩ := DataW.trod_int hu h
  simp at e0
  exact ⟨a, e0, i64_in wa⟩
set_option maxRecDepth 100000 in
theorem one_str {f : Nat} {c : Value} {y : DataW H × List MemPlace} {sp : Nat → Bool} {hd : Bool} (h : DataW.trod enc Try.prog W 0 sp hd f 9 [c] = some y) : ∃ s : ByteArray, c = .string s ∧ s.size ≤ 9223372036854775807 := by
  obtain ⟨a, e0, _, wa⟩ := DataW.trod_string Try.underlying9 h
  simp at e0
  simp only [maxLen] at wa
  exact ⟨a, e0, by omega⟩
set_option maxRecDepth 100000 in
theorem one_slice {t e : TypeId} (ht : Try.prog.underlying t = some (.slice e)) {f : Nat} {c : Value} {y : DataW H × List MemPlace} {sp : Nat → Bool} {hd : Bool} (h : DataW.trod enc Try.prog W 0 sp hd f t [c] = some y) : ∃ (A : Option Addr) (n cap : Nat), c = .slice A n cap := by
  rcases open_slice ht h with ⟨hcs, _⟩ | ⟨a, len0, cap0, m, k, D, Pl, hcs, _⟩
  · injection hcs with hcs _
    exact ⟨_, _, _, hcs⟩
  · injection hcs with hcs _
    exact ⟨_, _, _, hcs⟩
theorem cells_table : Try.prog.cellsOf 51 = 9 := by kernel_rfl
theorem cells_version : Try.prog.cellsOf 25 = 4 := by kernel_rfl
set_option maxRecDepth 100000 in
theorem open_table {q : Nat} {cs : List Value} {y : DataW H × List MemPlace} {sp : Nat → Bool} {hd : Bool} (hl : cs.length = 9) (h : DataW.trod enc Try.prog W 0 sp hd q 51 cs = some y) : ∃ s : Pk.Tb, cs = s.cells ∧ s.fits := by
  obtain ⟨c0, c1, c2, c3, c4, c5, c6, c7, c8, rfl⟩ := list9 hl
  obtain ⟨xs, n, _, _, _, hlen, hf⟩ := DataW.trod_struct Try.underlying51 h
  match xs, hlen with
  | [y0, y1, y2, y3, y4, y5, y6], _ =>
    have h0 := hf 0 _ rfl
    have h1 := hf 1 _ rfl
    have h2 := hf 2 _ rfl
    have h3 := hf 3 _ rfl
    have h4 := hf 4 _ rfl
    have h5 := hf 5 _ rfl
    have h6 := hf 6 _ rfl
    simp only [List.getElem?_cons_zero, List.getElem?_cons_succ] at h0 h1 h2 h3 h4 h5 h6
    obtain ⟨sz, rfl, _⟩ := one_int Try.underlying3 h1
    obtain ⟨lv, rfl, l1, l2⟩ := one_int Try.underlying3 h2
    obtain ⟨ct, rfl, t1, t2⟩ := one_int Try.underlying3 h3
    obtain ⟨lo, rfl, g1⟩ := one_str h4
    obtain ⟨hi, rfl, g2⟩ := one_str h5
    obtain ⟨tp, rfl, _⟩ := one_int Try.underlying3 h6
    obtain ⟨zs, n2, _, _, _, hlen2, hf2⟩ := DataW.trod_struct Try.underlying49 h0
    match zs, hlen2 with
    | [z0, z1, z2], _ =>
      have k0 := hf2 0 _ rfl
      have k1 := hf2 1 _ rfl
      have k2 := hf2 2 _ rfl
      simp only [List.getElem?_cons_zero, List.getElem?_cons_succ] at k0 k1 k2
      obtain ⟨id, rfl, i1, i2⟩ := one_int Try.underlying3 k0
      obtain ⟨ep, rfl, _⟩ := one_int Try.underlying3 k1
      obtain ⟨P, pn, pc, rfl⟩ := one_slice Try.underlying47 k2
      exact ⟨⟨id, ep, P, pn, pc, sz, lv, ct, lo, hi, tp⟩, rfl, g1, g2, ⟨l1, l2⟩, ⟨t1, t2⟩, ⟨i1, i2⟩⟩
set_option maxRecDepth 100000 in
theorem in_version (hval : Value.okWide Try.prog W .any base 25 v) (h : Reads enc W 25 v d p) : ∃ (a b : Int) (L : Option Addr) (ln lc : Nat) (A : Option Addr) (n c : Nat) (l : List Pk.Tb), v = .agg #[.int .i64 a, .int .i64 b, .slice L ln lc, .slice A n c] ∧ RdTb W A n l ∧ n ≤ 9223372036854775807 := by
  obtain ⟨v0, v1, v2, v3, y0, y1, y2, y3, m, rfl, _, _, h0, h1, h2, h3⟩ := open_agg4 Try.underlying25 (by kernel_rfl) cells_version hval h
  obtain ⟨a, rfl, _⟩ := one_int Try.underlying3 h0
  obtain ⟨b, rfl, _⟩ := one_int Try.underlying3 h1
  obtain ⟨L, ln, lc, rfl⟩ := one_slice Try.underlying22 h2
  obtain ⟨A, n, cap, rfl, hc, hn, hr⟩ := field_elems Try.underlying23 cells_table (by decide) h3
  by_cases hp0 : 0 < n
  · obtain ⟨g, o, rfl, hb, he⟩ := hr hp0
    obtain ⟨l, hl, hp⟩ := exists_list (α := Pk.Tb) (P := fun i s => (∀ j u, s.cells[j]? = some u → W.cell? ⟨g, o + (i * 9 + j), none⟩ = some u) ∧ s.fits) n (fun i hi => by
      obtain ⟨cs, q, y, h1, h2, h3⟩ := he i hi
      obtain ⟨s, rfl, hs⟩ := open_table h1 h3
      exact ⟨s, h2, hs⟩)
    refine ⟨a, b, L, ln, lc, some ⟨g, o, none⟩, n, cap, l, rfl, ⟨hl, ⟨by rw [show (Pk.flat l).length = l.length * 9 from Pk.flatMap_length (f := Pk.Tb.cells) (fun _ => rfl) l, hl], fun _ => ⟨g, o, rfl, hb, fun j u hu => ?_⟩⟩, fun q hq => ?_⟩, hn⟩
    · obtain ⟨q, h1, h2⟩ := Pk.flat_get (f := Pk.Tb.cells) (s := 9) (by omega) (fun _ => rfl) hu
      have := (hp _ _ h1).1 _ _ h2
      rwa [show o + (j / 9 * 9 + j % 9) = o + j by omega] at this
    · obtain ⟨i, hi⟩ := List.getElem?_of_mem hq
      exact (hp i q hi).2
  · have : n = 0 := by omega
    subst this
    exact ⟨a, b, L, ln, lc, A, 0, cap, [], rfl, ⟨rfl, RdC.nil 9 W A, (fun q hq => nomatch hq)⟩, hn⟩
end
end Go.Proofs.Ytpompjihmcmmaaa
