/- Steps that came in: a kind, a mail and a number each. -/
import Derived.Test.YthganbbiclmgpaaMlIn
import Derived.Deep.Slices
import Derived.Deep.Fields
namespace Go.Proofs.Ythganbbiclmgpaa
open Go.ChangeShapes Go.WideShapes Go.ChangeAt Go.RowKit Go.Joins Go.Deep
theorem exists_list {α : Type} {P : Nat → α → Prop} (n : Nat) (h : ∀ i, i < n → ∃ a, P i a) : ∃ l : List α, l.length = n ∧ ∀ i a, l[i]? = some a → P i a := by
  induction n with
  | zero => exact ⟨[], rfl, fun i a e => by cases e⟩
  | succ n ih =>
    obtain ⟨l, hl, hp⟩ := ih fun i hi => h i (by omega)
    obtain ⟨a, ha⟩ := h n (by omega)
    refine ⟨l ++ [a], by simp [hl], fun i x e => ?_⟩
    by_cases hi : i < l.length
    · rw [List.getElem?_append_left hi] at e; exact hp i x e
    · rw [List.getElem?_append_right (by omega)] at e
      have hi2 : i - l.length = 0 := by
        have := (List.getElem?_eq_some_iff.1 e).1
        simp at this; omega
      rw [hi2] at e
      have hin : i = n := by omega
      simp at e
      subst e
      rw [hin]
      exact ha
theorem plain_addr {w : World} {x : Addr} {v : Value} (h : w.cell? (x.add 0) = some v) : ∃ b o, x = ⟨b, o, none⟩ := by
  obtain ⟨b, o, s⟩ := x
  cases s with
  | none => exact ⟨b, o, rfl⟩
  | some s =>
    unfold World.cell? at h
    split at h
    · simp [Addr.add] at h
    · cases h
theorem plain_add (b o k : Nat) : (⟨b, o, none⟩ : Addr).add k = ⟨b, o + k, none⟩ := by unfold Addr.add; split <;> simp_all
section
variable {H : Type} {enc : TypeId × Value → H} {W : World} {base : Nat} {v : Value} {d : DataW H} {p : List MemPlace}
set_option maxRecDepth 100000 in
/-- A slice that came in: each element's cells, and that they read. -/
theorem in_elems {t e : TypeId} {C : Nat} (ht : Try.prog.underlying t = some (.slice e)) (hC : Try.prog.cellsOf e = C) (hpos : 0 < C)
    (hval : Value.okWide Try.prog W .any base t v) (h : Reads enc W t v d p) :
    ∃ (A : Option Addr) (n cap : Nat), v = .slice A n cap ∧ n ≤ cap ∧ n ≤ 9223372036854775807 ∧ (0 < n → ∃ b o, A = some ⟨b, o, none⟩ ∧ b < W.heap.size ∧ ∀ i, i < n → ∃ (cs : List Value) (q : Nat) (y : DataW H × List MemPlace), cs.length = C ∧ (∀ (j : Nat) (u : Value), cs[j]? = some u → W.cell? ⟨b, o + (i * C + j), none⟩ = some u) ∧ DataW.trod enc Try.prog W 0 (fun _ => true) true q e cs = some y) := by
  obtain ⟨a0, len0, cap0, rfl⟩ := okWide_slice ht hval
  obtain ⟨fuel, hf⟩ := h
  rcases open_slice ht hf with ⟨hcs, _⟩ | ⟨a, len, cap, m, k, D, Pl, hcs, hb, hl, hm, hmm, hx, hi⟩
  · simp [Value.cells] at hcs
    obtain ⟨rfl, rfl, rfl⟩ := hcs
    exact ⟨none, 0, 0, rfl, Nat.le_refl _, by omega, fun h => absurd h (Nat.lt_irrefl 0)⟩
  · simp [Value.cells] at hcs
    obtain ⟨rfl, rfl, rfl⟩ := hcs
    have hm' : m = cap0 := by simpa using hmm
    simp only [maxLen] at hm
    have each : ∀ i, i < len0 → ∃ (cs : List Value) (q : Nat) (y : DataW H × List MemPlace), cs.length = C ∧ (∀ (j : Nat) (u : Value), cs[j]? = some u → W.cell? (a.add (i * C + j)) = some u) ∧ DataW.trod enc Try.prog W 0 (fun _ => true) true q e cs = some y := by
      intro i hin
      obtain ⟨cs, hc, htr⟩ := hi i (by omega)
      rw [hC] at hc
      obtain ⟨_, hcl, hat⟩ := World.cells?_some hc
      refine ⟨cs, _, _, hcl, fun j u hj => ?_, htr⟩
      have hj2 : j < C := by have := (List.getElem?_eq_some_iff.1 hj).1; omega
      have hcell := hat j hj2
      rw [Go.Deep.add_add, hj] at hcell
      exact hcell
    refine ⟨some a, len0, cap0, rfl, hl, by omega, fun hn => ?_⟩
    obtain ⟨cs0, q0, y0, hl0, hc0, _⟩ := each 0 hn
    obtain ⟨u0, hu0⟩ : ∃ u, cs0[0]? = some u := ⟨_, List.getElem?_eq_getElem (by omega)⟩
    have h00 := hc0 0 u0 hu0
    rw [Nat.zero_mul, Nat.zero_add] at h00
    obtain ⟨b, o, rfl⟩ := plain_addr h00
    refine ⟨b, o, rfl, ?_, fun i hin => ?_⟩
    · rw [plain_add] at h00
      exact block_lt_of_cell h00
    · obtain ⟨cs, q, y, h1, h2, h3⟩ := each i hin
      refine ⟨cs, q, y, h1, fun j u hj => ?_, h3⟩
      have := h2 j u hj
      rwa [plain_add] at this
end
namespace Ml
/-- A step: its kind, its mail, its number. -/
structure St where
  k : Nat
  m : M
  i : Int
def St.cells (s : St) : List Value := [.int .u8 (s.k : Int), .int .i64 s.m.f, .int .i64 s.m.t, .string s.m.s, .int .i64 s.i]
end Ml
/-- A slice of steps. -/
def RdSt (w : World) (A : Option Addr) (n : Nat) (l : List Ml.St) : Prop :=
  l.length = n ∧ (0 < n → ∃ b o, A = some ⟨b, o, none⟩ ∧ b < w.heap.size ∧ ∀ i s, l[i]? = some s → (∀ j u, s.cells[j]? = some u → w.cell? ⟨b, o + (i * 5 + j), none⟩ = some u) ∧ s.k < 256 ∧ s.m.s.size ≤ 9223372036854775807)
theorem cells_step : Try.prog.cellsOf 30 = 5 := by kernel_rfl
theorem cells_u8 : Try.prog.cellsOf 5 = 1 := by kernel_rfl
theorem cells_i64 : Try.prog.cellsOf 3 = 1 := by kernel_rfl
theorem cells_txt : Try.prog.cellsOf 9 = 1 := by kernel_rfl
theorem list5 {α : Type} {cs : List α} (h : cs.length = 5) : ∃ a b c d e, cs = [a, b, c, d, e] := by
  match cs, h with
  | [a, b, c, d, e], _ => exact ⟨a, b, c, d, e, rfl⟩
section
variable {H : Type} {enc : TypeId × Value → H} {W : World} {base : Nat} {v : Value} {d : DataW H} {p : List MemPlace}
theorem one_u8 {f : Nat} {c : Value} {y : DataW H × List MemPlace} {sp : Nat → Bool} {hd : Bool} (h : DataW.trod enc Try.prog W 0 sp hd f 5 [c] = some y) : ∃ n : Nat, c = .int .u8 (n : Int) ∧ n < 256 := by
  obtain ⟨a, e0, _, wa⟩ := DataW.trod_int Try.underlying5 h
  simp at e0
  obtain ⟨n, rfl, hn⟩ := u8_in wa
  exact ⟨n, e0, hn⟩
set_option maxRecDepth 100000 in
theorem open_step {q : Nat} {cs : List Value} {y : DataW H × List MemPlace} {sp : Nat → Bool} {hd : Bool} (hl : cs.length = 5) (h : DataW.trod enc Try.prog W 0 sp hd q 30 cs = some y) : ∃ s : Ml.St, cs = s.cells ∧ s.k < 256 ∧ s.m.s.size ≤ 9223372036854775807 := by
  obtain ⟨c0, c1, c2, c3, c4, rfl⟩ := list5 hl
  obtain ⟨xs, n, _, _, _, hlen, hf⟩ := DataW.trod_struct Try.underlying30 h
  match xs, hlen with
  | [y0, y1, y2], _ =>
    have h0 := hf 0 _ rfl
    have h1 := hf 1 _ rfl
    have h2 := hf 2 _ rfl
    simp only [List.getElem?_cons_zero, List.getElem?_cons_succ] at h0 h1 h2
    obtain ⟨k, rfl, hk⟩ := one_u8 h0
    obtain ⟨i, rfl, _⟩ := one_int Try.underlying3 h2
    obtain ⟨zs, n2, _, _, _, hlen2, hf2⟩ := DataW.trod_struct Try.underlying28 h1
    match zs, hlen2 with
    | [z0, z1, z2], _ =>
      have g0 := hf2 0 _ rfl
      have g1 := hf2 1 _ rfl
      have g2 := hf2 2 _ rfl
      simp only [List.getElem?_cons_zero, List.getElem?_cons_succ] at g0 g1 g2
      obtain ⟨f, rfl, _⟩ := one_int Try.underlying3 g0
      obtain ⟨t, rfl, _⟩ := one_int Try.underlying3 g1
      obtain ⟨s, rfl, hs⟩ := one_str g2
      exact ⟨⟨k, ⟨f, t, s⟩, i⟩, rfl, hk, hs⟩
set_option maxRecDepth 100000 in
theorem in_nsteps (hval : Value.okWide Try.prog W .any base 22 v) (h : Reads enc W 22 v d p) : ∃ (A : Option Addr) (n cap : Nat) (l : List Ml.St), v = .slice A n cap ∧ RdSt W A n l ∧ n ≤ cap ∧ n ≤ 9223372036854775807 := by
  obtain ⟨A, n, cap, rfl, hc, hn, hr⟩ := in_elems Try.underlying22 cells_step (by decide) hval h
  by_cases h0 : 0 < n
  · obtain ⟨b, o, rfl, hb, he⟩ := hr h0
    obtain ⟨l, hl, hp⟩ := exists_list (α := Ml.St) (P := fun i s => (∀ j u, s.cells[j]? = some u → W.cell? ⟨b, o + (i * 5 + j), none⟩ = some u) ∧ s.k < 256 ∧ s.m.s.size ≤ 9223372036854775807) n (fun i hi => by
      obtain ⟨cs, q, y, h1, h2, h3⟩ := he i hi
      obtain ⟨s, rfl, hk, hs⟩ := open_step h1 h3
      exact ⟨s, h2, hk, hs⟩)
    exact ⟨some ⟨b, o, none⟩, n, cap, l, rfl, ⟨hl, fun _ => ⟨b, o, rfl, hb, hp⟩⟩, hc, hn⟩
  · have : n = 0 := by omega
    subst this
    exact ⟨A, 0, cap, [], rfl, ⟨rfl, fun h => absurd h (by omega)⟩, hc, hn⟩
end
end Go.Proofs.Ythganbbiclmgpaa
