/- Steps of layer 6 that came in: a kind, a slice of pairs, a number. -/
import Derived.Test.YtaaodhnenaoheaaInPair
namespace Go.Proofs.Ytaaodhnenaoheaa
open Go.ChangeShapes Go.WideShapes Go.ChangeAt Go.RowKit Go.Joins Go.Deep
section
variable {H : Type} {enc : TypeId × Value → H} {W : World} {base : Nat} {v : Value} {d : DataW H} {p : List MemPlace}
/-- A slice of structs that lies in a field. -/
theorem field_structs {t e : TypeId} {fs : Array Field} (ht : Try.prog.underlying t = some (.slice e)) (he : Try.prog.underlying e = some (.struct fs)) (hone : oneCellFields Try.prog fs = true) (hC : Try.prog.cellsOf e = fs.size) (hpos : 0 < fs.size)
    (h : Field1 enc W t v) :
    ∃ (A : Option Addr) (n cap : Nat), v = .slice A n cap ∧ n ≤ cap ∧ n ≤ 9223372036854775807 ∧ (0 < n → ∃ b o, A = some ⟨b, o, none⟩ ∧ b < W.heap.size ∧ ∀ i, i < n → ∀ (j : Nat) (f : Field), fs[j]? = some f → ∃ u : Value, W.cell? ⟨b, o + (i * fs.size + j), none⟩ = some u ∧ Field1 enc W f.type u) := by
  obtain ⟨fuel, y, hf⟩ := h
  rcases open_slice ht hf with ⟨hcs, _⟩ | ⟨a, len0, cap0, m, k, D, Pl, hcs, hb, hl, hm, hmm, hx, hi⟩
  · injection hcs with hcs _
    exact ⟨none, 0, 0, hcs, Nat.le_refl _, by omega, fun h => absurd h (Nat.lt_irrefl 0)⟩
  · injection hcs with hcs _
    have hm' : m = cap0 := by simpa using hmm
    simp only [maxLen] at hm
    have each : ∀ i, i < len0 → ∀ (j : Nat) (f : Field), fs[j]? = some f → ∃ u : Value, W.cell? (a.add (i * fs.size + j)) = some u ∧ Field1 enc W f.type u := by
      intro i hin j f hj
      obtain ⟨cs, hc, htr⟩ := hi i (by omega)
      rw [hC] at hc
      obtain ⟨_, hcl, hat⟩ := World.cells?_some hc
      obtain ⟨xs, q, _, _, _, hxl, hfi⟩ := DataW.trod_struct he htr
      obtain ⟨off, one⟩ := hone_of hone j f hj
      have hj2 : j < fs.size := (Array.getElem?_eq_some_iff.1 hj).1
      have hcell := hat j hj2
      rw [Go.Deep.add_add, List.getElem?_eq_getElem (show j < cs.length by omega)] at hcell
      have hread := hfi j f hj
      rw [off, one, List.drop_eq_getElem_cons (show j < cs.length by omega), List.getElem?_eq_getElem (show j < xs.length by omega)] at hread
      exact ⟨_, hcell, q, _, hread⟩
    refine ⟨some a, len0, cap0, hcs, hl, by omega, fun hn => ?_⟩
    obtain ⟨f0, hf0⟩ : ∃ f, fs[0]? = some f := ⟨_, Array.getElem?_eq_getElem hpos⟩
    obtain ⟨u0, hu0, _⟩ := each 0 hn 0 f0 hf0
    rw [Nat.zero_mul, Nat.zero_add] at hu0
    obtain ⟨b, o, rfl⟩ := plain_addr hu0
    refine ⟨b, o, rfl, ?_, fun i hin j f hj => ?_⟩
    · rw [plain_add] at hu0
      exact block_lt_of_cell hu0
    · obtain ⟨u, hu, hu2⟩ := each i hin j f hj
      rw [plain_add] at hu
      exact ⟨u, hu, hu2⟩
theorem field_pairs (h : Field1 enc W 39 v) : ∃ (A : Option Addr) (n cap : Nat) (l : List (Int × Int)), v = .slice A n cap ∧ l.length = n ∧ RdC 2 W A n (iv (flat l)) ∧ n ≤ cap ∧ n ≤ 9223372036854775807 := by
  obtain ⟨A, n, cap, rfl, hc, hn, hr⟩ := field_structs Try.underlying39 Try.underlying56 (by kernel_rfl) cells_pair (by decide) h
  by_cases h0 : 0 < n
  · obtain ⟨b, o, rfl, hb, he⟩ := hr h0
    obtain ⟨l, hl, hp⟩ := exists_list (α := Int × Int) (P := fun i s => W.cell? ⟨b, o + (i * 2 + 0), none⟩ = some (.int .i64 s.1) ∧ W.cell? ⟨b, o + (i * 2 + 1), none⟩ = some (.int .i64 s.2)) n (fun i hi => by
      obtain ⟨u0, c0, m0, y0, r0⟩ := he i hi 0 _ rfl
      obtain ⟨u1, c1, m1, y1, r1⟩ := he i hi 1 _ rfl
      obtain ⟨a0, rfl, w0⟩ := one_int r0
      obtain ⟨a1, rfl, w1⟩ := one_int r1
      exact ⟨⟨a0, a1⟩, c0, c1⟩)
    refine ⟨some ⟨b, o, none⟩, n, cap, l, rfl, hl, ⟨by rw [iv_length, flat_length, hl], fun _ => ⟨b, o, rfl, hb, fun j u hu => ?_⟩⟩, hc, hn⟩
    unfold iv at hu
    rw [List.getElem?_map] at hu
    cases hf : (flat l)[j]? with
    | none => rw [hf] at hu; cases hu
    | some x =>
      rw [hf] at hu
      injection hu with hu
      subst hu
      obtain ⟨q, hq, hx⟩ := flat_at l j x hf
      obtain ⟨c0, c1⟩ := hp _ _ hq
      by_cases hm : j % 2 = 0
      · rw [if_pos hm] at hx
        rw [hx, show o + j = o + (j / 2 * 2 + 0) by omega]
        exact c0
      · rw [if_neg hm] at hx
        rw [hx, show o + j = o + (j / 2 * 2 + 1) by omega]
        exact c1
  · have : n = 0 := by omega
    subst this
    exact ⟨A, 0, cap, [], rfl, rfl, RdC.nil 2 W A, hc, hn⟩
/-- A step. -/
structure St where
  k : Nat
  A : Option Addr
  m : Nat
  c : Nat
  ps : List (Int × Int)
  n : Int
/-- A slice that reads as these steps. -/
def RdSt (w : World) (A : Option Addr) (n : Nat) (l : List St) : Prop :=
  l.length = n ∧ (0 < n → ∃ b o, A = some ⟨b, o, none⟩ ∧ b < w.heap.size ∧ ∀ (i : Nat) (s : St), l[i]? = some s →
    w.cell? ⟨b, o + (i * 3 + 0), none⟩ = some (.int .u8 (s.k : Int)) ∧ w.cell? ⟨b, o + (i * 3 + 1), none⟩ = some (.slice s.A s.m s.c) ∧ w.cell? ⟨b, o + (i * 3 + 2), none⟩ = some (.int .i64 s.n) ∧ s.k < 256 ∧ s.ps.length = s.m ∧ RdC 2 w s.A s.m (iv (flat s.ps)) ∧ s.m ≤ s.c ∧ s.m ≤ 9223372036854775807 ∧ Small s.n)
theorem cells_step : Try.prog.cellsOf 41 = 3 := by kernel_rfl
set_option maxRecDepth 100000 in
theorem in_steps (hval : Value.okWide Try.prog W .any base 38 v) (h : Reads enc W 38 v d p) : ∃ (A : Option Addr) (n cap : Nat) (l : List St), v = .slice A n cap ∧ RdSt W A n l ∧ n ≤ cap ∧ n ≤ 9223372036854775807 := by
  obtain ⟨A, n, cap, rfl, hc, hn, hr⟩ := in_structs Try.underlying38 Try.underlying41 (by kernel_rfl) cells_step (by decide) hval h
  by_cases h0 : 0 < n
  · obtain ⟨b, o, rfl, hb, he⟩ := hr h0
    obtain ⟨l, hl, hp⟩ := exists_list (α := St) (P := fun i s => W.cell? ⟨b, o + (i * 3 + 0), none⟩ = some (.int .u8 (s.k : Int)) ∧ W.cell? ⟨b, o + (i * 3 + 1), none⟩ = some (.slice s.A s.m s.c) ∧ W.cell? ⟨b, o + (i * 3 + 2), none⟩ = some (.int .i64 s.n) ∧ s.k < 256 ∧ s.ps.length = s.m ∧ RdC 2 W s.A s.m (iv (flat s.ps)) ∧ s.m ≤ s.c ∧ s.m ≤ 9223372036854775807 ∧ Small s.n) n (fun i hi => by
      obtain ⟨u0, c0, m0, y0, r0⟩ := he i hi 0 _ rfl
      obtain ⟨u1, c1, r1⟩ := he i hi 1 _ rfl
      obtain ⟨u2, c2, m2, y2, r2⟩ := he i hi 2 _ rfl
      obtain ⟨a0, e0, _, wa⟩ := DataW.trod_int Try.underlying5 r0
      simp at e0
      subst e0
      obtain ⟨k, rfl, hk⟩ := u8_in wa
      obtain ⟨B, m, c, ps, rfl, h1, h2, h3, h4⟩ := field_pairs r1
      obtain ⟨a2, rfl, w2⟩ := one_int r2
      exact ⟨⟨k, B, m, c, ps, a2⟩, c0, c1, c2, hk, h1, h2, h3, h4, w2⟩)
    exact ⟨some ⟨b, o, none⟩, n, cap, l, rfl, ⟨hl, fun _ => ⟨b, o, rfl, hb, hp⟩⟩, hc, hn⟩
  · have : n = 0 := by omega
    subst this
    exact ⟨A, 0, cap, [], rfl, ⟨rfl, fun h => absurd h (Nat.lt_irrefl 0)⟩, hc, hn⟩
end
end Go.Proofs.Ytaaodhnenaoheaa
