/- Slices of structs of plain fields that came in: what each field of each element reads as. -/
import Derived.Test.YtcoekdfmfjglpaaIns
import Derived.Deep.Slices
import Derived.Deep.Fields
namespace Go.Proofs.Ytcoekdfmfjglpaa
open Go.ChangeShapes Go.WideShapes Go.ChangeAt Go.RowKit Go.Deep
theorem exists_list {α : Type} {P : Nat → α → Prop} (n : Nat) (h : ∀ i, i < n → ∃ a, P i a) : ∃ l : List α, l.length = n ∧ ∀ i a, l[i]? = some a → P i a := by
  induction n with
  | zero => exact ⟨[], rfl, fun i a e => by cases e⟩
  | succ n ih =>
    obtain ⟨l, hl, hp⟩ := ih fun i hi => h i (by omega)
    obtain ⟨a, ha⟩ := h n (by omega)
    refine ⟨l ++ [a], by simp [hl], fun i x e => ?_⟩
    by_cases hi : i < l.length
    · rw [List.getElem?_append_left hi] at e; exact hp i x e
    · rw [List.getElem?_append_right (by omega)] at e
      have hi2 : i - l.length = 0 := by
        have := (List.getElem?_eq_some_iff.1 e).1
        simp at this; omega
      rw [hi2] at e
      have hin : i = n := by omega
      simp at e
      subst e
      rw [hin]
      exact ha
theorem plain_addr {w : World} {x : Addr} {v : Value} (h : w.cell? (x.add 0) = some v) : ∃ b o, x = ⟨b, o, none⟩ := by
  obtain ⟨b, o, s⟩ := x
  cases s with
  | none => exact ⟨b, o, rfl⟩
  | some s =>
    unfold World.cell? at h
    split at h
    · simp [Addr.add] at h
    · cases h
theorem plain_add (b o k : Nat) : (⟨b, o, none⟩ : Addr).add k = ⟨b, o + k, none⟩ := by unfold Addr.add; split <;> simp_all
section
variable {H : Type} {enc : TypeId × Value → H} {W : World} {base : Nat} {v : Value} {d : DataW H} {p : List MemPlace}
/-- A field's own reading. -/
def Field1 {H : Type} (enc : TypeId × Value → H) (W : World) (t : TypeId) (v : Value) : Prop := ∃ (m : Nat) (y : DataW H × List MemPlace), DataW.trod enc Try.prog W 0 (fun _ => true) true m t [v] = some y
set_option maxRecDepth 100000 in
theorem in_structs {t e : TypeId} {fs : Array Field} (ht : Try.prog.underlying t = some (.slice e)) (he : Try.prog.underlying e = some (.struct fs)) (hone : oneCellFields Try.prog fs = true) (hC : Try.prog.cellsOf e = fs.size) (hpos : 0 < fs.size)
    (hval : Value.okWide Try.prog W .any base t v) (h : Reads enc W t v d p) :
    ∃ (A : Option Addr) (n cap : Nat), v = .slice A n cap ∧ n ≤ cap ∧ n ≤ 9223372036854775807 ∧ (0 < n → ∃ b o, A = some ⟨b, o, none⟩ ∧ b < W.heap.size ∧ ∀ i, i < n → ∀ (j : Nat) (f : Field), fs[j]? = some f → ∃ u : Value, W.cell? ⟨b, o + (i * fs.size + j), none⟩ = some u ∧ Field1 enc W f.type u) := by
  obtain ⟨a0, len0, cap0, rfl⟩ := okWide_slice ht hval
  obtain ⟨fuel, hf⟩ := h
  rcases open_slice ht hf with ⟨hcs, _⟩ | ⟨a, len, cap, m, k, D, Pl, hcs, hb, hl, hm, hmm, hx, hi⟩
  · simp [Value.cells] at hcs
    obtain ⟨rfl, rfl, rfl⟩ := hcs
    exact ⟨none, 0, 0, rfl, Nat.le_refl _, by omega, fun h => absurd h (Nat.lt_irrefl 0)⟩
  · simp [Value.cells] at hcs
    obtain ⟨rfl, rfl, rfl⟩ := hcs
    have hm' : m = cap0 := by simpa using hmm
    simp only [maxLen] at hm
    have each : ∀ i, i < len0 → ∀ (j : Nat) (f : Field), fs[j]? = some f → ∃ u : Value, W.cell? (a.add (i * fs.size + j)) = some u ∧ Field1 enc W f.type u := by
      intro i hin j f hj
      obtain ⟨cs, hc, htr⟩ := hi i (by omega)
      rw [hC] at hc
      obtain ⟨_, hcl, hat⟩ := World.cells?_some hc
      obtain ⟨xs, q, _, _, _, hxl, hfi⟩ := DataW.trod_struct he htr
      obtain ⟨off, one⟩ := hone_of hone j f hj
      have hj2 : j < fs.size := (Array.getElem?_eq_some_iff.1 hj).1
      have hcell := hat j hj2
      rw [Go.Deep.add_add, List.getElem?_eq_getElem (show j < cs.length by omega)] at hcell
      have hread := hfi j f hj
      rw [off, one, List.drop_eq_getElem_cons (show j < cs.length by omega), List.getElem?_eq_getElem (show j < xs.length by omega)] at hread
      exact ⟨_, hcell, q, _, hread⟩
    refine ⟨some a, len0, cap0, rfl, hl, by omega, fun hn => ?_⟩
    obtain ⟨f0, hf0⟩ : ∃ f, fs[0]? = some f := ⟨_, Array.getElem?_eq_getElem hpos⟩
    obtain ⟨u0, hu0, _⟩ := each 0 hn 0 f0 hf0
    rw [Nat.zero_mul, Nat.zero_add] at hu0
    obtain ⟨b, o, rfl⟩ := plain_addr hu0
    refine ⟨b, o, rfl, ?_, fun i hin j f hj => ?_⟩
    · rw [plain_add] at hu0
      exact block_lt_of_cell hu0
    · obtain ⟨u, hu, hu2⟩ := each i hin j f hj
      rw [plain_add] at hu
      exact ⟨u, hu, hu2⟩
end
end Go.Proofs.Ytcoekdfmfjglpaa
