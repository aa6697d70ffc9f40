/- A place that came in. -/
import Derived.Test.YtahoiabibjdobaaM12
import Derived.Test.YtahoiabibjdobaaM01
import Derived.Lib.SmallJoins
namespace Go.Proofs.Ytahoiabibjdobaa
open Go.ChangeShapes Go.WideShapes Go.ChangeAt Go.RowKit Go.Deep Go.Joins Fi
set_option linter.unusedVariables false
section
variable {H : Type} {enc : TypeId × Value → H} {W : World} {base : Nat} {v : Value} {d : DataW H} {p : List MemPlace}
theorem one_intF {f : Nat} {c : Value} {y : DataW H × List MemPlace} {sp : Nat → Bool} {hd : Bool} (h : DataW.trod enc Try.prog W 0 sp hd f 3 [c] = some y) : ∃ n : Int, c = .int .i64 n := by
  obtain ⟨a, e0, _, wa⟩ := DataW.trod_int Try.underlying3 h
  simp at e0
  exact ⟨a, e0⟩
set_option maxRecDepth 100000 in
theorem field_structs {t e : TypeId} {fs : Array Field} (ht : Try.prog.underlying t = some (.slice e)) (he : Try.prog.underlying e = some (.struct fs)) (hone : oneCellFields Try.prog fs = true) (hC : Try.prog.cellsOf e = fs.size) (hpos : 0 < fs.size)
    (h : Field1 enc W t v) :
    ∃ (A : Option Addr) (n cap : Nat), v = .slice A n cap ∧ n ≤ cap ∧ n ≤ 9223372036854775807 ∧ (0 < n → ∃ b o, A = some ⟨b, o, none⟩ ∧ b < W.heap.size ∧ ∀ i, i < n → ∀ (j : Nat) (f : Field), fs[j]? = some f → ∃ u : Value, W.cell? ⟨b, o + (i * fs.size + j), none⟩ = some u ∧ Field1 enc W f.type u) := by
  obtain ⟨fuel, y, hf⟩ := h
  rcases open_slice ht hf with ⟨hcs, _⟩ | ⟨a, len0, cap0, m, k, D, Pl, hcs, hb, hl, hm, hmm, hx, hi⟩
  · injection hcs with hcs _
    exact ⟨none, 0, 0, hcs, Nat.le_refl _, by omega, fun h => absurd h (Nat.lt_irrefl 0)⟩
  · injection hcs with hcs _
    have hm' : m = cap0 := by simpa using hmm
    simp only [maxLen] at hm
    have each : ∀ i, i < len0 → ∀ (j : Nat) (f : Field), fs[j]? = some f → ∃ u : Value, W.cell? (a.add (i * fs.size + j)) = some u ∧ Field1 enc W f.type u := by
      intro i hin j f hj
      obtain ⟨cs, hc, htr⟩ := hi i (by omega)
      rw [hC] at hc
      obtain ⟨_, hcl, hat⟩ := World.cells?_some hc
      obtain ⟨xs, q, _, _, _, hxl, hfi⟩ := DataW.trod_struct he htr
      obtain ⟨off, one⟩ := hone_of hone j f hj
      have hj2 : j < fs.size := (Array.getElem?_eq_some_iff.1 hj).1
      have hcell := hat j hj2
      rw [Go.Deep.add_add, List.getElem?_eq_getElem (show j < cs.length by omega)] at hcell
      have hread := hfi j f hj
      rw [off, one, List.drop_eq_getElem_cons (show j < cs.length by omega), List.getElem?_eq_getElem (show j < xs.length by omega)] at hread
      exact ⟨_, hcell, q, _, hread⟩
    refine ⟨some a, len0, cap0, hcs, hl, by omega, fun hn => ?_⟩
    obtain ⟨f0, hf0⟩ : ∃ f, fs[0]? = some f := ⟨_, Array.getElem?_eq_getElem hpos⟩
    obtain ⟨u0, hu0, _⟩ := each 0 hn 0 f0 hf0
    rw [Nat.zero_mul, Nat.zero_add] at hu0
    obtain ⟨b, o, rfl⟩ := plain_addr hu0
    refine ⟨b, o, rfl, ?_, fun i hin j f hj => ?_⟩
    · rw [plain_add] at hu0
      exact block_lt_of_cell hu0
    · obtain ⟨u, hu, hu2⟩ := each i hin j f hj
      rw [plain_add] at hu
      exact ⟨u, hu, hu2⟩
set_option maxRecDepth 100000 in
theorem cells_pair : Try.prog.cellsOf 70 = 2 := by kernel_rfl
set_option maxRecDepth 100000 in
theorem cells_place : Try.prog.cellsOf 34 = 3 := by kernel_rfl
set_option maxRecDepth 100000 in
theorem cells_int : Try.prog.cellsOf 3 = 1 := by kernel_rfl
set_option maxRecDepth 100000 in
theorem cells_prow : Try.prog.cellsOf 32 = 1 := by kernel_rfl
theorem pv_get {l : List (Int × Int)} : ∀ {j : Nat} {u : Value}, (pv l)[j]? = some u → ∃ q, l[j / 2]? = some q ∧ u = if j % 2 = 0 then .int .i64 q.1 else .int .i64 q.2 := by
  induction l with
  | nil => intro j u h; simp [pv, flat] at h
  | cons x xs ih =>
    intro j u h
    match j, h with
    | 0, h => injection h with h; subst h; exact ⟨x, rfl, rfl⟩
    | 1, h => injection h with h; subst h; exact ⟨x, rfl, rfl⟩
    | j + 2, h =>
      have h : (pv xs)[j]? = some u := h
      obtain ⟨q, hq, hv⟩ := ih h
      refine ⟨q, ?_, ?_⟩
      · rw [show (j + 2) / 2 = j / 2 + 1 by omega, List.getElem?_cons_succ]; exact hq
      · rw [show (j + 2) % 2 = j % 2 by omega]; exact hv
set_option maxRecDepth 100000 in
theorem field_pairs (h : Field1 enc W 32 v) : ∃ (A : Option Addr) (n cap : Nat) (l : List (Int × Int)), v = .slice A n cap ∧ l.length = n ∧ RdC 2 W A n (pv l) ∧ n ≤ cap ∧ n ≤ 9223372036854775807 := by
  obtain ⟨A, n, cap, rfl, hc, hn, hr⟩ := field_structs Try.underlying32 Try.underlying70 (by kernel_rfl) cells_pair (by decide) h
  by_cases h0 : 0 < n
  · obtain ⟨b, o, rfl, hb, he⟩ := hr h0
    obtain ⟨l, hl, hp⟩ := exists_list (α := Int × Int) (P := fun i s => W.cell? ⟨b, o + (i * 2 + 0), none⟩ = some (.int .i64 s.1) ∧ W.cell? ⟨b, o + (i * 2 + 1), none⟩ = some (.int .i64 s.2)) n (fun i hi => by
      obtain ⟨u0, c0, m0, y0, r0⟩ := he i hi 0 _ rfl
      obtain ⟨u1, c1, m1, y1, r1⟩ := he i hi 1 _ rfl
      obtain ⟨a0, rfl⟩ := one_intF r0
      obtain ⟨a1, rfl⟩ := one_intF r1
      exact ⟨⟨a0, a1⟩, c0, c1⟩)
    refine ⟨some ⟨b, o, none⟩, n, cap, l, rfl, hl, ⟨by rw [pv_length, hl], fun _ => ⟨b, o, rfl, hb, fun j u hu => ?_⟩⟩, hc, hn⟩
    obtain ⟨q, hq, hx⟩ := pv_get hu
    obtain ⟨c0, c1⟩ := hp _ _ hq
    by_cases hm : j % 2 = 0
    · rw [if_pos hm] at hx
      rw [hx, show o + j = o + (j / 2 * 2 + 0) by omega]
      exact c0
    · rw [if_neg hm] at hx
      rw [hx, show o + j = o + (j / 2 * 2 + 1) by omega]
      exact c1
  · have : n = 0 := by omega
    subst this
    exact ⟨A, 0, cap, [], rfl, rfl, RdC.nil 2 W A, hc, hn⟩
set_option maxRecDepth 100000 in
theorem in_place (hval : Value.okWide Try.prog W .any base 34 v) (h : Reads enc W 34 v d p) : ∃ (s : Pl) (A : Option Addr) (c : Nat), v = Fi.val s A c ∧ RdC 2 W A s.ps.length (pv s.ps) ∧ s.ps.length ≤ c ∧ s.ps.length ≤ 9223372036854775807 := by
  obtain ⟨v0, v1, v2, y0, y1, y2, m, rfl, _, _, h0, h1, h2⟩ := open_agg3 Try.underlying34 (by kernel_rfl) cells_place hval h
  obtain ⟨a0, rfl⟩ := one_intF h0
  obtain ⟨a1, rfl⟩ := one_intF h1
  obtain ⟨A, k, cap, l, rfl, hlm, hr, hc, hn⟩ := field_pairs ⟨_, _, h2⟩
  refine ⟨⟨a0, a1, l⟩, A, cap, ?_, ?_, ?_, ?_⟩
  · unfold Fi.val; rw [hlm]
  · rw [hlm]; exact hr
  · rw [hlm]; exact hc
  · rw [hlm]; exact hn
set_option maxRecDepth 100000 in
theorem in_fkind (hval : Value.okWide Try.prog W .any base 36 v) (h : Reads enc W 36 v d p) : ∃ n : Int, v = .int .i64 n ∧ -9223372036854775808 ≤ n ∧ n ≤ 9223372036854775807 := by
  obtain ⟨a, rfl, rfl, rfl, wf⟩ := open_int Try.underlying36 hval h
  exact ⟨a, rfl, i64_in wf⟩
end
end Go.Proofs.Ytahoiabibjdobaa
