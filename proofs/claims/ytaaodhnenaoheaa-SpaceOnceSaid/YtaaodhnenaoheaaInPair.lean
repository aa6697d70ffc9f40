/- Pairs, and slices of pairs, that came in. -/
import Derived.Test.YtaaodhnenaoheaaStructsI
import Derived.Test.YtaaodhnenaoheaaRowC
import Derived.Test.YtaaodhnenaoheaaInts
import Derived.Lib.SmallJoins
namespace Go.Proofs.Ytaaodhnenaoheaa
open Go.ChangeShapes Go.WideShapes Go.ChangeAt Go.RowKit Go.Joins
/-- A pair as a value. -/
def pairV (a b : Int) : Value := .agg #[.int .i64 a, .int .i64 b]
def Small (x : Int) : Prop := -9223372036854775808 ≤ x ∧ x ≤ 9223372036854775807
def flat : List (Int × Int) → List Int
  | [] => []
  | p :: ps => p.1 :: p.2 :: flat ps
theorem flat_length (ps : List (Int × Int)) : (flat ps).length = ps.length * 2 := by
  induction ps with
  | nil => rfl
  | cons p ps ih => simp only [flat, List.length_cons, ih]; omega
theorem flat_at (ps : List (Int × Int)) (j : Nat) (v : Int) (h : (flat ps)[j]? = some v) : ∃ p, ps[j / 2]? = some p ∧ v = if j % 2 = 0 then p.1 else p.2 := by
  induction ps generalizing j with
  | nil => simp [flat] at h
  | cons p ps ih =>
    match j, h with
    | 0, h => simp [flat] at h; exact ⟨p, rfl, by simp [h]⟩
    | 1, h => simp [flat] at h; exact ⟨p, rfl, by simp [h]⟩
    | j + 2, h =>
      simp only [flat, List.getElem?_cons_succ] at h
      obtain ⟨q, hq, hv⟩ := ih j h
      refine ⟨q, ?_, ?_⟩
      · rw [show (j + 2) / 2 = j / 2 + 1 by omega, List.getElem?_cons_succ]; exact hq
      · rw [show (j + 2) % 2 = j % 2 by omega]; exact hv
section
variable {H : Type} {enc : TypeId × Value → H} {W : World} {base : Nat} {v : Value} {d : DataW H} {p : List MemPlace}
theorem cells_pair : Try.prog.cellsOf 56 = 2 := by kernel_rfl
theorem one_int {f : Nat} {c : Value} {y : DataW H × List MemPlace} {sp : Nat → Bool} {hd : Bool} (h : DataW.trod enc Try.prog W 0 sp hd f 3 [c] = some y) : ∃ n : Int, c = .int .i64 n ∧ Small n := by
  obtain ⟨a, e0, _, wa⟩ := DataW.trod_int Try.underlying3 h
  simp at e0
  exact ⟨a, e0, i64_in wa⟩
set_option maxRecDepth 100000 in
theorem in_pair (hval : Value.okWide Try.prog W .any base 56 v) (h : Reads enc W 56 v d p) : ∃ (a b : Int), v = pairV a b ∧ Small a ∧ Small b := by
  obtain ⟨v0, v1, y0, y1, m, rfl, _, _, h0, h1⟩ := open_agg2 Try.underlying56 (by kernel_rfl) cells_pair hval h
  obtain ⟨a, rfl, a1⟩ := one_int h0
  obtain ⟨b, rfl, b1⟩ := one_int h1
  exact ⟨a, b, rfl, a1, b1⟩
set_option maxRecDepth 100000 in
theorem in_pairs (hval : Value.okWide Try.prog W .any base 39 v) (h : Reads enc W 39 v d p) : ∃ (A : Option Addr) (n cap : Nat) (l : List (Int × Int)), v = .slice A n cap ∧ l.length = n ∧ RdC 2 W A n (iv (flat l)) ∧ (∀ x ∈ l, Small x.1 ∧ Small x.2) ∧ n ≤ cap ∧ n ≤ 9223372036854775807 := by
  obtain ⟨A, n, cap, rfl, hc, hn, hr⟩ := in_structs Try.underlying39 Try.underlying56 (by kernel_rfl) cells_pair (by decide) hval h
  by_cases h0 : 0 < n
  · obtain ⟨b, o, rfl, hb, he⟩ := hr h0
    obtain ⟨l, hl, hp⟩ := exists_list (α := Int × Int) (P := fun i s => W.cell? ⟨b, o + (i * 2 + 0), none⟩ = some (.int .i64 s.1) ∧ W.cell? ⟨b, o + (i * 2 + 1), none⟩ = some (.int .i64 s.2) ∧ Small s.1 ∧ Small s.2) n (fun i hi => by
      obtain ⟨u0, c0, m0, y0, r0⟩ := he i hi 0 _ rfl
      obtain ⟨u1, c1, m1, y1, r1⟩ := he i hi 1 _ rfl
      obtain ⟨a0, rfl, w0⟩ := one_int r0
      obtain ⟨a1, rfl, w1⟩ := one_int r1
      exact ⟨⟨a0, a1⟩, c0, c1, w0, w1⟩)
    refine ⟨some ⟨b, o, none⟩, n, cap, l, rfl, hl, ⟨by rw [iv_length, flat_length, hl], fun _ => ⟨b, o, rfl, hb, fun j u hu => ?_⟩⟩, fun x hx => ?_, hc, hn⟩
    · unfold iv at hu
      rw [List.getElem?_map] at hu
      cases hf : (flat l)[j]? with
      | none => rw [hf] at hu; cases hu
      | some x =>
        rw [hf] at hu
        injection hu with hu
        subst hu
        obtain ⟨q, hq, hx⟩ := flat_at l j x hf
        obtain ⟨c0, c1, _, _⟩ := hp _ _ hq
        by_cases hm : j % 2 = 0
        · rw [if_pos hm] at hx
          rw [hx, show o + j = o + (j / 2 * 2 + 0) by omega]
          exact c0
        · rw [if_neg hm] at hx
          rw [hx, show o + j = o + (j / 2 * 2 + 1) by omega]
          exact c1
    · obtain ⟨i, hi⟩ := List.getElem?_of_mem hx
      exact (hp i x hi).2.2
  · have : n = 0 := by omega
    subst this
    exact ⟨A, 0, cap, [], rfl, rfl, RdC.nil 2 W A, (fun x hx => by cases hx), hc, hn⟩
end
end Go.Proofs.Ytaaodhnenaoheaa
