/- Books as rows of messages that rise by their numbers: what is put, struck, asked and counted. -/
import Derived.Test.YthganbbiclmgpaaPrBase
import Derived.Maps.RangeWalk
namespace Go.Proofs.Ythganbbiclmgpaa
open Go.RowKit
namespace Pr
/-- What a row of messages reads as. -/
def ents (L : List Mg) : List (Lit × DataW Unit) := L.map fun m => (Lit.int .i64 m.q, m.data)
def dat (L : List Mg) : DataW Unit := .map (ents L)
/-- Rising numbers. -/
def Ris (L : List Mg) : Prop := L.Pairwise fun a b => a.q < b.q
/-- A message laid at its place. -/
def ins (m : Mg) : List Mg → List Mg
  | [] => [m]
  | x :: xs => if m.q < x.q then m :: x :: xs else x :: ins m xs
theorem ents_ins (m : Mg) : ∀ L : List Mg, ents (ins m L) = DataW.insert (Lit.int .i64 m.q, m.data) (ents L)
  | [] => rfl
  | x :: xs => by
    by_cases h : m.q < x.q
    · simp [ins, ents, DataW.insert, Lit.before, h]
    · have ih := ents_ins m xs
      simp only [ents] at ih
      simp [ins, ents, DataW.insert, Lit.before, h, ih]
theorem filter_no {L : List Mg} {q : Int} (h : ∀ x ∈ L, x.q ≠ q) : (ents L).filter (fun p => !p.1.sameKey (Lit.int .i64 q)) = ents L := by
  rw [List.filter_eq_self]
  intro p hp
  obtain ⟨x, hx, rfl⟩ := List.mem_map.1 hp
  simp [Lit.sameKey, h x hx]
theorem put_new {L : List Mg} {m : Mg} (h : ∀ x ∈ L, x.q ≠ m.q) : (dat L).put (.int .i64 m.q) m.data = dat (ins m L) := by
  show DataW.map (DataW.insert _ _) = _
  rw [filter_no h, ← ents_ins]
  rfl
theorem ins_last {m : Mg} : ∀ {L : List Mg}, (∀ x ∈ L, x.q < m.q) → ins m L = L ++ [m]
  | [], _ => rfl
  | x :: xs, h => by
    have := h x (by simp)
    rw [ins, if_neg (by omega), ins_last (fun y hy => h y (by simp [hy]))]
    rfl
theorem mem_ins {m x : Mg} : ∀ {L : List Mg}, x ∈ ins m L ↔ x = m ∨ x ∈ L
  | [] => by simp [ins]
  | y :: ys => by
    unfold ins
    split
    · simp
    · simp [mem_ins (L := ys)]
      constructor
      · rintro (h | h | h)
        · exact .inr (.inl h)
        · exact .inl h
        · exact .inr (.inr h)
      · rintro (h | h | h)
        · exact .inr (.inl h)
        · exact .inl h
        · exact .inr (.inr h)
theorem ris_ins {m : Mg} : ∀ {L : List Mg}, Ris L → (∀ x ∈ L, x.q ≠ m.q) → Ris (ins m L)
  | [], _, _ => List.pairwise_singleton _ _
  | x :: xs, h, hn => by
    obtain ⟨h1, h2⟩ := List.pairwise_cons.1 h
    unfold ins
    split
    · rename_i hlt
      refine List.pairwise_cons.2 ⟨fun y hy => ?_, h⟩
      rcases List.mem_cons.1 hy with rfl | hy
      · exact hlt
      · have := h1 y hy; omega
    · rename_i hlt
      refine List.pairwise_cons.2 ⟨fun y hy => ?_, ris_ins h2 (fun y hy => hn y (by simp [hy]))⟩
      rcases mem_ins.1 hy with rfl | hy
      · have := hn x (by simp); omega
      · exact h1 y hy
theorem len_ins (m : Mg) : ∀ L : List Mg, (ins m L).length = L.length + 1
  | [] => rfl
  | x :: xs => by
    unfold ins
    split
    · rfl
    · simp [len_ins m xs]
/-- Is there one of that number? -/
def hasq (L : List Mg) (q : Int) : Bool := L.any fun x => decide (x.q = q)
theorem has_dat (L : List Mg) (q : Int) : Maps.has (dat L) (.int .i64 q) = hasq L q := by
  show (ents L).any _ = _
  unfold ents hasq
  rw [List.any_map]
  congr 1
  funext x
  simp [Lit.sameKey]
theorem hasq_no {L : List Mg} {q : Int} (h : hasq L q = false) : ∀ x ∈ L, x.q ≠ q := by
  intro x hx e
  have := (List.any_eq_false.1 h) x hx
  simp [e] at this
theorem hasq_yes {L : List Mg} {q : Int} : hasq L q = true ↔ ∃ x ∈ L, x.q = q := by
  unfold hasq
  rw [List.any_eq_true]
  constructor
  · rintro ⟨x, hx, h⟩; exact ⟨x, hx, by simpa using h⟩
  · rintro ⟨x, hx, h⟩; exact ⟨x, hx, by simpa using h⟩
/-- All but that number. -/
def str (L : List Mg) (q : Int) : List Mg := L.filter fun x => !decide (x.q = q)
theorem del_dat (L : List Mg) (q : Int) : (dat L).del (.int .i64 q) = dat (str L q) := by
  show DataW.map ((ents L).filter _) = DataW.map (ents _)
  unfold ents str
  rw [List.filter_map]
  congr 2
  apply List.filter_congr
  intro x _
  simp [Lit.sameKey]
theorem size_dat (L : List Mg) : Maps.size (dat L) = L.length := by simp [Maps.size, dat, ents]
theorem ris_str {L : List Mg} (h : Ris L) (q : Int) : Ris (str L q) := List.Pairwise.filter _ h
theorem one_q : ∀ {L : List Mg}, Ris L → ∀ {x y : Mg}, x ∈ L → y ∈ L → x.q = y.q → x = y
  | [], _, _, _, hx, _, _ => by simp at hx
  | a :: r, h, x, y, hx, hy, e => by
    obtain ⟨h1, h2⟩ := List.pairwise_cons.1 h
    rcases List.mem_cons.1 hx with ex | hx'
    · rcases List.mem_cons.1 hy with ey | hy'
      · rw [ex, ey]
      · have := h1 y hy'; rw [ex] at e; omega
    · rcases List.mem_cons.1 hy with ey | hy'
      · have := h1 x hx'; rw [ey] at e; omega
      · exact one_q h2 hx' hy' e
theorem at_dat {L : List Mg} (h : Ris L) {m : Mg} (hm : m ∈ L) (z : DataW Unit) : (dat L).atKey (.int .i64 m.q) z = m.data := by
  refine WideAt.atKey_mem z trivial ?_ (List.mem_map.2 ⟨m, hm, rfl⟩)
  refine List.pairwise_map.2 (h.imp ?_)
  intro a b hab e
  injection e with e1 e2
  omega
/-- The numbers, as what there is to sort. -/
def nums (L : List Mg) : List Int := L.map (·.q)
theorem nums_sorted {L : List Mg} (h : Ris L) : (nums L).Pairwise (· < ·) := List.pairwise_map.2 h
/-- A row without repeats that has just these numbers, sorted, is them. -/
theorem sorted_eq {xs : List Int} {L : List Mg} (h : Ris L) (hp : xs.Perm (nums L)) {ys : List Int} (hy : ys.Perm xs) (hs : ys.Pairwise (· ≤ ·)) : ys = nums L := by
  refine List.Perm.eq_of_pairwise (le := (· ≤ ·)) ?_ hs ((nums_sorted h).imp (fun h => by omega)) (hy.trans hp)
  intro a b _ _ h1 h2
  omega
end Pr
end Go.Proofs.Ythganbbiclmgpaa
