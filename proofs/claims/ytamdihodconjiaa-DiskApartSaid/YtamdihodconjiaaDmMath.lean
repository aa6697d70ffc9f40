/- A map of rows by their sectors, as a list that rises: what is put, struck, asked and counted. -/
import Derived.Test.YtamdihodconjiaaDkMem
import Derived.Maps.RangeWalk
namespace Go.Proofs.Ytamdihodconjiaa
open Go.RowKit
namespace Dm
/-- A sector's row: the sector, its block, how many, how many may be. -/
structure Mp where
  q : Int
  a : Nat
  n : Nat
  c : Nat
def Mp.val (m : Mp) : Value := .slice (some ⟨m.a, 0, none⟩) m.n m.c
def Mp.data (m : Mp) : DataW Unit := .agg [.lit (.int .i64 (m.a : Int)), .lit (.int .i64 (m.n : Int)), .lit (.int .i64 (m.c : Int))]
def none_ : DataW Unit := .agg [.lit (.int .i64 (-1)), .lit (.int .i64 0), .lit (.int .i64 0)]
/-- How an element of the map reads: its address, its length, its room. -/
def elem : Value → Option (DataW Unit × List MemPlace)
  | .slice (some ⟨a, 0, none⟩) n c => some (.agg [.lit (.int .i64 (a : Int)), .lit (.int .i64 (n : Int)), .lit (.int .i64 (c : Int))], [])
  | .slice none 0 0 => some (none_, [])
  | _ => none
theorem elem_mk (m : Mp) : elem m.val = some (m.data, []) := rfl
theorem elem_nil : elem (.slice none 0 0) = some (none_, []) := rfl
/-- What a row of messages reads as. -/
def ents (L : List Mp) : List (Lit × DataW Unit) := L.map fun m => (Lit.int .i64 m.q, m.data)
def dat (L : List Mp) : DataW Unit := .map (ents L)
/-- Rising numbers. -/
def Ris (L : List Mp) : Prop := L.Pairwise fun a b => a.q < b.q
/-- A message laid at its place. -/
def ins (m : Mp) : List Mp → List Mp
  | [] => [m]
  | x :: xs => if m.q < x.q then m :: x :: xs else x :: ins m xs
theorem ents_ins (m : Mp) : ∀ L : List Mp, ents (ins m L) = DataW.insert (Lit.int .i64 m.q, m.data) (ents L)
  | [] => rfl
  | x :: xs => by
    by_cases h : m.q < x.q
    · simp [ins, ents, DataW.insert, Lit.before, h]
    · have ih := ents_ins m xs
      simp only [ents] at ih
      simp [ins, ents, DataW.insert, Lit.before, h, ih]
theorem filter_no {L : List Mp} {q : Int} (h : ∀ x ∈ L, x.q ≠ q) : (ents L).filter (fun p => !p.1.sameKey (Lit.int .i64 q)) = ents L := by
  rw [List.filter_eq_self]
  intro p hp
  obtain ⟨x, hx, rfl⟩ := List.mem_map.1 hp
  simp [Lit.sameKey, h x hx]
theorem put_new {L : List Mp} {m : Mp} (h : ∀ x ∈ L, x.q ≠ m.q) : (dat L).put (.int .i64 m.q) m.data = dat (ins m L) := by
  show DataW.map (DataW.insert _ _) = _
  rw [filter_no h, ← ents_ins]
  rfl
theorem ins_last {m : Mp} : ∀ {L : List Mp}, (∀ x ∈ L, x.q < m.q) → ins m L = L ++ [m]
  | [], _ => rfl
  | x :: xs, h => by
    have := h x (by simp)
    rw [ins, if_neg (by omega), ins_last (fun y hy => h y (by simp [hy]))]
    rfl
theorem mem_ins {m x : Mp} : ∀ {L : List Mp}, x ∈ ins m L ↔ x = m ∨ x ∈ L
  | [] => by simp [ins]
  | y :: ys => by
    unfold ins
    split
    · simp
    · simp [mem_ins (L := ys)]
      constructor
      · rintro (h | h | h)
        · exact .inr (.inl h)
        · exact .inl h
        · exact .inr (.inr h)
      · rintro (h | h | h)
        · exact .inr (.inl h)
        · exact .inl h
        · exact .inr (.inr h)
theorem ris_ins {m : Mp} : ∀ {L : List Mp}, Ris L → (∀ x ∈ L, x.q ≠ m.q) → Ris (ins m L)
  | [], _, _ => List.pairwise_singleton _ _
  | x :: xs, h, hn => by
    obtain ⟨h1, h2⟩ := List.pairwise_cons.1 h
    unfold ins
    split
    · rename_i hlt
      refine List.pairwise_cons.2 ⟨fun y hy => ?_, h⟩
      rcases List.mem_cons.1 hy with rfl | hy
      · exact hlt
      · have := h1 y hy; omega
    · rename_i hlt
      refine List.pairwise_cons.2 ⟨fun y hy => ?_, ris_ins h2 (fun y hy => hn y (by simp [hy]))⟩
      rcases mem_ins.1 hy with rfl | hy
      · have := hn x (by simp); omega
      · exact h1 y hy
theorem len_ins (m : Mp) : ∀ L : List Mp, (ins m L).length = L.length + 1
  | [] => rfl
  | x :: xs => by
    unfold ins
    split
    · rfl
    · simp [len_ins m xs]
/-- Is there one of that number? -/
def hasq (L : List Mp) (q : Int) : Bool := L.any fun x => decide (x.q = q)
theorem has_dat (L : List Mp) (q : Int) : Maps.has (dat L) (.int .i64 q) = hasq L q := by
  show (ents L).any _ = _
  unfold ents hasq
  rw [List.any_map]
  congr 1
  funext x
  simp [Lit.sameKey]
theorem hasq_no {L : List Mp} {q : Int} (h : hasq L q = false) : ∀ x ∈ L, x.q ≠ q := by
  intro x hx e
  have := (List.any_eq_false.1 h) x hx
  simp [e] at this
theorem hasq_yes {L : List Mp} {q : Int} : hasq L q = true ↔ ∃ x ∈ L, x.q = q := by
  unfold hasq
  rw [List.any_eq_true]
  constructor
  · rintro ⟨x, hx, h⟩; exact ⟨x, hx, by simpa using h⟩
  · rintro ⟨x, hx, h⟩; exact ⟨x, hx, by simpa using h⟩
/-- All but that number. -/
def str (L : List Mp) (q : Int) : List Mp := L.filter fun x => !decide (x.q = q)
theorem del_dat (L : List Mp) (q : Int) : (dat L).del (.int .i64 q) = dat (str L q) := by
  show DataW.map ((ents L).filter _) = DataW.map (ents _)
  unfold ents str
  rw [List.filter_map]
  congr 2
  apply List.filter_congr
  intro x _
  simp [Lit.sameKey]
theorem put_any (L : List Mp) (m : Mp) : (dat L).put (.int .i64 m.q) m.data = dat (ins m (str L m.q)) := by
  show DataW.map (DataW.insert _ ((ents L).filter _)) = _
  have : (ents L).filter (fun p => !p.1.sameKey (Lit.int .i64 m.q)) = ents (str L m.q) := by
    have := del_dat L m.q
    injection this
  rw [this, ← ents_ins]
  rfl
theorem str_none {L : List Mp} {q : Int} (h : hasq L q = false) : str L q = L := by
  unfold str
  rw [List.filter_eq_self]
  intro x hx
  simpa using hasq_no h x hx
theorem mem_str {L : List Mp} {q : Int} {x : Mp} : x ∈ str L q ↔ x ∈ L ∧ x.q ≠ q := by
  unfold str; rw [List.mem_filter]; simp
theorem size_dat (L : List Mp) : Maps.size (dat L) = L.length := by simp [Maps.size, dat, ents]
theorem ris_str {L : List Mp} (h : Ris L) (q : Int) : Ris (str L q) := List.Pairwise.filter _ h
theorem one_q : ∀ {L : List Mp}, Ris L → ∀ {x y : Mp}, x ∈ L → y ∈ L → x.q = y.q → x = y
  | [], _, _, _, hx, _, _ => by simp at hx
  | a :: r, h, x, y, hx, hy, e => by
    obtain ⟨h1, h2⟩ := List.pairwise_cons.1 h
    rcases List.mem_cons.1 hx with ex | hx'
    · rcases List.mem_cons.1 hy with ey | hy'
      · rw [ex, ey]
      · have := h1 y hy'; rw [ex] at e; omega
    · rcases List.mem_cons.1 hy with ey | hy'
      · have := h1 x hx'; rw [ey] at e; omega
      · exact one_q h2 hx' hy' e
theorem at_dat {L : List Mp} (h : Ris L) {m : Mp} (hm : m ∈ L) (z : DataW Unit) : (dat L).atKey (.int .i64 m.q) z = m.data := by
  refine WideAt.atKey_mem z trivial ?_ (List.mem_map.2 ⟨m, hm, rfl⟩)
  refine List.pairwise_map.2 (h.imp ?_)
  intro a b hab e
  injection e with e1 e2
  omega
end Dm
end Go.Proofs.Ytamdihodconjiaa
