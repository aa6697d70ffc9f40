/- Lines and totals: rows of them; which may be a key; which lines may be. -/
import Derived.Test.YtcoekdfmfjglpaaRowC
import Derived.Test.YtcoekdfmfjglpaaHolds
import Derived.Test.YtcoekdfmfjglpaaStepV
namespace Go.Proofs.Ytcoekdfmfjglpaa
open Go.RowKit
namespace Bo
/-- A line. -/
structure Ln where
  kind : Int
  key : ByteArray
  n : Int
/-- A total. -/
structure Tt where
  key : ByteArray
  free : Int
  held : Int
  out : Int
def Ln.cells (l : Ln) : List Value := [.int .i64 l.kind, .string l.key, .int .i64 l.n]
def Tt.cells (t : Tt) : List Value := [.string t.key, .int .i64 t.free, .int .i64 t.held, .int .i64 t.out]
def lflat (l : List Ln) : List Value := l.flatMap Ln.cells
def tflat (l : List Tt) : List Value := l.flatMap Tt.cells
theorem flatMap_at {α : Type} {f : α → List Value} {s : Nat} (hs : ∀ x, (f x).length = s) {j : Nat} {v : Value} : ∀ {l : List α} {k : Nat} {x : α}, l[k]? = some x → (f x)[j]? = some v → (l.flatMap f)[k * s + j]? = some v
  | [], k, x, h, _ => by cases h
  | y :: ys, k, x, h, hj => by
    rw [List.flatMap_cons]
    have hjs : j < s := by rw [← hs x]; exact (List.getElem?_eq_some_iff.1 hj).1
    cases k with
    | zero =>
      have h : y = x := by simpa using h
      subst h
      rw [Nat.zero_mul, Nat.zero_add, List.getElem?_append_left (by rw [hs]; exact hjs)]
      exact hj
    | succ k =>
      rw [List.getElem?_append_right (by rw [hs, Nat.succ_mul]; omega), hs, show (k + 1) * s + j - s = k * s + j by rw [Nat.succ_mul]; omega]
      exact flatMap_at hs (by simpa using h) hj
theorem flatMap_length {α : Type} {f : α → List Value} {s : Nat} (hs : ∀ x, (f x).length = s) : ∀ l : List α, (l.flatMap f).length = l.length * s
  | [] => by simp
  | y :: ys => by rw [List.flatMap_cons, List.length_append, hs, flatMap_length hs ys, List.length_cons, Nat.succ_mul]; omega
/-- May a text be a key? -/
def nm (s : ByteArray) : Bool := decide (1 ≤ s.size ∧ s.size ≤ 16)
/-- May a line be? -/
def okL (l : Ln) : Bool := decide (1 ≤ l.kind ∧ l.kind ≤ 8) && nm l.key && decide (1 ≤ l.n ∧ l.n ≤ 1125899906842624)
end Bo
/-- A slice that reads as lines. -/
def RdL (w : World) (A : Option Addr) (n : Nat) (l : List Bo.Ln) : Prop := l.length = n ∧ RdC 3 w A n (Bo.lflat l) ∧ ∀ x ∈ l, x.key.size ≤ 9223372036854775807 ∧ (-9223372036854775808 ≤ x.n ∧ x.n ≤ 9223372036854775807)
/-- A slice that reads as totals. -/
def RdT (w : World) (A : Option Addr) (n : Nat) (l : List Bo.Tt) : Prop := l.length = n ∧ RdC 4 w A n (Bo.tflat l) ∧ ∀ x ∈ l, x.key.size ≤ 9223372036854775807
theorem RdL.at_ {w : World} {A : Option Addr} {n k : Nat} {l : List Bo.Ln} {x : Bo.Ln} (h : RdL w A n l) (hx : l[k]? = some x) : ∃ b o, A = some ⟨b, o, none⟩ ∧ b < w.heap.size ∧ ∀ j u, x.cells[j]? = some u → w.cell? ⟨b, o + (k * 3 + j), none⟩ = some u := by
  have hk : k < n := by rw [← h.1]; exact (List.getElem?_eq_some_iff.1 hx).1
  obtain ⟨b, o, rfl, hb, hc⟩ := h.2.1.2 (by omega)
  exact ⟨b, o, rfl, hb, fun j u hu => hc _ u (Bo.flatMap_at (f := Bo.Ln.cells) (s := 3) (fun _ => rfl) hx hu)⟩
theorem RdT.at_ {w : World} {A : Option Addr} {n k : Nat} {l : List Bo.Tt} {x : Bo.Tt} (h : RdT w A n l) (hx : l[k]? = some x) : ∃ b o, A = some ⟨b, o, none⟩ ∧ b < w.heap.size ∧ ∀ j u, x.cells[j]? = some u → w.cell? ⟨b, o + (k * 4 + j), none⟩ = some u := by
  have hk : k < n := by rw [← h.1]; exact (List.getElem?_eq_some_iff.1 hx).1
  obtain ⟨b, o, rfl, hb, hc⟩ := h.2.1.2 (by omega)
  exact ⟨b, o, rfl, hb, fun j u hu => hc _ u (Bo.flatMap_at (f := Bo.Tt.cells) (s := 4) (fun _ => rfl) hx hu)⟩
set_option maxRecDepth 100000 in
theorem isname_any (s : ByteArray) (w : World) (hs : s.size ≤ 9223372036854775807) : Calls Try.prog 23 #[.string s] w fun e w' => e = .returned (.bool (Bo.nm s)) ∧ w' = w := by
  by_cases h1 : 1 ≤ s.size
  · have h1' : (1 : Int) ≤ (s.size : Int) := by omega
    by_cases h2 : s.size ≤ 16
    · have h2' : (s.size : Int) ≤ 16 := by omega
      have e : Bo.nm s = true := by unfold Bo.nm; rw [decide_eq_true ⟨h1, h2⟩]
      rw [e]
      go_enter Try.func23, Try.ntmps23
      go_wp2
      go_ret
      exact ⟨rfl, rfl⟩
    · have h2' : ¬ (s.size : Int) ≤ 16 := by omega
      have e : Bo.nm s = false := by unfold Bo.nm; rw [decide_eq_false (fun h => h2 h.2)]
      rw [e]
      go_enter Try.func23, Try.ntmps23
      go_wp2
      go_ret
      exact ⟨rfl, rfl⟩
  · have h1' : ¬ (1 : Int) ≤ (s.size : Int) := by omega
    have e : Bo.nm s = false := by unfold Bo.nm; rw [decide_eq_false (fun h => h1 h.1)]
    rw [e]
    go_enter Try.func23, Try.ntmps23
    go_wp2
    go_ret
    exact ⟨rfl, rfl⟩
set_option maxRecDepth 100000 in
theorem rname_any (s : ByteArray) (w : World) (hs : s.size ≤ 9223372036854775807) : Calls Try.prog 24 #[.string s] w fun e w' => e = .returned (.bool (Bo.nm s)) ∧ w' = w := by
  by_cases h1 : 1 ≤ s.size
  · have h1' : (1 : Int) ≤ (s.size : Int) := by omega
    by_cases h2 : s.size ≤ 16
    · have h2' : (s.size : Int) ≤ 16 := by omega
      have e : Bo.nm s = true := by unfold Bo.nm; rw [decide_eq_true ⟨h1, h2⟩]
      rw [e]
      go_enter Try.func24, Try.ntmps24
      go_wp2
      go_ret
      exact ⟨rfl, rfl⟩
    · have h2' : ¬ (s.size : Int) ≤ 16 := by omega
      have e : Bo.nm s = false := by unfold Bo.nm; rw [decide_eq_false (fun h => h2 h.2)]
      rw [e]
      go_enter Try.func24, Try.ntmps24
      go_wp2
      go_ret
      exact ⟨rfl, rfl⟩
  · have h1' : ¬ (1 : Int) ≤ (s.size : Int) := by omega
    have e : Bo.nm s = false := by unfold Bo.nm; rw [decide_eq_false (fun h => h1 h.1)]
    rw [e]
    go_enter Try.func24, Try.ntmps24
    go_wp2
    go_ret
    exact ⟨rfl, rfl⟩
end Go.Proofs.Ytcoekdfmfjglpaa
