/- The document's Encode. -/
import Derived.Test.YtpggomekbahddaaFrLowB
import Derived.Test.YtpggomekbahddaaSumB
import Derived.Test.YtpggomekbahddaaSuA
namespace Go.Proofs.Ytpggomekbahddaa
open Go.RowKit Fr
set_option linter.unusedVariables false
theorem Holds.grown {c : Nat} {w w' : World} {cs : List Value} {row : Option Nat} (k : Holds w c cs) (h : w.grownBy w' row) (hne : some c ≠ row) : Holds w' c cs :=
  ⟨Nat.lt_of_lt_of_le k.1 h.size, fun i v hv => (h.cell_far ⟨c, i, none⟩ k.1 hne).trans (k.2.1 i v hv), fun i => (h.frozen_far ⟨c, i, none⟩ k.1 hne).trans (k.2.2 i)⟩
namespace Fr
/-- What stands ahead of a frame's payload. -/
def top (k f e i n : Nat) : List Nat := [76, k] ++ le 2 n ++ le 4 f ++ le 4 e ++ le 4 i
def body (k f e i : Nat) (p : List Nat) : List Nat := top k f e i p.length ++ p ++ List.replicate (108 - p.length) 0
def frame (k f e i : Nat) (p : List Nat) : List Nat := body k f e i p ++ le 4 (Cr.more 0 (body k f e i p))
theorem top_len (k f e i n : Nat) : (top k f e i n).length = 16 := by simp [top, le_len]
theorem body_len {k f e i : Nat} {p : List Nat} (h : p.length ≤ 108) : (body k f e i p).length = 124 := by simp [body, top_len]; omega
theorem frame_len {k f e i : Nat} {p : List Nat} (h : p.length ≤ 108) : (frame k f e i p).length = 128 := by simp [frame, body_len h, le_len]
theorem top_lt {k f e i n : Nat} (hk : k < 256) : ∀ x ∈ top k f e i n, x < 256 := by
  intro x hx
  simp only [top, List.mem_append, List.mem_cons, List.not_mem_nil, or_false] at hx
  rcases hx with ((((h | h) | h) | h) | h) | h
  · omega
  · omega
  · exact le_lt _ _ x h
  · exact le_lt _ _ x h
  · exact le_lt _ _ x h
  · exact le_lt _ _ x h
theorem body_lt {k f e i : Nat} {p : List Nat} (hk : k < 256) (hp : ∀ x ∈ p, x < 256) : ∀ x ∈ body k f e i p, x < 256 := by
  intro x hx
  rcases List.mem_append.1 hx with h | h
  · rcases List.mem_append.1 h with h | h
    · exact top_lt hk x h
    · exact hp x h
  · rw [List.eq_of_mem_replicate h]; omega
theorem frame_lt {k f e i : Nat} {p : List Nat} (hk : k < 256) (hp : ∀ x ∈ p, x < 256) : ∀ x ∈ frame k f e i p, x < 256 := by
  intro x hx
  rcases List.mem_append.1 hx with h | h
  · exact body_lt hk hp x h
  · exact le_lt _ _ x h
end Fr
/-- How long a slice is. -/
def lenOf : Value → Nat
  | .slice _ n _ => n
  | _ => 0
/-- Bytes and an error. -/
def GivesEnc (w : World) (l : List Nat) (r : Int) (e : Ending) (w' : World) : Prop :=
  ∃ (A : Option Addr) (c : Nat), e = .returned (.tuple #[.slice A l.length c, .int .i64 r]) ∧ Rd w' A l.length l ∧ l.length ≤ c ∧ Below w.heap.size w w'
end Go.Proofs.Ytpggomekbahddaa
