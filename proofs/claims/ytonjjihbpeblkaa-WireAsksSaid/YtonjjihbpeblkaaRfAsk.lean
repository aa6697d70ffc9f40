/- The document's fields of whatever request, and its request of whatever fields. -/
import Derived.Test.YtonjjihbpeblkaaRfMade
import Derived.Test.YtonjjihbpeblkaaRfFields
namespace Go.Proofs.Ytonjjihbpeblkaa
open Go.RowKit
/-- Fields that there are. -/
def GivesAsk (w : World) (vs : List Value) (e : Ending) (w' : World) : Prop := ∃ (A : Option Addr) (c : Nat), e = .returned (.tuple #[.slice A vs.length c, .bool true]) ∧ RdF w' A vs.length vs ∧ vs.length ≤ c ∧ Below w.heap.size w w'
theorem kinds_of {k : Int} (h : Wr.asks k ≠ []) : k = 1 ∨ k = 2 ∨ k = 3 ∨ k = 4 ∨ k = 5 ∨ k = 6 ∨ k = 7 ∨ k = 8 ∨ k = 9 ∨ k = 10 ∨ k = 11 ∨ k = 12 := by
  have := (Wr.asks_cases k).resolve_left h
  omega
theorem fields_any (r : Wr.Rq) (h : Wr.asks r.k ≠ []) (w : World) : Calls Try.prog 29 #[.agg r.cells.toArray] w (GivesAsk w (Wr.askVals r)) := by
  obtain ⟨k, s, d, n, u, p, q⟩ := r
  rcases kinds_of h with rfl | rfl | rfl | rfl | rfl | rfl | rfl | rfl | rfl | rfl | rfl | rfl
  · exact fields_1 s d n u p q w
  · exact fields_2 s d n u p q w
  · exact fields_3 s d n u p q w
  · exact fields_4 s d n u p q w
  · exact fields_5 s d n u p q w
  · exact fields_6 s d n u p q w
  · exact fields_7 s d n u p q w
  · exact fields_8 s d n u p q w
  · exact fields_9 s d n u p q w
  · exact fields_10 s d n u p q w
  · exact fields_11 s d n u p q w
  · exact fields_12 s d n u p q w
set_option maxRecDepth 100000 in
set_option maxHeartbeats 8000000 in
theorem fields_none (r : Wr.Rq) (h : Wr.asks r.k = []) (w : World) : Calls Try.prog 29 #[.agg r.cells.toArray] w fun e w' => e = .returned (.tuple #[.slice none 0 0, .bool false]) ∧ Below w.heap.size w w' := by
  obtain ⟨k, s, d, n, u, p, q⟩ := r
  have hk : ∀ j : Int, Wr.asks j ≠ [] → ¬ k = j := fun j hj e => hj (e ▸ h)
  have n1 := hk 1 (by decide)
  have n2 := hk 2 (by decide)
  have n3 := hk 3 (by decide)
  have n4 := hk 4 (by decide)
  have n5 := hk 5 (by decide)
  have n6 := hk 6 (by decide)
  have n7 := hk 7 (by decide)
  have n8 := hk 8 (by decide)
  have n9 := hk 9 (by decide)
  have n10 := hk 10 (by decide)
  have n11 := hk 11 (by decide)
  have n12 := hk 12 (by decide)
  have HB := Lib.hid (show Below w.heap.size w (w.alloc (.cells #[Value.int .i64 k, .string s, .int .i64 d, .int .i64 n, .int .i64 u, .int .i64 p, .int .i64 q] 24)) from (Below.refl _ _).alloc (Nat.le_refl _) _)
  clear hk h
  show Calls _ _ #[.agg #[.int .i64 k, .string s, .int .i64 d, .int .i64 n, .int .i64 u, .int .i64 p, .int .i64 q]] _ _
  go_enter Try.func29, Try.ntmps29
  go_wp2
  go_ret2
  exact ⟨rfl, HB.out⟩
set_option maxRecDepth 100000 in
theorem made_any (k : Int) (h : Wr.asks k ≠ []) (A : Option Addr) (c : Nat) (vs : List Value) (w : World) (hl : vs.length = (Wr.asks k).length) (hf : Wr.fit (Wr.asks k) vs) (hD : RdF w A vs.length vs) :
    Calls Try.prog 30 #[.int .i64 k, .slice A vs.length c] w fun e w' => e = .returned (.agg (Wr.Rq.puts (Wr.asks k) vs (Wr.Rq.bare k)).cells.toArray) ∧ Below w.heap.size w w' := by
  rcases kinds_of h with rfl | rfl | rfl | rfl | rfl | rfl | rfl | rfl | rfl | rfl | rfl | rfl
  · match vs, hl, hf, hD with
    | [a0, a1], _, hf, hD =>
      obtain ⟨x0, rfl⟩ : ∃ s : ByteArray, a0 = .string s := hf 0 (1, true) _ rfl rfl
      obtain ⟨x1, rfl, _⟩ : ∃ x : Int, a1 = .int .i64 x ∧ x < 9223372036854775808 := hf 1 (3, false) _ rfl rfl
      exact made_1 A c x0 x1 w hD
  · match vs, hl, hf, hD with
    | [a0, a1], _, hf, hD =>
      obtain ⟨x0, rfl⟩ : ∃ s : ByteArray, a0 = .string s := hf 0 (1, true) _ rfl rfl
      obtain ⟨x1, rfl, _⟩ : ∃ x : Int, a1 = .int .i64 x ∧ x < 9223372036854775808 := hf 1 (3, false) _ rfl rfl
      exact made_2 A c x0 x1 w hD
  · match vs, hl, hf, hD with
    | [a0, a1, a2, a3], _, hf, hD =>
      obtain ⟨x0, rfl⟩ : ∃ s : ByteArray, a0 = .string s := hf 0 (1, true) _ rfl rfl
      obtain ⟨x1, rfl, _⟩ : ∃ x : Int, a1 = .int .i64 x ∧ x < 9223372036854775808 := hf 1 (2, false) _ rfl rfl
      obtain ⟨x2, rfl, _⟩ : ∃ x : Int, a2 = .int .i64 x ∧ x < 9223372036854775808 := hf 2 (3, false) _ rfl rfl
      obtain ⟨x3, rfl, _⟩ : ∃ x : Int, a3 = .int .i64 x ∧ x < 9223372036854775808 := hf 3 (4, false) _ rfl rfl
      exact made_3 A c x0 x1 x2 x3 w hD
  · match vs, hl, hf, hD with
    | [a0, a1], _, hf, hD =>
      obtain ⟨x0, rfl⟩ : ∃ s : ByteArray, a0 = .string s := hf 0 (1, true) _ rfl rfl
      obtain ⟨x1, rfl, _⟩ : ∃ x : Int, a1 = .int .i64 x ∧ x < 9223372036854775808 := hf 1 (2, false) _ rfl rfl
      exact made_4 A c x0 x1 w hD
  · match vs, hl, hf, hD with
    | [a0, a1], _, hf, hD =>
      obtain ⟨x0, rfl⟩ : ∃ s : ByteArray, a0 = .string s := hf 0 (1, true) _ rfl rfl
      obtain ⟨x1, rfl, _⟩ : ∃ x : Int, a1 = .int .i64 x ∧ x < 9223372036854775808 := hf 1 (2, false) _ rfl rfl
      exact made_5 A c x0 x1 w hD
  · match vs, hl, hf, hD with
    | [a0], _, hf, hD =>
      obtain ⟨x0, rfl⟩ : ∃ s : ByteArray, a0 = .string s := hf 0 (1, true) _ rfl rfl
      exact made_6 A c x0 w hD
  · match vs, hl, hf, hD with
    | [a0], _, hf, hD =>
      obtain ⟨x0, rfl, _⟩ : ∃ x : Int, a0 = .int .i64 x ∧ x < 9223372036854775808 := hf 0 (3, false) _ rfl rfl
      exact made_7 A c x0 w hD
  · match vs, hl, hf, hD with
    | [a0, a1], _, hf, hD =>
      obtain ⟨x0, rfl⟩ : ∃ s : ByteArray, a0 = .string s := hf 0 (1, true) _ rfl rfl
      obtain ⟨x1, rfl, _⟩ : ∃ x : Int, a1 = .int .i64 x ∧ x < 9223372036854775808 := hf 1 (3, false) _ rfl rfl
      exact made_8 A c x0 x1 w hD
  · match vs, hl, hf, hD with
    | [a0, a1, a2], _, hf, hD =>
      obtain ⟨x0, rfl⟩ : ∃ s : ByteArray, a0 = .string s := hf 0 (1, true) _ rfl rfl
      obtain ⟨x1, rfl, _⟩ : ∃ x : Int, a1 = .int .i64 x ∧ x < 9223372036854775808 := hf 1 (5, false) _ rfl rfl
      obtain ⟨x2, rfl, _⟩ : ∃ x : Int, a2 = .int .i64 x ∧ x < 9223372036854775808 := hf 2 (3, false) _ rfl rfl
      exact made_9 A c x0 x1 x2 w hD
  · match vs, hl, hf, hD with
    | [a0, a1], _, hf, hD =>
      obtain ⟨x0, rfl, _⟩ : ∃ x : Int, a0 = .int .i64 x ∧ x < 9223372036854775808 := hf 0 (5, false) _ rfl rfl
      obtain ⟨x1, rfl, _⟩ : ∃ x : Int, a1 = .int .i64 x ∧ x < 9223372036854775808 := hf 1 (6, false) _ rfl rfl
      exact made_10 A c x0 x1 w hD
  · match vs, hl, hf, hD with
    | [a0, a1, a2, a3], _, hf, hD =>
      obtain ⟨x0, rfl, _⟩ : ∃ x : Int, a0 = .int .i64 x ∧ x < 9223372036854775808 := hf 0 (5, false) _ rfl rfl
      obtain ⟨x1, rfl, _⟩ : ∃ x : Int, a1 = .int .i64 x ∧ x < 9223372036854775808 := hf 1 (6, false) _ rfl rfl
      obtain ⟨x2, rfl⟩ : ∃ s : ByteArray, a2 = .string s := hf 2 (1, true) _ rfl rfl
      obtain ⟨x3, rfl, _⟩ : ∃ x : Int, a3 = .int .i64 x ∧ x < 9223372036854775808 := hf 3 (3, false) _ rfl rfl
      exact made_11 A c x0 x1 x2 x3 w hD
  · match vs, hl, hf, hD with
    | [a0], _, hf, hD =>
      obtain ⟨x0, rfl⟩ : ∃ s : ByteArray, a0 = .string s := hf 0 (1, true) _ rfl rfl
      exact made_12 A c x0 w hD
end Go.Proofs.Ytonjjihbpeblkaa
