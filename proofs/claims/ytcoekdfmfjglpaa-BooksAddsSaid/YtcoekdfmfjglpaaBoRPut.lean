/- A line, put into a total: the document's put. -/
import Derived.Test.YtcoekdfmfjglpaaBoAdd
namespace Go.Proofs.Ytcoekdfmfjglpaa
open Go.RowKit
theorem below3 (w : World) (o1 o2 o3 : Obj) : Below w.heap.size w (((w.alloc o1).alloc o2).alloc o3) := (((Below.refl w.heap.size w).alloc (Nat.le_refl _) o1).alloc (by simp) o2).alloc (by simp; omega) o3
set_option maxRecDepth 100000 in
set_option maxHeartbeats 8000000 in
theorem rput_any (x : Bo.Tt) (l : Bo.Ln) (w : World) (hl : Bo.okL l = true) (hx : Bo.InX x) :
    Calls Try.prog 22 #[.agg x.cells.toArray, .agg l.cells.toArray] w fun e w' => e = .returned (.agg (Bo.put x l).cells.toArray) ∧ Below w.heap.size w w' := by
  obtain ⟨hk, _, hn⟩ := Bo.okL_iff.1 hl
  clear hl
  obtain ⟨key, fr, he, ou⟩ := x
  obtain ⟨kind, key2, n⟩ := l
  unfold Bo.InX at hx
  dsimp only at hx hk hn
  show Calls _ _ #[.agg #[.string key, .int .i64 fr, .int .i64 he, .int .i64 ou], .agg #[.int .i64 kind, .string key2, .int .i64 n]] _ _
  have a1 : -9223372036854775808 ≤ fr + n ∧ fr + n ≤ 9223372036854775807 := by omega
  have a2 : -9223372036854775808 ≤ fr - n ∧ fr - n ≤ 9223372036854775807 := by omega
  have a3 : -9223372036854775808 ≤ he + n ∧ he + n ≤ 9223372036854775807 := by omega
  have a4 : -9223372036854775808 ≤ he - n ∧ he - n ≤ 9223372036854775807 := by omega
  have a5 : -9223372036854775808 ≤ ou + n ∧ ou + n ≤ 9223372036854775807 := by omega
  have a6 : -9223372036854775808 ≤ ou - n ∧ ou - n ≤ 9223372036854775807 := by omega
  have hall : kind = 1 ∨ kind = 2 ∨ kind = 3 ∨ kind = 4 ∨ kind = 5 ∨ kind = 6 ∨ kind = 7 ∨ kind = 8 := by omega
  clear hk
  rcases hall with rfl | rfl | rfl | rfl | rfl | rfl | rfl | rfl
  · have HA := Lib.hid (show (Bo.put ⟨key, fr, he, ou⟩ ⟨1, key2, n⟩).cells.toArray = #[Value.string key, .int .i64 (fr + n), .int .i64 (he), .int .i64 (ou)] by simp [Bo.put, Bo.dF, Bo.dH, Bo.dO, Bo.Tt.cells])
    rw [HA.out]
    clear HA
    go_enter Try.func22, Try.ntmps22
    go_wp2
    refine ⟨rfl, _, ?_, rfl, below3 w _ _ _⟩
    simp [results, Try.results22, go_sem]
  · have HA := Lib.hid (show (Bo.put ⟨key, fr, he, ou⟩ ⟨2, key2, n⟩).cells.toArray = #[Value.string key, .int .i64 (fr - n), .int .i64 (he), .int .i64 (ou)] by simp [Bo.put, Bo.dF, Bo.dH, Bo.dO, Bo.Tt.cells, Int.sub_eq_add_neg])
    rw [HA.out]
    clear HA
    go_enter Try.func22, Try.ntmps22
    go_wp2
    refine ⟨rfl, _, ?_, rfl, below3 w _ _ _⟩
    simp [results, Try.results22, go_sem]
  · have HA := Lib.hid (show (Bo.put ⟨key, fr, he, ou⟩ ⟨3, key2, n⟩).cells.toArray = #[Value.string key, .int .i64 (fr - n), .int .i64 (he + n), .int .i64 (ou)] by simp [Bo.put, Bo.dF, Bo.dH, Bo.dO, Bo.Tt.cells, Int.sub_eq_add_neg])
    rw [HA.out]
    clear HA
    go_enter Try.func22, Try.ntmps22
    go_wp2
    go_region
    all_goals
      go_wp2
      refine ⟨rfl, _, ?_, rfl, (below3 w _ _ _).drew⟩
      simp [results, Try.results22, go_sem]
  · have HA := Lib.hid (show (Bo.put ⟨key, fr, he, ou⟩ ⟨4, key2, n⟩).cells.toArray = #[Value.string key, .int .i64 (fr), .int .i64 (he - n), .int .i64 (ou)] by simp [Bo.put, Bo.dF, Bo.dH, Bo.dO, Bo.Tt.cells, Int.sub_eq_add_neg])
    rw [HA.out]
    clear HA
    go_enter Try.func22, Try.ntmps22
    go_wp2
    refine ⟨rfl, _, ?_, rfl, below3 w _ _ _⟩
    simp [results, Try.results22, go_sem]
  · have HA := Lib.hid (show (Bo.put ⟨key, fr, he, ou⟩ ⟨5, key2, n⟩).cells.toArray = #[Value.string key, .int .i64 (fr + n), .int .i64 (he - n), .int .i64 (ou)] by simp [Bo.put, Bo.dF, Bo.dH, Bo.dO, Bo.Tt.cells, Int.sub_eq_add_neg])
    rw [HA.out]
    clear HA
    go_enter Try.func22, Try.ntmps22
    go_wp2
    go_region
    all_goals
      go_wp2
      refine ⟨rfl, _, ?_, rfl, (below3 w _ _ _).drew⟩
      simp [results, Try.results22, go_sem]
  · have HA := Lib.hid (show (Bo.put ⟨key, fr, he, ou⟩ ⟨6, key2, n⟩).cells.toArray = #[Value.string key, .int .i64 (fr - n), .int .i64 (he), .int .i64 (ou + n)] by simp [Bo.put, Bo.dF, Bo.dH, Bo.dO, Bo.Tt.cells, Int.sub_eq_add_neg])
    rw [HA.out]
    clear HA
    go_enter Try.func22, Try.ntmps22
    go_wp2
    go_region
    all_goals
      go_wp2
      refine ⟨rfl, _, ?_, rfl, (below3 w _ _ _).drew⟩
      simp [results, Try.results22, go_sem]
  · have HA := Lib.hid (show (Bo.put ⟨key, fr, he, ou⟩ ⟨7, key2, n⟩).cells.toArray = #[Value.string key, .int .i64 (fr), .int .i64 (he), .int .i64 (ou - n)] by simp [Bo.put, Bo.dF, Bo.dH, Bo.dO, Bo.Tt.cells, Int.sub_eq_add_neg])
    rw [HA.out]
    clear HA
    go_enter Try.func22, Try.ntmps22
    go_wp2
    refine ⟨rfl, _, ?_, rfl, below3 w _ _ _⟩
    simp [results, Try.results22, go_sem]
  · have HA := Lib.hid (show (Bo.put ⟨key, fr, he, ou⟩ ⟨8, key2, n⟩).cells.toArray = #[Value.string key, .int .i64 (fr + n), .int .i64 (he), .int .i64 (ou)] by simp [Bo.put, Bo.dF, Bo.dH, Bo.dO, Bo.Tt.cells])
    rw [HA.out]
    clear HA
    go_enter Try.func22, Try.ntmps22
    go_wp2
    refine ⟨rfl, _, ?_, rfl, below3 w _ _ _⟩
    simp [results, Try.results22, go_sem]
end Go.Proofs.Ytcoekdfmfjglpaa
