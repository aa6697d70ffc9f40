/- The map in memory: what a look, a store, a delete make of it. -/
import Derived.Test.YtamdihodconjiaaDmMath
import Derived.WideKeyEntry
namespace Go.Proofs.Ytamdihodconjiaa
open Go.RowKit
open Go.MapKept Go.ChangeMaps
set_option linter.unusedVariables false
namespace Dm
theorem elem_inv {v : Value} {z : DataW Unit × List MemPlace} (h : elem v = some z) : (∃ m : Mp, v = m.val ∧ z = (m.data, [])) ∨ (v = .slice none 0 0 ∧ z = (none_, [])) := by
  unfold elem at h
  split at h
  · rename_i a n c
    injection h with h
    exact .inl ⟨⟨0, a, n, c⟩, rfl, h.symm⟩
  · injection h with h
    exact .inr ⟨rfl, h.symm⟩
  · cases h
theorem data_none (m : Mp) : m.data ≠ none_ := by
  unfold Mp.data none_
  intro h
  injection h with h
  injection h with h _
  injection h with h
  injection h with _ h
  omega
theorem data_inj {m m' : Mp} (h : m.data = m'.data) : m.val = m'.val := by
  unfold Mp.data at h
  injection h with h
  injection h with h1 h
  injection h with h2 h
  injection h with h3 h
  injection h1 with h1
  injection h1 with _ h1
  injection h2 with h2
  injection h2 with _ h2
  injection h3 with h3
  injection h3 with _ h3
  have e1 : m.a = m'.a := by omega
  have e2 : m.n = m'.n := by omega
  have e3 : m.c = m'.c := by omega
  unfold Mp.val
  rw [e1, e2, e3]
end Dm
set_option maxRecDepth 100000 in
theorem keyed : Maps.Keyed Try.prog 3 := Maps.int_keyed Try.underlying3
set_option maxRecDepth 100000 in
theorem zero_rows (w : World) : (zeroValue 59).run Try.prog w = .ok (.slice none 0 0) w := by kernel_rfl
/-- A number that a key may be. -/
def Q64 (q : Int) : Prop := -9223372036854775808 ≤ q ∧ q ≤ 9223372036854775807
set_option maxRecDepth 100000 in
theorem key_of {q : Int} (h : Q64 q) : keyOf Try.prog 3 (.int .i64 q) = some (.int .i64 q) := Maps.keyOf_int_mk Try.underlying3 (by
  obtain ⟨h1, h2⟩ := h
  have h3 : IntKind.i64.min = -9223372036854775808 := by kernel_rfl
  have h4 : IntKind.i64.max = 9223372036854775807 := by kernel_rfl
  simp only [Lit.wf, h3, h4, decide_eq_true h1, decide_eq_true h2, Bool.and_self])
/-- Block b is a map of these. -/
def Mk (w : World) (b : Nat) (L : List Dm.Mp) : Prop := w.ownsMap Try.prog 3 Dm.elem b 1000000 (Dm.dat L)
section
variable {w w' : World} {b : Nat} {L : List Dm.Mp}
theorem Mk.of {n : Nat} (h : w.ownsMap Try.prog 3 Dm.elem b n (Dm.dat L)) (hl : L.length ≤ 1000000) : Mk w b L := by
  have hz := Dm.size_dat L
  obtain ⟨es, clock, hb, F, hs, hD⟩ := h
  refine ⟨es, clock, hb, F, ?_, hD⟩
  have : es.size = L.length := by
    rw [← hz, hD]
    simp [Maps.size, length_sorted]
  omega
theorem Mk.new (w : World) : Mk (w.alloc (.map #[] 0)) w.heap.size [] := .of (World.ownsMap_made _ _ _ _) (by simp)
theorem Mk.lt (h : Mk w b L) : b < w.heap.size := World.ownsMap.lt h
theorem Mk.block (h : Mk w b L) (hb : w'.heap[b]? = w.heap[b]?) : Mk w' b L := by
  obtain ⟨es, clock, h1, h2⟩ := h
  exact ⟨es, clock, hb.trans h1, h2⟩
theorem Mk.below (h : Mk w b L) (hb : Below w.heap.size w w') : Mk w' b L := h.block (hb.block b h.lt)
set_option maxRecDepth 100000 in
theorem Mk.look_no (h : Mk w b L) {q : Int} (hq : Q64 q) (hn : Dm.hasq L q = false) : (Instr.lookup 71 (.map (some b)) (.int .i64 q) false).run Try.prog w = .ok (.slice none 0 0) w := by
  obtain ⟨v, ps, he, hv⟩ := World.ownsMap.lookup h keyed Try.underlying71 (zero_rows w) Dm.elem_nil (key_of hq)
  rw [Maps.atKey_of_not_has (by rw [Dm.has_dat]; exact hn)] at hv
  rcases Dm.elem_inv hv with ⟨m, rfl, hm⟩ | ⟨rfl, _⟩
  · injection hm with hm _
    exact absurd hm.symm (Dm.data_none m)
  · exact he
set_option maxRecDepth 100000 in
theorem Mk.look_yes (h : Mk w b L) (hr : Dm.Ris L) {m : Dm.Mp} (hm : m ∈ L) (hq : Q64 m.q) : (Instr.lookup 71 (.map (some b)) (.int .i64 m.q) false).run Try.prog w = .ok m.val w := by
  obtain ⟨v, ps, he, hv⟩ := World.ownsMap.lookup h keyed Try.underlying71 (zero_rows w) Dm.elem_nil (key_of hq)
  rw [Dm.at_dat hr hm] at hv
  rcases Dm.elem_inv hv with ⟨m', rfl, hm'⟩ | ⟨rfl, hm'⟩
  · injection hm' with hm' _
    rw [← Dm.data_inj hm'] at he
    exact he
  · injection hm' with hm' _
    exact absurd hm' (Dm.data_none m)
set_option maxRecDepth 100000 in
theorem Mk.store (h : Mk w b L) (hl : L.length ≤ 10000) {m : Dm.Mp} (hq : Q64 m.q) : ∃ w', (Instr.mapUpdate 71 (.map (some b)) (.int .i64 m.q) m.val).run Try.prog w = .ok () w' ∧ Mk w' b (Dm.ins m (Dm.str L m.q)) ∧ w.mapTurned w' b := by
  obtain ⟨w', h1, h2, h3⟩ := World.ownsMap.store h keyed Try.underlying71 (by unfold maxLen; omega) (key_of hq) (Dm.elem_mk m)
  rw [Dm.put_any] at h2
  refine ⟨w', h1, .of h2 ?_, h3⟩
  rw [Dm.len_ins]
  have : (Dm.str L m.q).length ≤ L.length := List.length_filter_le _ _
  omega
set_option maxRecDepth 100000 in
theorem Mk.del (h : Mk w b L) (hl : L.length ≤ 10000) {q : Int} (hq : Q64 q) (ty : TypeId) : ∃ w', (Builtin.delete_ #[71, 3] ty #[.map (some b), .int .i64 q]).run Try.prog w = .ok (.tuple #[]) w' ∧ Mk w' b (Dm.str L q) ∧ w.mapTurned w' b := by
  obtain ⟨w', h1, h2, h3⟩ := World.ownsMap.drop h keyed Try.underlying71 (key_of hq) ty
  rw [Dm.del_dat] at h2
  refine ⟨w', h1, .of h2 ?_, h3⟩
  have : (Dm.str L q).length ≤ L.length := List.length_filter_le _ _
  omega
end
theorem setBlock_other {w : World} {b k : Nat} {o : Obj} (h : k ≠ b) : (setBlock w b o).heap[k]? = w.heap[k]? := by
  simp [setBlock, Ne.symm h]
theorem turned_ch {w w' : World} {b : Nat} (h : w.mapTurned w' b) : Ch1 b w w' := by
  obtain ⟨es, ck, es', ck', _, rfl⟩ := h
  exact ⟨rfl, rfl, rfl, by simp [setBlock], fun k _ hk => setBlock_other hk⟩
end Go.Proofs.Ytamdihodconjiaa
