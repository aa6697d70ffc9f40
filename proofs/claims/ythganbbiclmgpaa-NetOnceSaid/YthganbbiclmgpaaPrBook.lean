/- A book: a map of messages by their numbers; what len, a look, a store and a delete make of it. -/
import Derived.Test.YthganbbiclmgpaaPrMath
import Derived.WideKeyEntry
namespace Go.Proofs.Ythganbbiclmgpaa
open Go.RowKit
open Go.MapKept Go.ChangeMaps
namespace Pr
theorem elem_inv {v : Value} {z : DataW Unit × List MemPlace} (h : elem v = some z) : ∃ m : Mg, v = .agg m.cells.toArray ∧ z = (m.data, []) := by
  unfold elem at h
  split at h
  · rename_i cs
    split at h
    · rename_i k p q s n hcs
      injection h with h
      refine ⟨⟨k, p, q, s, n⟩, ?_, h.symm⟩
      show Value.agg cs = .agg (Mg.cells ⟨k, p, q, s, n⟩).toArray
      congr 1
      exact Array.ext' hcs
    · cases h
  · cases h
theorem data_inj {m m' : Mg} (h : (m.data : DataW Unit) = m'.data) : m = m' := by
  obtain ⟨k, p, q, s, n⟩ := m
  obtain ⟨k', p', q', s', n'⟩ := m'
  unfold Mg.data at h
  simp only [DataW.agg.injEq, List.cons.injEq, DataW.lit.injEq, Lit.int.injEq, Lit.string.injEq, true_and, and_true] at h
  obtain ⟨h1, h2, h3, h4, h5⟩ := h
  have h6 : s = s' := by
    obtain ⟨⟨l⟩⟩ := s
    obtain ⟨⟨l'⟩⟩ := s'
    have h4 : l = l' := h4
    rw [h4]
  rw [h1, h2, h3, h6, h5]
def zero : Mg := ⟨0, 0, 0, ⟨#[]⟩, 0⟩
end Pr
set_option maxRecDepth 100000 in
theorem keyed : Maps.Keyed Try.prog 3 := Maps.int_keyed Try.underlying3
set_option maxRecDepth 100000 in
theorem zero_msg (w : World) : (zeroValue 59).run Try.prog w = .ok (.agg Pr.zero.cells.toArray) w := by kernel_rfl
/-- A number that a key may be. -/
def Q64 (q : Int) : Prop := -9223372036854775808 ≤ q ∧ q ≤ 9223372036854775807
set_option maxRecDepth 100000 in
theorem key_of {q : Int} (h : Q64 q) : keyOf Try.prog 3 (.int .i64 q) = some (.int .i64 q) := Maps.keyOf_int_mk Try.underlying3 (by
  obtain ⟨h1, h2⟩ := h
  have h3 : IntKind.i64.min = -9223372036854775808 := by kernel_rfl
  have h4 : IntKind.i64.max = 9223372036854775807 := by kernel_rfl
  simp only [Lit.wf, h3, h4, decide_eq_true h1, decide_eq_true h2, Bool.and_self])
/-- Block b is a book of these messages. -/
def Bk (w : World) (b : Nat) (L : List Pr.Mg) : Prop := w.ownsMap Try.prog 3 Pr.elem b L.length (Pr.dat L)
theorem Bk.of {w : World} {b n : Nat} {L : List Pr.Mg} (h : w.ownsMap Try.prog 3 Pr.elem b n (Pr.dat L)) : Bk w b L := by
  have hz := Pr.size_dat L
  obtain ⟨es, clock, hb, F, hs, hD⟩ := h
  refine ⟨es, clock, hb, F, ?_, hD⟩
  rw [← hz, hD]
  simp [Maps.size, length_sorted]
theorem Bk.new (w : World) : Bk (w.alloc (.map #[] 0)) w.heap.size [] := book_made w
section
variable {w w' : World} {b : Nat} {L : List Pr.Mg}
theorem Bk.lt (h : Bk w b L) : b < w.heap.size := World.ownsMap.lt h
theorem Bk.below (h : Bk w b L) (hb : Below w.heap.size w w') : Bk w' b L := Book.below h hb
theorem Bk.kept {row : Option Nat} (h : Bk w b L) (hg : w.grownBy w' row) (hne : some b ≠ row) : Bk w' b L := World.ownsMap.kept h hg hne
theorem Bk.block (h : Bk w b L) (hb : w'.heap[b]? = w.heap[b]?) : Bk w' b L := by
  obtain ⟨es, clock, h1, h2⟩ := h
  exact ⟨es, clock, hb.trans h1, h2⟩
set_option maxRecDepth 100000 in
theorem Bk.len_run (h : Bk w b L) (ty : TypeId) : (Builtin.len_ #[80] ty #[.map (some b)]).run Try.prog w = .ok (.int .i64 (L.length : Nat)) w := by
  have := World.ownsMap.len (e := 59) h Try.underlying80 ty
  rw [Pr.size_dat] at this
  exact this
set_option maxRecDepth 100000 in
theorem Bk.look (h : Bk w b L) {q : Int} (hq : Q64 q) : ∃ v ps, (Instr.lookup 80 (.map (some b)) (.int .i64 q) true).run Try.prog w = .ok (.tuple #[v, .bool (Pr.hasq L q)]) w ∧ Pr.elem v = some ((Pr.dat L).atKey (.int .i64 q) Pr.zero.data, ps) := by
  have := World.ownsMap.look_ok h keyed Try.underlying80 (zero_msg w) (Pr.elem_mk Pr.zero) (key_of hq)
  rw [Pr.has_dat] at this
  exact this
set_option maxRecDepth 100000 in
theorem Bk.look_no (h : Bk w b L) {q : Int} (hq : Q64 q) (hn : Pr.hasq L q = false) : (Instr.lookup 80 (.map (some b)) (.int .i64 q) true).run Try.prog w = .ok (.tuple #[.agg Pr.zero.cells.toArray, .bool false]) w := by
  obtain ⟨v, ps, hr, hv⟩ := h.look hq
  rw [Maps.atKey_of_not_has (by rw [Pr.has_dat]; exact hn)] at hv
  obtain ⟨m, rfl, hm⟩ := Pr.elem_inv hv
  injection hm with hm _
  rw [hn, ← Pr.data_inj hm] at hr
  exact hr
set_option maxRecDepth 100000 in
theorem Bk.look_yes (h : Bk w b L) (hr : Pr.Ris L) {m : Pr.Mg} (hm : m ∈ L) (hq : Q64 m.q) : (Instr.lookup 80 (.map (some b)) (.int .i64 m.q) true).run Try.prog w = .ok (.tuple #[.agg m.cells.toArray, .bool true]) w := by
  obtain ⟨v, ps, he, hv⟩ := h.look hq
  rw [Pr.at_dat hr hm] at hv
  obtain ⟨m', rfl, hm'⟩ := Pr.elem_inv hv
  injection hm' with hm' _
  rw [Pr.hasq_yes.2 ⟨m, hm, rfl⟩, ← Pr.data_inj hm'] at he
  exact he
set_option maxRecDepth 100000 in
theorem Bk.get (h : Bk w b L) (hr : Pr.Ris L) {m : Pr.Mg} (hm : m ∈ L) (hq : Q64 m.q) : (Instr.lookup 80 (.map (some b)) (.int .i64 m.q) false).run Try.prog w = .ok (.agg m.cells.toArray) w := by
  obtain ⟨v, ps, he, hv⟩ := World.ownsMap.lookup h keyed Try.underlying80 (zero_msg w) (Pr.elem_mk Pr.zero) (key_of hq)
  rw [Pr.at_dat hr hm] at hv
  obtain ⟨m', rfl, hm'⟩ := Pr.elem_inv hv
  injection hm' with hm' _
  rw [← Pr.data_inj hm'] at he
  exact he
theorem Bk.ins_of {n : Nat} {m : Pr.Mg} (hn : Pr.hasq L m.q = false) (h : w.ownsMap Try.prog 3 Pr.elem b n ((Pr.dat L).put (.int .i64 m.q) m.data)) : Bk w b (Pr.ins m L) := by
  rw [Pr.put_new (Pr.hasq_no hn)] at h
  exact .of h
set_option maxRecDepth 100000 in
theorem Bk.store (h : Bk w b L) (hl : L.length ≤ 1000000) {m : Pr.Mg} (hq : Q64 m.q) (hn : Pr.hasq L m.q = false) : ∃ w', (Instr.mapUpdate 80 (.map (some b)) (.int .i64 m.q) (.agg m.cells.toArray)).run Try.prog w = .ok () w' ∧ Bk w' b (Pr.ins m L) ∧ w.mapTurned w' b := by
  obtain ⟨w', h1, h2, h3⟩ := World.ownsMap.store h keyed Try.underlying80 (by unfold maxLen; omega) (key_of hq) (Pr.elem_mk m)
  exact ⟨w', h1, Bk.ins_of hn h2, h3⟩
set_option maxRecDepth 100000 in
theorem Bk.del (h : Bk w b L) {q : Int} (hq : Q64 q) (ty : TypeId) : ∃ w', (Builtin.delete_ #[80, 3] ty #[.map (some b), .int .i64 q]).run Try.prog w = .ok (.tuple #[]) w' ∧ Bk w' b (Pr.str L q) ∧ w.mapTurned w' b := by
  obtain ⟨w', h1, h2, h3⟩ := World.ownsMap.drop h keyed Try.underlying80 (key_of hq) ty
  rw [Pr.del_dat] at h2
  exact ⟨w', h1, .of h2, h3⟩
set_option maxRecDepth 100000 in
/-- 'm[k], ..= v, ..' of a new key, in its two steps. -/
theorem Bk.entry (h : Bk w b L) (hl : L.length ≤ 1000000) {m : Pr.Mg} (hq : Q64 m.q) (hn : Pr.hasq L m.q = false) : ∃ st o1 o2, (∀ w1, w1.heap[b]? = w.heap[b]? → (Instr.mapEntry 80 (.map (some b)) (.int .i64 m.q)).run Try.prog w1 = .ok (.tuple #[.agg Pr.zero.cells.toArray, st]) (setBlock w1 b o1)) ∧
    (∀ w2, w2.heap[b]? = some o1 → (Instr.entryStore 80 (.map (some b)) st (.agg m.cells.toArray)).run Try.prog w2 = .ok () (setBlock w2 b o2)) ∧ ∀ w3 : World, w3.heap[b]? = some o2 → Bk w3 b (Pr.ins m L) := by
  obtain ⟨w', hs1, hs2, _⟩ := Bk.store h hl hq hn
  have ht := Try.underlying80
  have hkey := key_of hq
  have hh := (Pr.has_dat L m.q).trans hn
  obtain ⟨es, clock, hb, F, hs, hD⟩ := h
  rw [hD] at hh
  have hno : ∀ x ∈ es.toList, x.key ≠ .int .i64 m.q := by
    intro x hx e
    obtain ⟨y, hy⟩ := F.reads x hx
    have h1 := WideElems.rd_key hy
    rw [e, hkey] at h1
    injection h1 with h1
    have h2 : y ∈ (es.toList.map (WideElems.rg Try.prog 3 Pr.elem)).foldr DataW.insert [] := (WideShapes.sorted_perm _).mem_iff.2 (List.mem_map.2 ⟨x, hx, WideElems.rg_of hy⟩)
    have h3 := (List.any_eq_false.1 hh) y h2
    rw [← h1] at h3
    exact h3 (WideAt.sameKey_self trivial)
  obtain ⟨s1, s2, _⟩ := F.stamped
  have hfind : ∀ u : World, (Instr.findKey 3 (.int .i64 m.q) es.toList).run Try.prog u = .ok none u := by
    intro u
    rcases keyed.find u hkey es.toList F.keys with ⟨h1, _⟩ | ⟨j, e0, _, h2, h3⟩
    · exact h1
    · exact absurd h3 (hno e0 (List.mem_of_getElem? h2))
  have hidx : (es.push ⟨.int .i64 m.q, .agg Pr.zero.cells.toArray, clock⟩).findIdx? (fun e => ((e.born : Nat) : Int) == ((clock : Nat) : Int)) = some es.size := by
    rw [WideElems.findIdx_arr]
    have := WideElems.findIdx_born (l := (es.push ⟨.int .i64 m.q, .agg Pr.zero.cells.toArray, clock⟩).toList) (j := es.size) (e0 := ⟨.int .i64 m.q, .agg Pr.zero.cells.toArray, clock⟩) (by
      simp only [Array.toList_push, List.map_append, List.map_cons, List.map_nil]
      refine List.nodup_append.2 ⟨s2, by simp, fun a ha c hc e1 => ?_⟩
      simp only [List.mem_singleton] at hc
      obtain ⟨x, hx, rfl⟩ := List.mem_map.1 ha
      have := s1 x hx
      omega) (by simp)
    exact this
  have hmod : (es.push ⟨.int .i64 m.q, .agg Pr.zero.cells.toArray, clock⟩).modify es.size (fun e => { e with val := .agg m.cells.toArray }) = es.push ⟨.int .i64 m.q, .agg m.cells.toArray, clock⟩ := by
    apply Array.ext'
    rw [Array.toList_modify, Array.toList_push, Array.toList_push, ← Array.length_toList, WideElems.modify_last]
  refine ⟨goInt clock, .map (es.push ⟨.int .i64 m.q, .agg Pr.zero.cells.toArray, clock⟩) (clock + 1), .map (es.push ⟨.int .i64 m.q, .agg m.cells.toArray, clock⟩) (clock + 1), fun w1 h1 => ?_, fun w2 h2 => ?_, fun w3 h3 => ?_⟩
  · have hb1 := h1.trans hb
    simp [Instr.mapEntry, run_underlying ht, MapKept.run_getObj_map hb1, keyed.check w1 false hkey, hfind, MapKept.run_setObj_map _ hb1, Result.andThen, setBlock]
    exact ⟨rfl, rfl⟩
  · simp [Instr.entryStore, MapKept.run_getObj_map h2, asInt, asIntOf, goInt, hidx, hmod, MapKept.run_setObj_map _ h2, Result.andThen, setBlock]
  · have hu : (Instr.mapUpdate 80 (.map (some b)) (.int .i64 m.q) (.agg m.cells.toArray)).run Try.prog w = .ok () (setBlock w b (.map (es.push ⟨.int .i64 m.q, .agg m.cells.toArray, clock⟩) (clock + 1))) := by
      simp [Instr.mapUpdate, run_underlying ht, MapKept.run_getObj_map hb, keyed.check w false hkey, hfind, MapKept.run_setObj_map _ hb, Result.andThen, setBlock]
    rw [hu] at hs1
    injection hs1 with _ e
    subst e
    exact Bk.block hs2 (h3.trans (heap_setBlock_same hb _).symm)
end
end Go.Proofs.Ythganbbiclmgpaa
