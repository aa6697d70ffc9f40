/- A book: a map from keys to what there is of each. -/
import Derived.Test.YtcoekdfmfjglpaaBoSpec
import Derived.Test.YtcoekdfmfjglpaaBoIter
import Derived.Maps.OwnSet
namespace Go.Proofs.Ytcoekdfmfjglpaa
open Go.RowKit Go.Maps Go.Sort Go.MapKept Go.ChangeMaps
namespace Bo
/-- How a state reads. -/
def stR : Value → Option (DataW Unit × List MemPlace)
  | .agg cs => match cs.toList with
    | [.complex .f64 a c, .int .i64 o] => some (.agg [.lit (.float .f64 a), .lit (.float .f64 c), .lit (.int .i64 o)], [])
    | _ => none
  | _ => none
def stV (x : Tt) : Value := .agg #[.complex .f64 (fl x.free) (fl x.held), .int .i64 x.out]
def stD (x : Tt) : DataW Unit := .agg [.lit (.float .f64 (fl x.free)), .lit (.float .f64 (fl x.held)), .lit (.int .i64 x.out)]
theorem stR_val (x : Tt) : stR (stV x) = some (stD x, []) := rfl
theorem stR_inv {v : Value} {x : Tt} {ps : List MemPlace} (h : stR v = some (stD x, ps)) : v = stV x := by
  unfold stR at h
  split at h
  · rename_i cs
    split at h
    · rename_i a c o he
      injection h with h
      injection h with h _
      injection h with h
      injection h with h1 h
      injection h with h2 h
      injection h with h3 _
      injection h1 with h1; injection h1 with _ h1
      injection h2 with h2; injection h2 with _ h2
      injection h3 with h3; injection h3 with _ h3
      unfold stV
      rw [h1, h2, h3] at he
      rw [show cs = #[.complex .f64 (fl x.free) (fl x.held), .int .i64 x.out] from Array.toList_inj.1 he]
    · cases h
  · cases h
/-- A key, as the map's. -/
def kl (s : ByteArray) : Lit := .string (kb s)
theorem kl_inj {s t : ByteArray} (h : kl s = kl t) : s = t := by
  injection h with h
  exact kb_inj h
/-- The map holds these. -/
def Rel (D : DataW Unit) (T : List Tt) : Prop := (∀ b, Maps.has D (.string b) = true ↔ ∃ x ∈ T, kb x.key = b) ∧ ∀ x ∈ T, ∀ z, D.atKey (kl x.key) z = stD x
theorem Rel.nil : Rel (.map []) [] := ⟨fun b => by simp [Maps.has], fun x hx => nomatch hx⟩
theorem Rel.at_ {D : DataW Unit} {T : List Tt} (h : Rel D T) (s : ByteArray) : D.atKey (kl s) (stD ⟨s, 0, 0, 0⟩) = stD (get T s) := by
  unfold get
  split
  · rename_i x hx
    have h1 : x.key = s := by simpa using List.find?_some hx
    rw [← h1]
    exact h.2 x (List.mem_of_find?_eq_some hx) _
  · rename_i hn
    refine Maps.atKey_of_not_has ?_ _
    cases hh : Maps.has D (kl s) with
    | false => rfl
    | true =>
      obtain ⟨x, hx, he⟩ := (h.1 (kb s)).1 hh
      have := List.find?_eq_none.1 hn x hx
      simp [kb_inj he] at this
theorem Rel.put {D : DataW Unit} {T : List Tt} (h : Rel D T) (hD : Maps.IsMap D) (hs : Srt T) (x : Tt) : Rel (D.put (kl x.key) (stD x)) (ins T x) := by
  constructor
  · intro b
    by_cases e : b = kb x.key
    · subst e
      have h1 : Maps.has (D.put (kl x.key) (stD x)) (.string (kb x.key)) = true := Maps.has_put_same (k := kl x.key) hD trivial _
      rw [h1]
      exact ⟨fun _ => ⟨x, (mem_ins hs).2 (.inl rfl), rfl⟩, fun _ => rfl⟩
    · rw [Maps.has_put_other (by intro h2; injection h2 with h2; exact e h2), h.1 b]
      constructor
      · rintro ⟨y, hy, rfl⟩
        exact ⟨y, (mem_ins hs).2 (.inr ⟨hy, fun h2 => e (by rw [h2])⟩), rfl⟩
      · rintro ⟨y, hy, rfl⟩
        rcases (mem_ins hs).1 hy with rfl | ⟨h2, _⟩
        · exact absurd rfl e
        · exact ⟨y, h2, rfl⟩
  · intro y hy z
    rcases (mem_ins hs).1 hy with rfl | ⟨h1, h2⟩
    · exact Maps.atKey_put_same (k := kl y.key) hD trivial _ _
    · rw [Maps.atKey_put_other (fun h3 => h2 (kl_inj h3))]
      exact h.2 y h1 z
end Bo
/-- Block b is a book of these. -/
def Bk (w : World) (b n : Nat) (T : List Bo.Tt) : Prop := ∃ D : DataW Unit, w.ownsMap Try.prog 9 Bo.stR b n D ∧ Bo.Rel D T
theorem bo_keyed : Maps.Keyed Try.prog 9 := Maps.string_keyed Try.underlying9
theorem bo_key {s : ByteArray} (h : s.size ≤ 9223372036854775807) : keyOf Try.prog 9 (.string s) = some (Bo.kl s) := WideMaps.keyOf_string_mk Try.underlying9 (by unfold maxLen; omega)
set_option maxRecDepth 100000 in
theorem bo_zero (w : World) : (zeroValue 56).run Try.prog w = .ok (.agg #[.complex .f64 0 0, .int .i64 0]) w := by kernel_rfl
section
variable {w w' : World} {b n : Nat} {T : List Bo.Tt}
theorem Bk.new (w : World) : Bk (w.alloc (.map #[] 0)) w.heap.size 0 [] := ⟨_, World.ownsMap_made _ _ _ _, Bo.Rel.nil⟩
theorem Bk.lt (h : Bk w b n T) : b < w.heap.size := by obtain ⟨D, h, _⟩ := h; exact h.lt
theorem Bk.block (h : Bk w b n T) (hb : w'.heap[b]? = w.heap[b]?) : Bk w' b n T := by
  obtain ⟨D, ⟨es, clock, h1, h2⟩, h3⟩ := h
  exact ⟨D, ⟨es, clock, hb.trans h1, h2⟩, h3⟩
theorem Bk.below {B : Nat} (h : Bk w b n T) (hB : b < B) (hb : Below B w w') : Bk w' b n T := h.block (hb.block b hB)
theorem Bk.alloc (h : Bk w b n T) (o : Obj) : Bk (w.alloc o) b n T := h.block (Below.heap_alloc _ _ _ h.lt)
theorem Bk.setCell (h : Bk w b n T) {a : Addr} (ha : b ≠ a.block) (u : Value) : Bk (w.setCell a u) b n T := h.block (Below.heap_setCell _ _ _ _ ha)
set_option maxRecDepth 100000 in
theorem Bk.look (h : Bk w b n T) {s : ByteArray} (hs : s.size ≤ 9223372036854775807) : (Instr.lookup 52 (.map (some b)) (.string s) false).run Try.prog w = .ok (Bo.stV (Bo.get T s)) w := by
  obtain ⟨D, hD, hR⟩ := h
  obtain ⟨v, ps, h1, h2⟩ := hD.lookup bo_keyed Try.underlying52 (bo_zero w) (zd := Bo.stD ⟨s, 0, 0, 0⟩) (zp := []) (by unfold Bo.stD; rw [show Bo.fl 0 = 0 from Bo.fl_zero]; rfl) (bo_key hs)
  rw [hR.at_ s] at h2
  rw [← Bo.stR_inv h2]
  exact h1
set_option maxRecDepth 100000 in
theorem Bk.store (h : Bk w b n T) (hn : n < 10000) (hs : Bo.Srt T) (x : Bo.Tt) (hk : x.key.size ≤ 9223372036854775807) : ∃ w', (Instr.mapUpdate 52 (.map (some b)) (.string x.key) (Bo.stV x)).run Try.prog w = .ok () w' ∧ Bk w' b (n + 1) (Bo.ins T x) ∧ w.grownBy w' (some b) := by
  obtain ⟨D, hD, hR⟩ := h
  obtain ⟨w', h1, h2, h3⟩ := hD.update bo_keyed Try.underlying52 (by unfold maxLen; omega) (bo_key hk) (Bo.stR_val x)
  exact ⟨w', h1, ⟨_, h2, hR.put hD.isMap hs x⟩, h3⟩
/-- Its keys. -/
theorem bk_keys (hs : Bo.Srt T) {ss : List (List UInt8)} {D : DataW Unit} (hD : w.ownsMap Try.prog 9 Bo.stR b n D) (hR : Bo.Rel D T) (hp : ss.Perm (strKeys D)) : ss.mergeSort (fun x y => decide (x ≤ y)) = T.map (fun x => Bo.kb x.key) ∧ ss.length = T.length := by
  have hlt : (T.map (fun x => Bo.kb x.key)).Pairwise (fun a b => a < b) := List.pairwise_map.2 (hs.imp (fun {a b} hab => (Bo.ahead_iff _ _).1 hab))
  have hk : (T.map (fun x => Bo.kb x.key)).Perm (strKeys D) := by
    obtain ⟨es, rfl, hpw⟩ := hD.tidy bo_keyed
    obtain ⟨es2, he, hko⟩ := hD.keysOf
    injection he with he
    subst he
    refine perm_strKeys hpw (fun p hp => ?_) (hlt.imp (fun {a b} hab e => by subst e; exact List.lt_irrefl _ hab)) (fun x => ?_)
    · obtain ⟨key, hkey⟩ := hko p hp
      obtain ⟨x, _, h2, _⟩ := Maps.keyOf_str Try.underlying9 hkey
      exact ⟨x, h2⟩
    · rw [hR.1 x, List.mem_map]
  have hall : ss.Perm (T.map (fun x => Bo.kb x.key)) := hp.trans hk.symm
  refine ⟨?_, by rw [hall.length_eq, List.length_map]⟩
  have h1 := mergeSort_of_perm hall
  have h2 : (T.map (fun x => Bo.kb x.key)).mergeSort leB = T.map (fun x => Bo.kb x.key) := List.mergeSort_of_pairwise (hlt.imp (fun {a b} hab => by simp only [leB, decide_eq_true_eq]; exact List.le_of_lt hab))
  exact h1.trans h2
end
end Go.Proofs.Ytcoekdfmfjglpaa
