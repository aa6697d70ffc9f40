/- There and back: a grant that is spent, a hold that is released; a row that is written over. -/
import Derived.Test.YtcoekdfmfjglpaaBoLaw
import Derived.Test.YtcoekdfmfjglpaaBoApp
import Derived.Deep.DeepCutAuto
namespace Go.Proofs.Ytcoekdfmfjglpaa
open Go.RowKit
namespace Bo
theorem some_back {T : List Tt} (hs : Srt T) (s : ByteArray) : some_ (ins T (get T s)) = some_ T := by
  have h1 : Srt (some_ (ins T (get T s))) := List.Pairwise.sublist List.filter_sublist (srt_ins hs _)
  have h2 : Srt (some_ T) := List.Pairwise.sublist List.filter_sublist hs
  refine srt_ext h1 h2 fun x => ?_
  unfold some_
  rw [List.mem_filter, List.mem_filter, mem_ins hs]
  constructor
  · rintro ⟨rfl | ⟨h3, _⟩, h4⟩
    · refine ⟨?_, h4⟩
      unfold get at h4 ⊢
      split at h4
      · rename_i y hy
        exact List.mem_of_find?_eq_some hy
      · simp [nil] at h4
    · exact ⟨h3, h4⟩
  · rintro ⟨h3, h4⟩
    refine ⟨?_, h4⟩
    by_cases hk : x.key = (get T s).key
    · refine .inl ?_
      rw [get_key] at hk
      rw [← hk, get_mem hs h3]
    · exact .inr ⟨h3, hk⟩
theorem ins_same_len {T : List Tt} {x y : Tt} (h : y.key = x.key) : (ins (ins T x) y).length = (ins T x).length := by
  induction T with
  | nil =>
    show (ins [x] y).length = 1
    rw [ins_one h]; rfl
  | cons a T ih =>
    rw [show ins (a :: T) x = (if ahead a.key x.key then a :: ins T x else if a.key = x.key then x :: T else x :: a :: T) from rfl]
    by_cases h1 : ahead a.key x.key = true
    · rw [if_pos h1]
      rw [show ins (a :: ins T x) y = (if ahead a.key y.key then a :: ins (ins T x) y else if a.key = y.key then y :: ins T x else y :: a :: ins T x) from rfl]
      rw [if_pos (by rw [h]; exact h1), List.length_cons, List.length_cons, ih]
    · rw [if_neg h1]
      have hxy : ahead x.key y.key = false := by rw [h]; exact ahead_self _
      by_cases h2 : a.key = x.key
      · rw [if_pos h2]
        rw [show ins (x :: T) y = (if ahead x.key y.key then x :: ins T y else if x.key = y.key then y :: T else y :: x :: T) from rfl]
        rw [if_neg (by rw [hxy]; decide), if_pos h.symm]; rfl
      · rw [if_neg h2]
        rw [show ins (x :: a :: T) y = (if ahead x.key y.key then x :: ins (a :: T) y else if x.key = y.key then y :: a :: T else y :: x :: a :: T) from rfl]
        rw [if_neg (by rw [hxy]; decide), if_pos h.symm]; rfl
theorem ins_twice {T : List Tt} (hs : Srt T) {x y : Tt} (h : y.key = x.key) : ins (ins T x) y = ins T y := by
  refine srt_ext (srt_ins (srt_ins hs _) _) (srt_ins hs _) fun z => ?_
  rw [mem_ins (srt_ins hs _), mem_ins hs, mem_ins hs]
  constructor
  · rintro (rfl | ⟨rfl | ⟨h1, h2⟩, h3⟩)
    · exact .inl rfl
    · exact absurd h.symm h3
    · exact .inr ⟨h1, h3⟩
  · rintro (rfl | ⟨h1, h2⟩)
    · exact .inl rfl
    · exact .inr ⟨.inr ⟨h1, by rw [← h]; exact h2⟩, h2⟩
/-- There and back. -/
theorem back {T : List Tt} {s : ByteArray} {n ka kb : Int} (hk : (ka = 1 ∧ kb = 2) ∨ (ka = 3 ∧ kb = 5)) (h : addC T ⟨ka, s, n⟩ = 0) :
    addC (addT T ⟨ka, s, n⟩) ⟨kb, s, n⟩ = 0 ∧ some_ (addT (addT T ⟨ka, s, n⟩) ⟨kb, s, n⟩) = some_ T ∧ (addT (addT T ⟨ka, s, n⟩) ⟨kb, s, n⟩).length = (addT T ⟨ka, s, n⟩).length := by
  obtain ⟨h1, h2, h3, h4⟩ := addC_zero h
  have hT := okT_iff.1 h1
  have hN : okT none (next T ⟨ka, s, n⟩) = true := okT_iff.2 ⟨srt_ins hT.1 _, next_in hT.1 hT.2 h2 h3⟩
  have hl := okL_iff.1 h2
  have hb : okL ⟨kb, s, n⟩ = true := okL_iff.2 ⟨by dsimp only; omega, hl.2.1, hl.2.2⟩
  have hg : get (next T ⟨ka, s, n⟩) s = put (get T s) ⟨ka, s, n⟩ := by
    have h5 := get_ins_same hT.1 (put (get T s) ⟨ka, s, n⟩)
    rw [put_key, get_key] at h5
    exact h5
  have hp : put (put (get T s) ⟨ka, s, n⟩) ⟨kb, s, n⟩ = get T s := by
    obtain ⟨gk, gf, gh, go⟩ := get T s
    rcases hk with ⟨rfl, rfl⟩ | ⟨rfl, rfl⟩
    · simp [put, dF, dH, dO]; omega
    · simp [put, dF, dH, dO]; omega
  have hi := get_in hT.2 s
  have hc : code (next T ⟨ka, s, n⟩) ⟨kb, s, n⟩ = 0 := by
    unfold code
    rw [show (⟨kb, s, n⟩ : Ln).key = s from rfl, hg, hp]
    unfold InX at hi
    unfold bad
    rw [if_neg (by omega), if_neg (by omega)]
  have hA : addC (next T ⟨ka, s, n⟩) ⟨kb, s, n⟩ = 0 := by
    unfold addC
    rw [hN, hb, hc]
    rfl
  have hAt : addT (next T ⟨ka, s, n⟩) ⟨kb, s, n⟩ = ins (next T ⟨ka, s, n⟩) (get T s) := by
    unfold addT
    rw [if_pos hA]
    show ins _ (put (get (next T ⟨ka, s, n⟩) s) ⟨kb, s, n⟩) = _
    rw [hg, hp]
  have hkk : (get T s).key = (put (get T s) ⟨ka, s, n⟩).key := rfl
  rw [h4]
  refine ⟨hA, ?_, ?_⟩
  · rw [hAt]
    show some_ (ins (ins T (put (get T s) ⟨ka, s, n⟩)) (get T s)) = _
    rw [ins_twice hT.1 hkk]
    exact some_back hT.1 s
  · rw [hAt]
    exact ins_same_len hkk
end Bo
theorem wpList_appN {s : Nat} {w : World} {base n cap : Nat} {A : Option Addr} {vs : List Value} {S E : TypeId} {z : Value} {bytes : Nat} (O : Many s S E z bytes) {ops : Array Oper} {rest : List Oper} {o : Oper} {a : Act} {Q : Exit → Act → World → Prop} (hgd : o.guard = none) (s1 x : Operand)
    (ho : o.op = .call { callee := .builtin .append, args := #[s1, x], argTypes := #[S, S] })
    (hs : a.eval s1 = .slice A n cap) (hown : OwnC s w base E A n cap vs) (B : Option Addr) (m c : Nat) (news : List Value) (h1 : ∀ u ∈ news, u.oneCell' = true) (hx : a.eval x = .slice B m c) (hr : RdC s w B m news) (hlen : n + m ≤ 1000000) (hbase : base ≤ w.heap.size)
    (h : ∀ A' cap' w', GrewC s w w' base E A A' n cap (n + m) cap' (vs ++ news) → wpList Try.prog ops Q rest (a.put o.dst (.slice A' (n + m) cap')) w') : wpList Try.prog ops Q (o :: rest) a w := by
  obtain ⟨A', cap', w', hrun, hg⟩ := run_appN O hown B m c news h1 hr hlen hbase o.type
  refine wpList_plain hgd fun K hK => ?_
  unfold Oper.wp execOp
  simp only [ho, resolve, invoke, builtin, Sem.run_bind, Sem.run_pure, Result.andThen_ok, List.map_toArray, List.map_cons, List.map_nil, hs, hx, hrun]
  exact hK _ _ (h A' cap' w' hg)
/-- A row of the call's own, a cell of which is written. -/
theorem own_stored {s : Nat} {w : World} {base g n cap : Nat} {E : TypeId} {vs : List Value} (h : OwnC s w base E (some ⟨g, 0, none⟩) n cap vs) (j : Nat) (u : Value) : OwnC s (w.setCell ⟨g, j, none⟩ u) base E (some ⟨g, 0, none⟩) n cap (vs.set j u) := (World.ownsRow.stored h j u).1
theorem own_cell {s : Nat} {w : World} {base g n cap : Nat} {E : TypeId} {vs : List Value} (h : OwnC s w base E (some ⟨g, 0, none⟩) n cap vs) {j : Nat} (hj : j < n * s) : ∃ v, w.cell? ⟨g, j, none⟩ = some v := by
  have h1 := World.ownsRow.cellAt h j hj
  have h2 := h.1
  rw [List.getElem?_eq_getElem (by omega)] at h1
  exact ⟨_, h1⟩
theorem own_free {s : Nat} {w : World} {base g n cap : Nat} {E : TypeId} {vs : List Value} (h : OwnC s w base E (some ⟨g, 0, none⟩) n cap vs) (j : Nat) : w.frozen? ⟨g, j, none⟩ = false := World.ownsRow.frozenAt h j
end Go.Proofs.Ytcoekdfmfjglpaa
