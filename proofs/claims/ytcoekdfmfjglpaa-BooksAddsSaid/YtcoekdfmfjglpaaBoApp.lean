/- append of a row that may be nil, also at a step of a drawn region; parts of a row of totals. -/
import Derived.Test.YtcoekdfmfjglpaaBoRPut
namespace Go.Proofs.Ytcoekdfmfjglpaa
open Go.RowKit
section
variable {s : Nat} {w w' : World} {base n cap : Nat} {A : Option Addr} {vs : List Value} {S E : TypeId} {z : Value} {bytes : Nat}
set_option maxRecDepth 100000 in
theorem run_appN (O : Many s S E z bytes) (hown : OwnC s w base E A n cap vs) (B : Option Addr) (m c : Nat) (news : List Value) (h1 : ∀ u ∈ news, u.oneCell' = true) (hr : RdC s w B m news) (hlen : n + m ≤ 1000000) (hbase : base ≤ w.heap.size) (ty : TypeId) :
    ∃ A' cap' w', (Builtin.append_ #[S, S] ty #[.slice A n cap, .slice B m c]).run Try.prog w = .ok (.slice A' (n + m) cap') w' ∧ GrewC s w w' base E A A' n cap (n + m) cap' (vs ++ news) := by
  cases B with
  | some ad => exact run_appC O hown ad m c news h1 hr hlen hbase ty
  | none =>
    obtain ⟨i0, hi, hz0, hz1, hz2⟩ := info_parts O.info
    have hm : m = 0 := by
      rcases Nat.eq_zero_or_pos m with h0 | h0
      · exact h0
      · obtain ⟨b, o, he, _⟩ := hr.2 h0
        cases he
    subst hm
    have h0 : news = [] := List.eq_nil_of_length_eq_zero (by rw [hr.1]; simp)
    subst h0
    have hrun : (Builtin.append_ #[S, S] ty #[.slice A n cap, .slice none 0 c]).run Try.prog w = .ok (.slice A n cap) w := by
      rcases hown.2 with ⟨hv, hn0⟩ | ⟨g, c', cur, hv, _, _, hnc, _⟩
      · rw [hv]
        simp [Builtin.append_, run_underlying O.under, sizeOf, typeInfo, hi, Builtin.lenOf, Builtin.firstCells]
      · rw [hv]
        simp [Builtin.append_, run_underlying O.under, sizeOf, typeInfo, hi, Builtin.lenOf, Builtin.firstCells, hnc, storeCells]
    exact ⟨A, cap, w, hrun, ⟨by simpa using hown, World.grownBy.refl w _, .inl rfl⟩⟩
theorem step_appN (O : Many s S E z bytes) {ops : Array Oper} {o : Oper} {a : Act} {K : Act → World → Prop} {Q : Exit → Act → World → Prop} {F : Prop} (hw : Region.wanted o (yielded ops a.tmps) = true) (d : Nat) (hd : o.dst = some d) (s1 x : Operand)
    (ho : o.op = .call { callee := .builtin .append, args := #[s1, x], argTypes := #[S, S] })
    (hs : a.eval s1 = .slice A n cap) (hown : OwnC s w base E A n cap vs) (B : Option Addr) (m c : Nat) (news : List Value) (h1 : ∀ u ∈ news, u.oneCell' = true) (hx : a.eval x = .slice B m c) (hr : RdC s w B m news) (hlen : n + m ≤ 1000000) (hbase : base ≤ w.heap.size)
    (h : ∀ A' cap' w', GrewC s w w' base E A A' n cap (n + m) cap' (vs ++ news) → K (a.put (some d) (.slice A' (n + m) cap')) w') :
    if Region.wanted o (yielded ops a.tmps) = true then Oper.wp Try.prog o a w K Q else F := by
  rw [if_pos hw]
  obtain ⟨A', cap', w', hrun, hg⟩ := run_appN O hown B m c news h1 hr hlen hbase o.type
  unfold Oper.wp execOp
  simp only [ho, resolve, invoke, builtin, Sem.run_bind, Sem.run_pure, Result.andThen_ok, List.map_toArray, List.map_cons, List.map_nil, hs, hx, hrun]
  have h2 := h A' cap' w' hg
  rw [← hd] at h2
  exact h2
/-- A row of no element. -/
theorem OwnC.empty (s : Nat) (w : World) (E : TypeId) (base : Nat) (hb : base ≤ w.heap.size) : OwnC s (w.alloc (.cells #[] E)) base E (some ⟨w.heap.size, 0, none⟩) 0 0 [] := by
  have h := World.ownsRow_lit (base := base) (e := E) (size := s) w #[] 0 hb (by simp only [maxLen]; omega) (by simp)
  exact ⟨by simp, h.2⟩
end
namespace Bo
theorem tflat_one (l : List Tt) : ∀ u ∈ tflat l, u.oneCell' = true := by
  intro u hu
  unfold tflat at hu
  obtain ⟨x, _, hx⟩ := List.mem_flatMap.1 hu
  exact tcells_one x u hx
theorem tflat_len (l : List Tt) : (tflat l).length = l.length * 4 := flatMap_length (f := Tt.cells) (s := 4) (fun _ => rfl) l
theorem tflat_take (l : List Tt) (k : Nat) : (tflat l).take (k * 4) = tflat (l.take k) := by
  induction l generalizing k with
  | nil => simp [tflat]
  | cons x l ih =>
    cases k with
    | zero => simp [tflat]
    | succ k =>
      show (x.cells ++ tflat l).take ((k + 1) * 4) = x.cells ++ tflat (l.take k)
      rw [List.take_append, List.take_of_length_le (by show 4 ≤ _; omega), show (k + 1) * 4 - x.cells.length = k * 4 by show (k + 1) * 4 - 4 = k * 4; omega, ih k]
theorem tflat_drop (l : List Tt) (k : Nat) : (tflat l).drop (k * 4) = tflat (l.drop k) := by
  induction l generalizing k with
  | nil => simp [tflat]
  | cons x l ih =>
    cases k with
    | zero => simp [tflat]
    | succ k =>
      show (x.cells ++ tflat l).drop ((k + 1) * 4) = tflat (l.drop k)
      rw [List.drop_append, List.drop_of_length_le (by show 4 ≤ _; omega), show (k + 1) * 4 - x.cells.length = k * 4 by show (k + 1) * 4 - 4 = k * 4; omega, ih k]
      rfl
end Bo
theorem RdC.grown {s : Nat} {w w' : World} {A : Option Addr} {n : Nat} {vs : List Value} {row : Option Nat} (h : RdC s w A n vs) (hg : w.grownBy w' row) (hne : 0 < n → ∀ g o, A = some ⟨g, o, none⟩ → row ≠ some g) : RdC s w' A n vs := by
  refine ⟨h.1, fun hn => ?_⟩
  obtain ⟨b, o, rfl, hb, hc⟩ := h.2 hn
  exact ⟨b, o, rfl, Nat.lt_of_lt_of_le hb hg.size, fun j x hx => (World.grownBy.cell_far hg ⟨b, o + j, none⟩ hb (fun e => hne hn b o rfl e.symm)).trans (hc j x hx)⟩
theorem first_app {w1 wx v3 : World} {B n c3 : Nat} {A3 : Option Addr} {vs : List Value} (hb : Below w1.heap.size w1 wx) (hs : w1.heap.size ≤ B) (hg : GrewC 4 wx v3 w1.heap.size 46 (some ⟨B, 0, none⟩) A3 0 0 (0 + n) c3 ([] ++ vs)) :
    Below w1.heap.size w1 v3 ∧ OwnC 4 v3 w1.heap.size 46 A3 n c3 vs ∧ wx.heap.size ≤ v3.heap.size := by
  have h := hg.own
  rw [List.nil_append, Nat.zero_add] at h
  exact ⟨hb.grown hg.grew hb.size (fun g e => by injection e with e; have e : B = g := e; omega), h, hg.grew.size⟩
theorem next_app {w1 wx v5 : World} {n c4 c5 m : Nat} {A4 A5 : Option Addr} {vs us : List Value} (hb : Below w1.heap.size w1 wx) (ho : OwnC 4 wx w1.heap.size 46 A4 n c4 vs) (hg : GrewC 4 wx v5 w1.heap.size 46 A4 A5 n c4 (n + m) c5 (vs ++ us)) :
    Below w1.heap.size w1 v5 ∧ OwnC 4 v5 w1.heap.size 46 A5 (n + m) c5 (vs ++ us) :=
  ⟨hb.grown hg.grew hb.size (fun g e => (ho.blk g e).1), hg.own⟩
theorem side_row {wx v3 : World} {B q : Nat} {A3 : Option Addr} {n c3 : Nat} {vs us : List Value} {base : Nat} (hr : RdC 4 wx (some ⟨q, 0, none⟩) 1 us) (hne : B ≠ q) (hg : GrewC 4 wx v3 base 46 (some ⟨B, 0, none⟩) A3 0 0 n c3 vs) : RdC 4 v3 (some ⟨q, 0, none⟩) 1 us :=
  hr.grown hg.grew (fun _ g o e h => by
    injection e with e
    injection e with e
    injection h with h
    have h : B = g := h
    omega)
/-- A row from its f-th on. -/
def behindT (A : Option Addr) (c f : Nat) : Option Addr := if c = f then A else A.map (·.add (f * 4))
set_option maxRecDepth 100000 in
theorem run_fromT (A : Option Addr) (n c f : Nat) (hf : f ≤ n) (hc : n ≤ c) (w : World) : (Instr.slice 22 (.slice A n c) (some (.int .i64 (f : Int))) none none).run Try.prog w = .ok (.slice (behindT A c f) (n - f) (c - f)) w := by
  obtain ⟨i0, hi, hz0, hz1, hz2⟩ := info_parts manyT.info
  unfold behindT
  by_cases e : c = f
  · subst e
    simp [Instr.slice, run_underlying Try.underlying22, Instr.sliceBounds, Instr.sliceBound, asIntOf, go_sem, hf, hc]
  · simp [Instr.slice, run_underlying Try.underlying22, Instr.sliceBounds, Instr.sliceBound, asIntOf, go_sem, hf, e, sizeOf, typeInfo, hi, hz1]
set_option maxRecDepth 100000 in
theorem run_toT (A : Option Addr) (n c t : Nat) (ht : t ≤ n) (hc : n ≤ c) (w : World) : (Instr.slice 22 (.slice A n c) none (some (.int .i64 (t : Int))) none).run Try.prog w = .ok (.slice A t c) w := by
  have h2 : t ≤ c := by omega
  simp [Instr.slice, run_underlying Try.underlying22, Instr.sliceBounds, Instr.sliceBound, asIntOf, go_sem, h2]
theorem RdT.to {w : World} {A : Option Addr} {n t : Nat} {l : List Bo.Tt} (h : RdT w A n l) (ht : t ≤ n) : RdT w A t (l.take t) := by
  refine ⟨by rw [List.length_take, h.1]; omega, ?_, fun x hx => h.2.2 x (List.mem_of_mem_take hx)⟩
  rw [← Bo.tflat_take]
  exact h.2.1.take ht
theorem RdT.from_ {w : World} {A : Option Addr} {n c f : Nat} {l : List Bo.Tt} (h : RdT w A n l) (hf : f ≤ n) (hc : n ≤ c) : RdT w (behindT A c f) (n - f) (l.drop f) := by
  refine ⟨by rw [List.length_drop, h.1], ⟨by rw [Bo.tflat_len, List.length_drop, h.1], fun hm => ?_⟩, fun x hx => h.2.2 x (List.mem_of_mem_drop hx)⟩
  obtain ⟨b, o, rfl, hb, hcl⟩ := h.2.1.2 (by omega)
  refine ⟨b, o + f * 4, ?_, hb, fun j x hx => ?_⟩
  · unfold behindT
    rw [if_neg (by omega)]
    simp only [Option.map_some, Addr.add]
    split
    · rename_i e; rw [e, Nat.add_zero]
    · rfl
  · rw [← Bo.tflat_drop, List.getElem?_drop] at hx
    rw [Nat.add_assoc]
    exact hcl _ _ hx
end Go.Proofs.Ytcoekdfmfjglpaa
