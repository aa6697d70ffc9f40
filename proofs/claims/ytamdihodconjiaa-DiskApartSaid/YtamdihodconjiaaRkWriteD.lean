/- The document's disk: Write. The document's disk: Write. -/
import Derived.Test.YtamdihodconjiaaRkFlush
import Derived.Deep.RegionHeld3
import Derived.Laws.Append
import Derived.Test.YtamdihodconjiaaDkRot
import Derived.Test.YtamdihodconjiaaRgLast
namespace Go.Proofs.Ytamdihodconjiaa
open Go.RowKit
set_option linter.unusedVariables false
theorem below_al {w W : World} (h : Below w.heap.size w W) (o : Obj) : Below w.heap.size w (W.alloc o) := h.alloc h.size o
theorem below_dr {w W : World} (h : Below w.heap.size w W) : Below w.heap.size w W.drew := h.drew
structure Stp (X W : World) : Prop where
  out : Below X.heap.size X W
theorem below_st {w X W : World} (h : Below w.heap.size w X) (s : Stp X W) : Below w.heap.size w W := h.trans (s.out.mono h.size)
theorem RdV.al {w : World} {A : Option Addr} {n : Nat} {vs : List Value} (h : RdV w A n vs) (o : Obj) : RdV (w.alloc o) A n vs := h.alloc o
theorem RdV.dr {w : World} {A : Option Addr} {n : Nat} {vs : List Value} (h : RdV w A n vs) : RdV w.drew A n vs := h
theorem RdV.st {w W : World} {A : Option Addr} {n : Nat} {vs : List Value} (h : RdV w A n vs) (s : Stp w W) : RdV W A n vs := h.below s.out
theorem rdv_at {X : World} {g : Nat} (E : TypeId) (v : Value) (h : g = X.heap.size) : RdV (X.alloc (.cells #[v] E)) (some ⟨g, 0, none⟩) 1 [v] := by subst h; exact rdv_one X E v
section
variable {w w' : World} {base n cap : Nat} {A : Option Addr} {vs : List Value} {S E : TypeId} {z : Value} {bytes : Nat}
theorem OwnV.al (h : OwnV w base E A n cap vs) (o : Obj) : OwnV (w.alloc o) base E A n cap vs := h.alloc o
theorem OwnV.dr (h : OwnV w base E A n cap vs) : OwnV w.drew base E A n cap vs := h
theorem OwnV.st (h : OwnV w base E A n cap vs) (s : Stp w w') : OwnV w' base E A n cap vs := h.below s.out
/-- append onto a slice that has no room: all is new. -/
theorem run_app_fresh (O : One S E z bytes) (g : Nat) (B : Option Addr) (m c : Nat) (news : List Value) (hm : 0 < m) (hr : RdV w B m news) (hlen : m ≤ 1000000) (ty : TypeId) :
    ∃ q cap' w', (Builtin.append_ #[S, S] ty #[.slice (some ⟨g, 0, none⟩) 0 0, .slice B m c]).run Try.prog w = .ok (.slice (some ⟨q, 0, none⟩) m cap') w' ∧ w.heap.size ≤ q ∧ q < w'.heap.size ∧ OwnV w' w.heap.size E (some ⟨q, 0, none⟩) m cap' news ∧ Stp w w' := by
  obtain ⟨i0, hi, hz0, hz1, hz2⟩ := info_parts O.info
  obtain ⟨b, o, rfl, hb, hc⟩ := hr.2 hm
  have hnews : ∀ j u, news[j]? = some u → w.cell? ((⟨b, o, none⟩ : Addr).add j) = some u := by
    intro j u hu
    have e : (⟨b, o, none⟩ : Addr).add j = ⟨b, o + j, none⟩ := by unfold Addr.add; split <;> simp_all
    rw [e]
    exact hc j _ hu
  have hbytes : (0 + m) * i0.bytes ≤ 140737488355328 := by
    have : m * bytes ≤ 1000000 * 100 := Nat.mul_le_mul hlen O.few
    rw [Nat.zero_add, hz2]
    omega
  have hrun := run_append_grow (P := Try.prog) w S ty E i0 z O.under hi hz0 ⟨g, 0, none⟩ 0 0 [] (by simp) (by simp) ⟨b, o, none⟩ m c news (by rw [hr.1, hz1]; omega) hnews (by omega) (by omega) (growslice_fits (by omega) hbytes)
  have hge := grownCap_ge w (0 + m) 0 E
  have hcm : grownCap w (0 + m) 0 E ≤ maxLen := grownCap_le_maxLen w (0 + m) 0 E (by simp only [maxLen]; omega)
  rw [Nat.zero_add] at hrun hge hcm
  refine ⟨w.heap.size, _, _, hrun, Nat.le_refl _, by simp, ⟨hr.1, ?_⟩, ?_⟩
  · refine ⟨by rw [hr.1]; omega, .inr ⟨w.heap.size, _, _, rfl, Nat.le_refl _, heap_alloc_new w.drew _, hge, hcm, ?_, ?_⟩⟩
    · simp only [Array.size_append, List.size_toArray, size_zeroCells, O.zero, hr.1, List.length_nil]
      simp
      omega
    · simp only [Array.toList_append, List.append_assoc]
      rw [List.nil_append, Nat.mul_one, ← hr.1]
      exact List.take_left
  · exact ⟨(Below.refl _ _).drew.alloc (Nat.le_refl _) _⟩
theorem run_app_none (O : One S E z bytes) (g : Nat) (B : Option Addr) (c : Nat) (ty : TypeId) :
    (Builtin.append_ #[S, S] ty #[.slice (some ⟨g, 0, none⟩) 0 0, .slice B 0 c]).run Try.prog w = .ok (.slice (some ⟨g, 0, none⟩) 0 0) w := by
  obtain ⟨i0, hi, hz0, hz1, hz2⟩ := info_parts O.info
  cases B with
  | none => simp [Builtin.append_, run_underlying O.under, sizeOf, typeInfo, hi, Builtin.lenOf, Builtin.firstCells, storeCells]
  | some a => simp [Builtin.append_, run_underlying O.under, sizeOf, typeInfo, hi, Builtin.lenOf, Builtin.firstCells, loadCells, loadCellsFrom, storeCells]
variable {ops : Array Oper} {o : Oper} {a : Act} {K : Act → World → Prop} {Q : Exit → Act → World → Prop} {F : Prop}
theorem step_fresh (O : One S E z bytes) (hw : Region.wanted o (yielded ops a.tmps) = true) (d : Nat) (hd : o.dst = some d) (s x : Operand)
    (ho : o.op = .call { callee := .builtin .append, args := #[s, x], argTypes := #[S, S] }) (g : Nat)
    (hs : a.eval s = .slice (some ⟨g, 0, none⟩) 0 0) (B : Option Addr) (m c : Nat) (news : List Value) (hx : a.eval x = .slice B m c) (hm : 0 < m) (hr : RdV w B m news) (hlen : m ≤ 1000000)
    (h : ∀ q cap' w', w.heap.size ≤ q → q < w'.heap.size → OwnV w' w.heap.size E (some ⟨q, 0, none⟩) m cap' news → Stp w w' → K (a.put (some d) (.slice (some ⟨q, 0, none⟩) m cap')) w') :
    if Region.wanted o (yielded ops a.tmps) = true then Oper.wp Try.prog o a w K Q else F := by
  rw [if_pos hw]
  obtain ⟨q, cap', w', hrun, h1, h2, h3, h4⟩ := run_app_fresh O g B m c news hm hr hlen o.type
  unfold Oper.wp execOp
  simp only [ho, resolve, invoke, builtin, Sem.run_bind, Sem.run_pure, Result.andThen_ok, List.map_toArray, List.map_cons, List.map_nil, hs, hx, hrun]
  have h5 := h q cap' w' h1 h2 h3 h4
  rw [← hd] at h5
  exact h5
theorem step_none (O : One S E z bytes) (hw : Region.wanted o (yielded ops a.tmps) = true) (d : Nat) (hd : o.dst = some d) (s x : Operand)
    (ho : o.op = .call { callee := .builtin .append, args := #[s, x], argTypes := #[S, S] }) (g : Nat)
    (hs : a.eval s = .slice (some ⟨g, 0, none⟩) 0 0) (B : Option Addr) (c : Nat) (hx : a.eval x = .slice B 0 c)
    (h : K (a.put (some d) (.slice (some ⟨g, 0, none⟩) 0 0)) w) :
    if Region.wanted o (yielded ops a.tmps) = true then Oper.wp Try.prog o a w K Q else F := by
  rw [if_pos hw]
  have hrun := run_app_none (w := w) O g B c o.type
  unfold Oper.wp execOp
  simp only [ho, resolve, invoke, builtin, Sem.run_bind, Sem.run_pure, Result.andThen_ok, List.map_toArray, List.map_cons, List.map_nil, hs, hx, hrun]
  rw [← hd] at h
  exact h
theorem step_own (O : One S E z bytes) (hw : Region.wanted o (yielded ops a.tmps) = true) (d : Nat) (hd : o.dst = some d) (s x : Operand)
    (ho : o.op = .call { callee := .builtin .append, args := #[s, x], argTypes := #[S, S] })
    (hs : a.eval s = .slice A n cap) (hown : OwnV w base E A n cap vs) (B : Option Addr) (m c : Nat) (news : List Value) (h1 : ∀ u ∈ news, u.oneCell' = true) (hx : a.eval x = .slice B m c) (hr : RdV w B m news) (hlen : n + m ≤ 1000000) (hbase : base ≤ w.heap.size)
    (h : ∀ A' cap' w', GrewV w w' base E A A' n cap (n + m) cap' (vs ++ news) → K (a.put (some d) (.slice A' (n + m) cap')) w') :
    if Region.wanted o (yielded ops a.tmps) = true then Oper.wp Try.prog o a w K Q else F := by
  rw [if_pos hw]
  obtain ⟨A', cap', w', hrun, hg⟩ := run_appV O hown B m c news h1 hr hlen hbase o.type
  unfold Oper.wp execOp
  simp only [ho, resolve, invoke, builtin, Sem.run_bind, Sem.run_pure, Result.andThen_ok, List.map_toArray, List.map_cons, List.map_nil, hs, hx, hrun]
  have h5 := h A' cap' w' hg
  rw [← hd] at h5
  exact h5
/-- One operation by itself. -/
theorem wp_fresh (O : One S E z bytes) (d : Nat) (hd : o.dst = some d) (s x : Operand)
    (ho : o.op = .call { callee := .builtin .append, args := #[s, x], argTypes := #[S, S] }) (g : Nat)
    (hs : a.eval s = .slice (some ⟨g, 0, none⟩) 0 0) (B : Option Addr) (m c : Nat) (news : List Value) (hx : a.eval x = .slice B m c) (hm : 0 < m) (hr : RdV w B m news) (hlen : m ≤ 1000000)
    (h : ∀ q cap' w', w.heap.size ≤ q → q < w'.heap.size → OwnV w' w.heap.size E (some ⟨q, 0, none⟩) m cap' news → Stp w w' → K (a.put (some d) (.slice (some ⟨q, 0, none⟩) m cap')) w') : Oper.wp Try.prog o a w K Q := by
  obtain ⟨q, cap', w', hrun, h1, h2, h3, h4⟩ := run_app_fresh O g B m c news hm hr hlen o.type
  unfold Oper.wp execOp
  simp only [ho, resolve, invoke, builtin, Sem.run_bind, Sem.run_pure, Result.andThen_ok, List.map_toArray, List.map_cons, List.map_nil, hs, hx, hrun]
  have h5 := h q cap' w' h1 h2 h3 h4
  rw [← hd] at h5
  exact h5
theorem wp_none (O : One S E z bytes) (d : Nat) (hd : o.dst = some d) (s x : Operand)
    (ho : o.op = .call { callee := .builtin .append, args := #[s, x], argTypes := #[S, S] }) (g : Nat)
    (hs : a.eval s = .slice (some ⟨g, 0, none⟩) 0 0) (B : Option Addr) (c : Nat) (hx : a.eval x = .slice B 0 c)
    (h : K (a.put (some d) (.slice (some ⟨g, 0, none⟩) 0 0)) w) : Oper.wp Try.prog o a w K Q := by
  have hrun := run_app_none (w := w) O g B c o.type
  unfold Oper.wp execOp
  simp only [ho, resolve, invoke, builtin, Sem.run_bind, Sem.run_pure, Result.andThen_ok, List.map_toArray, List.map_cons, List.map_nil, hs, hx, hrun]
  rw [← hd] at h
  exact h
theorem wp_own (O : One S E z bytes) (d : Nat) (hd : o.dst = some d) (s x : Operand)
    (ho : o.op = .call { callee := .builtin .append, args := #[s, x], argTypes := #[S, S] })
    (hs : a.eval s = .slice A n cap) (hown : OwnV w base E A n cap vs) (B : Option Addr) (m c : Nat) (news : List Value) (h1 : ∀ u ∈ news, u.oneCell' = true) (hx : a.eval x = .slice B m c) (hr : RdV w B m news) (hlen : n + m ≤ 1000000) (hbase : base ≤ w.heap.size)
    (h : ∀ A' cap' w', GrewV w w' base E A A' n cap (n + m) cap' (vs ++ news) → K (a.put (some d) (.slice A' (n + m) cap')) w') : Oper.wp Try.prog o a w K Q := by
  obtain ⟨A', cap', w', hrun, hg⟩ := run_appV O hown B m c news h1 hr hlen hbase o.type
  unfold Oper.wp execOp
  simp only [ho, resolve, invoke, builtin, Sem.run_bind, Sem.run_pure, Result.andThen_ok, List.map_toArray, List.map_cons, List.map_nil, hs, hx, hrun]
  have h5 := h A' cap' w' hg
  rw [← hd] at h5
  exact h5
theorem wp_build0 (O : One S E z bytes) (d : Nat) (hd : o.dst = some d) (ho : o.op = .buildSlice S 0 #[]) (h : K (a.put (some d) (.slice (some ⟨w.heap.size, 0, none⟩) 0 0)) (w.alloc (.cells #[] E))) : Oper.wp Try.prog o a w K Q := by
  obtain ⟨i0, hi, hz0, hz1, hz2⟩ := info_parts O.info
  have hrun : (Instr.buildSlice S 0 #[]).run Try.prog w = .ok (.slice (some ⟨w.heap.size, 0, none⟩) 0 0) (w.alloc (.cells #[] E)) := by
    simp [Instr.buildSlice, run_underlying O.under, sizeOf, typeInfo, hi, newRow, Instr.fill]
    have e : Array.map (fun _ => (default : Value)) (Array.range 0) = #[] := Array.ext (by simp) (fun i h1 h2 => by simp at h2)
    rw [e]
  unfold Oper.wp execOp
  rw [← hd] at h
  simp only [ho, Array.map_empty, Sem.run_bind, Sem.run_pure, Result.andThen_ok, hrun]
  exact h
theorem wp_build1 (O : One S E z bytes) (d : Nat) (hd : o.dst = some d) (t : Nat) (v : Value) (ho : o.op = .buildSlice S 1 #[(0, .tmp t)]) (hv : a.eval (.tmp t) = v) (h1 : v.cells = #[v]) (h : K (a.put (some d) (.slice (some ⟨w.heap.size, 0, none⟩) 1 1)) (w.alloc (.cells #[v] E))) : Oper.wp Try.prog o a w K Q := by
  obtain ⟨i0, hi, hz0, hz1, hz2⟩ := info_parts O.info
  have hrun : (Instr.buildSlice S 1 #[(0, v)]).run Try.prog w = .ok (.slice (some ⟨w.heap.size, 0, none⟩) 1 1) (w.alloc (.cells #[v] E)) := by
    simp [Instr.buildSlice, run_underlying O.under, sizeOf, typeInfo, zeroValue, hi, hz0, hz1, O.zero, newRow, Instr.fill, h1]
    have e : (Array.map (fun x => [z][x % 1]?.getD default) (Array.range 1)).setIfInBounds 0 v = #[v] := by
      refine Array.ext (by simp) (fun i h1 h2 => ?_)
      have h3 : i = 0 := by simp at h2; exact h2
      subst h3
      simp
    rw [e]
  unfold Oper.wp execOp
  rw [← hd] at h
  simp only [ho, List.map_toArray, List.map_cons, List.map_nil, hv, Sem.run_bind, Sem.run_pure, Result.andThen_ok, hrun]
  exact h
end
set_option maxRecDepth 100000 in
theorem byte_one : One 35 5 (.int .u8 0) 1 := ⟨by kernel_rfl, Try.underlying35, rfl, by decide⟩
theorem OwnV.rdB {w : World} {base cap n : Nat} {A : Option Addr} {l : List Nat} (h : OwnV w base 5 A n cap (bv l)) (hl : ∀ x ∈ l, x < 256) : Rd w A n l := Own.rd (base := base) (cap := cap) ⟨by have := h.1; rw [bv_length] at this; exact this, hl, h.2⟩
theorem rows_one (vs : List Value) (h : ∀ v ∈ vs, ∃ A n c, v = .slice A n c) : ∀ u ∈ vs, u.oneCell' = true := fun u hu => by obtain ⟨A, n, c, rfl⟩ := h u hu; rfl
end Go.Proofs.Ytamdihodconjiaa
namespace Go.Proofs.Ytamdihodconjiaa
open Go.RowKit
set_option linter.unusedVariables false
theorem bel_size {w W : World} (h : Below w.heap.size w W) : w.heap.size ≤ W.heap.size := h.size
theorem own_ne {W : World} {b1 b2 n1 n2 c1 c2 q1 q2 : Nat} {E1 E2 : TypeId} {l1 l2 : List Value} (h1 : OwnV W b1 E1 (some ⟨q1, 0, none⟩) n1 c1 l1) (h2 : OwnV W b2 E2 (some ⟨q2, 0, none⟩) n2 c2 l2) (hE : E1 ≠ E2) : q1 ≠ q2 := by
  intro e
  subst e
  rcases h1.2.2 with ⟨hv, _⟩ | ⟨g, c, cur, hv, _, hg, _⟩
  · cases hv
  · rcases h2.2.2 with ⟨hv2, _⟩ | ⟨g2, d, cur2, hv2, _, hg2, _⟩
    · cases hv2
    · injection hv with hA
      injection hA with hA
      injection hA with hA
      injection hv2 with hB
      injection hB with hB
      injection hB with hB
      subst hA hB
      rw [hg] at hg2
      injection hg2 with hg2
      injection hg2 with _ e2
      exact hE e2
theorem row_end {w v3 : World} {lab : Nat → Tag} {ls : List (List Nat)} {b : List Nat} {vs : List Value} {A3 : Option Addr} {c3 q2 c2 : Nat} (hB : Below w.heap.size w v3) (hold : ∀ k, lab k ≠ .no → k < w.heap.size) (h2 : ls.length + 1 ≤ 2000) (hvs : vs.length = ls.length) (hlv : ∀ (j : Nat) (x : Value) (b : List Nat), vs[j]? = some x → ls[j]? = some b → LeafR w lab x b)
    (hO : OwnV v3 w.heap.size 35 A3 (ls.length + 1) c3 (vs ++ [.slice (some ⟨q2, 0, none⟩) 128 c2])) (hR : Rd v3 (some ⟨q2, 0, none⟩) 128 b) (hq : w.heap.size ≤ q2) (hq' : q2 < v3.heap.size) :
    RowR v3 (labN lab w v3) (.slice A3 (ls.length + 1) c3) (ls ++ [b]) := by
  have hl : (ls ++ [b]).length = ls.length + 1 := by simp
  refine ⟨by omega, A3, c3, vs ++ [.slice (some ⟨q2, 0, none⟩) 128 c2], by rw [hl], by rw [hl]; exact hO.rd, fun _ => ?_, fun j x y h1 h3 => ?_⟩
  · obtain ⟨q, e, e1, e2⟩ := hO.form (by omega)
    exact ⟨q, 0, e, labN_new e1 e2⟩
  · by_cases hj : j < ls.length
    · rw [List.getElem?_append_left (by omega)] at h1 h3
      exact ((hlv j x y h1 h3).leaves hB.size fun k hk => hB.block k (hold k (by rw [hk]; simp))).relab (labN_keep hold)
    · have hj2 : j = ls.length := by
        have := (List.getElem?_eq_some_iff.1 h3).1
        omega
      subst hj2
      rw [List.getElem?_append_right (Nat.le_refl _), Nat.sub_self] at h3
      rw [List.getElem?_append_right (by omega), hvs, Nat.sub_self] at h1
      simp at h1 h3
      subst h1 h3
      exact ⟨q2, c2, rfl, hR, labN_new hq hq'⟩
theorem row_end3 {w W v3 : World} {lab : Nat → Tag} {ls : List (List Nat)} {b : List Nat} {vs : List Value} {A3 : Option Addr} {k c1 q1 c3 q2 c2 : Nat} (hold : ∀ k, lab k ≠ .no → k < w.heap.size) (h2 : k + 1 + 1 ≤ 2000) (hvs : vs.length = ls.length ∧ ls.length = k + 1) (hlv : ∀ (j : Nat) (x : Value) (b : List Nat), vs[j]? = some x → ls[j]? = some b → LeafR w lab x b) (hB : Below w.heap.size w W)
    (hg : GrewV W v3 w.heap.size 35 (some ⟨q1, 0, none⟩) A3 (k + 1) c1 (k + 1 + 1) c3 (vs ++ [.slice (some ⟨q2, 0, none⟩) 128 c2])) (ho : OwnV W w.heap.size 5 (some ⟨q2, 0, none⟩) 128 c2 (bv b)) (hb : ∀ x ∈ b, x < 256) (hq : w.heap.size ≤ q2) (h1 : OwnV W w.heap.size 35 (some ⟨q1, 0, none⟩) (k + 1) c1 vs := by assumption) :
    Below w.heap.size w v3 ∧ RowR v3 (labN lab w v3) (.slice A3 (k + 1 + 1) c3) (ls ++ [b]) := by
  have hne : q1 ≠ q2 := own_ne h1 ho (by decide)
  have hB3 := hg.below hB hB.size (fun g e => (h1.blk g e).1)
  have ho3 := ho.grown hg.grew (.inr fun g e e2 => by
    injection e with e
    injection e2 with e2
    exact hne (e.trans e2.symm))
  refine ⟨hB3, ?_⟩
  have := row_end (ls := ls) (b := b) hB3 hold (by omega) hvs.1 hlv (by rw [hvs.2]; exact hg.own) (ho3.rdB hb) hq (ho3.blk q2 rfl).2
  rw [hvs.2] at this
  exact this
theorem row_end0 {w v3 : World} {lab : Nat → Tag} {b : List Nat} {q3 c3 q2 c2 : Nat} (hold : ∀ k, lab k ≠ .no → k < w.heap.size) (hB : Below w.heap.size w v3)
    (hg : OwnV v3 w.heap.size 35 (some ⟨q3, 0, none⟩) 1 c3 [.slice (some ⟨q2, 0, none⟩) 128 c2]) (ho : OwnV v3 w.heap.size 5 (some ⟨q2, 0, none⟩) 128 c2 (bv b)) (hb : ∀ x ∈ b, x < 256) (hq : w.heap.size ≤ q2) :
    Below w.heap.size w v3 ∧ RowR v3 (labN lab w v3) (.slice (some ⟨q3, 0, none⟩) 1 c3) ([] ++ [b]) :=
  ⟨hB, row_end (ls := []) (vs := []) hB hold (by simp) rfl (by simp) hg (ho.rdB hb) hq (ho.blk q2 rfl).2⟩
/-- The cell that is written, by a name that holds in every world. -/
theorem curs {w : World} {g sb i N : Nat} {old : Value} (hgl : g < w.heap.size) (hsl : sb < w.heap.size) (hgs : g ≠ sb) (c0 : w.cell? ⟨g, 0, none⟩ = some (.slice (some ⟨sb, 0, none⟩) N N)) (k1 : w.cell? ⟨sb, i, none⟩ = some old) (frz : w.frozen? ⟨sb, i, none⟩ = false) :
    ∃ cur : World → Value, Hid (∀ wx, Below w.heap.size w wx → cur wx = old) ∧ Hid (∀ wx, Below w.heap.size w wx → wx.cell? ⟨g, 0, none⟩ = some (.slice (some ⟨sb, 0, none⟩) N N) ∧ wx.cell? ⟨sb, i, none⟩ = some (cur wx) ∧ wx.frozen? ⟨sb, i, none⟩ = false) ∧
      Hid (∀ wx v, Below w.heap.size w wx → (wx.setCell ⟨sb, i, none⟩ v).cell? ⟨g, 0, none⟩ = some (.slice (some ⟨sb, 0, none⟩) N N) ∧ (wx.setCell ⟨sb, i, none⟩ v).cell? ⟨sb, i, none⟩ = some (cur (wx.setCell ⟨sb, i, none⟩ v)) ∧ (wx.setCell ⟨sb, i, none⟩ v).frozen? ⟨sb, i, none⟩ = false) := by
  have h1 : ∀ wx, Below w.heap.size w wx → wx.cell? ⟨sb, i, none⟩ = some old := fun wx hb => (hb.cell (p := ⟨sb, i, none⟩) hsl).trans k1
  have h2 : ∀ wx, Below w.heap.size w wx → wx.cell? ⟨g, 0, none⟩ = some (.slice (some ⟨sb, 0, none⟩) N N) := fun wx hb => (hb.cell (p := ⟨g, 0, none⟩) hgl).trans c0
  have h3 : ∀ wx, Below w.heap.size w wx → wx.frozen? ⟨sb, i, none⟩ = false := fun wx hb => (hb.frozen (p := ⟨sb, i, none⟩) hsl).trans frz
  refine ⟨fun wx => (wx.cell? ⟨sb, i, none⟩).getD (.bool false), Lib.hid fun wx hb => by show (wx.cell? ⟨sb, i, none⟩).getD (.bool false) = old; rw [h1 wx hb]; rfl, Lib.hid fun wx hb => ⟨h2 wx hb, by show wx.cell? ⟨sb, i, none⟩ = some ((wx.cell? ⟨sb, i, none⟩).getD (.bool false)); rw [h1 wx hb]; rfl, h3 wx hb⟩, Lib.hid fun wx v hb => ⟨?_, ?_, ?_⟩⟩
  · rw [World.cell?_setCell_other wx _ _ _ (fun e => hgs (by injection e with e1 _; exact e1.symm))]
    exact h2 wx hb
  · show (wx.setCell ⟨sb, i, none⟩ v).cell? ⟨sb, i, none⟩ = some (((wx.setCell ⟨sb, i, none⟩ v).cell? ⟨sb, i, none⟩).getD (.bool false))
    rw [World.cell?_setCell_same wx _ _ (h1 wx hb)]
    rfl
  · rw [World.frozen?_setCell]
    exact h3 wx hb
/-- Behind the store. -/
theorem wrote_ref {w v3 : World} {g sb i : Nat} {C : List Ce} {lab : Nat → Tag} {st : Dk.St} {s : Dk.Sec} {c : Ce} {v : Value} {b : List Nat} (h : RefM w g sb C lab st) (hs : st.s[i]? = some s) (hc : C[i]? = some c) (hB : Below w.heap.size w v3) (hr : RowR v3 (labN lab w v3) v (s.l ++ [b])) (hb : b.length = 128 ∧ ∀ x ∈ b, x < 256) :
    LeftR lab g ⟨Dk.upd st.s i (fun s => ⟨s.f, s.l ++ [b]⟩), st.n, st.fused, st.left⟩ w (v3.setCell ⟨sb, i * 2 + 1, none⟩ v) := by
  refine h.upd (c' := ⟨c.f, v⟩) (G := fun s => ⟨s.f, s.l ++ [b]⟩) hB (Ch1.set _ _ _ _) hs ?_ ⟨?_, hr⟩ (by simp [World.setCell]) (fine_upd h.fine hs ⟨(h.fine.1 s (List.mem_of_getElem? hs)).1, (h.fine.1 s (List.mem_of_getElem? hs)).2.1⟩ fun y hy => ?_)
  · have := (h.row.below hB).set (i * 2 + 1) v (by rw [flatR_length]; have := (List.getElem?_eq_some_iff.1 hc).1; omega)
    rw [flatR_set_l _ hc]
    exact this
  · exact ((h.sec i c s hc hs).f.leaves hB.size fun k hk => hB.block k (h.old k (by rw [hk]; simp))).relab (labN_keep h.old)
  · rcases List.mem_append.1 hy with h1 | h1
    · exact (h.fine.1 s (List.mem_of_getElem? hs)).2.2 y h1
    · rw [List.mem_singleton.1 h1]; exact hb
end Go.Proofs.Ytamdihodconjiaa
