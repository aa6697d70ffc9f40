/- A version behind a pointer, in memory of the call's own, and what calls make of it. slices.IndexFunc of logs and of tables: where a number stands. slices.BinarySearchFunc of logs: where a number stands, or would stand. slices.BinarySearchFunc of tables: where a number stands, or would stand. -/
import Derived.Test.YthfcjlndaajkfaaGreatG06
import Derived.Test.YthfcjlndaajkfaaGreatG04
namespace Go.Proofs.YthfcjlndaajkfaaGreat
open Go.RowKit
set_option linter.unusedVariables false
theorem Holds.grown {w w' : World} {b : Nat} {cs : List Value} {row : Option Nat} (h : Holds w b cs) (hg : w.grownBy w' row) (hne : row ≠ some b) : Holds w' b cs := by
  have hk := hg.block b h.1 (fun e => hne e.symm)
  exact ⟨Nat.lt_of_lt_of_le h.1 hg.size, fun i v hv => (World.cell?_of_block (a := ⟨b, i, none⟩) hk).trans (h.2.1 i v hv), fun i => (World.frozen?_of_block (a := ⟨b, i, none⟩) hk).trans (h.2.2 i)⟩
theorem mem_put {α : Type} {L : List α} {k : Nat} {x y : α} (h : y ∈ Ed.put L k x) : y ∈ L ∨ y = x := by
  unfold Ed.put at h
  rcases List.mem_append.1 h with h | h
  · exact .inl (List.mem_of_mem_take h)
  · rcases List.mem_cons.1 h with h | h
    · exact .inr h
    · exact .inl (List.mem_of_mem_drop h)
theorem mem_cut {α : Type} {L : List α} {k : Nat} {y : α} (h : y ∈ Ed.cut L k) : y ∈ L := by
  unfold Ed.cut at h
  rcases List.mem_append.1 h with h | h
  · exact List.mem_of_mem_take h
  · exact List.mem_of_mem_drop h
structure StV (w : World) (base vb : Nat) (nx sq : Int) (A : Option Addr) (n c : Nat) (L : List (Ed.Lg × List (Int × Int))) (B : Option Addr) (m d : Nat) (M : List (Pk.Tb × List (Int × Int))) : Prop where
  box : Holds w vb [.int .i64 nx, .int .i64 sq, .slice A n c, .slice B m d]
  own : OwV w base A n c L B m d M
  va : blkOf A ≠ some vb
  vB : blkOf B ≠ some vb
  vl : ∀ x ∈ L, blkOf x.1.P ≠ some vb
  vt : ∀ x ∈ M, blkOf x.1.P ≠ some vb
  lo : base ≤ vb
section
variable {w : World} {base vb : Nat} {nx sq : Int} {A : Option Addr} {n c : Nat} {L : List (Ed.Lg × List (Int × Int))} {B : Option Addr} {m d : Nat} {M : List (Pk.Tb × List (Int × Int))}
theorem StV.below {w' : World} (h : StV w base vb nx sq A n c L B m d M) (hb : Below w.heap.size w w') : StV w' base vb nx sq A n c L B m d M := ⟨h.box.below hb, h.own.below hb, h.va, h.vB, h.vl, h.vt, h.lo⟩
theorem StV.num (h : StV w base vb nx sq A n c L B m d M) (i : Nat) (v : Value) {cs : List Value} (hcs : [Value.int .i64 nx, .int .i64 sq, .slice A n c, .slice B m d].set i v = cs) (hi : i < 4) (hk : Holds (w.setCell ⟨vb, i, none⟩ v) vb cs → ∃ nx' sq', cs = [.int .i64 nx', .int .i64 sq', .slice A n c, .slice B m d]) : ∃ nx' sq', cs = [.int .i64 nx', .int .i64 sq', .slice A n c, .slice B m d] ∧ StV (w.setCell ⟨vb, i, none⟩ v) base vb nx' sq' A n c L B m d M := by
  have hb := h.box.set i v (by simpa using hi)
  rw [hcs] at hb
  obtain ⟨nx', sq', e⟩ := hk hb
  have gv := grown_cell w vb i v
  refine ⟨nx', sq', e, e ▸ hb, ⟨h.own.ls.grown gv (fun g hg e => h.va (by rw [e, ← hg])) (fun y hy g hg e => h.vl y hy (by rw [e, ← hg])), h.own.ts.grown gv (fun g hg e => h.vB (by rw [e, ← hg])) (fun y hy g hg e => h.vt y hy (by rw [e, ← hg])), h.own.ab, h.own.lb, h.own.ta⟩, h.va, h.vB, h.vl, h.vt, h.lo⟩
theorem StV.nx_ (h : StV w base vb nx sq A n c L B m d M) (x : Int) : StV (w.setCell ⟨vb, 0, none⟩ (.int .i64 x)) base vb x sq A n c L B m d M := by
  have gv := grown_cell w vb 0 (.int .i64 x)
  exact ⟨h.box.set 0 _ (by simp), ⟨h.own.ls.grown gv (fun g hg e => h.va (by rw [e, ← hg])) (fun y hy g hg e => h.vl y hy (by rw [e, ← hg])), h.own.ts.grown gv (fun g hg e => h.vB (by rw [e, ← hg])) (fun y hy g hg e => h.vt y hy (by rw [e, ← hg])), h.own.ab, h.own.lb, h.own.ta⟩, h.va, h.vB, h.vl, h.vt, h.lo⟩
theorem StV.sq_ (h : StV w base vb nx sq A n c L B m d M) (x : Int) : StV (w.setCell ⟨vb, 1, none⟩ (.int .i64 x)) base vb nx x A n c L B m d M := by
  have gv := grown_cell w vb 1 (.int .i64 x)
  exact ⟨h.box.set 1 _ (by simp), ⟨h.own.ls.grown gv (fun g hg e => h.va (by rw [e, ← hg])) (fun y hy g hg e => h.vl y hy (by rw [e, ← hg])), h.own.ts.grown gv (fun g hg e => h.vB (by rw [e, ← hg])) (fun y hy g hg e => h.vt y hy (by rw [e, ← hg])), h.own.ab, h.own.lb, h.own.ta⟩, h.va, h.vB, h.vl, h.vt, h.lo⟩
theorem StV.seal_ {g k : Nat} {x : Ed.Lg × List (Int × Int)} {v : Int} (h : StV w base vb nx sq (some ⟨g, 0, none⟩) n c L B m d M) (hx : L[k]? = some x) (hv : -9223372036854775808 ≤ v ∧ v ≤ 9223372036854775807) : StV (w.setCell ⟨g, k * 4 + 3, none⟩ (.int .i64 v)) base vb nx sq (some ⟨g, 0, none⟩) n c (L.set k ({ x.1 with se := v }, x.2)) B m d M := by
  have gv := grown_cell w g (k * 4 + 3) (.int .i64 v)
  have hm : (L.map (·.1))[k]? = some x.1 := by rw [List.getElem?_map, hx]; rfl
  have hrow := (h.own.ls.row.set1 (k * 4 + 3) (.int .i64 v)).1
  have e : (Ed.lflat (L.map (·.1))).set (k * 4 + 3) (.int .i64 v) = Ed.lflat ((L.set k ({ x.1 with se := v }, x.2)).map (·.1)) := by
    unfold Ed.lflat
    rw [Ed.flat_set (f := Ed.Lg.cells) (s := 4) (fun _ => rfl) (by omega) hm (x' := { x.1 with se := v }) rfl, List.map_set]
  rw [e] at hrow
  have hne : g ≠ vb := fun e => h.va (by rw [e]; rfl)
  have hmem : ∀ y ∈ L.set k (({ x.1 with se := v } : Ed.Lg), x.2), y ∈ L ∨ y = ({ x.1 with se := v }, x.2) := fun y hy => List.mem_or_eq_of_mem_set hy
  have hxm := List.mem_of_getElem? hx
  have off : ∀ Q : Option Addr, Off Q (some ⟨g, 0, none⟩) → ∀ g', some g = some g' → blkOf Q ≠ some g' := fun Q hQ g' e1 e2 => by
    injection e1 with e1
    subst e1
    exact hQ g e2 rfl
  refine ⟨h.box.other (fun e => hne e.symm), ⟨⟨by rw [List.length_set]; exact h.own.ls.len, hrow, fun y hy => ?_, fun y hy => ?_, fun y hy => ?_⟩, h.own.ts.grown gv (fun g' hg e => off _ h.own.ab.symm g' hg e) (fun y hy g' hg e => off _ (h.own.ta y hy) g' hg e), h.own.ab, fun y hy => ?_, h.own.ta⟩, h.va, h.vB, fun y hy => ?_, h.vt, h.lo⟩
  · rcases hmem y hy with hy | rfl
    · exact h.own.ls.fit y hy
    · exact ⟨(h.own.ls.fit x hxm).1, hv⟩
  · rcases hmem y hy with hy | rfl
    · exact (h.own.ls.prs y hy).grown gv (fun g' hg e => off _ (h.own.ls.off y hy) g' hg e)
    · exact (h.own.ls.prs x hxm).grown gv (fun g' hg e => off _ (h.own.ls.off x hxm) g' hg e)
  · rcases hmem y hy with hy | rfl
    · exact h.own.ls.off y hy
    · exact h.own.ls.off x hxm
  · rcases hmem y hy with hy | rfl
    · exact h.own.lb y hy
    · exact h.own.lb x hxm
  · rcases hmem y hy with hy | rfl
    · exact h.vl y hy
    · exact h.vl x hxm
theorem StV.putlog (h : StV w base vb nx sq A n c L B m d M) {x : Ed.Lg × List (Int × Int)} {k : Nat} {A' : Option Addr} {c' : Nat} {w' : World} (hk : k ≤ n) (hO : OwnC 4 w' base 62 A' (n + 1) c' ((Ed.lflat (L.map (·.1))).take (k * 4) ++ x.1.cells ++ (Ed.lflat (L.map (·.1))).drop (k * 4))) (hG : w.grownBy w' (blkOf A)) (hb : blkOf A' = blkOf A ∨ ∀ g, blkOf A' = some g → w.heap.size ≤ g)
    (hP : OwP w base x.1.P x.1.pn x.1.pc x.2) (hPA : Off x.1.P A) (hPB : Off x.1.P B) (hPv : blkOf x.1.P ≠ some vb) (hf : x.1.fits) :
    StV (w'.setCell ⟨vb, 2, none⟩ (.slice A' (n + 1) c')) base vb nx sq A' (n + 1) c' (Ed.put L k x) B m d M := by
  have hvb := h.box.1
  have hA' : ∀ g, blkOf A' = some g → (blkOf A = some g ∨ w.heap.size ≤ g) := fun g hg => by
    rcases hb with hb | hb
    · exact .inl (hb ▸ hg)
    · exact .inr (hb g hg)
  have hA'v : blkOf A' ≠ some vb := fun e => by
    rcases hA' _ e with h1 | h1
    · exact h.va h1
    · omega
  have offA : ∀ Q : Option Addr, Off Q A → (∀ g, blkOf Q = some g → g < w.heap.size) → Off Q A' := fun Q hQ hl g h1 h2 => by
    rcases hA' g h2 with h3 | h3
    · exact hQ g h1 h3
    · have := hl g h1; omega
  have hlen : k ≤ (L.map (·.1)).length := by rw [List.length_map, h.own.ls.len]; exact hk
  have hrow : (Ed.lflat (L.map (·.1))).take (k * 4) ++ x.1.cells ++ (Ed.lflat (L.map (·.1))).drop (k * 4) = Ed.lflat ((Ed.put L k x).map (·.1)) := by
    rw [Ed.log_take, Ed.log_drop]
    unfold Ed.put Ed.lflat
    rw [List.map_append, List.map_cons, List.flatMap_append, List.flatMap_cons, List.map_take, List.map_drop, List.append_assoc]
  rw [hrow] at hO
  have gv := grown_cell w' vb 2 (.slice A' (n + 1) c')
  have hbox := (h.box.grown hG (fun e => h.va e)).set 2 (.slice A' (n + 1) c') (by simp)
  have own1 : OwLs w' base A' (n + 1) c' (Ed.put L k x) := ⟨by unfold Ed.put; rw [List.length_append, List.length_take, List.length_cons, List.length_drop, h.own.ls.len]; omega, hO,
    fun y hy => by
      rcases mem_put hy with hy | rfl
      · exact h.own.ls.fit y hy
      · exact hf,
    fun y hy => by
      rcases mem_put hy with hy | rfl
      · exact (h.own.ls.prs y hy).grown hG (fun g hg => fun e => h.own.ls.off y hy g e hg)
      · exact hP.grown hG (fun g hg => fun e => hPA g e hg),
    fun y hy => by
      rcases mem_put hy with hy | rfl
      · exact offA _ (h.own.ls.off y hy) (fun g hg => ((h.own.ls.prs y hy).lt g hg).2)
      · exact offA _ hPA (fun g hg => (hP.lt g hg).2)⟩
  have own2 : OwTs w' base B m d M := h.own.ts.grown hG (fun g hg e => h.own.ab g hg e) (fun y hy g hg e => h.own.ta y hy g e hg)
  refine ⟨hbox, ⟨own1.grown gv (fun g hg e => hA'v (by rw [e, ← hg])) (fun y hy g hg e => ?_), own2.grown gv (fun g hg e => h.vB (by rw [e, ← hg])) (fun y hy g hg e => h.vt y hy (by rw [e, ← hg])), (offA _ h.own.ab.symm (fun g hg => (h.own.ts.row.lt g hg).2)).symm, fun y hy => ?_, fun y hy => offA _ (h.own.ta y hy) (fun g hg => ((h.own.ts.prs y hy).lt g hg).2)⟩, hA'v, h.vB, fun y hy => ?_, h.vt, h.lo⟩
  · rcases mem_put hy with hy | rfl
    · exact h.vl y hy (by rw [e, ← hg])
    · exact hPv (by rw [e, ← hg])
  · rcases mem_put hy with hy | rfl
    · exact h.own.lb y hy
    · exact hPB
  · rcases mem_put hy with hy | rfl
    · exact h.vl y hy
    · exact hPv
theorem StV.puttable (h : StV w base vb nx sq A n c L B m d M) {x : Pk.Tb × List (Int × Int)} {k : Nat} {A' : Option Addr} {c' : Nat} {w' : World} (hk : k ≤ m) (hO : OwnC 9 w' base 35 A' (m + 1) c' ((Pk.flat (M.map (·.1))).take (k * 9) ++ x.1.cells ++ (Pk.flat (M.map (·.1))).drop (k * 9))) (hG : w.grownBy w' (blkOf B)) (hb : blkOf A' = blkOf B ∨ ∀ g, blkOf A' = some g → w.heap.size ≤ g)
    (hP : OwP w base x.1.P x.1.pn x.1.pc x.2) (hPA : Off x.1.P A) (hPB : Off x.1.P B) (hPv : blkOf x.1.P ≠ some vb) (hf : x.1.fits) :
    StV (w'.setCell ⟨vb, 3, none⟩ (.slice A' (m + 1) c')) base vb nx sq A n c L A' (m + 1) c' (Ed.put M k x) := by
  have hvb := h.box.1
  have hA' : ∀ g, blkOf A' = some g → (blkOf B = some g ∨ w.heap.size ≤ g) := fun g hg => by
    rcases hb with hb | hb
    · exact .inl (hb ▸ hg)
    · exact .inr (hb g hg)
  have hA'v : blkOf A' ≠ some vb := fun e => by
    rcases hA' _ e with h1 | h1
    · exact h.vB h1
    · omega
  have offA : ∀ Q : Option Addr, Off Q B → (∀ g, blkOf Q = some g → g < w.heap.size) → Off Q A' := fun Q hQ hl g h1 h2 => by
    rcases hA' g h2 with h3 | h3
    · exact hQ g h1 h3
    · have := hl g h1; omega
  have hlen : k ≤ (M.map (·.1)).length := by rw [List.length_map, h.own.ts.len]; exact hk
  have hrow : (Pk.flat (M.map (·.1))).take (k * 9) ++ x.1.cells ++ (Pk.flat (M.map (·.1))).drop (k * 9) = Pk.flat ((Ed.put M k x).map (·.1)) := by
    rw [Ed.table_take, Ed.table_drop]
    unfold Ed.put Pk.flat
    rw [List.map_append, List.map_cons, List.flatMap_append, List.flatMap_cons, List.map_take, List.map_drop, List.append_assoc]
  rw [hrow] at hO
  have gv := grown_cell w' vb 3 (.slice A' (m + 1) c')
  have hbox := (h.box.grown hG (fun e => h.vB e)).set 3 (.slice A' (m + 1) c') (by simp)
  have own1 : OwTs w' base A' (m + 1) c' (Ed.put M k x) := ⟨by unfold Ed.put; rw [List.length_append, List.length_take, List.length_cons, List.length_drop, h.own.ts.len]; omega, hO,
    fun y hy => by
      rcases mem_put hy with hy | rfl
      · exact h.own.ts.fit y hy
      · exact hf,
    fun y hy => by
      rcases mem_put hy with hy | rfl
      · exact (h.own.ts.prs y hy).grown hG (fun g hg => fun e => h.own.ts.off y hy g e hg)
      · exact hP.grown hG (fun g hg => fun e => hPB g e hg),
    fun y hy => by
      rcases mem_put hy with hy | rfl
      · exact offA _ (h.own.ts.off y hy) (fun g hg => ((h.own.ts.prs y hy).lt g hg).2)
      · exact offA _ hPB (fun g hg => (hP.lt g hg).2)⟩
  have own2 : OwLs w' base A n c L := h.own.ls.grown hG (fun g hg e => h.own.ab g e hg) (fun y hy g hg e => h.own.lb y hy g e hg)
  refine ⟨hbox, ⟨own2.grown gv (fun g hg e => h.va (by rw [e, ← hg])) (fun y hy g hg e => h.vl y hy (by rw [e, ← hg])), own1.grown gv (fun g hg e => hA'v (by rw [e, ← hg])) (fun y hy g hg e => ?_), offA _ h.own.ab (fun g hg => (h.own.ls.row.lt g hg).2), fun y hy => offA _ (h.own.lb y hy) (fun g hg => ((h.own.ls.prs y hy).lt g hg).2), fun y hy => ?_⟩, h.va, hA'v, h.vl, fun y hy => ?_, h.lo⟩
  · rcases mem_put hy with hy | rfl
    · exact h.vt y hy (by rw [e, ← hg])
    · exact hPv (by rw [e, ← hg])
  · rcases mem_put hy with hy | rfl
    · exact h.own.ta y hy
    · exact hPA
  · rcases mem_put hy with hy | rfl
    · exact h.vt y hy
    · exact hPv
theorem StV.cutlog (h : StV w base vb nx sq A n c L B m d M) {k g : Nat} {w' : World} (hA : A = some ⟨g, 0, none⟩) (hk : k < n) (hO : OwnC 4 w' base 62 A (n - 1) c (Ed.lflat (Ed.cut (L.map (·.1)) k))) (hG : w.grownBy w' (some g)) :
    StV (w'.setCell ⟨vb, 2, none⟩ (.slice A (n - 1) c)) base vb nx sq A (n - 1) c (Ed.cut L k) B m d M := by
  have hvb := h.box.1
  have hg : blkOf A = some g := by rw [hA]; rfl
  have hG' : w.grownBy w' (blkOf A) := by rw [hg]; exact hG
  have hrow : Ed.cut (L.map (·.1)) k = (Ed.cut L k).map (·.1) := by unfold Ed.cut; rw [List.map_append, List.map_take, List.map_drop]
  rw [hrow] at hO
  have gv := grown_cell w' vb 2 (.slice A (n - 1) c)
  have hbox := (h.box.grown hG' (fun e => h.va e)).set 2 (.slice A (n - 1) c) (by simp)
  have own1 : OwLs w' base A (n - 1) c (Ed.cut L k) := ⟨by rw [Ed.cut_length (by rw [h.own.ls.len]; exact hk), h.own.ls.len], hO, fun y hy => h.own.ls.fit y (mem_cut hy), fun y hy => (h.own.ls.prs y (mem_cut hy)).grown hG' (fun g hg => fun e => h.own.ls.off y (mem_cut hy) g e hg), fun y hy => h.own.ls.off y (mem_cut hy)⟩
  have own2 : OwTs w' base B m d M := h.own.ts.grown hG' (fun g hg e => h.own.ab g hg e) (fun y hy g hg e => h.own.ta y hy g e hg)
  exact ⟨hbox, ⟨own1.grown gv (fun g hg e => h.va (by rw [e, ← hg])) (fun y hy g hg e => h.vl y (mem_cut hy) (by rw [e, ← hg])), own2.grown gv (fun g hg e => h.vB (by rw [e, ← hg])) (fun y hy g hg e => h.vt y hy (by rw [e, ← hg])), h.own.ab, fun y hy => h.own.lb y (mem_cut hy), h.own.ta⟩, h.va, h.vB, fun y hy => h.vl y (mem_cut hy), h.vt, h.lo⟩
theorem StV.cuttable (h : StV w base vb nx sq A n c L B m d M) {k g : Nat} {w' : World} (hA : B = some ⟨g, 0, none⟩) (hk : k < m) (hO : OwnC 9 w' base 35 B (m - 1) d (Pk.flat (Ed.cut (M.map (·.1)) k))) (hG : w.grownBy w' (some g)) :
    StV (w'.setCell ⟨vb, 3, none⟩ (.slice B (m - 1) d)) base vb nx sq A n c L B (m - 1) d (Ed.cut M k) := by
  have hvb := h.box.1
  have hg : blkOf B = some g := by rw [hA]; rfl
  have hG' : w.grownBy w' (blkOf B) := by rw [hg]; exact hG
  have hrow : Ed.cut (M.map (·.1)) k = (Ed.cut M k).map (·.1) := by unfold Ed.cut; rw [List.map_append, List.map_take, List.map_drop]
  rw [hrow] at hO
  have gv := grown_cell w' vb 3 (.slice B (m - 1) d)
  have hbox := (h.box.grown hG' (fun e => h.vB e)).set 3 (.slice B (m - 1) d) (by simp)
  have own1 : OwTs w' base B (m - 1) d (Ed.cut M k) := ⟨by rw [Ed.cut_length (by rw [h.own.ts.len]; exact hk), h.own.ts.len], hO, fun y hy => h.own.ts.fit y (mem_cut hy), fun y hy => (h.own.ts.prs y (mem_cut hy)).grown hG' (fun g hg => fun e => h.own.ts.off y (mem_cut hy) g e hg), fun y hy => h.own.ts.off y (mem_cut hy)⟩
  have own2 : OwLs w' base A n c L := h.own.ls.grown hG' (fun g hg e => h.own.ab g e hg) (fun y hy g hg e => h.own.lb y hy g e hg)
  exact ⟨hbox, ⟨own2.grown gv (fun g hg e => h.va (by rw [e, ← hg])) (fun y hy g hg e => h.vl y hy (by rw [e, ← hg])), own1.grown gv (fun g hg e => h.vB (by rw [e, ← hg])) (fun y hy g hg e => h.vt y (mem_cut hy) (by rw [e, ← hg])), h.own.ab, h.own.lb, fun y hy => h.own.ta y (mem_cut hy)⟩, h.va, h.vB, h.vl, fun y hy => h.vt y (mem_cut hy), h.lo⟩
end
end Go.Proofs.YthfcjlndaajkfaaGreat
namespace Go.Proofs.YthfcjlndaajkfaaGreat
open Go.RowKit
set_option linter.unusedVariables false
namespace Ed
def idxOf : Option Nat → Int
  | some k => (k : Int)
  | none => -1
theorem find_at {ids : List Int} {k : Nat} {x y : Int} (h : ids[k]? = some y) (he : y = x) (hn : ∀ z ∈ ids.take k, z ≠ x) : find ids x = some k := by
  unfold find
  rw [List.findIdx?_eq_some_iff_getElem]
  obtain ⟨hk, hg⟩ := List.getElem?_eq_some_iff.1 h
  refine ⟨hk, by rw [hg]; exact decide_eq_true he, fun j hj => ?_⟩
  have hjl : j < ids.length := by omega
  have := hn ids[j] (List.mem_of_getElem? (i := j) (by rw [List.getElem?_take, if_pos hj]; exact List.getElem?_eq_getElem hjl))
  simpa using this
theorem find_no {ids : List Int} {x : Int} (hn : ∀ z ∈ ids, z ≠ x) : find ids x = none := by
  unfold find
  rw [List.findIdx?_eq_none_iff]
  intro z hz
  exact decide_eq_false (hn z hz)
end Ed
set_option maxRecDepth 100000 in
theorem enter_ixlog (args : Array Value) (w : World) : (callFunc 100 args).run Tryz.prog w = .ok (.enter 100 args) w := run_enter Tryz.func100 (by kernel_rfl) (by kernel_rfl) args w
set_option maxRecDepth 100000 in
set_option maxHeartbeats 4000000 in
theorem islog_any (id ep : Int) (P : Option Addr) (pn pc : Nat) (se : Int) (eb : Nat) (x : Int) (w : World) (hc : w.cell? ⟨eb, 1, none⟩ = some (.int .i64 x)) :
    Calls Tryz.prog 100 #[.agg #[.int .i64 id, .int .i64 ep, .slice P pn pc, .int .i64 se], .pointer (some ⟨eb, 0, none⟩)] w fun e w' => e = .returned (.bool (decide (id = x))) ∧ Below w.heap.size w w' := by
  have HB := Lib.hid (show Below w.heap.size w (w.alloc (.cells #[.int .i64 id, .int .i64 ep, .slice P pn pc, .int .i64 se] 62)) from (Below.refl _ _).alloc (Nat.le_refl _) _)
  have c1 : (w.alloc (.cells #[.int .i64 id, .int .i64 ep, .slice P pn pc, .int .i64 se] 62)).cell? ⟨eb, 1, none⟩ = some (.int .i64 x) := (HB.out.cell (block_lt_of_cell hc)).trans hc
  clear hc
  by_cases h : id = x
  · have HF := Lib.hid (decide_eq_true h)
    have g0 : (id == x) = true := by simp [h]
    rw [HF.out]
    clear h
    go_enter Tryz.func100, Tryz.ntmps100
    go_wp2
    go_ret
    exact ⟨rfl, HB.out⟩
  · have HF := Lib.hid (decide_eq_false h)
    have g0 : (id == x) = false := beq_eq_false_iff_ne.2 h
    rw [HF.out]
    clear h
    go_enter Tryz.func100, Tryz.ntmps100
    go_wp2
    go_ret
    exact ⟨rfl, HB.out⟩
set_option maxRecDepth 100000 in
set_option maxHeartbeats 4000000 in
theorem ixlog_any (A : Option Addr) (n c : Nat) (L : List (Ed.Lg × List (Int × Int))) (eb : Nat) (x : Int) (w : World) (hr : RdLs w A n L) (hn : n ≤ 9223372036854775807) (hc : w.cell? ⟨eb, 1, none⟩ = some (.int .i64 x)) :
    Calls Tryz.prog 99 #[.slice A n c, .func (.func 100) #[] #[.pointer (some ⟨eb, 0, none⟩)]] w fun e w' => e = .returned (.int .i64 (Ed.idxOf (Ed.find (L.map (·.1.id)) x))) ∧ Below w.heap.size w w' := by
  have H1 := Lib.hid hr
  have L1 := Lib.hid hr.len
  have HC := Lib.hid (And.intro hc (block_lt_of_cell hc))
  clear hr hc
  generalize hans : Ed.idxOf (Ed.find (L.map (·.1.id)) x) = ans
  have HA := Lib.hid hans
  clear hans
  have hmf := enter_ixlog
  go_enter Tryz.func99, Tryz.ntmps99
  go_wp2
  go_loopw [8] (fun ii wr => ∃ (k : Nat), k ≤ n ∧ ii = .int .i64 (k : Int) ∧ Hid (∀ y ∈ (L.map (·.1.id)).take k, y ≠ x) ∧ Hid (Below w.heap.size w wr)) (fun ii _ => n - (intOf ii).toNat)
  case atStart => exact ⟨0, by omega, rfl, Lib.hid (fun y hy => nomatch hy), Lib.hid (Below.refl _ _)⟩
  case round =>
    obtain ⟨k, hk, rfl, HT, HB⟩ := hrel
    by_cases hlt : k < n
    · have hki : (k : Int) < (n : Int) := by omega
      have hk0 : (0 : Int) ≤ (k : Int) := by omega
      obtain ⟨y, hy⟩ : ∃ y, L[k]? = some y := ⟨_, List.getElem?_eq_getElem (by rw [L1.out]; exact hlt)⟩
      obtain ⟨b, o, rfl, _, hp, hc⟩ := H1.out.four hy
      have HY := Lib.hid (Ed.map_at (f := fun t : Ed.Lg × List (Int × Int) => t.1.id) hy)
      clear hy hp
      obtain ⟨⟨id, ep, P, pn, pc, se⟩, ps⟩ := y
      dsimp only at hc HY
      obtain ⟨e0, e1, e2, e3⟩ := hc wr HB.out
      clear hc
      have HS := Lib.hid (islog_any id ep P pn pc se eb x wr ((HB.out.cell HC.out.2).trans HC.out.1))
      generalize hqt : decide (id = x) = t at HS
      go_wp2_with fail
      refine HS.out.mono ?_
      rintro e v ⟨rfl, hbv⟩
      have HV := Lib.hid (below_next HB.out hbv)
      clear hbv e0 e1 e2 e3 HS
      cases t with
      | true =>
        have HF := Lib.hid (show (k : Int) = ans by
          rw [← HA.out, Ed.find_at HY.out (of_decide_eq_true hqt) HT.out]; rfl)
        clear hqt
        go_wp2
        go_ret
        exact ⟨by rw [← HF.out]; rfl, HV.out⟩
      | false =>
        have HTn := Lib.hid (show ∀ y ∈ (L.map (·.1.id)).take (k + 1), y ≠ x by
          intro y hy
          rw [List.take_add_one, HY.out] at hy
          rcases List.mem_append.1 hy with hy | hy
          · exact HT.out y hy
          · rcases List.mem_singleton.1 hy with rfl
            exact of_decide_eq_false hqt)
        clear hqt
        go_wp2
        go_roundw
        case rel => exact ⟨k + 1, by omega, by go_num, HTn, HV⟩
        case measure => simp [intOf]; omega
    · have hki : ¬ (k : Int) < (n : Int) := by omega
      have HF := Lib.hid (show (-1 : Int) = ans by
        have h := HT.out
        rw [List.take_of_length_le (by rw [List.length_map, L1.out]; omega)] at h
        rw [← HA.out, Ed.find_no h]; rfl)
      clear hlt
      go_wp2
      go_ret
      exact ⟨by rw [← HF.out]; rfl, HB.out⟩
set_option maxRecDepth 100000 in
theorem enter_ixtable (args : Array Value) (w : World) : (callFunc 75 args).run Tryz.prog w = .ok (.enter 75 args) w := run_enter Tryz.func75 (by kernel_rfl) (by kernel_rfl) args w
set_option maxRecDepth 100000 in
set_option maxHeartbeats 4000000 in
theorem istable_any (id ep : Int) (P : Option Addr) (pn pc : Nat) (sz lv ct : Int) (lo hi : ByteArray) (tp : Int) (eb : Nat) (x : Int) (w : World) (hc : w.cell? ⟨eb, 1, none⟩ = some (.int .i64 x)) :
    Calls Tryz.prog 75 #[.agg #[.int .i64 id, .int .i64 ep, .slice P pn pc, .int .i64 sz, .int .i64 lv, .int .i64 ct, .string lo, .string hi, .int .i64 tp], .pointer (some ⟨eb, 0, none⟩)] w fun e w' => e = .returned (.bool (decide (id = x))) ∧ Below w.heap.size w w' := by
  have HB := Lib.hid (show Below w.heap.size w (w.alloc (.cells #[.int .i64 id, .int .i64 ep, .slice P pn pc, .int .i64 sz, .int .i64 lv, .int .i64 ct, .string lo, .string hi, .int .i64 tp] 35)) from (Below.refl _ _).alloc (Nat.le_refl _) _)
  have c1 : (w.alloc (.cells #[.int .i64 id, .int .i64 ep, .slice P pn pc, .int .i64 sz, .int .i64 lv, .int .i64 ct, .string lo, .string hi, .int .i64 tp] 35)).cell? ⟨eb, 1, none⟩ = some (.int .i64 x) := (HB.out.cell (block_lt_of_cell hc)).trans hc
  clear hc
  by_cases h : id = x
  · have HF := Lib.hid (decide_eq_true h)
    have g0 : (id == x) = true := by simp [h]
    rw [HF.out]
    clear h
    go_enter Tryz.func75, Tryz.ntmps75
    go_wp2
    go_ret
    exact ⟨rfl, HB.out⟩
  · have HF := Lib.hid (decide_eq_false h)
    have g0 : (id == x) = false := beq_eq_false_iff_ne.2 h
    rw [HF.out]
    clear h
    go_enter Tryz.func75, Tryz.ntmps75
    go_wp2
    go_ret
    exact ⟨rfl, HB.out⟩
set_option maxRecDepth 100000 in
set_option maxHeartbeats 4000000 in
theorem ixtable_any (A : Option Addr) (n c : Nat) (L : List (Pk.Tb × List (Int × Int))) (eb : Nat) (x : Int) (w : World) (hr : RdTs w A n L) (hn : n ≤ 9223372036854775807) (hc : w.cell? ⟨eb, 1, none⟩ = some (.int .i64 x)) :
    Calls Tryz.prog 74 #[.slice A n c, .func (.func 75) #[] #[.pointer (some ⟨eb, 0, none⟩)]] w fun e w' => e = .returned (.int .i64 (Ed.idxOf (Ed.find (L.map (·.1.id)) x))) ∧ Below w.heap.size w w' := by
  have H1 := Lib.hid hr
  have L1 := Lib.hid hr.len
  have HC := Lib.hid (And.intro hc (block_lt_of_cell hc))
  clear hr hc
  generalize hans : Ed.idxOf (Ed.find (L.map (·.1.id)) x) = ans
  have HA := Lib.hid hans
  clear hans
  have hmf := enter_ixtable
  go_enter Tryz.func74, Tryz.ntmps74
  go_wp2
  go_loopw [8] (fun ii wr => ∃ (k : Nat), k ≤ n ∧ ii = .int .i64 (k : Int) ∧ Hid (∀ y ∈ (L.map (·.1.id)).take k, y ≠ x) ∧ Hid (Below w.heap.size w wr)) (fun ii _ => n - (intOf ii).toNat)
  case atStart => exact ⟨0, by omega, rfl, Lib.hid (fun y hy => nomatch hy), Lib.hid (Below.refl _ _)⟩
  case round =>
    obtain ⟨k, hk, rfl, HT, HB⟩ := hrel
    by_cases hlt : k < n
    · have hki : (k : Int) < (n : Int) := by omega
      have hk0 : (0 : Int) ≤ (k : Int) := by omega
      obtain ⟨y, hy⟩ : ∃ y, L[k]? = some y := ⟨_, List.getElem?_eq_getElem (by rw [L1.out]; exact hlt)⟩
      obtain ⟨b, o, rfl, _, hp, hc⟩ := H1.out.nine hy
      have HY := Lib.hid (Ed.map_at (f := fun t : Pk.Tb × List (Int × Int) => t.1.id) hy)
      clear hy hp
      obtain ⟨⟨id, ep, P, pn, pc, sz, lv, ct, lo, hi, tp⟩, ps⟩ := y
      dsimp only at hc HY
      obtain ⟨e0, e1, e2, e3, e4, e5, e6, e7, e8⟩ := hc wr HB.out
      clear hc
      have HS := Lib.hid (istable_any id ep P pn pc sz lv ct lo hi tp eb x wr ((HB.out.cell HC.out.2).trans HC.out.1))
      generalize hqt : decide (id = x) = t at HS
      go_wp2_with fail
      refine HS.out.mono ?_
      rintro e v ⟨rfl, hbv⟩
      have HV := Lib.hid (below_next HB.out hbv)
      clear hbv e0 e1 e2 e3 e4 e5 e6 e7 e8 HS
      cases t with
      | true =>
        have HF := Lib.hid (show (k : Int) = ans by
          rw [← HA.out, Ed.find_at HY.out (of_decide_eq_true hqt) HT.out]; rfl)
        clear hqt
        go_wp2
        go_ret
        exact ⟨by rw [← HF.out]; rfl, HV.out⟩
      | false =>
        have HTn := Lib.hid (show ∀ y ∈ (L.map (·.1.id)).take (k + 1), y ≠ x by
          intro y hy
          rw [List.take_add_one, HY.out] at hy
          rcases List.mem_append.1 hy with hy | hy
          · exact HT.out y hy
          · rcases List.mem_singleton.1 hy with rfl
            exact of_decide_eq_false hqt)
        clear hqt
        go_wp2
        go_roundw
        case rel => exact ⟨k + 1, by omega, by go_num, HTn, HV⟩
        case measure => simp [intOf]; omega
    · have hki : ¬ (k : Int) < (n : Int) := by omega
      have HF := Lib.hid (show (-1 : Int) = ans by
        have h := HT.out
        rw [List.take_of_length_le (by rw [List.length_map, L1.out]; omega)] at h
        rw [← HA.out, Ed.find_no h]; rfl)
      clear hlt
      go_wp2
      go_ret
      exact ⟨by rw [← HF.out]; rfl, HB.out⟩
end Go.Proofs.YthfcjlndaajkfaaGreat
namespace Go.Proofs.YthfcjlndaajkfaaGreat
open Go.RowKit
set_option linter.unusedVariables false
theorem Ed.pos_at {ids : List Int} {x : Int} : ∀ {k : Nat}, (∀ t y, t < k → ids[t]? = some y → y < x) → (∀ y, ids[k]? = some y → x ≤ y) → k ≤ ids.length → Ed.pos ids x = k := by
  unfold Ed.pos
  induction ids with
  | nil => intro k _ _ hk; simp at hk; simp [hk]
  | cons a r ih =>
    intro k h1 h2 hk
    cases k with
    | zero =>
      have := h2 a rfl
      rw [List.takeWhile_cons_of_neg (by simp; omega)]
      rfl
    | succ k =>
      have ha := h1 0 a (by omega) rfl
      rw [List.takeWhile_cons_of_pos (by simpa using ha), List.length_cons, ih (k := k) (fun t y ht hy => h1 (t + 1) y (by omega) (by simpa using hy)) (fun y hy => h2 y (by simpa using hy)) (by simp at hk; omega)]
set_option maxRecDepth 100000 in
theorem enter_cmplog (args : Array Value) (w : World) : (callFunc 69 args).run Tryz.prog w = .ok (.enter 69 args) w := run_enter Tryz.func69 (by kernel_rfl) (by kernel_rfl) args w
set_option maxRecDepth 100000 in
set_option maxHeartbeats 4000000 in
theorem cmplog_any (id ep : Int) (P : Option Addr) (pn pc : Nat) (se : Int) (x : Int) (w : World) (h0 : -4294967296 ≤ id - x) (h1 : id - x ≤ 4294967296) :
    Calls Tryz.prog 69 #[.agg #[.int .i64 id, .int .i64 ep, .slice P pn pc, .int .i64 se], .int .i64 x] w fun e w' => e = .returned (.int .i64 (id - x)) ∧ Below w.heap.size w w' := by
  have HB := Lib.hid (show Below w.heap.size w (w.alloc (.cells #[.int .i64 id, .int .i64 ep, .slice P pn pc, .int .i64 se] 62)) from (Below.refl _ _).alloc (Nat.le_refl _) _)
  have hw : IntKind.i64.wrap (id - x) = id - x := by rw [IntKind.wrap_i64]; omega
  go_enter Tryz.func69, Tryz.ntmps69
  go_wp2
  go_ret
  exact ⟨rfl, HB.out⟩
set_option maxRecDepth 100000 in
set_option maxHeartbeats 8000000 in
theorem binlog_any (A : Option Addr) (n c : Nat) (L : List (Ed.Lg × List (Int × Int))) (x : Int) (w : World) (h : RdLs w A n L) (hn : n ≤ 100000) (hs : (L.map (·.1.id)).Pairwise (· < ·)) (hb : ∀ y ∈ L.map (·.1.id), 0 ≤ y ∧ y ≤ 2147483647) (hx0 : 0 ≤ x ∧ x ≤ 2147483647) :
    Calls Tryz.prog 68 #[.slice A n c, .int .i64 x, .func (.func 69) #[] #[]] w fun e w' => e = .returned (.tuple #[.int .i64 (Ed.pos (L.map (·.1.id)) x), .bool (Ed.find (L.map (·.1.id)) x).isSome]) ∧ Below w.heap.size w w' := by
  have H1 := Lib.hid h
  have L1 := Lib.hid (show (L.map (·.1.id)).length = n by rw [List.length_map]; exact h.len)
  have HS := Lib.hid hs
  have HBo := Lib.hid (And.intro hb hx0)
  clear h hs hb hx0
  obtain ⟨r, hr⟩ : ∃ r : Value, r = .tuple #[.int .i64 (Ed.pos (L.map (·.1.id)) x), .bool (Ed.find (L.map (·.1.id)) x).isSome] := ⟨_, rfl⟩
  rw [← hr]
  have HR := Lib.hid hr
  clear hr
  have hmf := enter_cmplog
  go_enter Tryz.func68, Tryz.ntmps68
  go_wp2
  go_loopw [9, 10] (fun s9 s10 wr => ∃ (lo hi : Nat), lo ≤ hi ∧ hi ≤ n ∧ s9 = .int .i64 (lo : Int) ∧ s10 = .int .i64 (hi : Int) ∧ Hid (∀ t y, t < lo → (L.map (·.1.id))[t]? = some y → y < x) ∧ Hid (∀ t y, hi ≤ t → (L.map (·.1.id))[t]? = some y → x ≤ y) ∧ Hid (Below w.heap.size w wr)) (fun s9 s10 _ => (intOf s10).toNat - (intOf s9).toNat)
  case atStart => exact ⟨0, n, by omega, by omega, rfl, rfl, Lib.hid (fun t y ht => by omega), Lib.hid (fun t y ht hy => by have := (List.getElem?_eq_some_iff.1 hy).1; have := L1.out; omega), Lib.hid (Below.refl _ _)⟩
  case round =>
    obtain ⟨lo, hi, hlh, hin, rfl, rfl, HLo, HHi, HB⟩ := hrel
    by_cases hlt : lo < hi
    · have hki : (lo : Int) < (hi : Int) := by omega
      have hmid : (lo + hi) / 2 < n := by omega
      obtain ⟨y, hy⟩ : ∃ y, L[(lo + hi) / 2]? = some y := ⟨_, List.getElem?_eq_getElem (by rw [H1.out.len]; exact hmid)⟩
      obtain ⟨b, o, rfl, _, _, hc⟩ := H1.out.four hy
      have HY := Lib.hid (Ed.map_at (f := fun t : Ed.Lg × List (Int × Int) => t.1.id) hy)
      clear hy
      obtain ⟨⟨id, ep, P, pn, pc, se⟩, ps⟩ := y
      dsimp only at hc HY
      obtain ⟨e0, e1, e2, e3⟩ := hc wr HB.out
      clear hc
      have hbd := HBo.out.1 id (List.mem_of_getElem? HY.out)
      have hx0 := HBo.out.2
      have HS1 := Lib.hid (cmplog_any id ep P pn pc se x wr (by omega) (by omega))
      have hmi : ((lo : Int) + (hi : Int)) / 2 < (n : Int) := by omega
      have hmi0 : 0 ≤ ((lo : Int) + (hi : Int)) / 2 := by omega
      by_cases hyx : id - x < 0
      · have HLn := Lib.hid (show ∀ t y, t < (lo + hi) / 2 + 1 → (L.map (·.1.id))[t]? = some y → y < x by
          intro t y ht h1
          by_cases e : t = (lo + hi) / 2
          · subst e
            rw [HY.out] at h1
            injection h1 with h1
            omega
          · have h2 := (List.pairwise_iff_getElem.1 HS.out) t ((lo + hi) / 2) (List.getElem?_eq_some_iff.1 h1).1 (List.getElem?_eq_some_iff.1 HY.out).1 (by omega)
            rw [(List.getElem?_eq_some_iff.1 h1).2, (List.getElem?_eq_some_iff.1 HY.out).2] at h2
            omega)
        go_wp2_with fail
        refine HS1.out.mono ?_
        rintro e v ⟨rfl, hbv⟩
        have HV := Lib.hid (below_next HB.out hbv)
        clear hbv hbd hx0
        go_wp2
        go_roundw
        case rel => exact ⟨(lo + hi) / 2 + 1, hi, by omega, hin, by go_num, rfl, HLn, HHi, HV⟩
        case measure => simp [intOf]; omega
      · have HHn := Lib.hid (show ∀ t y, (lo + hi) / 2 ≤ t → (L.map (·.1.id))[t]? = some y → x ≤ y by
          intro t y ht h1
          by_cases e : t = (lo + hi) / 2
          · subst e
            rw [HY.out] at h1
            injection h1 with h1
            omega
          · have h2 := (List.pairwise_iff_getElem.1 HS.out) ((lo + hi) / 2) t (List.getElem?_eq_some_iff.1 HY.out).1 (List.getElem?_eq_some_iff.1 h1).1 (by omega)
            rw [(List.getElem?_eq_some_iff.1 h1).2, (List.getElem?_eq_some_iff.1 HY.out).2] at h2
            omega)
        go_wp2_with fail
        refine HS1.out.mono ?_
        rintro e v ⟨rfl, hbv⟩
        have HV := Lib.hid (below_next HB.out hbv)
        clear hbv hbd hx0
        go_wp2
        go_roundw
        case rel => exact ⟨lo, (lo + hi) / 2, by omega, by omega, rfl, by go_num, HLo, HHn, HV⟩
        case measure => simp [intOf]; omega
    · have hki : ¬ (lo : Int) < (hi : Int) := by omega
      have hlh2 : hi = lo := by omega
      subst hlh2
      have HP := Lib.hid (Ed.pos_at (ids := L.map (·.1.id)) (x := x) (k := hi) HLo.out (fun y hy => HHi.out hi y (Nat.le_refl _) hy) (by rw [L1.out]; exact hin))
      clear hlt hlh
      by_cases hln : hi < n
      · have hli : (hi : Int) < (n : Int) := by omega
        obtain ⟨y, hy⟩ : ∃ y, L[hi]? = some y := ⟨_, List.getElem?_eq_getElem (by rw [H1.out.len]; exact hln)⟩
        obtain ⟨b, o, rfl, _, _, hc⟩ := H1.out.four hy
        have HY := Lib.hid (Ed.map_at (f := fun t : Ed.Lg × List (Int × Int) => t.1.id) hy)
        clear hy
        obtain ⟨⟨id, ep, P, pn, pc, se⟩, ps⟩ := y
        dsimp only at hc HY
        obtain ⟨e0, e1, e2, e3⟩ := hc wr HB.out
        clear hc
        have hbd := HBo.out.1 id (List.mem_of_getElem? HY.out)
        have hx0 := HBo.out.2
        have HS1 := Lib.hid (cmplog_any id ep P pn pc se x wr (by omega) (by omega))
        by_cases hyx : id = x
        · have HF := Lib.hid (show Value.tuple #[.int .i64 (hi : Int), .bool true] = r by
            rw [HR.out, HP.out, Ed.find_at HY.out hyx (fun z hz => by
              obtain ⟨j, hj⟩ := List.getElem?_of_mem hz
              rw [List.getElem?_take] at hj
              split at hj
              · have := HLo.out j z (by omega) hj; omega
              · cases hj)]
            rfl)
          have g0 : (id - x == 0) = true := by rw [beq_iff_eq]; omega
          have g1 : id - x = 0 := by omega
          clear hyx hbd hx0
          go_wp2_with fail
          refine HS1.out.mono ?_
          rintro e v ⟨rfl, hbv⟩
          have HV := Lib.hid (below_next HB.out hbv)
          clear hbv
          go_wp2
          go_ret2
          exact ⟨by rw [← HF.out]; rfl, HV.out⟩
        · have HF := Lib.hid (show Value.tuple #[.int .i64 (hi : Int), .bool false] = r by
            rw [HR.out, HP.out, Ed.find_no (fun z hz => by
              obtain ⟨j, hj⟩ := List.getElem?_of_mem hz
              rcases Nat.lt_trichotomy j hi with h | h | h
              · have := HLo.out j z h hj; omega
              · subst h
                rw [HY.out] at hj
                injection hj with hj
                rw [← hj]; exact hyx
              · have h2 := (List.pairwise_iff_getElem.1 HS.out) hi j (List.getElem?_eq_some_iff.1 HY.out).1 (List.getElem?_eq_some_iff.1 hj).1 h
                rw [(List.getElem?_eq_some_iff.1 hj).2, (List.getElem?_eq_some_iff.1 HY.out).2] at h2
                have := HHi.out hi id (Nat.le_refl _) HY.out
                omega)]
            rfl)
          have g0 : (id - x == 0) = false := by rw [beq_eq_false_iff_ne]; omega
          have g1 : ¬ id - x = 0 := by omega
          clear hyx hbd hx0
          go_wp2_with fail
          refine HS1.out.mono ?_
          rintro e v ⟨rfl, hbv⟩
          have HV := Lib.hid (below_next HB.out hbv)
          clear hbv
          go_wp2
          go_ret2
          exact ⟨by rw [← HF.out]; rfl, HV.out⟩
      · have hli : ¬ (hi : Int) < (n : Int) := by omega
        have HF := Lib.hid (show Value.tuple #[.int .i64 (hi : Int), .bool false] = r by
          rw [HR.out, HP.out, Ed.find_no (fun z hz => by
            obtain ⟨j, hj⟩ := List.getElem?_of_mem hz
            have h1 := (List.getElem?_eq_some_iff.1 hj).1
            rw [L1.out] at h1
            have := HLo.out j z (by omega) hj
            omega)]
          rfl)
        clear hln
        go_wp2
        go_ret2
        exact ⟨by rw [← HF.out]; rfl, HB.out⟩
end Go.Proofs.YthfcjlndaajkfaaGreat
namespace Go.Proofs.YthfcjlndaajkfaaGreat
open Go.RowKit
set_option linter.unusedVariables false
set_option maxRecDepth 100000 in
theorem enter_cmptable (args : Array Value) (w : World) : (callFunc 72 args).run Tryz.prog w = .ok (.enter 72 args) w := run_enter Tryz.func72 (by kernel_rfl) (by kernel_rfl) args w
set_option maxRecDepth 100000 in
set_option maxHeartbeats 4000000 in
theorem cmptable_any (id ep : Int) (P : Option Addr) (pn pc : Nat) (sz lv ct : Int) (lo hi : ByteArray) (tp : Int) (x : Int) (w : World) (h0 : -4294967296 ≤ id - x) (h1 : id - x ≤ 4294967296) :
    Calls Tryz.prog 72 #[.agg #[.int .i64 id, .int .i64 ep, .slice P pn pc, .int .i64 sz, .int .i64 lv, .int .i64 ct, .string lo, .string hi, .int .i64 tp], .int .i64 x] w fun e w' => e = .returned (.int .i64 (id - x)) ∧ Below w.heap.size w w' := by
  have HB := Lib.hid (show Below w.heap.size w (w.alloc (.cells #[.int .i64 id, .int .i64 ep, .slice P pn pc, .int .i64 sz, .int .i64 lv, .int .i64 ct, .string lo, .string hi, .int .i64 tp] 35)) from (Below.refl _ _).alloc (Nat.le_refl _) _)
  have hw : IntKind.i64.wrap (id - x) = id - x := by rw [IntKind.wrap_i64]; omega
  go_enter Tryz.func72, Tryz.ntmps72
  go_wp2
  go_ret
  exact ⟨rfl, HB.out⟩
set_option maxRecDepth 100000 in
set_option maxHeartbeats 8000000 in
theorem bintable_any (A : Option Addr) (n c : Nat) (L : List (Pk.Tb × List (Int × Int))) (x : Int) (w : World) (h : RdTs w A n L) (hn : n ≤ 100000) (hs : (L.map (·.1.id)).Pairwise (· < ·)) (hb : ∀ y ∈ L.map (·.1.id), 0 ≤ y ∧ y ≤ 2147483647) (hx0 : 0 ≤ x ∧ x ≤ 2147483647) :
    Calls Tryz.prog 71 #[.slice A n c, .int .i64 x, .func (.func 72) #[] #[]] w fun e w' => e = .returned (.tuple #[.int .i64 (Ed.pos (L.map (·.1.id)) x), .bool (Ed.find (L.map (·.1.id)) x).isSome]) ∧ Below w.heap.size w w' := by
  have H1 := Lib.hid h
  have L1 := Lib.hid (show (L.map (·.1.id)).length = n by rw [List.length_map]; exact h.len)
  have HS := Lib.hid hs
  have HBo := Lib.hid (And.intro hb hx0)
  clear h hs hb hx0
  obtain ⟨r, hr⟩ : ∃ r : Value, r = .tuple #[.int .i64 (Ed.pos (L.map (·.1.id)) x), .bool (Ed.find (L.map (·.1.id)) x).isSome] := ⟨_, rfl⟩
  rw [← hr]
  have HR := Lib.hid hr
  clear hr
  have hmf := enter_cmptable
  go_enter Tryz.func71, Tryz.ntmps71
  go_wp2
  go_loopw [9, 10] (fun s9 s10 wr => ∃ (lo hi : Nat), lo ≤ hi ∧ hi ≤ n ∧ s9 = .int .i64 (lo : Int) ∧ s10 = .int .i64 (hi : Int) ∧ Hid (∀ t y, t < lo → (L.map (·.1.id))[t]? = some y → y < x) ∧ Hid (∀ t y, hi ≤ t → (L.map (·.1.id))[t]? = some y → x ≤ y) ∧ Hid (Below w.heap.size w wr)) (fun s9 s10 _ => (intOf s10).toNat - (intOf s9).toNat)
  case atStart => exact ⟨0, n, by omega, by omega, rfl, rfl, Lib.hid (fun t y ht => by omega), Lib.hid (fun t y ht hy => by have := (List.getElem?_eq_some_iff.1 hy).1; have := L1.out; omega), Lib.hid (Below.refl _ _)⟩
  case round =>
    obtain ⟨lo, hi, hlh, hin, rfl, rfl, HLo, HHi, HB⟩ := hrel
    by_cases hlt : lo < hi
    · have hki : (lo : Int) < (hi : Int) := by omega
      have hmid : (lo + hi) / 2 < n := by omega
      obtain ⟨y, hy⟩ : ∃ y, L[(lo + hi) / 2]? = some y := ⟨_, List.getElem?_eq_getElem (by rw [H1.out.len]; exact hmid)⟩
      obtain ⟨b, o, rfl, _, _, hc⟩ := H1.out.nine hy
      have HY := Lib.hid (Ed.map_at (f := fun t : Pk.Tb × List (Int × Int) => t.1.id) hy)
      clear hy
      obtain ⟨⟨id, ep, P, pn, pc, sz, lv, ct, tlo, thi, tp⟩, ps⟩ := y
      dsimp only at hc HY
      obtain ⟨e0, e1, e2, e3, e4, e5, e6, e7, e8⟩ := hc wr HB.out
      clear hc
      have hbd := HBo.out.1 id (List.mem_of_getElem? HY.out)
      have hx0 := HBo.out.2
      have HS1 := Lib.hid (cmptable_any id ep P pn pc sz lv ct tlo thi tp x wr (by omega) (by omega))
      have hmi : ((lo : Int) + (hi : Int)) / 2 < (n : Int) := by omega
      have hmi0 : 0 ≤ ((lo : Int) + (hi : Int)) / 2 := by omega
      by_cases hyx : id - x < 0
      · have HLn := Lib.hid (show ∀ t y, t < (lo + hi) / 2 + 1 → (L.map (·.1.id))[t]? = some y → y < x by
          intro t y ht h1
          by_cases e : t = (lo + hi) / 2
          · subst e
            rw [HY.out] at h1
            injection h1 with h1
            omega
          · have h2 := (List.pairwise_iff_getElem.1 HS.out) t ((lo + hi) / 2) (List.getElem?_eq_some_iff.1 h1).1 (List.getElem?_eq_some_iff.1 HY.out).1 (by omega)
            rw [(List.getElem?_eq_some_iff.1 h1).2, (List.getElem?_eq_some_iff.1 HY.out).2] at h2
            omega)
        go_wp2_with fail
        refine HS1.out.mono ?_
        rintro e v ⟨rfl, hbv⟩
        have HV := Lib.hid (below_next HB.out hbv)
        clear hbv hbd hx0
        go_wp2
        go_roundw
        case rel => exact ⟨(lo + hi) / 2 + 1, hi, by omega, hin, by go_num, rfl, HLn, HHi, HV⟩
        case measure => simp [intOf]; omega
      · have HHn := Lib.hid (show ∀ t y, (lo + hi) / 2 ≤ t → (L.map (·.1.id))[t]? = some y → x ≤ y by
          intro t y ht h1
          by_cases e : t = (lo + hi) / 2
          · subst e
            rw [HY.out] at h1
            injection h1 with h1
            omega
          · have h2 := (List.pairwise_iff_getElem.1 HS.out) ((lo + hi) / 2) t (List.getElem?_eq_some_iff.1 HY.out).1 (List.getElem?_eq_some_iff.1 h1).1 (by omega)
            rw [(List.getElem?_eq_some_iff.1 h1).2, (List.getElem?_eq_some_iff.1 HY.out).2] at h2
            omega)
        go_wp2_with fail
        refine HS1.out.mono ?_
        rintro e v ⟨rfl, hbv⟩
        have HV := Lib.hid (below_next HB.out hbv)
        clear hbv hbd hx0
        go_wp2
        go_roundw
        case rel => exact ⟨lo, (lo + hi) / 2, by omega, by omega, rfl, by go_num, HLo, HHn, HV⟩
        case measure => simp [intOf]; omega
    · have hki : ¬ (lo : Int) < (hi : Int) := by omega
      have hlh2 : hi = lo := by omega
      subst hlh2
      have HP := Lib.hid (Ed.pos_at (ids := L.map (·.1.id)) (x := x) (k := hi) HLo.out (fun y hy => HHi.out hi y (Nat.le_refl _) hy) (by rw [L1.out]; exact hin))
      clear hlt hlh
      by_cases hln : hi < n
      · have hli : (hi : Int) < (n : Int) := by omega
        obtain ⟨y, hy⟩ : ∃ y, L[hi]? = some y := ⟨_, List.getElem?_eq_getElem (by rw [H1.out.len]; exact hln)⟩
        obtain ⟨b, o, rfl, _, _, hc⟩ := H1.out.nine hy
        have HY := Lib.hid (Ed.map_at (f := fun t : Pk.Tb × List (Int × Int) => t.1.id) hy)
        clear hy
        obtain ⟨⟨id, ep, P, pn, pc, sz, lv, ct, tlo, thi, tp⟩, ps⟩ := y
        dsimp only at hc HY
        obtain ⟨e0, e1, e2, e3, e4, e5, e6, e7, e8⟩ := hc wr HB.out
        clear hc
        have hbd := HBo.out.1 id (List.mem_of_getElem? HY.out)
        have hx0 := HBo.out.2
        have HS1 := Lib.hid (cmptable_any id ep P pn pc sz lv ct tlo thi tp x wr (by omega) (by omega))
        by_cases hyx : id = x
        · have HF := Lib.hid (show Value.tuple #[.int .i64 (hi : Int), .bool true] = r by
            rw [HR.out, HP.out, Ed.find_at HY.out hyx (fun z hz => by
              obtain ⟨j, hj⟩ := List.getElem?_of_mem hz
              rw [List.getElem?_take] at hj
              split at hj
              · have := HLo.out j z (by omega) hj; omega
              · cases hj)]
            rfl)
          have g0 : (id - x == 0) = true := by rw [beq_iff_eq]; omega
          have g1 : id - x = 0 := by omega
          clear hyx hbd hx0
          go_wp2_with fail
          refine HS1.out.mono ?_
          rintro e v ⟨rfl, hbv⟩
          have HV := Lib.hid (below_next HB.out hbv)
          clear hbv
          go_wp2
          go_ret2
          exact ⟨by rw [← HF.out]; rfl, HV.out⟩
        · have HF := Lib.hid (show Value.tuple #[.int .i64 (hi : Int), .bool false] = r by
            rw [HR.out, HP.out, Ed.find_no (fun z hz => by
              obtain ⟨j, hj⟩ := List.getElem?_of_mem hz
              rcases Nat.lt_trichotomy j hi with h | h | h
              · have := HLo.out j z h hj; omega
              · subst h
                rw [HY.out] at hj
                injection hj with hj
                rw [← hj]; exact hyx
              · have h2 := (List.pairwise_iff_getElem.1 HS.out) hi j (List.getElem?_eq_some_iff.1 HY.out).1 (List.getElem?_eq_some_iff.1 hj).1 h
                rw [(List.getElem?_eq_some_iff.1 hj).2, (List.getElem?_eq_some_iff.1 HY.out).2] at h2
                have := HHi.out hi id (Nat.le_refl _) HY.out
                omega)]
            rfl)
          have g0 : (id - x == 0) = false := by rw [beq_eq_false_iff_ne]; omega
          have g1 : ¬ id - x = 0 := by omega
          clear hyx hbd hx0
          go_wp2_with fail
          refine HS1.out.mono ?_
          rintro e v ⟨rfl, hbv⟩
          have HV := Lib.hid (below_next HB.out hbv)
          clear hbv
          go_wp2
          go_ret2
          exact ⟨by rw [← HF.out]; rfl, HV.out⟩
      · have hli : ¬ (hi : Int) < (n : Int) := by omega
        have HF := Lib.hid (show Value.tuple #[.int .i64 (hi : Int), .bool false] = r by
          rw [HR.out, HP.out, Ed.find_no (fun z hz => by
            obtain ⟨j, hj⟩ := List.getElem?_of_mem hz
            have h1 := (List.getElem?_eq_some_iff.1 hj).1
            rw [L1.out] at h1
            have := HLo.out j z (by omega) hj
            omega)]
          rfl)
        clear hln
        go_wp2
        go_ret2
        exact ⟨by rw [← HF.out]; rfl, HB.out⟩
end Go.Proofs.YthfcjlndaajkfaaGreat
