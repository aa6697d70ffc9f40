/- A map of counts: numbers to numbers. -/
import Derived.Test.YtpompjihmcmmaaaPkThose
import Derived.Maps.RangeWalk
import Derived.Maps.OwnSet
import Derived.WideKeyEntry
namespace Go.Proofs.Ytpompjihmcmmaaa
open Go.RowKit
open Go.MapKept Go.ChangeMaps
set_option maxRecDepth 100000 in
theorem keyed : Maps.Keyed Try.prog 3 := Maps.int_keyed Try.underlying3
def Q64 (q : Int) : Prop := -9223372036854775808 ≤ q ∧ q ≤ 9223372036854775807
theorem wf_of {q : Int} (h : Q64 q) : (Lit.int .i64 q).wf = true := by
  obtain ⟨h1, h2⟩ := h
  have h3 : IntKind.i64.min = -9223372036854775808 := by kernel_rfl
  have h4 : IntKind.i64.max = 9223372036854775807 := by kernel_rfl
  simp only [Lit.wf, h3, h4, decide_eq_true h1, decide_eq_true h2, Bool.and_self]
set_option maxRecDepth 100000 in
theorem key_of {q : Int} (h : Q64 q) : keyOf Try.prog 3 (.int .i64 q) = some (.int .i64 q) := Maps.keyOf_int_mk Try.underlying3 (wf_of h)
theorem setBlock_other {w : World} {b k : Nat} {o : Obj} (h : k ≠ b) : (setBlock w b o).heap[k]? = w.heap[k]? := by
  simp [setBlock, Ne.symm h]
theorem turned_below {w w' a : World} {b B : Nat} (h : w.mapTurned w' b) (hb : Below B a w) (hB : B ≤ b) : Below B a w' := by
  obtain ⟨es, ck, es', ck', _, rfl⟩ := h
  exact hb.trans ⟨rfl, rfl, rfl, by simp [setBlock], fun k hk => setBlock_other (by omega)⟩
theorem turned_holds {w w' : World} {b c : Nat} {cs : List Value} (h : w.mapTurned w' b) (hc : Holds w c cs) (hne : c ≠ b) : Holds w' c cs := by
  obtain ⟨es, ck, es', ck', _, rfl⟩ := h
  have hk := setBlock_other (w := w) (b := b) (k := c) (o := .map es' ck') hne
  exact ⟨by simpa [setBlock] using hc.1, fun i v hv => (World.cell?_of_block (a := ⟨c, i, none⟩) hk).trans (hc.2.1 i v hv), fun i => (World.frozen?_of_block (a := ⟨c, i, none⟩) hk).trans (hc.2.2 i)⟩
/-- Block b is a map of these counts. -/
def Cn (w : World) (b n : Nat) (f : Int → Int) : Prop := ∃ D : DataW Unit, w.ownsMap Try.prog 3 (plainElem Try.prog 3) b n D ∧ Maps.IsMap D ∧ ∀ q, D.atKey (.int .i64 q) (.lit (.int .i64 0)) = .lit (.int .i64 (f q))
section
variable {w w' : World} {b n : Nat} {f : Int → Int}
theorem Cn.new (w : World) : Cn (w.alloc (.map #[] 0)) w.heap.size 0 (fun _ => 0) := ⟨_, World.ownsMap_made _ _ _ _, Maps.isMap_empty, fun _ => rfl⟩
theorem Cn.lt (h : Cn w b n f) : b < w.heap.size := by obtain ⟨D, h, _⟩ := h; exact h.lt
theorem Cn.block (h : Cn w b n f) (hb : w'.heap[b]? = w.heap[b]?) : Cn w' b n f := by
  obtain ⟨D, ⟨es, clock, h1, h2⟩, h3⟩ := h
  exact ⟨D, ⟨es, clock, hb.trans h1, h2⟩, h3⟩
theorem Cn.below (h : Cn w b n f) (hb : Below w.heap.size w w') : Cn w' b n f := h.block (hb.block b h.lt)
set_option maxRecDepth 100000 in
theorem fzero_int (w : World) : (zeroValue 3).run Try.prog w = .ok (.int .i64 0) w := by kernel_rfl
set_option maxRecDepth 100000 in
theorem Cn.look (h : Cn w b n f) {q : Int} (hq : Q64 q) : (Instr.lookup 78 (.map (some b)) (.int .i64 q) false).run Try.prog w = .ok (.int .i64 (f q)) w := by
  obtain ⟨D, hD, hM, hA⟩ := h
  obtain ⟨c, he, hc, _⟩ := hD.lookup_int keyed Try.underlying78 Try.underlying3 (fzero_int w) (key_of hq)
  rw [hA q] at hc
  injection hc with hc
  injection hc with _ hc
  rw [hc]
  exact he
set_option maxRecDepth 100000 in
theorem Cn.store (h : Cn w b n f) (hn : n < 10000) {q v : Int} (hq : Q64 q) (hv : Q64 v) : ∃ w', (Instr.mapUpdate 78 (.map (some b)) (.int .i64 q) (.int .i64 v)).run Try.prog w = .ok () w' ∧ Cn w' b (n + 1) (fun x => if x = q then v else f x) ∧ w.mapTurned w' b := by
  obtain ⟨D, hD, hM, hA⟩ := h
  obtain ⟨w', h1, h2, h3⟩ := hD.store keyed Try.underlying78 (by unfold maxLen; omega) (key_of hq) (plainElem_int Try.underlying3 (wf_of hv))
  refine ⟨w', h1, ⟨_, h2, hM.put _ _, fun x => ?_⟩, h3⟩
  by_cases e : x = q
  · subst e
    rw [Maps.atKey_put_same (k := .int .i64 x) hM trivial]; simp
  · rw [Maps.atKey_put_other (by intro h; injection h with _ h; exact e h), hA x]; simp [e]
end
set_option maxRecDepth 100000 in
set_option maxHeartbeats 4000000 in
theorem named_any (x : Pk.Tb) (b1 b n : Nat) (f : Int → Int) (w : World) (h1 : w.cell? ⟨b1, 0, none⟩ = some (.map (some b))) (l1 : b1 < w.heap.size) (hf : Cn w b n f) (hx : x.fits) :
    Calls Try.prog 41 #[.agg x.cells.toArray, .pointer (some ⟨b1, 0, none⟩)] w fun e w' => e = .returned (.bool (decide (0 < f x.id))) ∧ Below w.heap.size w w' := by
  have hq : Q64 x.id := hx.2.2.2.2
  clear hx
  obtain ⟨id, ep, P, pn, pc, sz, lv, ct, lo, hi, tp⟩ := x
  show Calls _ _ #[.agg #[.int .i64 id, .int .i64 ep, .slice P pn pc, .int .i64 sz, .int .i64 lv, .int .i64 ct, .string lo, .string hi, .int .i64 tp], .pointer (some ⟨b1, 0, none⟩)] _ _
  have HB := Lib.hid (show Below w.heap.size w (w.alloc (.cells #[.int .i64 id, .int .i64 ep, .slice P pn pc, .int .i64 sz, .int .i64 lv, .int .i64 ct, .string lo, .string hi, .int .i64 tp] 58)) from (Below.refl _ _).alloc (Nat.le_refl _) _)
  have c1 : (w.alloc (.cells #[.int .i64 id, .int .i64 ep, .slice P pn pc, .int .i64 sz, .int .i64 lv, .int .i64 ct, .string lo, .string hi, .int .i64 tp] 58)).cell? ⟨b1, 0, none⟩ = some (.map (some b)) := (HB.out.cell l1).trans h1
  have hlk := (hf.below HB.out).look hq
  clear h1 l1 hf
  dsimp only
  by_cases hp : 0 < f id
  · have HF := Lib.hid (show decide (0 < f id) = true from decide_eq_true hp)
    rw [HF.out]
    go_enter Try.func41, Try.ntmps41
    go_wp2
    go_ret
    exact ⟨rfl, HB.out⟩
  · have HF := Lib.hid (show decide (0 < f id) = false from decide_eq_false hp)
    rw [HF.out]
    go_enter Try.func41, Try.ntmps41
    go_wp2
    go_ret
    exact ⟨rfl, HB.out⟩
set_option maxRecDepth 100000 in
set_option maxHeartbeats 4000000 in
/-- Of a job of level 0, where a table is of level 0: it isn't behind. -/
theorem behind_any (x : Pk.Tb) (b1 b2 b3 : Nat) (w : World) (h1 : w.cell? ⟨b1, 0, none⟩ = some (.int .i64 0)) (l1 : b1 < w.heap.size) (hx : x.lv = 0) :
    Calls Try.prog 42 #[.agg x.cells.toArray, .pointer (some ⟨b1, 0, none⟩), .pointer (some ⟨b2, 0, none⟩), .pointer (some ⟨b3, 0, none⟩)] w fun e w' => e = .returned (.bool false) ∧ Below w.heap.size w w' := by
  obtain ⟨id, ep, P, pn, pc, sz, lv, ct, lo, hi, tp⟩ := x
  have hx : lv = 0 := hx
  subst hx
  show Calls _ _ #[.agg #[.int .i64 id, .int .i64 ep, .slice P pn pc, .int .i64 sz, .int .i64 0, .int .i64 ct, .string lo, .string hi, .int .i64 tp], .pointer (some ⟨b1, 0, none⟩), .pointer (some ⟨b2, 0, none⟩), .pointer (some ⟨b3, 0, none⟩)] _ _
  have HB := Lib.hid (show Below w.heap.size w (w.alloc (.cells #[.int .i64 id, .int .i64 ep, .slice P pn pc, .int .i64 sz, .int .i64 0, .int .i64 ct, .string lo, .string hi, .int .i64 tp] 58)) from (Below.refl _ _).alloc (Nat.le_refl _) _)
  have c1 : (w.alloc (.cells #[.int .i64 id, .int .i64 ep, .slice P pn pc, .int .i64 sz, .int .i64 0, .int .i64 ct, .string lo, .string hi, .int .i64 tp] 58)).cell? ⟨b1, 0, none⟩ = some (.int .i64 0) := (HB.out.cell l1).trans h1
  clear h1 l1
  go_enter Try.func42, Try.ntmps42
  go_wp2
  go_ret
  exact ⟨rfl, HB.out⟩
end Go.Proofs.Ytpompjihmcmmaaa
