/- The iterator over a tree: what is not ahead of low, in order, till the round wants no more. -/
import Derived.Test.YtfmbnoafmnbhcaaMmIns
import Derived.RangeFuncNested
import Derived.RangeFuncBound
import Derived.RangeFuncCalls
import Derived.RangeFuncLeaves
import Derived.Shelf.Abstract
import Derived.Shelf.RegionOpen
import Derived.OwnWalkIn
import Derived.TacticsInMore
import Derived.LoopNIn
import Derived.LoopIn
namespace Go.Proofs.Ytfmbnoafmnbhcaa
open Go.RowKit Go.Shelf
attribute [local go_sem] Oper.semAt_some
theorem RoundIn.any {m m' : Nat} {P : Program} {l : Nat} {f : FuncId} {tmps : Array Value} {assign body : Code} {w : World} {R : Ending → World → Prop}
    (h : RoundIn Fence.wide m P l f tmps assign body w R) : RoundIn Fence.wide m' P l f tmps assign body w R := ⟨h.1, fun c cs _ => h.2 c cs (room_wide _)⟩
theorem YieldAt.any {m m' : Nat} {P : Program} {l : Nat} {args : Array Value} {W : World} {R : Ending → World → Prop} (h : YieldAt Fence.wide m P l args W R) : YieldAt Fence.wide m' P l args W R := by
  obtain ⟨fn, tmps, assign, body, hy, hR⟩ := h
  exact ⟨fn, tmps, assign, body, hy, RoundIn.any hR⟩
/-- What a round that goes on keeps: all that lay below n₀, and the boxes of items. -/
def KpE (n₀ : Nat) (W W' : World) : Prop := Below n₀ W W' ∧ ∀ (k : Nat) (cs : Array Value) (fr : Nat × Nat), W.heap[k]? = some (.cells cs 59 fr) → W'.heap[k]? = some (.cells cs 59 fr)
theorem KpE.trans {n₀ : Nat} {A B C : World} (h : KpE n₀ A B) (k : KpE n₀ B C) : KpE n₀ A C := ⟨h.1.trans k.1, fun i cs fr hi => k.2 i cs fr (h.2 i cs fr hi)⟩
theorem KpE.of_below {n₀ : Nat} {A B : World} (h : Below A.heap.size A B) (hn : n₀ ≤ A.heap.size) : KpE n₀ A B := ⟨h.mono hn, fun k _ _ hk => (h.block k (Array.getElem?_eq_some_iff.1 hk).1).trans hk⟩
theorem KpE.putObj {n₀ : Nat} {w : World} (hn : n₀ ≤ w.heap.size) (W : World) (l : Nat) (o o' : Obj) (hl : w.heap.size ≤ l) (h : W.heap[l]? = some o) (h1 : o.isCells = false) (h2 : o.isWalk = false) : KpE n₀ W (W.putObj l o') := by
  refine ⟨belowK_b hn W l o o' hl h h1 h2, fun k cs fr hk => ?_⟩
  by_cases e : k = l
  · subst e
    rw [h] at hk
    injection hk with hk
    rw [hk] at h1
    cases h1
  · exact (World.putObj_heap_other e).trans hk
theorem box59 {W : World} {b : Nat} {z0 z1 z2 z3 : Value} (h : W.heap[b]? = some (.cells #[z0, z1, z2, z3] 59 (0, 0))) : W.cell? ⟨b, 0, none⟩ = some z0 ∧ W.cell? ⟨b, 1, none⟩ = some z1 ∧ W.cell? ⟨b, 2, none⟩ = some z2 ∧ W.cell? ⟨b, 3, none⟩ = some z3 := by
  refine ⟨?_, ?_, ?_, ?_⟩ <;> simp [World.cell?, h]
/-- What a walk leaves: all has come; or a part, and no more is wanted. -/
def WalkPost (n₀ : Nat) (J Jx : List Bk.P → World → Prop) (pre xs : List Bk.P) (W : World) : Bool → World → Prop
  | true, W' => J (pre ++ xs) W' ∧ KpE n₀ W W'
  | false, W' => ∃ q, q <+: xs ∧ Jx (pre ++ q) W'
def GivesWalk (n₀ : Nat) (J Jx : List Bk.P → World → Prop) (pre xs : List Bk.P) (W : World) (e : Ending) (W' : World) : Prop := ∃ b : Bool, e = .returned (.bool b) ∧ WalkPost n₀ J Jx pre xs W b W'
theorem WalkPost.back {n₀ : Nat} {J Jx : List Bk.P → World → Prop} {pre xs : List Bk.P} {W u v : World} {b : Bool} (h : WalkPost n₀ J Jx pre xs u b v) (hu : Below W.heap.size W u) (hn : n₀ ≤ W.heap.size) : WalkPost n₀ J Jx pre xs W b v := by
  cases b with
  | true => exact ⟨h.1, (KpE.of_below hu hn).trans h.2⟩
  | false => exact h
theorem isT_low {S : Nat → Prop} {n₀ : Nat} {w : World} (hn : w.heap.size ≤ n₀) : ∀ {p : Option Addr} {T : Bk.Tr}, Bk.IsT S w p T → Bk.IsT (fun k => n₀ ≤ k) w p T
  | _, .leaf, h => h
  | _, .node l x r, ⟨b, pl, pr, hp, hb, _, hc, hx, hl, hr⟩ => ⟨b, pl, pr, hp, hb, by omega, hc, ⟨hx.1, fun h0 g o e hg => by
      obtain ⟨b', o', e', hb', _⟩ := hx.1.1.2.2 h0
      rw [e] at e'
      injection e' with e'
      injection e' with e'
      omega⟩, isT_low hn hl, isT_low hn hr⟩
theorem Sm.low {n₀ : Nat} {w w' : World} (h : Below n₀ w w') : Sm (fun k => n₀ ≤ k) w w' := ⟨h.size, fun k _ hs => h.block k (by omega)⟩
set_option maxRecDepth 100000 in
set_option maxHeartbeats 4000000 in
theorem walk_less (l n₀ : Nat) (low : Bk.P) (J Jx : List Bk.P → World → Prop) (hJ : ∀ s A B, J s A → Below A.heap.size A B → J s B) (L R : Bk.Tr) (y : Bk.P) (p : Option Addr) (pre : List Bk.P) (W : World) (hn : n₀ ≤ W.heap.size) (ht : Bk.IsT (fun k => n₀ ≤ k) W p (.node L y R)) (h0 : J pre W) (hc0 : Bk.cmp y.1 low.1 < 0)
    (ih : ∀ (p : Option Addr) (u : World), n₀ ≤ u.heap.size → Bk.IsT (fun k => n₀ ≤ k) u p R → J pre u → Calls Try.prog 41 #[.pointer p, .agg (Bk.cells low).toArray, .func (.func 31) #[] #[], .func (.yield l) #[] #[]] u (GivesWalk n₀ J Jx pre (R.from_ low.1) u)) :
    Calls Try.prog 41 #[.pointer p, .agg (Bk.cells low).toArray, .func (.func 31) #[] #[], .func (.yield l) #[] #[]] W (GivesWalk n₀ J Jx pre (R.from_ low.1) W) := by
  obtain ⟨g, pl, pr, rfl, hg, hng, hc, hy, hl, hr⟩ := ht.node
  have Cm := Lib.hid (fun (u : World) => ecompare_any y low u)
  have Ih := Lib.hid (fun (u : World) (hu : Below W.heap.size W u) => ih pr u (Nat.le_trans hn hu.size) (hr.below hu) (hJ _ _ _ h0 hu))
  have HN := Lib.hid hn
  clear ht hy hl hr ih hn h0
  generalize hk : Bk.cmp y.1 low.1 = k at Cm hc0
  clear hk
  generalize (R.from_ low.1) = xs at Ih ⊢
  obtain ⟨⟨key, seq, del, val⟩, V, n, c⟩ := low
  obtain ⟨⟨key2, seq2, del2, val2⟩, V2, n2, c2⟩ := y
  have HC := Lib.hid hc
  clear hc
  show Calls _ _ #[.pointer (some ⟨g, 0, none⟩), .agg #[.string key, .int .i64 seq, .bool del, .slice V n c], .func (.func 31) #[] #[], .func (.yield l) #[] #[]] _ _
  have Cm2 : Hid (∀ u, Calls Try.prog 31 #[.agg #[.string key2, .int .i64 seq2, .bool del2, .slice V2 n2 c2], .agg #[.string key, .int .i64 seq, .bool del, .slice V n c]] u fun e w' => e = .returned (.int .i64 k) ∧ Below u.heap.size u w') := Lib.hid Cm.out
  have Ih2 : Hid (∀ u, Below W.heap.size W u → Calls Try.prog 41 #[.pointer pr, .agg #[.string key, .int .i64 seq, .bool del, .slice V n c], .func (.func 31) #[] #[], .func (.yield l) #[] #[]] u (GivesWalk n₀ J Jx pre xs u)) := Lib.hid Ih.out
  clear Cm Ih
  have HB := Lib.hid (show Below W.heap.size W (W.alloc (.cells #[Value.string key, .int .i64 seq, .bool del, .slice V n c] 59)) from (Below.refl _ _).alloc (Nat.le_refl _) _)
  have HZ := Lib.hid (Holds.new W #[Value.string key, .int .i64 seq, .bool del, .slice V n c] 59)
  go_enter Try.func41, Try.ntmps41
  go_wp2_with fail
  generalize (W.alloc (.cells #[Value.string key, .int .i64 seq, .bool del, .slice V n c] 59)) = u at HB HZ ⊢
  have hgu : g < u.heap.size := Nat.lt_of_lt_of_le hg HB.out.size
  have HG := Lib.hid (fun (v : World) (hv : Below u.heap.size u v) => and10 (node_cells hgu (fun (j : Nat) (x : Value) hj => (HB.out.cell (p := ⟨g, j, none⟩) hg).trans (HC.out j x hj)) v hv) (box_cells HZ.out v hv))
  have q := HG.out _ (Below.refl _ _)
  go_region_held3 (fun wx => wx.cell? ⟨g, 0, none⟩ = some (.string key2) ∧ wx.cell? ⟨g, 1, none⟩ = some (.int .i64 seq2) ∧ wx.cell? ⟨g, 2, none⟩ = some (.bool del2) ∧ wx.cell? ⟨g, 3, none⟩ = some (.slice V2 n2 c2) ∧ wx.cell? ⟨g, 4, none⟩ = some (.pointer pl) ∧ wx.cell? ⟨g, 5, none⟩ = some (.pointer pr) ∧ wx.cell? ⟨W.heap.size, 0, none⟩ = some (.string key) ∧ wx.cell? ⟨W.heap.size, 1, none⟩ = some (.int .i64 seq) ∧ wx.cell? ⟨W.heap.size, 2, none⟩ = some (.bool del) ∧ wx.cell? ⟨W.heap.size, 3, none⟩ = some (.slice V n c)) (first | exact q | exact HG.out _ hb1) (first
    | (go_at_call 31; (with_reducible refine (Cm2.out _).mono ?_); rintro e v1 ⟨rfl, hb'⟩; have hb1 : Below u.heap.size u v1 := below_next (show Below u.heap.size u u.drew from (Below.refl _ _).drew) hb'; have HB1 := Lib.hid (HB.out.trans (hb1.mono HB.out.size)); clear hb'))
  have q1 := HG.out _ hb1
  go_wp2_with fail
  have HD1 := Lib.hid HB1.out.drew
  obtain ⟨f0, f1, f2, f3, f4, f5, z0, z1, z2, z3⟩ := q1
  go_region_with (go_at_call 41; (with_reducible refine (Ih2.out _ HD1.out).mono ?_); rintro e v2 ⟨b, rfl, hp⟩)
  all_goals
    go_wp2
    go_ret
    exact ⟨b, rfl, hp.back HD1.out HN.out⟩
end Go.Proofs.Ytfmbnoafmnbhcaa
