/- The iterator over a tree: a node that is not ahead of low. -/
import Derived.Test.YtfmbnoafmnbhcaaMmWalk
import Derived.Test.YtfmbnoafmnbhcaaMmRgIn
import Derived.RangeFuncNested
import Derived.RangeFuncBound
import Derived.RangeFuncCalls
import Derived.RangeFuncLeaves
import Derived.Shelf.Abstract
import Derived.Shelf.RegionOpen
import Derived.OwnWalkIn
import Derived.TacticsInMore
import Derived.LoopNIn
import Derived.LoopIn
namespace Go.Proofs.Ytfmbnoafmnbhcaa
open Go.RowKit Go.Shelf
attribute [local go_sem] Oper.semAt_some
theorem exec_walk {o : Oper} {a : Act} {w : World} (x1 x2 x3 x4 : Operand) (v1 v2 v3 v4 : Value) (T : Array TypeId) (ho : o.op = .call { callee := .value (.func 41), args := #[x1, x2, x3, x4], argTypes := T }) (h1 : a.eval x1 = v1) (h2 : a.eval x2 = v2) (h3 : a.eval x3 = v3) (h4 : a.eval x4 = v4) :
    (execOp a.eval o).run Try.prog w = .ok (.enter 41 #[v1, v2, v3, v4]) w := by
  have hcF := run_enter Try.func41 (by kernel_rfl) (by kernel_rfl)
  unfold execOp
  have e1 : a.eval (.func 41) = .func (.func 41) #[] #[] := rfl
  simp only [ho, resolve, invoke, Deferred.ofValue, e1, Sem.run_bind, Sem.run_pure, Result.andThen_ok, List.map_toArray, List.map_cons, List.map_nil, h1, h2, h3, h4]
  simp only [Array.empty_append, Array.append_empty, hcF]
theorem exec_yield {o : Oper} {a : Act} {w : World} {l : Nat} {r : Next} (x1 x2 : Operand) (v2 : Value) (T : Array TypeId) (ho : o.op = .call { callee := .value x1, args := #[x2], argTypes := T }) (h1 : a.eval x1 = .func (.yield l) #[] #[]) (h2 : a.eval x2 = v2) (hy : (Instr.yield l #[v2]).run Try.prog w = .ok r w) :
    (execOp a.eval o).run Try.prog w = .ok r w := by
  unfold execOp
  simp only [ho, resolve, invoke, Deferred.ofValue, h1, Sem.run_bind, Sem.run_pure, Result.andThen_ok, List.map_toArray, List.map_cons, List.map_nil, h2]
  simp only [Array.empty_append, hy]
theorem walk_keeps {n₀ : Nat} {W u : World} {g : Nat} {pl pr : Option Addr} {k0 k1 k2 k3 k6 z0 z1 z2 z3 : Value} (hg : g < n₀) (hn : n₀ ≤ W.heap.size) (hB : Below W.heap.size W u) (hO : u.heap[W.heap.size]? = some (.cells #[z0, z1, z2, z3] 59 (0, 0)))
    (hc : ∀ (j : Nat) (x : Value), ([k0, k1, k2, k3] ++ [.pointer pl, .pointer pr, k6])[j]? = some x → W.cell? ⟨g, j, none⟩ = some x) (v : World) (hv : KpE n₀ u v) :
    v.cell? ⟨g, 0, none⟩ = some k0 ∧ v.cell? ⟨g, 1, none⟩ = some k1 ∧ v.cell? ⟨g, 2, none⟩ = some k2 ∧ v.cell? ⟨g, 3, none⟩ = some k3 ∧ v.cell? ⟨g, 4, none⟩ = some (.pointer pl) ∧ v.cell? ⟨g, 5, none⟩ = some (.pointer pr) ∧ v.cell? ⟨W.heap.size, 0, none⟩ = some z0 ∧ v.cell? ⟨W.heap.size, 1, none⟩ = some z1 ∧ v.cell? ⟨W.heap.size, 2, none⟩ = some z2 ∧ v.cell? ⟨W.heap.size, 3, none⟩ = some z3 := by
  have h : ∀ (j : Nat), v.cell? ⟨g, j, none⟩ = W.cell? ⟨g, j, none⟩ := fun j => (hv.1.cell (p := ⟨g, j, none⟩) hg).trans (hB.cell (p := ⟨g, j, none⟩) (Nat.lt_of_lt_of_le hg hn))
  exact ⟨(h 0).trans (hc 0 _ rfl), (h 1).trans (hc 1 _ rfl), (h 2).trans (hc 2 _ rfl), (h 3).trans (hc 3 _ rfl), (h 4).trans (hc 4 _ rfl), (h 5).trans (hc 5 _ rfl), box59 (hv.2 _ _ _ hO)⟩
set_option maxRecDepth 100000 in
set_option maxHeartbeats 8000000 in
theorem walk_more (G : Bk.P → Prop) (l n₀ N : Nat) (low : Bk.P) (J Jx : List Bk.P → World → Prop) (hJ : ∀ s A B, J s A → Below A.heap.size A B → J s B) (L R : Bk.Tr) (y : Bk.P) (p : Option Addr) (pre : List Bk.P) (W : World) (hn : n₀ ≤ W.heap.size) (ht : Bk.IsT (fun k => n₀ ≤ k) W p (.node L y R)) (h0 : J pre W) (hc0 : ¬ Bk.cmp y.1 low.1 < 0)
    (hN : pre.length + (L.from_ low.1 ++ y :: R.from_ low.1).length ≤ N)
    (hGy : G y) (hY : ∀ pre x W, G x → J pre W → pre.length < N → YieldAt Fence.wide 5 Try.prog l #[.agg (Bk.cells x).toArray] W fun e W' =>
      (e = .returned (.bool true) ∧ J (pre ++ [x]) W' ∧ KpE n₀ W W') ∨ (e = .returned (.bool false) ∧ Jx (pre ++ [x]) W'))
    (ihl : ∀ (p : Option Addr) (u : World), n₀ ≤ u.heap.size → Bk.IsT (fun k => n₀ ≤ k) u p L → J pre u → Calls Try.prog 41 #[.pointer p, .agg (Bk.cells low).toArray, .func (.func 31) #[] #[], .func (.yield l) #[] #[]] u (GivesWalk n₀ J Jx pre (L.from_ low.1) u))
    (ihr : ∀ (p : Option Addr) (u : World), n₀ ≤ u.heap.size → Bk.IsT (fun k => n₀ ≤ k) u p R → J (pre ++ L.from_ low.1 ++ [y]) u → Calls Try.prog 41 #[.pointer p, .agg (Bk.cells low).toArray, .func (.func 31) #[] #[], .func (.yield l) #[] #[]] u (GivesWalk n₀ J Jx (pre ++ L.from_ low.1 ++ [y]) (R.from_ low.1) u)) :
    Calls Try.prog 41 #[.pointer p, .agg (Bk.cells low).toArray, .func (.func 31) #[] #[], .func (.yield l) #[] #[]] W (GivesWalk n₀ J Jx pre (L.from_ low.1 ++ y :: R.from_ low.1) W) := by
  obtain ⟨g, pl, pr, rfl, hg, hng, hc, hy, hl, hr⟩ := ht.node
  have Cm := Lib.hid (fun (u : World) => ecompare_any y low u)
  have Ihl := Lib.hid (fun (u : World) (hu : Below W.heap.size W u) => ihl pl u (Nat.le_trans hn hu.size) (hl.below hu) (hJ _ _ _ h0 hu))
  have Ihr := Lib.hid (fun (u : World) (hu : Below n₀ W u) (hj : J (pre ++ L.from_ low.1 ++ [y]) u) => ihr pr u (Nat.le_trans hn hu.size) (hr.sm (.low hu)) hj)
  generalize (R.from_ low.1) = xr at Ihr hN ⊢
  generalize (L.from_ low.1) = xl at Ihl Ihr hN ⊢
  simp only [List.length_append, List.length_cons] at hN
  have Hy := Lib.hid (fun (u : World) (hj : J (pre ++ xl) u) => hY (pre ++ xl) y u hGy hj (by rw [List.length_append]; omega))
  have HN := Lib.hid hn
  have hn' : g < n₀ := by omega
  clear ht hy hl hr ihl ihr hn h0 hN hY hGy
  generalize hk : Bk.cmp y.1 low.1 = k at Cm hc0
  clear hk
  obtain ⟨⟨key, seq, del, val⟩, V, n, c⟩ := low
  obtain ⟨⟨key2, seq2, del2, val2⟩, V2, n2, c2⟩ := y
  have HC := Lib.hid hc
  clear hc
  show Calls _ _ #[.pointer (some ⟨g, 0, none⟩), .agg #[.string key, .int .i64 seq, .bool del, .slice V n c], .func (.func 31) #[] #[], .func (.yield l) #[] #[]] _ _
  have Cm2 : Hid (∀ u, Calls Try.prog 31 #[.agg #[.string key2, .int .i64 seq2, .bool del2, .slice V2 n2 c2], .agg #[.string key, .int .i64 seq, .bool del, .slice V n c]] u fun e w' => e = .returned (.int .i64 k) ∧ Below u.heap.size u w') := Lib.hid Cm.out
  have Il : Hid (∀ u, Below W.heap.size W u → CallsIn Fence.wide 4 Try.prog 41 #[.pointer pl, .agg #[.string key, .int .i64 seq, .bool del, .slice V n c], .func (.func 31) #[] #[], .func (.yield l) #[] #[]] u (GivesWalk n₀ J Jx pre xl u)) := Lib.hid (fun u hu => callsIn_wide.2 (Ihl.out u hu))
  have Ir : Hid (∀ u, Below n₀ W u → J (pre ++ xl ++ [(⟨key2, seq2, del2, val2⟩, V2, n2, c2)]) u → CallsIn Fence.wide 4 Try.prog 41 #[.pointer pr, .agg #[.string key, .int .i64 seq, .bool del, .slice V n c], .func (.func 31) #[] #[], .func (.yield l) #[] #[]] u (GivesWalk n₀ J Jx (pre ++ xl ++ [(⟨key2, seq2, del2, val2⟩, V2, n2, c2)]) xr u)) := Lib.hid (fun u hu hj => callsIn_wide.2 (Ihr.out u hu hj))
  have Iy : Hid (∀ u : World, J (pre ++ xl) u → YieldAt Fence.wide 4 Try.prog l #[.agg #[.string key2, .int .i64 seq2, .bool del2, .slice V2 n2 c2]] u fun e W' => (e = .returned (.bool true) ∧ J (pre ++ xl ++ [(⟨key2, seq2, del2, val2⟩, V2, n2, c2)]) W' ∧ KpE n₀ u W') ∨ (e = .returned (.bool false) ∧ Jx (pre ++ xl ++ [(⟨key2, seq2, del2, val2⟩, V2, n2, c2)]) W')) := Lib.hid (fun u hj => YieldAt.any (Hy.out u hj))
  clear Cm Ihl Ihr Hy
  have HB := Lib.hid (show Below W.heap.size W (W.alloc (.cells #[Value.string key, .int .i64 seq, .bool del, .slice V n c] 59)) from (Below.refl _ _).alloc (Nat.le_refl _) _)
  have HZ := Lib.hid (Holds.new W #[Value.string key, .int .i64 seq, .bool del, .slice V n c] 59)
  have HO := Lib.hid (World.alloc_heap_new W (.cells #[Value.string key, .int .i64 seq, .bool del, .slice V n c] 59))
  go_enter Try.func41, Try.ntmps41
  go_wp2_with fail
  generalize (W.alloc (.cells #[Value.string key, .int .i64 seq, .bool del, .slice V n c] 59)) = u at HB HZ HO ⊢
  have hgu : g < u.heap.size := Nat.lt_of_lt_of_le hg HB.out.size
  have HG := Lib.hid (fun (v : World) (hv : Below u.heap.size u v) => and10 (node_cells hgu (fun (j : Nat) (x : Value) hj => (HB.out.cell (p := ⟨g, j, none⟩) hg).trans (HC.out j x hj)) v hv) (box_cells HZ.out v hv))
  have HKp := Lib.hid (walk_keeps hn' HN.out HB.out HO.out HC.out)
  have q := HG.out _ (Below.refl _ _)
  go_region_held3 (fun wx => wx.cell? ⟨g, 0, none⟩ = some (.string key2) ∧ wx.cell? ⟨g, 1, none⟩ = some (.int .i64 seq2) ∧ wx.cell? ⟨g, 2, none⟩ = some (.bool del2) ∧ wx.cell? ⟨g, 3, none⟩ = some (.slice V2 n2 c2) ∧ wx.cell? ⟨g, 4, none⟩ = some (.pointer pl) ∧ wx.cell? ⟨g, 5, none⟩ = some (.pointer pr) ∧ wx.cell? ⟨W.heap.size, 0, none⟩ = some (.string key) ∧ wx.cell? ⟨W.heap.size, 1, none⟩ = some (.int .i64 seq) ∧ wx.cell? ⟨W.heap.size, 2, none⟩ = some (.bool del) ∧ wx.cell? ⟨W.heap.size, 3, none⟩ = some (.slice V n c)) (first | exact q | exact HG.out _ hb1) (first
    | (go_at_call 31; (with_reducible refine (Cm2.out _).mono ?_); rintro e v1 ⟨rfl, hb'⟩; have hb1 : Below u.heap.size u v1 := below_next (show Below u.heap.size u u.drew from (Below.refl _ _).drew) hb'; have HB1 := Lib.hid (HB.out.trans (hb1.mono HB.out.size)); clear hb'))
  have HK1 := Lib.hid (KpE.of_below hb1 (Nat.le_trans HN.out HB.out.size))
  go_wp2_with fail
  have HD1 := Lib.hid HB1.out.drew
  have HKd := Lib.hid (show KpE n₀ u v1.drew from ⟨HK1.out.1.drew, HK1.out.2⟩)
  obtain ⟨f0, f1, f2, f3, f4, f5, z0, z1, z2, z3⟩ := HG.out _ hb1
  have hm : Try.prog.follows .mixedOrders = true := by kernel_rfl
  have HBu := Lib.hid (HB.out.mono HN.out)
  have HBu := Lib.hid (HB.out.mono HN.out)
  refine (wpIn_wide (n := 5)).1 ?_
  refine wpIn_region_any hm ?_
  show wpAnyIn _ _ _ _ _ _ _ _ _ v1.drew
  refine in_take (i := 0) (v := ?_) (some 27) rfl rfl (by kernel_rfl) (by kernel_rfl) (by kernel_rfl) (fun _ _ _ h => h) (by rfl) (fun _ => rfl) ?_ ?_
  rotate_left
  · intro wz; go_simp; (try with_reducible rfl)
  (try simp only [Act.put, List.setIfInBounds_toArray, List.set_cons_zero, List.set_cons_succ])
  refine in_take (i := 1) (v := ?_) (some 28) rfl rfl (by kernel_rfl) (by kernel_rfl) (by kernel_rfl) (fun _ _ _ h => h) (by rfl) (fun _ => rfl) ?_ ?_
  rotate_left
  · intro wz; go_simp; (try with_reducible rfl)
  (try simp only [Act.put, List.setIfInBounds_toArray, List.set_cons_zero, List.set_cons_succ])
  refine in_take (i := 2) (v := ?_) (some 29) rfl rfl (by kernel_rfl) (by kernel_rfl) (by kernel_rfl) (fun _ _ _ h => h) (by rfl) (fun _ => rfl) ?_ ?_
  rotate_left
  · intro wz; go_simp; (try with_reducible rfl)
  (try simp only [Act.put, List.setIfInBounds_toArray, List.set_cons_zero, List.set_cons_succ])
  refine in_take (i := 5) (v := ?_) (some 32) rfl rfl (by kernel_rfl) (by kernel_rfl) (by kernel_rfl) (fun _ _ _ h => h) (by rfl) (fun _ => rfl) ?_ ?_
  rotate_left
  · intro wz; go_simp; (try with_reducible rfl)
  (try simp only [Act.put, List.setIfInBounds_toArray, List.set_cons_zero, List.set_cons_succ])
  refine in_take (i := 6) (v := ?_) (some 33) rfl rfl (by kernel_rfl) (by kernel_rfl) (by kernel_rfl) (fun _ _ _ h => h) (by rfl) (fun _ => rfl) ?_ ?_
  rotate_left
  · intro wz; go_simp; (try with_reducible rfl)
  (try simp only [Act.put, List.setIfInBounds_toArray, List.set_cons_zero, List.set_cons_succ])
  refine in_two (i := 3) (j := 4) (vi := .pointer pl) (vj := (.agg #[.string key, .int .i64 seq, .bool del, .slice V n c])) (some 30) (some 31) (by decide) (by kernel_rfl) (by kernel_rfl) (by kernel_rfl) rfl rfl rfl rfl (by rfl) (by rfl) (by rfl) (by rfl) ?_ ?_ ?_ ?_ rfl ?_
  · (try simp only [Act.put, List.setIfInBounds_toArray, List.set_cons_zero, List.set_cons_succ]); go_simp
  · (try simp only [Act.put, List.setIfInBounds_toArray, List.set_cons_zero, List.set_cons_succ]); go_simp
  · (try simp only [Act.put, List.setIfInBounds_toArray, List.set_cons_zero, List.set_cons_succ]); go_simp
  · (try simp only [Act.put, List.setIfInBounds_toArray, List.set_cons_zero, List.set_cons_succ]); go_simp
  (try simp only [Act.put, List.setIfInBounds_toArray, List.set_cons_zero, List.set_cons_succ])
  refine in_enter (i := 7) (f := 41) (args := #[.pointer pl, (.agg #[.string key, .int .i64 seq, .bool del, .slice V n c]), .func (.func 31) #[] #[], .func (.yield l) #[] #[]]) (some 34) (by kernel_rfl) rfl rfl (by rfl) (by exact exec_walk _ _ _ _ _ _ _ _ _ rfl rfl rfl rfl rfl) ?_
  refine (Il.out _ HD1.out).mono ?_
  rintro e v2 ⟨b, rfl, hp⟩
  refine ⟨_, rfl, ?_⟩
  (try simp only [Act.put, List.setIfInBounds_toArray, List.set_cons_zero, List.set_cons_succ])
  have HP2 := Lib.hid hp
  clear hp
  cases b with
  | false =>
    refine in_take (i := 8) (v := ?_) (some 35) rfl rfl (by kernel_rfl) (by kernel_rfl) (by kernel_rfl) (fun _ _ _ h => h) (by rfl) (fun _ => rfl) ?_ ?_
    rotate_left
    · intro wz; go_simp; (try with_reducible rfl)
    (try simp only [Act.put, List.setIfInBounds_toArray, List.set_cons_zero, List.set_cons_succ])
    refine in_skip (i := 9) (some 36) rfl rfl (by kernel_rfl) (by kernel_rfl) (by kernel_rfl) (fun _ _ _ h => h) (by rfl) (fun _ => rfl) ?_
    (try simp only [Act.put, List.setIfInBounds_toArray, List.set_cons_zero, List.set_cons_succ])
    refine in_skip (i := 10) (some 37) rfl rfl (by kernel_rfl) (by kernel_rfl) (by kernel_rfl) (fun _ _ _ h => h) (by rfl) (fun _ => rfl) ?_
    (try simp only [Act.put, List.setIfInBounds_toArray, List.set_cons_zero, List.set_cons_succ])
    refine in_skip (i := 11) (some 38) rfl rfl (by kernel_rfl) (by kernel_rfl) (by kernel_rfl) (fun _ _ _ h => h) (by rfl) (fun _ => rfl) ?_
    (try simp only [Act.put, List.setIfInBounds_toArray, List.set_cons_zero, List.set_cons_succ])
    refine in_skip (i := 12) (some 39) rfl rfl (by kernel_rfl) (by kernel_rfl) (by kernel_rfl) (fun _ _ _ h => h) (by rfl) (fun _ => rfl) ?_
    (try simp only [Act.put, List.setIfInBounds_toArray, List.set_cons_zero, List.set_cons_succ])
    refine in_skip (i := 13) (some 40) rfl rfl (by kernel_rfl) (by kernel_rfl) (by kernel_rfl) (fun _ _ _ h => h) (by rfl) (fun _ => rfl) ?_
    (try simp only [Act.put, List.setIfInBounds_toArray, List.set_cons_zero, List.set_cons_succ])
    refine in_pass (i := 14) (some 41) (by kernel_rfl) rfl rfl (by rfl) ?_
    (try simp only [Act.put, List.setIfInBounds_toArray, List.set_cons_zero, List.set_cons_succ])
    refine in_take (i := 15) (v := ?_) (some 42) rfl rfl (by kernel_rfl) (by kernel_rfl) (by kernel_rfl) (fun _ _ _ h => h) (by rfl) (fun _ => rfl) ?_ ?_
    rotate_left
    · intro wz; go_simp; (try with_reducible rfl)
    (try simp only [Act.put, List.setIfInBounds_toArray, List.set_cons_zero, List.set_cons_succ])
    refine in_take (i := 16) (v := ?_) (some 43) rfl rfl (by kernel_rfl) (by kernel_rfl) (by kernel_rfl) (fun _ _ _ h => h) (by rfl) (fun _ => rfl) ?_ ?_
    rotate_left
    · intro wz; go_simp; (try with_reducible rfl)
    (try simp only [Act.put, List.setIfInBounds_toArray, List.set_cons_zero, List.set_cons_succ])
    refine in_skip (i := 17) (some 44) rfl rfl (by kernel_rfl) (by kernel_rfl) (by kernel_rfl) (fun _ _ _ h => h) (by rfl) (fun _ => rfl) ?_
    (try simp only [Act.put, List.setIfInBounds_toArray, List.set_cons_zero, List.set_cons_succ])
    refine in_skip (i := 18) (some 45) rfl rfl (by kernel_rfl) (by kernel_rfl) (by kernel_rfl) (fun _ _ _ h => h) (by rfl) (fun _ => rfl) ?_
    (try simp only [Act.put, List.setIfInBounds_toArray, List.set_cons_zero, List.set_cons_succ])
    refine in_skip (i := 19) (some 46) rfl rfl (by kernel_rfl) (by kernel_rfl) (by kernel_rfl) (fun _ _ _ h => h) (by rfl) (fun _ => rfl) ?_
    (try simp only [Act.put, List.setIfInBounds_toArray, List.set_cons_zero, List.set_cons_succ])
    refine in_skip (i := 20) (some 47) rfl rfl (by kernel_rfl) (by kernel_rfl) (by kernel_rfl) (fun _ _ _ h => h) (by rfl) (fun _ => rfl) ?_
    (try simp only [Act.put, List.setIfInBounds_toArray, List.set_cons_zero, List.set_cons_succ])
    refine in_skip (i := 21) (some 48) rfl rfl (by kernel_rfl) (by kernel_rfl) (by kernel_rfl) (fun _ _ _ h => h) (by rfl) (fun _ => rfl) ?_
    (try simp only [Act.put, List.setIfInBounds_toArray, List.set_cons_zero, List.set_cons_succ])
    refine in_skip (i := 22) (some 49) rfl rfl (by kernel_rfl) (by kernel_rfl) (by kernel_rfl) (fun _ _ _ h => h) (by rfl) (fun _ => rfl) ?_
    (try simp only [Act.put, List.setIfInBounds_toArray, List.set_cons_zero, List.set_cons_succ])
    refine in_skip (i := 23) (some 50) rfl rfl (by kernel_rfl) (by kernel_rfl) (by kernel_rfl) (fun _ _ _ h => h) (by rfl) (fun _ => rfl) ?_
    (try simp only [Act.put, List.setIfInBounds_toArray, List.set_cons_zero, List.set_cons_succ])
    refine in_pass (i := 24) (some 51) (by kernel_rfl) rfl rfl (by rfl) ?_
    (try simp only [Act.put, List.setIfInBounds_toArray, List.set_cons_zero, List.set_cons_succ])
    refine in_take (i := 25) (v := ?_) (some 52) rfl rfl (by kernel_rfl) (by kernel_rfl) (by kernel_rfl) (fun _ _ _ h => h) (by rfl) (fun _ => rfl) ?_ ?_
    rotate_left
    · intro wz; go_simp; (try with_reducible rfl)
    (try simp only [Act.put, List.setIfInBounds_toArray, List.set_cons_zero, List.set_cons_succ])
    refine in_take (i := 26) (v := ?_) (some 8) rfl rfl (by kernel_rfl) (by kernel_rfl) (by kernel_rfl) (fun _ _ _ h => h) (by rfl) (fun _ => rfl) ?_ ?_
    rotate_left
    · intro wz; go_simp; (try with_reducible rfl)
    (try simp only [Act.put, List.setIfInBounds_toArray, List.set_cons_zero, List.set_cons_succ])
    refine wpAnyIn_done (by kernel_rfl) ?_ _
    go_wp2
    go_ret
    obtain ⟨q', hq, hj⟩ := HP2.out
    exact ⟨false, rfl, q', hq.trans (List.prefix_append _ _), hj⟩
  | true =>
    obtain ⟨hj2, hk2⟩ := HP2.out
    clear HP2
    have HK2 := Lib.hid (HKd.out.trans hk2)
    obtain ⟨g0, g1, g2, g3, g4, g5, y0, y1, y2, y3⟩ := HKp.out _ HK2.out
    obtain ⟨fn, tmps, assign, body, hy, hR⟩ := Iy.out _ hj2
    have HR := Lib.hid hR
    clear hR hj2 hk2
    refine in_take (i := 8) (v := ?_) (some 35) rfl rfl (by kernel_rfl) (by kernel_rfl) (by kernel_rfl) (fun _ _ _ h => h) (by rfl) (fun _ => rfl) ?_ ?_
    rotate_left
    · intro wz; go_simp; (try with_reducible rfl)
    (try simp only [Act.put, List.setIfInBounds_toArray, List.set_cons_zero, List.set_cons_succ])
    refine in_take (i := 9) (v := ?_) (some 36) rfl rfl (by kernel_rfl) (by kernel_rfl) (by kernel_rfl) (fun _ _ _ h => h) (by rfl) (fun _ => rfl) ?_ ?_
    rotate_left
    · intro wz; go_simp; (try with_reducible rfl)
    (try simp only [Act.put, List.setIfInBounds_toArray, List.set_cons_zero, List.set_cons_succ])
    refine in_take (i := 10) (v := ?_) (some 37) rfl rfl (by kernel_rfl) (by kernel_rfl) (by kernel_rfl) (fun _ _ _ h => h) (by rfl) (fun _ => rfl) ?_ ?_
    rotate_left
    · intro wz; go_simp; (try with_reducible rfl)
    (try simp only [Act.put, List.setIfInBounds_toArray, List.set_cons_zero, List.set_cons_succ])
    refine in_take (i := 11) (v := ?_) (some 38) rfl rfl (by kernel_rfl) (by kernel_rfl) (by kernel_rfl) (fun _ _ _ h => h) (by rfl) (fun _ => rfl) ?_ ?_
    rotate_left
    · intro wz; go_simp; (try with_reducible rfl)
    (try simp only [Act.put, List.setIfInBounds_toArray, List.set_cons_zero, List.set_cons_succ])
    refine in_take (i := 12) (v := ?_) (some 39) rfl rfl (by kernel_rfl) (by kernel_rfl) (by kernel_rfl) (fun _ _ _ h => h) (by rfl) (fun _ => rfl) ?_ ?_
    rotate_left
    · intro wz; go_simp; (try with_reducible rfl)
    (try simp only [Act.put, List.setIfInBounds_toArray, List.set_cons_zero, List.set_cons_succ])
    refine in_one (i := 13) (v := (.agg #[.string key2, .int .i64 seq2, .bool del2, .slice V2 n2 c2])) (some 40) (by kernel_rfl) rfl rfl (by rfl) ?_ ?_
    · go_simp
    (try simp only [Act.put, List.setIfInBounds_toArray, List.set_cons_zero, List.set_cons_succ])
    refine in_round (i := 14) (l := l) (f := fn) (tmps := tmps) (assign := assign) (body := body) (some 41) (by kernel_rfl) rfl rfl (by rfl) (by exact exec_yield _ _ _ _ rfl rfl rfl hy) ?_
    refine HR.out.mono ?_
    rintro e v3 (⟨rfl, hj3, hk3⟩ | ⟨rfl, hx3⟩)
    · refine ⟨_, rfl, ?_⟩
      (try simp only [Act.put, List.setIfInBounds_toArray, List.set_cons_zero, List.set_cons_succ])
      have HK3 := Lib.hid (HK2.out.trans hk3)
      obtain ⟨k0, k1, k2, k3, k4, k5, x0, x1, x2, x3⟩ := HKp.out _ HK3.out
      have HJ3 := Lib.hid hj3
      clear hj3 hk3
      refine in_take (i := 15) (v := ?_) (some 42) rfl rfl (by kernel_rfl) (by kernel_rfl) (by kernel_rfl) (fun _ _ _ h => h) (by rfl) (fun _ => rfl) ?_ ?_
      rotate_left
      · intro wz; go_simp; (try with_reducible rfl)
      (try simp only [Act.put, List.setIfInBounds_toArray, List.set_cons_zero, List.set_cons_succ])
      refine in_take (i := 16) (v := ?_) (some 43) rfl rfl (by kernel_rfl) (by kernel_rfl) (by kernel_rfl) (fun _ _ _ h => h) (by rfl) (fun _ => rfl) ?_ ?_
      rotate_left
      · intro wz; go_simp; (try with_reducible rfl)
      (try simp only [Act.put, List.setIfInBounds_toArray, List.set_cons_zero, List.set_cons_succ])
      refine in_take (i := 17) (v := ?_) (some 44) rfl rfl (by kernel_rfl) (by kernel_rfl) (by kernel_rfl) (fun _ _ _ h => h) (by rfl) (fun _ => rfl) ?_ ?_
      rotate_left
      · intro wz; go_simp; (try with_reducible rfl)
      (try simp only [Act.put, List.setIfInBounds_toArray, List.set_cons_zero, List.set_cons_succ])
      refine in_take (i := 18) (v := ?_) (some 45) rfl rfl (by kernel_rfl) (by kernel_rfl) (by kernel_rfl) (fun _ _ _ h => h) (by rfl) (fun _ => rfl) ?_ ?_
      rotate_left
      · intro wz; go_simp; (try with_reducible rfl)
      (try simp only [Act.put, List.setIfInBounds_toArray, List.set_cons_zero, List.set_cons_succ])
      refine in_take (i := 19) (v := ?_) (some 46) rfl rfl (by kernel_rfl) (by kernel_rfl) (by kernel_rfl) (fun _ _ _ h => h) (by rfl) (fun _ => rfl) ?_ ?_
      rotate_left
      · intro wz; go_simp; (try with_reducible rfl)
      (try simp only [Act.put, List.setIfInBounds_toArray, List.set_cons_zero, List.set_cons_succ])
      refine in_take (i := 22) (v := ?_) (some 49) rfl rfl (by kernel_rfl) (by kernel_rfl) (by kernel_rfl) (fun _ _ _ h => h) (by rfl) (fun _ => rfl) ?_ ?_
      rotate_left
      · intro wz; go_simp; (try with_reducible rfl)
      (try simp only [Act.put, List.setIfInBounds_toArray, List.set_cons_zero, List.set_cons_succ])
      refine in_take (i := 23) (v := ?_) (some 50) rfl rfl (by kernel_rfl) (by kernel_rfl) (by kernel_rfl) (fun _ _ _ h => h) (by rfl) (fun _ => rfl) ?_ ?_
      rotate_left
      · intro wz; go_simp; (try with_reducible rfl)
      (try simp only [Act.put, List.setIfInBounds_toArray, List.set_cons_zero, List.set_cons_succ])
      refine in_two (i := 20) (j := 21) (vi := .pointer pr) (vj := (.agg #[.string key, .int .i64 seq, .bool del, .slice V n c])) (some 47) (some 48) (by decide) (by kernel_rfl) (by kernel_rfl) (by kernel_rfl) rfl rfl rfl rfl (by rfl) (by rfl) (by rfl) (by rfl) ?_ ?_ ?_ ?_ rfl ?_
      · (try simp only [Act.put, List.setIfInBounds_toArray, List.set_cons_zero, List.set_cons_succ]); go_simp
      · (try simp only [Act.put, List.setIfInBounds_toArray, List.set_cons_zero, List.set_cons_succ]); go_simp
      · (try simp only [Act.put, List.setIfInBounds_toArray, List.set_cons_zero, List.set_cons_succ]); go_simp
      · (try simp only [Act.put, List.setIfInBounds_toArray, List.set_cons_zero, List.set_cons_succ]); go_simp
      (try simp only [Act.put, List.setIfInBounds_toArray, List.set_cons_zero, List.set_cons_succ])
      refine in_enter (i := 24) (f := 41) (args := #[.pointer pr, (.agg #[.string key, .int .i64 seq, .bool del, .slice V n c]), .func (.func 31) #[] #[], .func (.yield l) #[] #[]]) (some 51) (by kernel_rfl) rfl rfl (by rfl) (by exact exec_walk _ _ _ _ _ _ _ _ _ rfl rfl rfl rfl rfl) ?_
      refine (Ir.out _ (HBu.out.trans HK3.out.1) HJ3.out).mono ?_
      rintro e v4 ⟨b, rfl, hp⟩
      refine ⟨_, rfl, ?_⟩
      (try simp only [Act.put, List.setIfInBounds_toArray, List.set_cons_zero, List.set_cons_succ])
      have HP4 := Lib.hid hp
      clear hp
      refine in_take (i := 25) (v := ?_) (some 52) rfl rfl (by kernel_rfl) (by kernel_rfl) (by kernel_rfl) (fun _ _ _ h => h) (by rfl) (fun _ => rfl) ?_ ?_
      rotate_left
      · intro wz; go_simp; (try with_reducible rfl)
      (try simp only [Act.put, List.setIfInBounds_toArray, List.set_cons_zero, List.set_cons_succ])
      refine in_take (i := 26) (v := ?_) (some 8) rfl rfl (by kernel_rfl) (by kernel_rfl) (by kernel_rfl) (fun _ _ _ h => h) (by rfl) (fun _ => rfl) ?_ ?_
      rotate_left
      · intro wz; go_simp; (try with_reducible rfl)
      (try simp only [Act.put, List.setIfInBounds_toArray, List.set_cons_zero, List.set_cons_succ])
      refine wpAnyIn_done (by kernel_rfl) ?_ _
      go_wp2
      go_ret
      refine ⟨b, rfl, ?_⟩
      cases b with
      | true => exact ⟨by have := HP4.out.1; simpa [List.append_assoc] using this, (KpE.of_below HB.out HN.out).trans (HK3.out.trans HP4.out.2)⟩
      | false =>
        obtain ⟨q', ⟨r', hr'⟩, hj⟩ := HP4.out
        exact ⟨xl ++ (⟨key2, seq2, del2, val2⟩, V2, n2, c2) :: q', ⟨r', by simp [← hr']⟩, by simpa [List.append_assoc] using hj⟩
    · refine ⟨_, rfl, ?_⟩
      (try simp only [Act.put, List.setIfInBounds_toArray, List.set_cons_zero, List.set_cons_succ])
      have HX3 := Lib.hid hx3
      clear hx3
      refine in_take (i := 15) (v := ?_) (some 42) rfl rfl (by kernel_rfl) (by kernel_rfl) (by kernel_rfl) (fun _ _ _ h => h) (by rfl) (fun _ => rfl) ?_ ?_
      rotate_left
      · intro wz; go_simp; (try with_reducible rfl)
      (try simp only [Act.put, List.setIfInBounds_toArray, List.set_cons_zero, List.set_cons_succ])
      refine in_take (i := 16) (v := ?_) (some 43) rfl rfl (by kernel_rfl) (by kernel_rfl) (by kernel_rfl) (fun _ _ _ h => h) (by rfl) (fun _ => rfl) ?_ ?_
      rotate_left
      · intro wz; go_simp; (try with_reducible rfl)
      (try simp only [Act.put, List.setIfInBounds_toArray, List.set_cons_zero, List.set_cons_succ])
      refine in_skip (i := 17) (some 44) rfl rfl (by kernel_rfl) (by kernel_rfl) (by kernel_rfl) (fun _ _ _ h => h) (by rfl) (fun _ => rfl) ?_
      (try simp only [Act.put, List.setIfInBounds_toArray, List.set_cons_zero, List.set_cons_succ])
      refine in_skip (i := 18) (some 45) rfl rfl (by kernel_rfl) (by kernel_rfl) (by kernel_rfl) (fun _ _ _ h => h) (by rfl) (fun _ => rfl) ?_
      (try simp only [Act.put, List.setIfInBounds_toArray, List.set_cons_zero, List.set_cons_succ])
      refine in_skip (i := 19) (some 46) rfl rfl (by kernel_rfl) (by kernel_rfl) (by kernel_rfl) (fun _ _ _ h => h) (by rfl) (fun _ => rfl) ?_
      (try simp only [Act.put, List.setIfInBounds_toArray, List.set_cons_zero, List.set_cons_succ])
      refine in_skip (i := 20) (some 47) rfl rfl (by kernel_rfl) (by kernel_rfl) (by kernel_rfl) (fun _ _ _ h => h) (by rfl) (fun _ => rfl) ?_
      (try simp only [Act.put, List.setIfInBounds_toArray, List.set_cons_zero, List.set_cons_succ])
      refine in_skip (i := 21) (some 48) rfl rfl (by kernel_rfl) (by kernel_rfl) (by kernel_rfl) (fun _ _ _ h => h) (by rfl) (fun _ => rfl) ?_
      (try simp only [Act.put, List.setIfInBounds_toArray, List.set_cons_zero, List.set_cons_succ])
      refine in_skip (i := 22) (some 49) rfl rfl (by kernel_rfl) (by kernel_rfl) (by kernel_rfl) (fun _ _ _ h => h) (by rfl) (fun _ => rfl) ?_
      (try simp only [Act.put, List.setIfInBounds_toArray, List.set_cons_zero, List.set_cons_succ])
      refine in_skip (i := 23) (some 50) rfl rfl (by kernel_rfl) (by kernel_rfl) (by kernel_rfl) (fun _ _ _ h => h) (by rfl) (fun _ => rfl) ?_
      (try simp only [Act.put, List.setIfInBounds_toArray, List.set_cons_zero, List.set_cons_succ])
      refine in_pass (i := 24) (some 51) (by kernel_rfl) rfl rfl (by rfl) ?_
      (try simp only [Act.put, List.setIfInBounds_toArray, List.set_cons_zero, List.set_cons_succ])
      refine in_take (i := 25) (v := ?_) (some 52) rfl rfl (by kernel_rfl) (by kernel_rfl) (by kernel_rfl) (fun _ _ _ h => h) (by rfl) (fun _ => rfl) ?_ ?_
      rotate_left
      · intro wz; go_simp; (try with_reducible rfl)
      (try simp only [Act.put, List.setIfInBounds_toArray, List.set_cons_zero, List.set_cons_succ])
      refine in_take (i := 26) (v := ?_) (some 8) rfl rfl (by kernel_rfl) (by kernel_rfl) (by kernel_rfl) (fun _ _ _ h => h) (by rfl) (fun _ => rfl) ?_ ?_
      rotate_left
      · intro wz; go_simp; (try with_reducible rfl)
      (try simp only [Act.put, List.setIfInBounds_toArray, List.set_cons_zero, List.set_cons_succ])
      refine wpAnyIn_done (by kernel_rfl) ?_ _
      go_wp2
      go_ret
      exact ⟨false, rfl, xl ++ [(⟨key2, seq2, del2, val2⟩, V2, n2, c2)], ⟨xr, by simp⟩, by simpa [List.append_assoc] using HX3.out⟩
end Go.Proofs.Ytfmbnoafmnbhcaa
