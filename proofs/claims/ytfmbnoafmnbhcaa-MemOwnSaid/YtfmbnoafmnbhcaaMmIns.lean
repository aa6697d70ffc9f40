/- Trees in memory: with one more. -/
import Derived.Test.YtfmbnoafmnbhcaaMmWith
namespace Go.Proofs.Ytfmbnoafmnbhcaa
open Go.RowKit
set_option maxRecDepth 100000 in
set_option maxHeartbeats 4000000 in
theorem with_leaf (S : Nat → Prop) (x : Bk.P) (w : World) (hS : ∀ k, S k → k < w.heap.size) (hx : Bk.AtS S w x) :
    Calls Try.prog 36 #[.pointer none, .agg (Bk.cells x).toArray, .func (.func 31) #[] #[]] w (GivesT S w (.node .leaf x .leaf)) := by
  have J := Lib.hid (fun (u : World) (hu : Below w.heap.size w u) => join_any S none none .leaf .leaf x u (levelS hS hu) rfl rfl (hx.sm (.of_below hu)) (by simp [Bk.Tr.size]))
  clear hS hx
  obtain ⟨⟨key, seq, del, val⟩, V, n, c⟩ := x
  show Calls _ _ #[.pointer none, .agg #[.string key, .int .i64 seq, .bool del, .slice V n c], .func (.func 31) #[] #[]] _ _
  have J2 : Hid (∀ u, Below w.heap.size w u → Calls Try.prog 42 #[.pointer none, .agg #[.string key, .int .i64 seq, .bool del, .slice V n c], .pointer none] u (GivesT S u (.node .leaf (⟨key, seq, del, val⟩, V, n, c) .leaf))) := Lib.hid J.out
  clear J
  have HB := Lib.hid (show Below w.heap.size w (w.alloc (.cells #[Value.string key, .int .i64 seq, .bool del, .slice V n c] 59)) from (Below.refl _ _).alloc (Nat.le_refl _) _)
  have HZ := Lib.hid (Holds.new w #[Value.string key, .int .i64 seq, .bool del, .slice V n c] 59)
  go_enter Try.func36, Try.ntmps36
  go_wp2_with fail
  generalize (w.alloc (.cells #[Value.string key, .int .i64 seq, .bool del, .slice V n c] 59)) = v at HB HZ ⊢
  have q0 := HZ.out.2.1 0 _ rfl
  have q1 := HZ.out.2.1 1 _ rfl
  have q2 := HZ.out.2.1 2 _ rfl
  have q3 := HZ.out.2.1 3 _ rfl
  go_wp2_with (go_at_call 42; (with_reducible refine (J2.out _ HB.out).mono ?_); rintro e v3 ⟨p, rfl, hT, hb⟩)
  go_ret
  exact ⟨_, rfl, hT, below_next HB.out hb⟩
set_option maxRecDepth 100000 in
set_option maxHeartbeats 4000000 in
theorem with_less (S : Nat → Prop) (p : Option Addr) (l r : Bk.Tr) (y x : Bk.P) (w : World) (hS : ∀ k, S k → k < w.heap.size) (ht : Bk.IsT S w p (.node l y r)) (hx : Bk.AtS S w x) (hn : l.size + r.size + 3 ≤ 1000000) (hc0 : Bk.lt x y)
    (ih : ∀ (p : Option Addr) (u : World), (∀ k, S k → k < u.heap.size) → Bk.IsT S u p l → Bk.AtS S u x → Calls Try.prog 36 #[.pointer p, .agg (Bk.cells x).toArray, .func (.func 31) #[] #[]] u (GivesT S u (Bk.Tr.ins x l))) :
    Calls Try.prog 36 #[.pointer p, .agg (Bk.cells x).toArray, .func (.func 31) #[] #[]] w (GivesT S w (Bk.Tr.level (Bk.Tr.ins x l) y r)) := by
  obtain ⟨g, pl, pr, rfl, hg, hng, hc, hy, hl, hr⟩ := ht.node
  have Cm := Lib.hid (fun (u : World) => ecompare_any x y u)
  have Ih := Lib.hid (fun (u : World) (hu : Below w.heap.size w u) => ih pl u (levelS hS hu) (hl.below hu) (hx.sm (.of_below hu)))
  have Lv := Lib.hid (fun (u : World) (p1 : Option Addr) (hu : Below w.heap.size w u) (hp : Bk.IsT S u p1 (Bk.Tr.ins x l)) => level_any S p1 pr (Bk.Tr.ins x l) r y u (levelS hS hu) hp (hr.below hu) (hy.sm (.of_below hu)) (by rw [Bk.Tr.ins_size]; omega))
  clear hS ht hx hn hy hl hr ih
  unfold Bk.lt at hc0
  generalize hk : Bk.cmp x.1 y.1 = k at Cm hc0
  clear hk
  obtain ⟨⟨key, seq, del, val⟩, V, n, c⟩ := x
  obtain ⟨⟨key2, seq2, del2, val2⟩, V2, n2, c2⟩ := y
  have HC := Lib.hid hc
  clear hc
  show Calls _ _ #[.pointer (some ⟨g, 0, none⟩), .agg #[.string key, .int .i64 seq, .bool del, .slice V n c], .func (.func 31) #[] #[]] _ _
  have Cm2 : Hid (∀ u, Calls Try.prog 31 #[.agg #[.string key, .int .i64 seq, .bool del, .slice V n c], .agg #[.string key2, .int .i64 seq2, .bool del2, .slice V2 n2 c2]] u fun e w' => e = .returned (.int .i64 k) ∧ Below u.heap.size u w') := Lib.hid Cm.out
  have Ih2 : Hid (∀ u, Below w.heap.size w u → Calls Try.prog 36 #[.pointer pl, .agg #[.string key, .int .i64 seq, .bool del, .slice V n c], .func (.func 31) #[] #[]] u (GivesT S u (Bk.Tr.ins (⟨key, seq, del, val⟩, V, n, c) l))) := Lib.hid Ih.out
  have Lv2 : Hid (∀ (u : World) (p1 : Option Addr), Below w.heap.size w u → Bk.IsT S u p1 (Bk.Tr.ins (⟨key, seq, del, val⟩, V, n, c) l) → Calls Try.prog 43 #[.pointer p1, .agg #[.string key2, .int .i64 seq2, .bool del2, .slice V2 n2 c2], .pointer pr] u (GivesT S u (Bk.Tr.level (Bk.Tr.ins (⟨key, seq, del, val⟩, V, n, c) l) (⟨key2, seq2, del2, val2⟩, V2, n2, c2) r))) := Lib.hid Lv.out
  clear Cm Ih Lv
  have HB := Lib.hid (show Below w.heap.size w (w.alloc (.cells #[Value.string key, .int .i64 seq, .bool del, .slice V n c] 59)) from (Below.refl _ _).alloc (Nat.le_refl _) _)
  have HZ := Lib.hid (Holds.new w #[Value.string key, .int .i64 seq, .bool del, .slice V n c] 59)
  go_enter Try.func36, Try.ntmps36
  go_wp2_with fail
  generalize (w.alloc (.cells #[Value.string key, .int .i64 seq, .bool del, .slice V n c] 59)) = u at HB HZ ⊢
  have hgu : g < u.heap.size := Nat.lt_of_lt_of_le hg HB.out.size
  have HG := Lib.hid (fun (v : World) (hv : Below u.heap.size u v) => and10 (node_cells hgu (fun (j : Nat) (x : Value) hj => (HB.out.cell (p := ⟨g, j, none⟩) hg).trans (HC.out j x hj)) v hv) (box_cells HZ.out v hv))
  have q := HG.out _ (Below.refl _ _)
  go_region_held3 (fun wx => wx.cell? ⟨g, 0, none⟩ = some (.string key2) ∧ wx.cell? ⟨g, 1, none⟩ = some (.int .i64 seq2) ∧ wx.cell? ⟨g, 2, none⟩ = some (.bool del2) ∧ wx.cell? ⟨g, 3, none⟩ = some (.slice V2 n2 c2) ∧ wx.cell? ⟨g, 4, none⟩ = some (.pointer pl) ∧ wx.cell? ⟨g, 5, none⟩ = some (.pointer pr) ∧ wx.cell? ⟨w.heap.size, 0, none⟩ = some (.string key) ∧ wx.cell? ⟨w.heap.size, 1, none⟩ = some (.int .i64 seq) ∧ wx.cell? ⟨w.heap.size, 2, none⟩ = some (.bool del) ∧ wx.cell? ⟨w.heap.size, 3, none⟩ = some (.slice V n c)) (first | exact q | exact HG.out _ hb1) (first
    | (go_at_call 31; (with_reducible refine (Cm2.out _).mono ?_); rintro e v1 ⟨rfl, hb'⟩; have hb1 : Below u.heap.size u v1 := below_next (show Below u.heap.size u u.drew from (Below.refl _ _).drew) hb'; have HB1 := Lib.hid (HB.out.trans (hb1.mono HB.out.size)); clear hb'))
  have q1 := HG.out _ hb1
  go_wp2_with fail
  have HD1 := Lib.hid HB1.out.drew
  go_region_held3 (fun wx => wx.cell? ⟨g, 0, none⟩ = some (.string key2) ∧ wx.cell? ⟨g, 1, none⟩ = some (.int .i64 seq2) ∧ wx.cell? ⟨g, 2, none⟩ = some (.bool del2) ∧ wx.cell? ⟨g, 3, none⟩ = some (.slice V2 n2 c2) ∧ wx.cell? ⟨g, 4, none⟩ = some (.pointer pl) ∧ wx.cell? ⟨g, 5, none⟩ = some (.pointer pr) ∧ wx.cell? ⟨w.heap.size, 0, none⟩ = some (.string key) ∧ wx.cell? ⟨w.heap.size, 1, none⟩ = some (.int .i64 seq) ∧ wx.cell? ⟨w.heap.size, 2, none⟩ = some (.bool del) ∧ wx.cell? ⟨w.heap.size, 3, none⟩ = some (.slice V n c)) (first | exact q1 | exact HG.out _ hb2 | exact HG.out _ hb3) (first
    | (go_at_call 36; (with_reducible refine (Ih2.out _ HD1.out).mono ?_); rintro e v2 ⟨p1, rfl, hT1, hb'⟩; have HT1 := Lib.hid hT1; clear hT1; have hb2 : Below u.heap.size u v2 := below_next hb1 (below_next (show Below v1.heap.size v1 v1.drew from (Below.refl _ _).drew) hb'); have HB2 := Lib.hid (HB.out.trans (hb2.mono HB.out.size)); clear hb')
    | (go_at_call 43; (with_reducible refine (Lv2.out _ _ HB2.out HT1.out).mono ?_); rintro e v3 ⟨p2, rfl, hT2, hb'⟩; have HT2 := Lib.hid hT2; clear hT2; have hb3 : Below u.heap.size u v3 := below_next hb2 hb'; have HB3 := Lib.hid (HB.out.trans (hb3.mono HB.out.size)); clear hb'))
  go_wp2
  go_ret
  exact ⟨_, rfl, HT2.out, HB3.out⟩
set_option maxRecDepth 100000 in
set_option maxHeartbeats 4000000 in
theorem with_more (S : Nat → Prop) (p : Option Addr) (l r : Bk.Tr) (y x : Bk.P) (w : World) (hS : ∀ k, S k → k < w.heap.size) (ht : Bk.IsT S w p (.node l y r)) (hx : Bk.AtS S w x) (hn : l.size + r.size + 3 ≤ 1000000) (hc0 : ¬ Bk.lt x y)
    (ih : ∀ (p : Option Addr) (u : World), (∀ k, S k → k < u.heap.size) → Bk.IsT S u p r → Bk.AtS S u x → Calls Try.prog 36 #[.pointer p, .agg (Bk.cells x).toArray, .func (.func 31) #[] #[]] u (GivesT S u (Bk.Tr.ins x r))) :
    Calls Try.prog 36 #[.pointer p, .agg (Bk.cells x).toArray, .func (.func 31) #[] #[]] w (GivesT S w (Bk.Tr.level l y (Bk.Tr.ins x r))) := by
  obtain ⟨g, pl, pr, rfl, hg, hng, hc, hy, hl, hr⟩ := ht.node
  have Cm := Lib.hid (fun (u : World) => ecompare_any x y u)
  have Ih := Lib.hid (fun (u : World) (hu : Below w.heap.size w u) => ih pr u (levelS hS hu) (hr.below hu) (hx.sm (.of_below hu)))
  have Lv := Lib.hid (fun (u : World) (p1 : Option Addr) (hu : Below w.heap.size w u) (hp : Bk.IsT S u p1 (Bk.Tr.ins x r)) => level_any S pl p1 l (Bk.Tr.ins x r) y u (levelS hS hu) (hl.below hu) hp (hy.sm (.of_below hu)) (by rw [Bk.Tr.ins_size]; omega))
  clear hS ht hx hn hy hl hr ih
  unfold Bk.lt at hc0
  generalize hk : Bk.cmp x.1 y.1 = k at Cm hc0
  clear hk
  obtain ⟨⟨key, seq, del, val⟩, V, n, c⟩ := x
  obtain ⟨⟨key2, seq2, del2, val2⟩, V2, n2, c2⟩ := y
  have HC := Lib.hid hc
  clear hc
  show Calls _ _ #[.pointer (some ⟨g, 0, none⟩), .agg #[.string key, .int .i64 seq, .bool del, .slice V n c], .func (.func 31) #[] #[]] _ _
  have Cm2 : Hid (∀ u, Calls Try.prog 31 #[.agg #[.string key, .int .i64 seq, .bool del, .slice V n c], .agg #[.string key2, .int .i64 seq2, .bool del2, .slice V2 n2 c2]] u fun e w' => e = .returned (.int .i64 k) ∧ Below u.heap.size u w') := Lib.hid Cm.out
  have Ih2 : Hid (∀ u, Below w.heap.size w u → Calls Try.prog 36 #[.pointer pr, .agg #[.string key, .int .i64 seq, .bool del, .slice V n c], .func (.func 31) #[] #[]] u (GivesT S u (Bk.Tr.ins (⟨key, seq, del, val⟩, V, n, c) r))) := Lib.hid Ih.out
  have Lv2 : Hid (∀ (u : World) (p1 : Option Addr), Below w.heap.size w u → Bk.IsT S u p1 (Bk.Tr.ins (⟨key, seq, del, val⟩, V, n, c) r) → Calls Try.prog 43 #[.pointer pl, .agg #[.string key2, .int .i64 seq2, .bool del2, .slice V2 n2 c2], .pointer p1] u (GivesT S u (Bk.Tr.level l (⟨key2, seq2, del2, val2⟩, V2, n2, c2) (Bk.Tr.ins (⟨key, seq, del, val⟩, V, n, c) r)))) := Lib.hid Lv.out
  clear Cm Ih Lv
  have HB := Lib.hid (show Below w.heap.size w (w.alloc (.cells #[Value.string key, .int .i64 seq, .bool del, .slice V n c] 59)) from (Below.refl _ _).alloc (Nat.le_refl _) _)
  have HZ := Lib.hid (Holds.new w #[Value.string key, .int .i64 seq, .bool del, .slice V n c] 59)
  go_enter Try.func36, Try.ntmps36
  go_wp2_with fail
  generalize (w.alloc (.cells #[Value.string key, .int .i64 seq, .bool del, .slice V n c] 59)) = u at HB HZ ⊢
  have hgu : g < u.heap.size := Nat.lt_of_lt_of_le hg HB.out.size
  have HG := Lib.hid (fun (v : World) (hv : Below u.heap.size u v) => and10 (node_cells hgu (fun (j : Nat) (x : Value) hj => (HB.out.cell (p := ⟨g, j, none⟩) hg).trans (HC.out j x hj)) v hv) (box_cells HZ.out v hv))
  have q := HG.out _ (Below.refl _ _)
  go_region_held3 (fun wx => wx.cell? ⟨g, 0, none⟩ = some (.string key2) ∧ wx.cell? ⟨g, 1, none⟩ = some (.int .i64 seq2) ∧ wx.cell? ⟨g, 2, none⟩ = some (.bool del2) ∧ wx.cell? ⟨g, 3, none⟩ = some (.slice V2 n2 c2) ∧ wx.cell? ⟨g, 4, none⟩ = some (.pointer pl) ∧ wx.cell? ⟨g, 5, none⟩ = some (.pointer pr) ∧ wx.cell? ⟨w.heap.size, 0, none⟩ = some (.string key) ∧ wx.cell? ⟨w.heap.size, 1, none⟩ = some (.int .i64 seq) ∧ wx.cell? ⟨w.heap.size, 2, none⟩ = some (.bool del) ∧ wx.cell? ⟨w.heap.size, 3, none⟩ = some (.slice V n c)) (first | exact q | exact HG.out _ hb1) (first
    | (go_at_call 31; (with_reducible refine (Cm2.out _).mono ?_); rintro e v1 ⟨rfl, hb'⟩; have hb1 : Below u.heap.size u v1 := below_next (show Below u.heap.size u u.drew from (Below.refl _ _).drew) hb'; have HB1 := Lib.hid (HB.out.trans (hb1.mono HB.out.size)); clear hb'))
  have q1 := HG.out _ hb1
  go_wp2_with fail
  have HD1 := Lib.hid HB1.out.drew
  go_region_held3 (fun wx => wx.cell? ⟨g, 0, none⟩ = some (.string key2) ∧ wx.cell? ⟨g, 1, none⟩ = some (.int .i64 seq2) ∧ wx.cell? ⟨g, 2, none⟩ = some (.bool del2) ∧ wx.cell? ⟨g, 3, none⟩ = some (.slice V2 n2 c2) ∧ wx.cell? ⟨g, 4, none⟩ = some (.pointer pl) ∧ wx.cell? ⟨g, 5, none⟩ = some (.pointer pr) ∧ wx.cell? ⟨w.heap.size, 0, none⟩ = some (.string key) ∧ wx.cell? ⟨w.heap.size, 1, none⟩ = some (.int .i64 seq) ∧ wx.cell? ⟨w.heap.size, 2, none⟩ = some (.bool del) ∧ wx.cell? ⟨w.heap.size, 3, none⟩ = some (.slice V n c)) (first | exact q1 | exact HG.out _ hb2 | exact HG.out _ hb3) (first
    | (go_at_call 36; (with_reducible refine (Ih2.out _ HD1.out).mono ?_); rintro e v2 ⟨p1, rfl, hT1, hb'⟩; have HT1 := Lib.hid hT1; clear hT1; have hb2 : Below u.heap.size u v2 := below_next hb1 (below_next (show Below v1.heap.size v1 v1.drew from (Below.refl _ _).drew) hb'); have HB2 := Lib.hid (HB.out.trans (hb2.mono HB.out.size)); clear hb')
    | (go_at_call 43; (with_reducible refine (Lv2.out _ _ HB2.out HT1.out).mono ?_); rintro e v3 ⟨p2, rfl, hT2, hb'⟩; have HT2 := Lib.hid hT2; clear hT2; have hb3 : Below u.heap.size u v3 := below_next hb2 hb'; have HB3 := Lib.hid (HB.out.trans (hb3.mono HB.out.size)); clear hb'))
  go_wp2
  go_ret
  exact ⟨_, rfl, HT2.out, HB3.out⟩
/-- The tree with an item more. -/
theorem with_any (S : Nat → Prop) (x : Bk.P) (T : Bk.Tr) : ∀ (p : Option Addr) (w : World), (∀ k, S k → k < w.heap.size) → Bk.IsT S w p T → Bk.AtS S w x → T.size + 2 ≤ 1000000 →
    Calls Try.prog 36 #[.pointer p, .agg (Bk.cells x).toArray, .func (.func 31) #[] #[]] w (GivesT S w (Bk.Tr.ins x T)) := by
  induction T with
  | leaf =>
    intro p w hS ht hx _
    obtain rfl : p = none := ht
    exact with_leaf S x w hS hx
  | node l y r ihl ihr =>
    intro p w hS ht hx hn
    simp only [Bk.Tr.size] at hn
    unfold Bk.Tr.ins
    split
    · rename_i h
      exact with_less S p l r y x w hS ht hx (by omega) h (fun p u h1 h2 h3 => ihl p u h1 h2 h3 (by omega))
    · rename_i h
      exact with_more S p l r y x w hS ht hx (by omega) h (fun p u h1 h2 h3 => ihr p u h1 h2 h3 (by omega))
end Go.Proofs.Ytfmbnoafmnbhcaa
