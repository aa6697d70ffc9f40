/- Trees in memory: levelled, where the right side is too high. -/
import Derived.Test.YtfmbnoafmnbhcaaMmLevA
namespace Go.Proofs.Ytfmbnoafmnbhcaa
open Go.RowKit
set_option maxRecDepth 100000 in
set_option maxHeartbeats 4000000 in
theorem levelB1 (S : Nat → Prop) (pl pr : Option Addr) (a b r : Bk.Tr) (y x : Bk.P) (w : World) (hS : ∀ k, S k → k < w.heap.size) (hl : Bk.IsT S w pr (.node b y a)) (hr : Bk.IsT S w pl r) (hx : Bk.AtS S w x) (hn : a.size + b.size + r.size + 2 ≤ 1000000)
    (h1 : r.ht + 1 < (Bk.Tr.node b y a).ht) (h2 : ¬ a.ht < b.ht) :
    Calls Try.prog 43 #[.pointer pl, .agg (Bk.cells x).toArray, .pointer pr] w (GivesT S w (.node (.node r x b) y a)) := by
  obtain ⟨g, pb, pa, rfl, hg, hng, hc, hy, hb, ha⟩ := hl.node
  have HS := Lib.hid hS
  have HN := Lib.hid hn
  have HX := Lib.hid hx
  have HA := Lib.hid ha
  have HRt := Lib.hid hr
  have HY := Lib.hid hy
  have HBt := Lib.hid hb
  have TL := Lib.hid (fun (u : World) (hu : Below w.heap.size w u) => tall_any S _ _ u (hl.below hu))
  have TR := Lib.hid (fun (u : World) (hu : Below w.heap.size w u) => tall_any S _ _ u (hr.below hu))
  have TA := Lib.hid (fun (u : World) (hu : Below w.heap.size w u) => tall_any S _ _ u (ha.below hu))
  have TB := Lib.hid (fun (u : World) (hu : Below w.heap.size w u) => tall_any S _ _ u (hb.below hu))
  have m1 : r.ht ≤ 1000000 := Nat.le_trans r.ht_size (by omega)
  have m3 : a.ht ≤ 1000000 := Nat.le_trans a.ht_size (by omega)
  have m4 : b.ht ≤ 1000000 := Nat.le_trans (Bk.Tr.ht_size _) (by (try simp only [Bk.Tr.size]); omega)
  have m6 : (Bk.Tr.node b y a).ht ≤ 1000000 := Nat.le_trans (Bk.Tr.ht_size _) (by (try simp only [Bk.Tr.size]); omega)
  clear hS hn hx ha hb hr hy hl
  generalize (Bk.Tr.node b y a).ht = nl at TL h1 m6 hc
  generalize r.ht = nr at TR h1 m1
  generalize a.ht = na at TA h2 m3
  generalize b.ht = nb at TB h2 m4
  have i1 : (nr : Int) + 1 < (nl : Int) := by omega
  have i3 : ¬ (nl : Int) + 1 < (nr : Int) := by omega
  have i2 : decide (na < nb) = false := by simpa using h2
  obtain ⟨⟨key, seq, del, val⟩, V, n, c⟩ := x
  obtain ⟨⟨key2, seq2, del2, val2⟩, V2, n2, c2⟩ := y
  have HC := Lib.hid hc
  clear hc h1 h2
  show Calls _ _ #[.pointer pl, .agg #[.string key, .int .i64 seq, .bool del, .slice V n c], .pointer (some ⟨g, 0, none⟩)] _ _
  have HB := Lib.hid (show Below w.heap.size w (w.alloc (.cells #[Value.string key, .int .i64 seq, .bool del, .slice V n c] 59)) from (Below.refl _ _).alloc (Nat.le_refl _) _)
  have HZ := Lib.hid (Holds.new w #[Value.string key, .int .i64 seq, .bool del, .slice V n c] 59)
  go_enter Try.func43, Try.ntmps43
  go_wp2_with fail
  generalize (w.alloc (.cells #[Value.string key, .int .i64 seq, .bool del, .slice V n c] 59)) = v at HB HZ ⊢
  have e0 : v.cell? ⟨g, 0, none⟩ = some (.string key2) := (HB.out.cell (p := ⟨g, 0, none⟩) hg).trans (HC.out 0 _ rfl)
  have e1 : v.cell? ⟨g, 1, none⟩ = some (.int .i64 seq2) := (HB.out.cell (p := ⟨g, 1, none⟩) hg).trans (HC.out 1 _ rfl)
  have e2 : v.cell? ⟨g, 2, none⟩ = some (.bool del2) := (HB.out.cell (p := ⟨g, 2, none⟩) hg).trans (HC.out 2 _ rfl)
  have e3 : v.cell? ⟨g, 3, none⟩ = some (.slice V2 n2 c2) := (HB.out.cell (p := ⟨g, 3, none⟩) hg).trans (HC.out 3 _ rfl)
  have e4 : v.cell? ⟨g, 4, none⟩ = some (.pointer pb) := (HB.out.cell (p := ⟨g, 4, none⟩) hg).trans (HC.out 4 _ rfl)
  have e5 : v.cell? ⟨g, 5, none⟩ = some (.pointer pa) := (HB.out.cell (p := ⟨g, 5, none⟩) hg).trans (HC.out 5 _ rfl)
  go_wp2_with ((go_at_call 46; (first | (with_reducible refine (TL.out _ HB.out).mono ?_) | (with_reducible refine (TR.out _ HB.out).mono ?_)); rintro e w1 ⟨rfl, rfl⟩))
  go_quiet ((go_at_call 46; (first | (with_reducible exact Calls.quiet_of_same (TA.out _ (below_drewN HB.out _))) | (with_reducible exact Calls.quiet_of_same (TB.out _ (below_drewN HB.out _))))))
  have HBu := Lib.hid (below_drewN HB.out nq)
  have HZu := Lib.hid (HZ.out.below (below_drewN (Below.refl _ _) nq))
  go_wp2_with fail
  clear TA TB TL TR i1 i2 m6 m1 m3 m4 i3
  generalize (w1.drewN nq) = u at HBu HZu ⊢
  have J1 := Lib.hid (show ∀ (u : World), Below w.heap.size w u → Calls Try.prog 42 #[.pointer pl, .agg #[.string key, .int .i64 seq, .bool del, .slice V n c], .pointer pb] u (GivesT S u (.node r (⟨key, seq, del, val⟩, V, n, c) b)) from fun u hu =>
    join_any S pl pb r b (⟨key, seq, del, val⟩, V, n, c) u (levelS HS.out hu) (HRt.out.sm (.of_below hu)) (HBt.out.sm (.of_below hu)) (HX.out.sm (.of_below hu)) (by have := HN.out; (try simp only [Bk.Tr.size] at this ⊢); omega))
  have J2 := Lib.hid (show ∀ (u : World) (p1 : Option Addr), Below w.heap.size w u → Bk.IsT S u p1 (.node r (⟨key, seq, del, val⟩, V, n, c) b) → Calls Try.prog 42 #[.pointer p1, .agg #[.string key2, .int .i64 seq2, .bool del2, .slice V2 n2 c2], .pointer pa] u (GivesT S u (.node (.node r (⟨key, seq, del, val⟩, V, n, c) b) (⟨key2, seq2, del2, val2⟩, V2, n2, c2) a)) from fun u p1 hu hp =>
    join_any S p1 pa (.node r (⟨key, seq, del, val⟩, V, n, c) b) a (⟨key2, seq2, del2, val2⟩, V2, n2, c2) u (levelS HS.out hu) hp (HA.out.sm (.of_below hu)) (HY.out.sm (.of_below hu)) (by have := HN.out; (try simp only [Bk.Tr.size] at this ⊢); omega))
  have hgu : g < u.heap.size := Nat.lt_of_lt_of_le hg HBu.out.size
  have HG := Lib.hid (fun (v : World) (hv : Below u.heap.size u v) => and10 (node_cells hgu (fun (j : Nat) (x : Value) hj => (HBu.out.cell (p := ⟨g, j, none⟩) hg).trans (HC.out j x hj)) v hv) (box_cells HZu.out v hv))
  have qx := HG.out _ (Below.refl _ _)
  have HDx := Lib.hid (HBu.out.drew)
  go_region_held3 (fun wx => wx.cell? ⟨g, 0, none⟩ = some (.string key2) ∧ wx.cell? ⟨g, 1, none⟩ = some (.int .i64 seq2) ∧ wx.cell? ⟨g, 2, none⟩ = some (.bool del2) ∧ wx.cell? ⟨g, 3, none⟩ = some (.slice V2 n2 c2) ∧ wx.cell? ⟨g, 4, none⟩ = some (.pointer pb) ∧ wx.cell? ⟨g, 5, none⟩ = some (.pointer pa) ∧ wx.cell? ⟨w.heap.size, 0, none⟩ = some (.string key) ∧ wx.cell? ⟨w.heap.size, 1, none⟩ = some (.int .i64 seq) ∧ wx.cell? ⟨w.heap.size, 2, none⟩ = some (.bool del) ∧ wx.cell? ⟨w.heap.size, 3, none⟩ = some (.slice V n c)) (first | exact qx | exact HG.out _ hbx1 | exact HG.out _ hbx2) (first
    | (go_at_call 42; (with_reducible refine (J1.out _ HDx.out).mono ?_); rintro e vx1 ⟨p1, rfl, hT1, hb'⟩; have HTx1 := Lib.hid hT1; clear hT1; have hbx1 : Below u.heap.size u vx1 := below_next (show Below u.heap.size u u.drew from (Below.refl _ _).drew) hb'; have HBx1 := Lib.hid (HBu.out.trans (hbx1.mono HBu.out.size)); clear hb')
    | (go_at_call 42; (with_reducible refine (J2.out _ _ HBx1.out HTx1.out).mono ?_); rintro e vx2 ⟨p2, rfl, hT2, hb'⟩; have HTx2 := Lib.hid hT2; clear hT2; have hbx2 : Below u.heap.size u vx2 := below_next hbx1 hb'; have HBx2 := Lib.hid (HBu.out.trans (hbx2.mono HBu.out.size)); clear hb'))
  go_wp2
  go_ret
  exact ⟨_, rfl, HTx2.out, HBx2.out⟩
set_option maxRecDepth 100000 in
set_option maxHeartbeats 4000000 in
theorem levelB2 (S : Nat → Prop) (pl pr : Option Addr) (a c1 d1 r : Bk.Tr) (y z x : Bk.P) (w : World) (hS : ∀ k, S k → k < w.heap.size) (hl : Bk.IsT S w pr (.node (.node d1 z c1) y a)) (hr : Bk.IsT S w pl r) (hx : Bk.AtS S w x) (hn : a.size + c1.size + d1.size + r.size + 3 ≤ 1000000)
    (h1 : r.ht + 1 < (Bk.Tr.node (Bk.Tr.node d1 z c1) y a).ht) (h2 : a.ht < (Bk.Tr.node d1 z c1).ht) :
    Calls Try.prog 43 #[.pointer pl, .agg (Bk.cells x).toArray, .pointer pr] w (GivesT S w (.node (.node r x d1) z (.node c1 y a))) := by
  obtain ⟨g, pb, pa, rfl, hg, hng, hc, hy, hb, ha⟩ := hl.node
  have hb0 := hb
  obtain ⟨g2, pd, pc, rfl, hg2, hng2, hc2, hz, hdd, hcc⟩ := hb.node
  have HS := Lib.hid hS
  have HN := Lib.hid hn
  have HX := Lib.hid hx
  have HA := Lib.hid ha
  have HRt := Lib.hid hr
  have HY := Lib.hid hy
  have HCt := Lib.hid hcc
  have HDt := Lib.hid hdd
  have HZy := Lib.hid hz
  have TL := Lib.hid (fun (u : World) (hu : Below w.heap.size w u) => tall_any S _ _ u (hl.below hu))
  have TR := Lib.hid (fun (u : World) (hu : Below w.heap.size w u) => tall_any S _ _ u (hr.below hu))
  have TA := Lib.hid (fun (u : World) (hu : Below w.heap.size w u) => tall_any S _ _ u (ha.below hu))
  have TB := Lib.hid (fun (u : World) (hu : Below w.heap.size w u) => tall_any S _ _ u (hb0.below hu))
  have m1 : r.ht ≤ 1000000 := Nat.le_trans r.ht_size (by omega)
  have m3 : a.ht ≤ 1000000 := Nat.le_trans a.ht_size (by omega)
  have m4 : (Bk.Tr.node d1 z c1).ht ≤ 1000000 := Nat.le_trans (Bk.Tr.ht_size _) (by (try simp only [Bk.Tr.size]); omega)
  have m6 : (Bk.Tr.node (Bk.Tr.node d1 z c1) y a).ht ≤ 1000000 := Nat.le_trans (Bk.Tr.ht_size _) (by (try simp only [Bk.Tr.size]); omega)
  clear hS hn hx ha hb hr hy hl hb0 hcc hdd hz
  generalize (Bk.Tr.node (Bk.Tr.node d1 z c1) y a).ht = nl at TL h1 m6 hc
  generalize r.ht = nr at TR h1 m1
  generalize a.ht = na at TA h2 m3
  generalize (Bk.Tr.node d1 z c1).ht = nb at TB h2 m4 hc2
  have i1 : (nr : Int) + 1 < (nl : Int) := by omega
  have i3 : ¬ (nl : Int) + 1 < (nr : Int) := by omega
  have i2 : decide (na < nb) = true := by simpa using h2
  obtain ⟨⟨key, seq, del, val⟩, V, n, c⟩ := x
  obtain ⟨⟨key2, seq2, del2, val2⟩, V2, n2, c2⟩ := y
  obtain ⟨⟨key3, seq3, del3, val3⟩, V3, n3, c3⟩ := z
  have HC := Lib.hid hc
  have HC2 := Lib.hid hc2
  clear hc h1 h2 hc2
  show Calls _ _ #[.pointer pl, .agg #[.string key, .int .i64 seq, .bool del, .slice V n c], .pointer (some ⟨g, 0, none⟩)] _ _
  have HB := Lib.hid (show Below w.heap.size w (w.alloc (.cells #[Value.string key, .int .i64 seq, .bool del, .slice V n c] 59)) from (Below.refl _ _).alloc (Nat.le_refl _) _)
  have HZ := Lib.hid (Holds.new w #[Value.string key, .int .i64 seq, .bool del, .slice V n c] 59)
  go_enter Try.func43, Try.ntmps43
  go_wp2_with fail
  generalize (w.alloc (.cells #[Value.string key, .int .i64 seq, .bool del, .slice V n c] 59)) = v at HB HZ ⊢
  have e0 : v.cell? ⟨g, 0, none⟩ = some (.string key2) := (HB.out.cell (p := ⟨g, 0, none⟩) hg).trans (HC.out 0 _ rfl)
  have e1 : v.cell? ⟨g, 1, none⟩ = some (.int .i64 seq2) := (HB.out.cell (p := ⟨g, 1, none⟩) hg).trans (HC.out 1 _ rfl)
  have e2 : v.cell? ⟨g, 2, none⟩ = some (.bool del2) := (HB.out.cell (p := ⟨g, 2, none⟩) hg).trans (HC.out 2 _ rfl)
  have e3 : v.cell? ⟨g, 3, none⟩ = some (.slice V2 n2 c2) := (HB.out.cell (p := ⟨g, 3, none⟩) hg).trans (HC.out 3 _ rfl)
  have e4 : v.cell? ⟨g, 4, none⟩ = some (.pointer (some ⟨g2, 0, none⟩)) := (HB.out.cell (p := ⟨g, 4, none⟩) hg).trans (HC.out 4 _ rfl)
  have e5 : v.cell? ⟨g, 5, none⟩ = some (.pointer pa) := (HB.out.cell (p := ⟨g, 5, none⟩) hg).trans (HC.out 5 _ rfl)
  have f0 : v.cell? ⟨g2, 0, none⟩ = some (.string key3) := (HB.out.cell (p := ⟨g2, 0, none⟩) hg2).trans (HC2.out 0 _ rfl)
  have f1 : v.cell? ⟨g2, 1, none⟩ = some (.int .i64 seq3) := (HB.out.cell (p := ⟨g2, 1, none⟩) hg2).trans (HC2.out 1 _ rfl)
  have f2 : v.cell? ⟨g2, 2, none⟩ = some (.bool del3) := (HB.out.cell (p := ⟨g2, 2, none⟩) hg2).trans (HC2.out 2 _ rfl)
  have f3 : v.cell? ⟨g2, 3, none⟩ = some (.slice V3 n3 c3) := (HB.out.cell (p := ⟨g2, 3, none⟩) hg2).trans (HC2.out 3 _ rfl)
  have f4 : v.cell? ⟨g2, 4, none⟩ = some (.pointer pd) := (HB.out.cell (p := ⟨g2, 4, none⟩) hg2).trans (HC2.out 4 _ rfl)
  have f5 : v.cell? ⟨g2, 5, none⟩ = some (.pointer pc) := (HB.out.cell (p := ⟨g2, 5, none⟩) hg2).trans (HC2.out 5 _ rfl)
  go_wp2_with ((go_at_call 46; (first | (with_reducible refine (TL.out _ HB.out).mono ?_) | (with_reducible refine (TR.out _ HB.out).mono ?_)); rintro e w1 ⟨rfl, rfl⟩))
  go_quiet ((go_at_call 46; (first | (with_reducible exact Calls.quiet_of_same (TA.out _ (below_drewN HB.out _))) | (with_reducible exact Calls.quiet_of_same (TB.out _ (below_drewN HB.out _))))))
  have HBu := Lib.hid (below_drewN HB.out nq)
  have HZu := Lib.hid (HZ.out.below (below_drewN (Below.refl _ _) nq))
  go_wp2_with fail
  clear TA TB TL TR i1 i2 m6 m1 m3 m4 i3
  generalize (w1.drewN nq) = u at HBu HZu ⊢
  have J3 := Lib.hid (show ∀ (u : World), Below w.heap.size w u → Calls Try.prog 42 #[.pointer pc, .agg #[.string key2, .int .i64 seq2, .bool del2, .slice V2 n2 c2], .pointer pa] u (GivesT S u (.node c1 (⟨key2, seq2, del2, val2⟩, V2, n2, c2) a)) from fun u hu =>
    join_any S pc pa c1 a (⟨key2, seq2, del2, val2⟩, V2, n2, c2) u (levelS HS.out hu) (HCt.out.sm (.of_below hu)) (HA.out.sm (.of_below hu)) (HY.out.sm (.of_below hu)) (by have := HN.out; (try simp only [Bk.Tr.size] at this ⊢); omega))
  have J4 := Lib.hid (show ∀ (u : World) (p3 : Option Addr), Below w.heap.size w u → Bk.IsT S u p3 (.node c1 (⟨key2, seq2, del2, val2⟩, V2, n2, c2) a) → Calls Try.prog 42 #[.pointer pd, .agg #[.string key3, .int .i64 seq3, .bool del3, .slice V3 n3 c3], .pointer p3] u (GivesT S u (.node d1 (⟨key3, seq3, del3, val3⟩, V3, n3, c3) (.node c1 (⟨key2, seq2, del2, val2⟩, V2, n2, c2) a))) from fun u p3 hu hp =>
    join_any S pd p3 d1 (.node c1 (⟨key2, seq2, del2, val2⟩, V2, n2, c2) a) (⟨key3, seq3, del3, val3⟩, V3, n3, c3) u (levelS HS.out hu) (HDt.out.sm (.of_below hu)) hp (HZy.out.sm (.of_below hu)) (by have := HN.out; (try simp only [Bk.Tr.size] at this ⊢); omega))
  have hgu : g < u.heap.size := Nat.lt_of_lt_of_le hg HBu.out.size
  have hgu2 : g2 < u.heap.size := Nat.lt_of_lt_of_le hg2 HBu.out.size
  have HG := Lib.hid (fun (v : World) (hv : Below u.heap.size u v) => and12 (node_cells hgu (fun (j : Nat) (x : Value) hj => (HBu.out.cell (p := ⟨g, j, none⟩) hg).trans (HC.out j x hj)) v hv) (node_cells hgu2 (fun (j : Nat) (x : Value) hj => (HBu.out.cell (p := ⟨g2, j, none⟩) hg2).trans (HC2.out j x hj)) v hv))
  have qx := HG.out _ (Below.refl _ _)
  have HDx := Lib.hid (HBu.out.drew)
  go_region_held3 (fun wx => wx.cell? ⟨g, 0, none⟩ = some (.string key2) ∧ wx.cell? ⟨g, 1, none⟩ = some (.int .i64 seq2) ∧ wx.cell? ⟨g, 2, none⟩ = some (.bool del2) ∧ wx.cell? ⟨g, 3, none⟩ = some (.slice V2 n2 c2) ∧ wx.cell? ⟨g, 4, none⟩ = some (.pointer (some ⟨g2, 0, none⟩)) ∧ wx.cell? ⟨g, 5, none⟩ = some (.pointer pa) ∧ wx.cell? ⟨g2, 0, none⟩ = some (.string key3) ∧ wx.cell? ⟨g2, 1, none⟩ = some (.int .i64 seq3) ∧ wx.cell? ⟨g2, 2, none⟩ = some (.bool del3) ∧ wx.cell? ⟨g2, 3, none⟩ = some (.slice V3 n3 c3) ∧ wx.cell? ⟨g2, 4, none⟩ = some (.pointer pd) ∧ wx.cell? ⟨g2, 5, none⟩ = some (.pointer pc)) (first | exact qx | exact HG.out _ hbx1 | exact HG.out _ hbx2) (first
    | (go_at_call 42; (with_reducible refine (J3.out _ HDx.out).mono ?_); rintro e vx1 ⟨p3, rfl, hT1, hb'⟩; have HTx1 := Lib.hid hT1; clear hT1; have hbx1 : Below u.heap.size u vx1 := below_next (show Below u.heap.size u u.drew from (Below.refl _ _).drew) hb'; have HBx1 := Lib.hid (HBu.out.trans (hbx1.mono HBu.out.size)); clear hb')
    | (go_at_call 42; (with_reducible refine (J4.out _ _ HBx1.out HTx1.out).mono ?_); rintro e vx2 ⟨p4, rfl, hT2, hb'⟩; have HTx2 := Lib.hid hT2; clear hT2; have hbx2 : Below u.heap.size u vx2 := below_next hbx1 hb'; have HBx2 := Lib.hid (HBu.out.trans (hbx2.mono HBu.out.size)); clear hb'))
  obtain ⟨g3, p5, p6, hp4, hg3, hng3, hc3, hy3, h31, h32⟩ := HTx2.out.node
  subst hp4
  have HC3 := Lib.hid hc3
  have HZx := Lib.hid (HZu.out.below hbx2)
  have HY3 := Lib.hid hy3
  have H31 := Lib.hid h31
  have H32 := Lib.hid h32
  clear hc3 hy3 h31 h32
  have f03 : vx2.cell? ⟨g3, 0, none⟩ = some (.string key3) := HC3.out 0 _ rfl
  have f13 : vx2.cell? ⟨g3, 1, none⟩ = some (.int .i64 seq3) := HC3.out 1 _ rfl
  have f23 : vx2.cell? ⟨g3, 2, none⟩ = some (.bool del3) := HC3.out 2 _ rfl
  have f33 : vx2.cell? ⟨g3, 3, none⟩ = some (.slice V3 n3 c3) := HC3.out 3 _ rfl
  have f43 : vx2.cell? ⟨g3, 4, none⟩ = some (.pointer p5) := HC3.out 4 _ rfl
  have f53 : vx2.cell? ⟨g3, 5, none⟩ = some (.pointer p6) := HC3.out 5 _ rfl
  go_wp2_with fail
  have J1 := Lib.hid (show ∀ (u : World), Below vx2.heap.size vx2 u → Calls Try.prog 42 #[.pointer pl, .agg #[.string key, .int .i64 seq, .bool del, .slice V n c], .pointer p5] u (GivesT S u (.node r (⟨key, seq, del, val⟩, V, n, c) d1)) from fun u hu =>
    join_any S pl p5 r d1 (⟨key, seq, del, val⟩, V, n, c) u (levelS HS.out (HBx2.out.trans (hu.mono HBx2.out.size))) (HRt.out.sm (.of_below (HBx2.out.trans (hu.mono HBx2.out.size)))) (H31.out.sm (.of_below hu)) (HX.out.sm (.of_below (HBx2.out.trans (hu.mono HBx2.out.size)))) (by have := HN.out; (try simp only [Bk.Tr.size] at this ⊢); omega))
  have J2 := Lib.hid (show ∀ (u : World) (p1 : Option Addr), Below vx2.heap.size vx2 u → Bk.IsT S u p1 (.node r (⟨key, seq, del, val⟩, V, n, c) d1) → Calls Try.prog 42 #[.pointer p1, .agg #[.string key3, .int .i64 seq3, .bool del3, .slice V3 n3 c3], .pointer p6] u (GivesT S u (.node (.node r (⟨key, seq, del, val⟩, V, n, c) d1) (⟨key3, seq3, del3, val3⟩, V3, n3, c3) (.node c1 (⟨key2, seq2, del2, val2⟩, V2, n2, c2) a))) from fun u p1 hu hp =>
    join_any S p1 p6 (.node r (⟨key, seq, del, val⟩, V, n, c) d1) (.node c1 (⟨key2, seq2, del2, val2⟩, V2, n2, c2) a) (⟨key3, seq3, del3, val3⟩, V3, n3, c3) u (levelS HS.out (HBx2.out.trans (hu.mono HBx2.out.size))) hp (H32.out.sm (.of_below hu)) (HY3.out.sm (.of_below hu)) (by have := HN.out; (try simp only [Bk.Tr.size] at this ⊢); omega))
  have HG2 := Lib.hid (fun (v : World) (hv : Below vx2.heap.size vx2 v) => and10 (node_cells hg3 HC3.out v hv) (box_cells HZx.out v hv))
  have HBvx2 := HBx2
  have qy := HG2.out _ (Below.refl _ _)
  have HDy := Lib.hid (HBvx2.out.drew)
  go_region_held3 (fun wx => wx.cell? ⟨g3, 0, none⟩ = some (.string key3) ∧ wx.cell? ⟨g3, 1, none⟩ = some (.int .i64 seq3) ∧ wx.cell? ⟨g3, 2, none⟩ = some (.bool del3) ∧ wx.cell? ⟨g3, 3, none⟩ = some (.slice V3 n3 c3) ∧ wx.cell? ⟨g3, 4, none⟩ = some (.pointer p5) ∧ wx.cell? ⟨g3, 5, none⟩ = some (.pointer p6) ∧ wx.cell? ⟨w.heap.size, 0, none⟩ = some (.string key) ∧ wx.cell? ⟨w.heap.size, 1, none⟩ = some (.int .i64 seq) ∧ wx.cell? ⟨w.heap.size, 2, none⟩ = some (.bool del) ∧ wx.cell? ⟨w.heap.size, 3, none⟩ = some (.slice V n c)) (first | exact qy | exact HG2.out _ hby1 | exact HG2.out _ hby2) (first
    | (go_at_call 42; (with_reducible refine (J1.out _ (Below.refl _ _).drew).mono ?_); rintro e vy1 ⟨p1, rfl, hT1, hb'⟩; have HTy1 := Lib.hid hT1; clear hT1; have hby1 : Below vx2.heap.size vx2 vy1 := below_next (show Below vx2.heap.size vx2 vx2.drew from (Below.refl _ _).drew) hb'; have HBy1 := Lib.hid (HBvx2.out.trans (hby1.mono HBvx2.out.size)); clear hb')
    | (go_at_call 42; (with_reducible refine (J2.out _ _ hby1 HTy1.out).mono ?_); rintro e vy2 ⟨p2, rfl, hT2, hb'⟩; have HTy2 := Lib.hid hT2; clear hT2; have hby2 : Below vx2.heap.size vx2 vy2 := below_next hby1 hb'; have HBy2 := Lib.hid (HBvx2.out.trans (hby2.mono HBvx2.out.size)); clear hb'))
  go_wp2
  go_ret
  exact ⟨_, rfl, HTy2.out, HBy2.out⟩
end Go.Proofs.Ytfmbnoafmnbhcaa
