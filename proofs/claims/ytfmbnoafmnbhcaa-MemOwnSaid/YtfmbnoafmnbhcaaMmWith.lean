/- Trees in memory: levelled, and with one more. -/
import Derived.Test.YtfmbnoafmnbhcaaMmLevB
namespace Go.Proofs.Ytfmbnoafmnbhcaa
open Go.RowKit
set_option maxRecDepth 100000 in
set_option maxHeartbeats 4000000 in
theorem levelC (S : Nat → Prop) (pl pr : Option Addr) (l r : Bk.Tr) (x : Bk.P) (w : World) (hS : ∀ k, S k → k < w.heap.size) (hl : Bk.IsT S w pl l) (hr : Bk.IsT S w pr r) (hx : Bk.AtS S w x) (hn : l.size + r.size ≤ 1000000)
    (h1 : ¬ r.ht + 1 < l.ht) (h2 : ¬ l.ht + 1 < r.ht) :
    Calls Try.prog 43 #[.pointer pl, .agg (Bk.cells x).toArray, .pointer pr] w (GivesT S w (.node l x r)) := by
  have m1 : r.ht ≤ 1000000 := Nat.le_trans r.ht_size (by omega)
  have m2 : l.ht ≤ 1000000 := Nat.le_trans l.ht_size (by omega)
  have TL := Lib.hid (fun (u : World) (hu : Below w.heap.size w u) => tall_any S _ _ u (hl.below hu))
  have TR := Lib.hid (fun (u : World) (hu : Below w.heap.size w u) => tall_any S _ _ u (hr.below hu))
  have J := Lib.hid (fun (u : World) (hu : Below w.heap.size w u) => join_any S pl pr l r x u (levelS hS hu) (hl.below hu) (hr.below hu) (hx.sm (.of_below hu)) hn)
  clear hS hl hr hx hn
  generalize r.ht = nr at TR h2 h1 m1
  generalize l.ht = nl at TL h1 h2 m2
  have i1 : ¬ (nr : Int) + 1 < (nl : Int) := by omega
  have i2 : ¬ (nl : Int) + 1 < (nr : Int) := by omega
  obtain ⟨⟨key, seq, del, val⟩, V, n, c⟩ := x
  clear h1 h2
  show Calls _ _ #[.pointer pl, .agg #[.string key, .int .i64 seq, .bool del, .slice V n c], .pointer pr] _ _
  have J2 : Hid (∀ u, Below w.heap.size w u → Calls Try.prog 42 #[.pointer pl, .agg #[.string key, .int .i64 seq, .bool del, .slice V n c], .pointer pr] u (GivesT S u (.node l (⟨key, seq, del, val⟩, V, n, c) r))) := Lib.hid J.out
  clear J
  have HB := Lib.hid (show Below w.heap.size w (w.alloc (.cells #[Value.string key, .int .i64 seq, .bool del, .slice V n c] 59)) from (Below.refl _ _).alloc (Nat.le_refl _) _)
  have HZ := Lib.hid (Holds.new w #[Value.string key, .int .i64 seq, .bool del, .slice V n c] 59)
  go_enter Try.func43, Try.ntmps43
  go_wp2_with fail
  generalize (w.alloc (.cells #[Value.string key, .int .i64 seq, .bool del, .slice V n c] 59)) = v at HB HZ ⊢
  have q0 := HZ.out.2.1 0 _ rfl
  have q1 := HZ.out.2.1 1 _ rfl
  have q2 := HZ.out.2.1 2 _ rfl
  have q3 := HZ.out.2.1 3 _ rfl
  go_wp2_with (first | (go_at_call 46; (first | (with_reducible refine (TL.out _ HB.out).mono ?_) | (with_reducible refine (TR.out _ HB.out).mono ?_)); rintro e w1 ⟨rfl, rfl⟩) | (go_at_call 42; (with_reducible refine (J2.out _ HB.out).mono ?_); rintro e v3 ⟨p, rfl, hT, hb⟩))
  go_ret
  exact ⟨_, rfl, hT, below_next HB.out hb⟩
/-- The balanced tree of an item and two sides. -/
theorem level_any (S : Nat → Prop) (pl pr : Option Addr) (l r : Bk.Tr) (x : Bk.P) (w : World) (hS : ∀ k, S k → k < w.heap.size) (hl : Bk.IsT S w pl l) (hr : Bk.IsT S w pr r) (hx : Bk.AtS S w x) (hn : l.size + r.size + 1 ≤ 1000000) :
    Calls Try.prog 43 #[.pointer pl, .agg (Bk.cells x).toArray, .pointer pr] w (GivesT S w (Bk.Tr.level l x r)) := by
  unfold Bk.Tr.level
  split
  · rename_i h1
    cases l with
    | leaf => simp [Bk.Tr.ht] at h1
    | node a y b =>
      dsimp only
      split
      · rename_i h2
        cases b with
        | leaf => simp [Bk.Tr.ht] at h2
        | node c z d => exact levelA2 S pl pr a c d r y z x w hS hl hr hx (by simp only [Bk.Tr.size] at hn; omega) h1 h2
      · rename_i h2
        exact levelA1 S pl pr a b r y x w hS hl hr hx (by simp only [Bk.Tr.size] at hn; omega) h1 h2
  · rename_i h1
    split
    · rename_i h3
      cases r with
      | leaf => simp [Bk.Tr.ht] at h3
      | node a y b =>
        dsimp only
        split
        · rename_i h2
          cases a with
          | leaf => simp [Bk.Tr.ht] at h2
          | node c z d => exact levelB2 S pl pr b d c l y z x w hS hr hl hx (by simp only [Bk.Tr.size] at hn; omega) h3 h2
        · rename_i h2
          exact levelB1 S pl pr b a l y x w hS hr hl hx (by simp only [Bk.Tr.size] at hn; omega) h3 h2
    · rename_i h3
      exact levelC S pl pr l r x w hS hl hr hx (by omega) h1 h3
end Go.Proofs.Ytfmbnoafmnbhcaa
