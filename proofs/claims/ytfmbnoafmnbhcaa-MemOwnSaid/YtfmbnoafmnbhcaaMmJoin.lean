/- Trees in memory: joined, levelled, with one more. -/
import Derived.Test.YtfmbnoafmnbhcaaMmMem
import Derived.Deep.RegionHeld3
namespace Go.Proofs.Ytfmbnoafmnbhcaa
open Go.RowKit
theorem max1 (a b : Nat) (h1 : a ≤ 1000000) (h2 : b ≤ 1000000) : IntKind.i64.wrap (1 + if a < b then (b : Int) else (a : Int)) = ((1 + max a b : Nat) : Int) := by
  rw [IntKind.wrap_i64]
  split <;> omega
/-- A tree that this call made. -/
def GivesT (S : Nat → Prop) (w : World) (T : Bk.Tr) (e : Ending) (w' : World) : Prop := ∃ p, e = .returned (.pointer p) ∧ Bk.IsT S w' p T ∧ Below w.heap.size w w'
theorem wrap1 (k : Nat) (h : k ≤ 1000000000) : IntKind.i64.wrap (1 + (k : Int)) = ((1 + k : Nat) : Int) := by rw [IntKind.wrap_i64]; omega
set_option maxRecDepth 100000 in
set_option maxHeartbeats 2000000 in
theorem join_any (S : Nat → Prop) (pl pr : Option Addr) (l r : Bk.Tr) (x : Bk.P) (w : World) (hS : ∀ k, S k → k < w.heap.size) (hl : Bk.IsT S w pl l) (hr : Bk.IsT S w pr r) (hx : Bk.AtS S w x) (hn : l.size + r.size ≤ 1000000) :
    Calls Try.prog 42 #[.pointer pl, .agg (Bk.cells x).toArray, .pointer pr] w (GivesT S w (.node l x r)) := by
  have hm1 : l.ht ≤ 1000000 := Nat.le_trans l.ht_size (by omega)
  have hm2 : r.ht ≤ 1000000 := Nat.le_trans r.ht_size (by omega)
  have HL := Lib.hid hl
  have HR := Lib.hid hr
  have HX := Lib.hid hx
  clear hl hr hx
  obtain ⟨⟨key, seq, del, val⟩, V, n, c⟩ := x
  show Calls _ _ #[.pointer pl, .agg #[.string key, .int .i64 seq, .bool del, .slice V n c], .pointer pr] _ _
  have TL := Lib.hid (fun (u : World) (hu : Below w.heap.size w u) => tall_any S pl l u (HL.out.below hu))
  have TR := Lib.hid (fun (u : World) (hu : Below w.heap.size w u) => tall_any S pr r u (HR.out.below hu))
  obtain ⟨a, ha⟩ : ∃ a, a = l.ht := ⟨_, rfl⟩
  obtain ⟨b, hb⟩ : ∃ b, b = r.ht := ⟨_, rfl⟩
  rw [← ha] at TL hm1
  rw [← hb] at TR hm2
  have HH := Lib.hid (And.intro ha hb)
  clear ha hb hn
  have HB := Lib.hid (show Below w.heap.size w (w.alloc (.cells #[Value.string key, .int .i64 seq, .bool del, .slice V n c] 59)) from (Below.refl _ _).alloc (Nat.le_refl _) _)
  have HZ := Lib.hid (Holds.new w #[Value.string key, .int .i64 seq, .bool del, .slice V n c] 59)
  go_enter Try.func42, Try.ntmps42
  go_wp2_with fail
  generalize (w.alloc (.cells #[Value.string key, .int .i64 seq, .bool del, .slice V n c] 59)) = v at HB HZ ⊢
  have c0 := HZ.out.2.1 0 _ rfl
  have c1 := HZ.out.2.1 1 _ rfl
  have c2 := HZ.out.2.1 2 _ rfl
  have c3 := HZ.out.2.1 3 _ rfl
  have TL2 := Lib.hid (TL.out v.drew HB.out.drew)
  have TR2 := Lib.hid (TR.out v.drew HB.out.drew)
  go_region_held3 (fun wx => wx.cell? ⟨w.heap.size, 0, none⟩ = some (.string key) ∧ wx.cell? ⟨w.heap.size, 1, none⟩ = some (.int .i64 seq) ∧ wx.cell? ⟨w.heap.size, 2, none⟩ = some (.bool del) ∧ wx.cell? ⟨w.heap.size, 3, none⟩ = some (.slice V n c)) (first | exact ⟨c0, c1, c2, c3⟩ | go_keep) (first | (go_at_call 46; refine TL2.out.mono ?_; rintro e w1 ⟨rfl, rfl⟩) | (go_at_call 46; refine TR2.out.mono ?_; rintro e w1 ⟨rfl, rfl⟩))
  rw [max1 a b hm1 hm2]
  obtain ⟨m, hm⟩ : ∃ m : Nat, m = 1 + max a b := ⟨_, rfl⟩
  rw [← hm]
  have HM := Lib.hid (show m = 1 + max l.ht r.ht by rw [hm, HH.out.1, HH.out.2])
  clear hm HH TL2 TR2 TL TR
  go_wp2
  all_goals
    go_ret
    have hm := HM.out
    subst hm
    have hv : Below w.heap.size w (v.alloc (.cells #[Value.string key, .int .i64 seq, .bool del, .slice V n c, .pointer pl, .pointer pr, .int .i64 ((1 + max l.ht r.ht : Nat) : Int)] 75)).drew := (HB.out.alloc HB.out.size _).drew
    have hz := HB.out.size
    refine ⟨_, rfl, ⟨v.heap.size, pl, pr, rfl, by simp, fun h => by have := hS _ h; omega, fun j u hu => ?_, HX.out.sm (.of_below hv), HL.out.below hv, HR.out.below hv⟩, hv⟩
    rw [World.cell?_drew, World.cell?_alloc_mark]
    simpa [Bk.cells, Bk.Tr.ht] using hu
end Go.Proofs.Ytfmbnoafmnbhcaa
