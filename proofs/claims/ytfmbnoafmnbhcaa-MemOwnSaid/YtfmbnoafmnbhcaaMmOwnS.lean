/- own, with its row in memory of the call's own. -/
import Derived.Test.YtfmbnoafmnbhcaaMmLaw
namespace Go.Proofs.Ytfmbnoafmnbhcaa
open Go.RowKit
theorem own_base {w : World} {base base' n cap : Nat} {A : Option Addr} {l : List Nat} (h : Own w base A n cap l) (hb : base' ≤ base) : Own w base' A n cap l := by
  refine ⟨h.1, h.2.1, h.2.2.1, ?_⟩
  rcases h.2.2.2 with hn | ⟨g, c, cur, hv, hbg, rest⟩
  · exact .inl hn
  · exact .inr ⟨g, c, cur, hv, Nat.le_trans hb hbg, rest⟩
theorem Own.keepO {v v' : World} {base n cap : Nat} {A : Option Addr} {l : List Nat} (h : Own v base A n cap l) {row : Option Nat} (hg : v.grownBy v' row) (hr : ∀ r, row = some r → ∃ o : Obj, v.heap[r]? = some o ∧ o.isCells = false) : Own v' base A n cap l := by
  refine h.grown hg (.inr fun g e e2 => ?_)
  rcases h.2.2.2 with ⟨h1, _⟩ | ⟨g', cap', cur, h1, _, hgb, _⟩
  · rw [h1] at e2; cases e2
  · rw [h1] at e2
    have : g' = g := by simpa [Value.ownBlock] using e2
    subst this
    obtain ⟨o, ho, hc⟩ := hr _ e
    rw [hgb] at ho
    injection ho with ho
    subst ho
    cases hc
/-- An entry in memory of its own. -/
def GivesOwnS (w : World) (x : Bk.P) (e : Ending) (w' : World) : Prop :=
  ∃ (V : Option Addr) (c : Nat), e = .returned (.agg (Bk.cells (x.1, V, x.2.2.1, c)).toArray) ∧ Bk.At w' (x.1, V, x.2.2.1, c) ∧ Own w' w.heap.size V x.2.2.1 c x.1.val ∧ Below w.heap.size w w'
set_option maxRecDepth 100000 in
set_option maxHeartbeats 2000000 in
theorem ownS_any (x : Bk.P) (w : World) (h : Bk.At w x) : Calls Try.prog 35 #[.agg (Bk.cells x).toArray] w (GivesOwnS w x) := by
  obtain ⟨⟨key, seq, del, val⟩, V, n, c⟩ := x
  obtain ⟨hr, hcap, hk, h1, h2, hn⟩ := h
  have hr : Rd w V n val := hr
  have hn : n ≤ 1000000 := hn
  have HK := Lib.hid (show key.size ≤ 1000000 ∧ seq < 9223372036854775808 ∧ -9223372036854775808 ≤ seq from ⟨hk, h1, h2⟩)
  clear hk h1 h2
  show Calls _ _ #[.agg #[.string key, .int .i64 seq, .bool del, .slice V n c]] _ _
  have HZ := Lib.hid (show Holds ((w.alloc (.cells #[Value.string key, .int .i64 seq, .bool del, .slice V n c] 24)).alloc (.cells #[Value.string ⟨#[]⟩, .int .i64 0, .bool false, .slice none 0 0] 24)) w.heap.size [Value.string key, .int .i64 seq, .bool del, .slice V n c] from (Holds.new w #[Value.string key, .int .i64 seq, .bool del, .slice V n c] 24).alloc _)
  have HY := Lib.hid (show Holds ((w.alloc (.cells #[Value.string key, .int .i64 seq, .bool del, .slice V n c] 24)).alloc (.cells #[Value.string ⟨#[]⟩, .int .i64 0, .bool false, .slice none 0 0] 24)) (w.heap.size + 1) [Value.string ⟨#[]⟩, .int .i64 0, .bool false, .slice none 0 0] by
    have := Holds.new (w.alloc (.cells #[Value.string key, .int .i64 seq, .bool del, .slice V n c] 24)) #[Value.string ⟨#[]⟩, .int .i64 0, .bool false, .slice none 0 0] 24
    rwa [World.size_alloc] at this)
  have HB := Lib.hid (show Below w.heap.size w ((w.alloc (.cells #[Value.string key, .int .i64 seq, .bool del, .slice V n c] 24)).alloc (.cells #[Value.string ⟨#[]⟩, .int .i64 0, .bool false, .slice none 0 0] 24)) from ((Below.refl _ _).alloc (Nat.le_refl _) _).alloc (by simp) _)
  have HR := Lib.hid (show Rd ((w.alloc (.cells #[Value.string key, .int .i64 seq, .bool del, .slice V n c] 24)).alloc (.cells #[Value.string ⟨#[]⟩, .int .i64 0, .bool false, .slice none 0 0] 24)) V n val from (hr.alloc _).alloc _)
  have HO := Lib.hid (Own.none_ ((w.alloc (.cells #[Value.string key, .int .i64 seq, .bool del, .slice V n c] 24)).alloc (.cells #[Value.string ⟨#[]⟩, .int .i64 0, .bool false, .slice none 0 0] 24)) (w.heap.size + 2))
  clear hr
  go_enter Try.func35, Try.ntmps35
  go_wp2_with (at_builtin; refine wpList_appB rfl _ _ rfl rfl HO.out V n c val rfl HR.out (by omega) (by simp) ?_; intro A6 cap6 w6 hg6; have HF := Lib.hid (own_facts HB.out HY.out HZ.out hg6); clear hg6; have f0 := HF.out.1 0 _ rfl; have f1 := HF.out.1 1 _ rfl; have f2 := HF.out.1 2 _ rfl; have f3 := HF.out.1 3 _ rfl; have f4 := HF.out.2.1; have f5 := HF.out.2.2.1.2.2; have f6 := HF.out.2.2.1.1; have g0 := HF.out.2.2.1.2.1 0 _ rfl; have g1 := HF.out.2.2.1.2.1 1 _ rfl; have g2 := HF.out.2.2.1.2.1 2 _ rfl; have g3 := HF.out.2.2.1.2.1 3 _ rfl)
  obtain ⟨v, hv, hH, hO2, hB2⟩ := own_last (.slice A6 n cap6) (.string key) (.int .i64 seq) (.bool del) (.slice A6 n cap6) rfl HF.out.2.2.1 HF.out.2.2.2.1 HF.out.2.2.2.2
  rw [← hv]
  clear hv f0 f1 f2 f3 f4 f5 f6 g0 g1 g2 g3 HF
  have c0 := hH.2.1 0 _ rfl
  have c1 := hH.2.1 1 _ rfl
  have c2 := hH.2.1 2 _ rfl
  have c3 := hH.2.1 3 _ rfl
  refine bodyPost_ret (v := .agg #[.string key, .int .i64 seq, .bool del, .slice A6 n cap6]) (by simp [results, Try.results35, go_sem, c0, c1, c2, c3]) rfl ⟨A6, cap6, rfl, ⟨hO2.rd, hO2.cap, HK.out.1, HK.out.2.1, HK.out.2.2, hn⟩, own_base hO2 (by omega), hB2⟩
end Go.Proofs.Ytfmbnoafmnbhcaa
