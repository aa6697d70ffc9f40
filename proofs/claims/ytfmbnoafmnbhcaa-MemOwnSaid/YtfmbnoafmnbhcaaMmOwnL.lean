/- Words for MemOwn. -/
import Derived.Test.YtfmbnoafmnbhcaaMmRangeS
namespace Go.Proofs.Ytfmbnoafmnbhcaa
open Go.RowKit
namespace Bk
theorem putE_leaf {x : P} (h : ok x.1 = true) (hs : 0 ≤ x.1.seq) : putE .leaf 0 x = 0 := by
  unfold putE
  rw [if_neg (by rw [h]; decide), if_neg]
  rintro (h2 | h2)
  · omega
  · cases h2
theorem pick_one {T : Tr} {x : P} (h : T.row = [x]) (hs : Sorted T.row) : pick x.1.key (T.from_ (want x.1.key x.1.seq)) = some x := by
  rw [Tr.from_row _ T hs, h]
  have e : cmp x.1 (want x.1.key x.1.seq) = 0 := by
    unfold cmp want
    dsimp only
    rw [cmpS_self, if_neg (fun e => e rfl), if_neg (by omega), if_neg (by omega)]
  rw [List.filter_cons_of_pos (by rw [e]; decide)]
  simp [pick]
end Bk
set_option maxRecDepth 100000 in
theorem allS_any (S : Nat → Prop) (m : Nat) (T : Bk.Tr) (top : Int) (w : World) (hM : Bk.IsM S w m T top) (hI : Bk.Inv T top) (hlen : T.row.length ≤ 100000) : Calls Try.prog 19 #[.pointer (some ⟨m, 0, none⟩)] w (GivesRangeS w T.row) := by
  have h := rangeS_any S m T top ⟨#[]⟩ ⟨#[]⟩ w hM (by rw [Bk.from_empty hI]; exact hlen)
  rw [Bk.from_empty hI, take_all (p := Bk.okH ⟨#[]⟩) (fun x _ => rfl)] at h
  have H := Lib.hid h
  clear h hM hI hlen
  generalize T.row = xs at H ⊢
  go_enter Try.func19, Try.ntmps19
  go_wp2_with (go_at_call 26; refine H.out.mono ?_; rintro e w1 ⟨B, c, es, rfl, h1, h2, h3⟩)
  go_ret
  exact ⟨B, c, es, rfl, h1, h2, h3⟩
/-- What stays through the law's stores: the Mem, the entry's box, what came in. -/
structure OSt (S : Nat → Prop) (w u : World) (m g8 : Nat) (K : ByteArray) (A6 : Option Addr) (n c6 : Nat) (T : Bk.Tr) : Prop where
  mem : Bk.IsM S u m T 1
  bx : Holds u g8 [.string K, .int .i64 1, .bool false, .slice A6 n c6]
  below : Below w.heap.size w u
  low : ∀ k, S k → w.heap.size ≤ k ∧ k < u.heap.size
theorem OSt.next {S : Nat → Prop} {w u u' : World} {m g8 : Nat} {K : ByteArray} {A6 : Option Addr} {n c6 : Nat} {T : Bk.Tr} (h : OSt S w u m g8 K A6 n c6 T) (hb : Below u.heap.size u u') : OSt S w u' m g8 K A6 n c6 T :=
  ⟨h.mem.below hb, h.bx.below hb, below_next h.below hb, fun k hk => ⟨(h.low k hk).1, Nat.lt_of_lt_of_le (h.low k hk).2 hb.size⟩⟩
theorem OSt.store {S : Nat → Prop} {w u : World} {m g8 : Nat} {K : ByteArray} {A6 : Option Addr} {n c6 : Nat} {T : Bk.Tr} (h : OSt S w u m g8 K A6 n c6 T) {g : Nat} (j : Nat) (v : Value) (hg : S g) (hm : m ≠ g) (h8 : g8 ≠ g) : OSt S w (u.setCell ⟨g, j, none⟩ v) m g8 K A6 n c6 T := by
  obtain ⟨p, h1, h2, h3⟩ := h.mem
  exact ⟨⟨p, h1.other hm, h2.sm (Sm.of_grown (grown_setCell u ⟨g, j, none⟩ v) hg), h3⟩, h.bx.other h8, below_set h.below _ _ (h.low g hg).1, fun k hk => ⟨(h.low k hk).1, by simpa [World.setCell] using (h.low k hk).2⟩⟩
/-- More blocks to write into: those that came later. -/
theorem OSt.later {S U : Nat → Prop} {w u : World} {m g8 : Nat} {K : ByteArray} {A6 : Option Addr} {n c6 : Nat} {T : Bk.Tr} (h : OSt S w u m g8 K A6 n c6 T) {u' : World} (hb : Below u.heap.size u u') (hU : ∀ k, U k → S k ∨ (u.heap.size ≤ k ∧ k < u'.heap.size)) (hm : U m) : OSt U w u' m g8 K A6 n c6 T := by
  obtain ⟨p, h1, h2, _⟩ := h.mem
  refine ⟨⟨p, h1.below hb, (h2.later (fun k hk => (hU k hk).imp id And.left)).below hb, hm⟩, h.bx.below hb, below_next h.below hb, fun k hk => ?_⟩
  rcases hU k hk with h4 | ⟨h4, h5⟩
  · exact ⟨(h.low k h4).1, Nat.lt_of_lt_of_le (h.low k h4).2 hb.size⟩
  · exact ⟨Nat.le_trans h.below.size h4, h5⟩
/-- The block of a row of bytes. -/
def Blk (V : Option Addr) (k : Nat) : Prop := ∃ o, V = some ⟨k, o, none⟩
theorem blk_in {w : World} {base n c k : Nat} {V : Option Addr} {l : List Nat} (h : Own w base V n c l) (hk : Blk V k) : base ≤ k ∧ k < w.heap.size := by
  obtain ⟨o, rfl⟩ := hk
  exact h.blk k rfl
theorem own_at {w : World} {base n c : Nat} {V : Option Addr} {l : List Nat} (h : Own w base V n c l) (h0 : 0 < n) : ∃ g, V = some ⟨g, 0, none⟩ := by
  obtain ⟨g, e, _⟩ := h.form h0
  exact ⟨g, e⟩
end Go.Proofs.Ytfmbnoafmnbhcaa
