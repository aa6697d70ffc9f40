/- Trees of entries in memory: nodes that are never written again; how high one is; an entry whose value is copied. -/
import Derived.Test.YtfmbnoafmnbhcaaMmTree
import Derived.Test.YtfmbnoafmnbhcaaMmFew
namespace Go.Proofs.Ytfmbnoafmnbhcaa
open Go.RowKit
/-- Only blocks of S, and new ones, may be other. -/
structure Sm (S : Nat → Prop) (w w' : World) : Prop where
  size : w.heap.size ≤ w'.heap.size
  same : ∀ k, k < w.heap.size → ¬ S k → w'.heap[k]? = w.heap[k]?
theorem Sm.refl (S : Nat → Prop) (w : World) : Sm S w w := ⟨Nat.le_refl _, fun _ _ _ => rfl⟩
theorem Sm.trans {S : Nat → Prop} {a b c : World} (h : Sm S a b) (k : Sm S b c) : Sm S a c := ⟨Nat.le_trans h.size k.size, fun i hi hs => (k.same i (Nat.lt_of_lt_of_le hi h.size) hs).trans (h.same i hi hs)⟩
theorem Sm.of_below {S : Nat → Prop} {w w' : World} (h : Below w.heap.size w w') : Sm S w w' := ⟨h.size, fun k hk _ => h.block k hk⟩
theorem Sm.of_grown {S : Nat → Prop} {w w' : World} {b : Nat} (h : w.grownBy w' (some b)) (hb : S b) : Sm S w w' := ⟨h.size, fun k hk hs => h.block k hk (fun e => by injection e with e; subst e; exact hs hb)⟩
theorem Sm.mono {S T : Nat → Prop} {w w' : World} (h : Sm S w w') (hs : ∀ k, S k → T k) : Sm T w w' := ⟨h.size, fun k hk ht => h.same k hk (fun e => ht (hs k e))⟩
theorem Sm.cell {S : Nat → Prop} {w w' : World} (h : Sm S w w') {a : Addr} (hb : a.block < w.heap.size) (hs : ¬ S a.block) : w'.cell? a = w.cell? a := World.cell?_of_block (h.same _ hb hs)
theorem Sm.frozen {S : Nat → Prop} {w w' : World} (h : Sm S w w') {a : Addr} (hb : a.block < w.heap.size) (hs : ¬ S a.block) : w'.frozen? a = w.frozen? a := World.frozen?_of_block (h.same _ hb hs)
/-- A slice that lies in none of these blocks. -/
def Av (S : Nat → Prop) (A : Option Addr) (n : Nat) : Prop := 0 < n → ∀ g o, A = some ⟨g, o, none⟩ → ¬ S g
theorem Rd.sm {S : Nat → Prop} {w w' : World} {A : Option Addr} {n : Nat} {l : List Nat} (h : Rd w A n l) (hs : Sm S w w') (ha : Av S A n) : Rd w' A n l := by
  refine ⟨h.1, h.2.1, fun hn => ?_⟩
  obtain ⟨b, o, rfl, hb, hc⟩ := h.2.2 hn
  exact ⟨b, o, rfl, Nat.lt_of_lt_of_le hb hs.size, fun j x hx => (hs.cell (a := ⟨b, o + j, none⟩) hb (ha hn b o rfl)).trans (hc j x hx)⟩
theorem RdC.sm {S : Nat → Prop} {w w' : World} {s : Nat} {A : Option Addr} {n : Nat} {l : List Value} (h : RdC s w A n l) (hs : Sm S w w') (ha : Av S A n) : RdC s w' A n l := by
  refine ⟨h.1, fun hn => ?_⟩
  obtain ⟨b, o, rfl, hb, hc⟩ := h.2 hn
  exact ⟨b, o, rfl, Nat.lt_of_lt_of_le hb hs.size, fun j x hx => (hs.cell (a := ⟨b, o + j, none⟩) hb (ha hn b o rfl)).trans (hc j x hx)⟩
theorem Holds.sm {S : Nat → Prop} {w w' : World} {b : Nat} {cs : List Value} (k : Holds w b cs) (h : Sm S w w') (hs : ¬ S b) : Holds w' b cs :=
  ⟨Nat.lt_of_lt_of_le k.1 h.size, fun i v hv => (h.cell (a := ⟨b, i, none⟩) k.1 hs).trans (k.2.1 i v hv), fun i => (h.frozen (a := ⟨b, i, none⟩) k.1 hs).trans (k.2.2 i)⟩
namespace Bk
/-- An entry whose value lies in none of these blocks. -/
def AtS (S : Nat → Prop) (w : World) (p : P) : Prop := At w p ∧ Av S p.2.1 p.2.2.1
theorem AtS.sm {S : Nat → Prop} {w w' : World} {p : P} (h : AtS S w p) (hs : Sm S w w') : AtS S w' p := ⟨⟨h.1.1.sm hs h.2, h.1.2⟩, h.2⟩
/-- The tree T lies at p, in none of the blocks of S. -/
def IsT (S : Nat → Prop) (w : World) : Option Addr → Tr → Prop
  | p, .leaf => p = none
  | p, .node l x r => ∃ b pl pr, p = some ⟨b, 0, none⟩ ∧ b < w.heap.size ∧ ¬ S b ∧ (∀ (j : Nat) (u : Value), (cells x ++ [.pointer pl, .pointer pr, .int .i64 ((Tr.node l x r).ht : Int)])[j]? = some u → w.cell? ⟨b, j, none⟩ = some u) ∧ AtS S w x ∧ IsT S w pl l ∧ IsT S w pr r
theorem IsT.sm {S : Nat → Prop} {w w' : World} (hs : Sm S w w') : ∀ {p : Option Addr} {T : Tr}, IsT S w p T → IsT S w' p T
  | _, .leaf, h => h
  | _, .node _ _ _, ⟨b, pl, pr, hp, hb, hn, hc, hx, hl, hr⟩ => ⟨b, pl, pr, hp, Nat.lt_of_lt_of_le hb hs.size, hn, fun j u hu => (hs.cell (a := ⟨b, j, none⟩) hb hn).trans (hc j u hu), hx.sm hs, IsT.sm hs hl, IsT.sm hs hr⟩
theorem IsT.below {S : Nat → Prop} {w w' : World} {p : Option Addr} {T : Tr} (h : IsT S w p T) (hb : Below w.heap.size w w') : IsT S w' p T := h.sm (.of_below hb)
theorem IsT.entries {S : Nat → Prop} {w : World} : ∀ {p : Option Addr} {T : Tr}, IsT S w p T → ∀ x ∈ T.row, AtS S w x
  | _, .leaf, _, x, hx => by cases hx
  | _, .node l y r, ⟨_, _, _, _, _, _, _, hy, hl, hr⟩, x, hx => by
    rcases List.mem_append.1 hx with h | h
    · exact hl.entries x h
    · rcases List.mem_cons.1 h with rfl | h
      · exact hy
      · exact hr.entries x h
end Bk
set_option maxRecDepth 100000 in
theorem tall_any (S : Nat → Prop) (p : Option Addr) (T : Bk.Tr) (w : World) (h : Bk.IsT S w p T) : Calls Try.prog 46 #[.pointer p] w fun e w' => e = .returned (.int .i64 (T.ht : Int)) ∧ w' = w := by
  cases T with
  | leaf =>
    obtain rfl : p = none := h
    go_enter Try.func46, Try.ntmps46
    go_wp2
    go_ret
    exact ⟨rfl, rfl⟩
  | node l x r =>
    obtain ⟨b, pl, pr, rfl, hb, hn, hc, hx, hl, hr⟩ := h
    have e6 : w.cell? ⟨b, 6, none⟩ = some (.int .i64 ((Bk.Tr.node l x r).ht : Int)) := hc 6 _ rfl
    generalize (Bk.Tr.node l x r).ht = k at e6 ⊢
    clear hc hl hr hx
    go_enter Try.func46, Try.ntmps46
    go_wp2
    go_ret
    exact ⟨rfl, rfl⟩
theorem own_facts {w v v' : World} {x y : List Value} {A' : Option Addr} {n cap : Nat} {l : List Nat} (hB : Below w.heap.size w v) (hY : Holds v (w.heap.size + 1) y) (hZ : Holds v w.heap.size x) (hg : Grew v v' (w.heap.size + 2) none A' 0 0 (0 + n) cap ([] ++ l)) :
    (∀ (i : Nat) u, x[i]? = some u → v'.cell? ⟨w.heap.size, i, none⟩ = some u) ∧ (∀ i, v'.frozen? ⟨w.heap.size, i, none⟩ = false) ∧ Holds v' (w.heap.size + 1) y ∧ Own v' (w.heap.size + 2) A' n cap l ∧ Below w.heap.size w v' := by
  have h1 : Below v.heap.size v v' := hg.below (Below.refl _ _) (Nat.le_refl _) (fun g e => by cases e)
  have z := hZ.below h1
  exact ⟨z.2.1, z.2.2, hY.below h1, by have := hg.own; rw [Nat.zero_add, List.nil_append] at this; exact this, below_next hB h1⟩
theorem own_last {w v : World} {y : List Value} {y0 y1 y2 y3 : Value} {A : Option Addr} {n cap : Nat} {l : List Nat} (u x0 x1 x2 x3 : Value) (hy : y = [y0, y1, y2, y3]) (hY : Holds v (w.heap.size + 1) y) (hO : Own v (w.heap.size + 2) A n cap l) (hB : Below w.heap.size w v) :
    ∃ v', v' = (((((v.setCell ⟨w.heap.size, 3, none⟩ u).setCell ⟨w.heap.size + 1, 0, none⟩ x0).setCell ⟨w.heap.size + 1, 1, none⟩ x1).setCell ⟨w.heap.size + 1, 2, none⟩ x2).setCell ⟨w.heap.size + 1, 3, none⟩ x3) ∧ Holds v' (w.heap.size + 1) [x0, x1, x2, x3] ∧ Own v' (w.heap.size + 2) A n cap l ∧ Below w.heap.size w v' := by
  subst hy
  refine ⟨_, rfl, (hY.other (by omega)).set4 _ _ _ _, ?_, below_set4 (below_set hB _ _ (Nat.le_refl _)) _ _ _ _ _ (by omega)⟩
  exact own_far (own_far (own_far (own_far (own_far hO (by omega) _) (by omega) _) (by omega) _) (by omega) _) (by omega) _
/-- An entry in memory of its own. -/
def GivesOwn (w : World) (x : Bk.P) (e : Ending) (w' : World) : Prop :=
  ∃ (V : Option Addr) (c : Nat), e = .returned (.agg (Bk.cells (x.1, V, x.2.2.1, c)).toArray) ∧ Bk.At w' (x.1, V, x.2.2.1, c) ∧ (0 < x.2.2.1 → ∀ g o, V = some ⟨g, o, none⟩ → w.heap.size ≤ g) ∧ Below w.heap.size w w'
set_option maxRecDepth 100000 in
set_option maxHeartbeats 2000000 in
theorem own_any (x : Bk.P) (w : World) (h : Bk.At w x) : Calls Try.prog 35 #[.agg (Bk.cells x).toArray] w (GivesOwn w x) := by
  obtain ⟨⟨key, seq, del, val⟩, V, n, c⟩ := x
  obtain ⟨hr, hcap, hk, h1, h2, hn⟩ := h
  have hr : Rd w V n val := hr
  have hn : n ≤ 1000000 := hn
  have HK := Lib.hid (show key.size ≤ 1000000 ∧ seq < 9223372036854775808 ∧ -9223372036854775808 ≤ seq from ⟨hk, h1, h2⟩)
  clear hk h1 h2
  show Calls _ _ #[.agg #[.string key, .int .i64 seq, .bool del, .slice V n c]] _ _
  have HZ := Lib.hid (show Holds ((w.alloc (.cells #[Value.string key, .int .i64 seq, .bool del, .slice V n c] 24)).alloc (.cells #[Value.string ⟨#[]⟩, .int .i64 0, .bool false, .slice none 0 0] 24)) w.heap.size [Value.string key, .int .i64 seq, .bool del, .slice V n c] from (Holds.new w #[Value.string key, .int .i64 seq, .bool del, .slice V n c] 24).alloc _)
  have HY := Lib.hid (show Holds ((w.alloc (.cells #[Value.string key, .int .i64 seq, .bool del, .slice V n c] 24)).alloc (.cells #[Value.string ⟨#[]⟩, .int .i64 0, .bool false, .slice none 0 0] 24)) (w.heap.size + 1) [Value.string ⟨#[]⟩, .int .i64 0, .bool false, .slice none 0 0] by
    have := Holds.new (w.alloc (.cells #[Value.string key, .int .i64 seq, .bool del, .slice V n c] 24)) #[Value.string ⟨#[]⟩, .int .i64 0, .bool false, .slice none 0 0] 24
    rwa [World.size_alloc] at this)
  have HB := Lib.hid (show Below w.heap.size w ((w.alloc (.cells #[Value.string key, .int .i64 seq, .bool del, .slice V n c] 24)).alloc (.cells #[Value.string ⟨#[]⟩, .int .i64 0, .bool false, .slice none 0 0] 24)) from ((Below.refl _ _).alloc (Nat.le_refl _) _).alloc (by simp) _)
  have HR := Lib.hid (show Rd ((w.alloc (.cells #[Value.string key, .int .i64 seq, .bool del, .slice V n c] 24)).alloc (.cells #[Value.string ⟨#[]⟩, .int .i64 0, .bool false, .slice none 0 0] 24)) V n val from (hr.alloc _).alloc _)
  have HO := Lib.hid (Own.none_ ((w.alloc (.cells #[Value.string key, .int .i64 seq, .bool del, .slice V n c] 24)).alloc (.cells #[Value.string ⟨#[]⟩, .int .i64 0, .bool false, .slice none 0 0] 24)) (w.heap.size + 2))
  clear hr
  go_enter Try.func35, Try.ntmps35
  go_wp2_with (at_builtin; refine wpList_appB rfl _ _ rfl rfl HO.out V n c val rfl HR.out (by omega) (by simp) ?_; intro A6 cap6 w6 hg6; have HF := Lib.hid (own_facts HB.out HY.out HZ.out hg6); clear hg6; have f0 := HF.out.1 0 _ rfl; have f1 := HF.out.1 1 _ rfl; have f2 := HF.out.1 2 _ rfl; have f3 := HF.out.1 3 _ rfl; have f4 := HF.out.2.1; have f5 := HF.out.2.2.1.2.2; have f6 := HF.out.2.2.1.1; have g0 := HF.out.2.2.1.2.1 0 _ rfl; have g1 := HF.out.2.2.1.2.1 1 _ rfl; have g2 := HF.out.2.2.1.2.1 2 _ rfl; have g3 := HF.out.2.2.1.2.1 3 _ rfl)
  obtain ⟨v, hv, hH, hO2, hB2⟩ := own_last (.slice A6 n cap6) (.string key) (.int .i64 seq) (.bool del) (.slice A6 n cap6) rfl HF.out.2.2.1 HF.out.2.2.2.1 HF.out.2.2.2.2
  rw [← hv]
  clear hv f0 f1 f2 f3 f4 f5 f6 g0 g1 g2 g3 HF
  have c0 := hH.2.1 0 _ rfl
  have c1 := hH.2.1 1 _ rfl
  have c2 := hH.2.1 2 _ rfl
  have c3 := hH.2.1 3 _ rfl
  refine bodyPost_ret (v := .agg #[.string key, .int .i64 seq, .bool del, .slice A6 n cap6]) (by simp [results, Try.results35, go_sem, c0, c1, c2, c3]) rfl ⟨A6, cap6, rfl, ⟨hO2.rd, hO2.cap, HK.out.1, HK.out.2.1, HK.out.2.2, hn⟩, fun h0 g o e => ?_, hB2⟩
  obtain ⟨g2, e2, h2, _⟩ := hO2.form h0
  rw [e] at e2
  injection e2 with e2
  injection e2 with e2
  omega
end Go.Proofs.Ytfmbnoafmnbhcaa
