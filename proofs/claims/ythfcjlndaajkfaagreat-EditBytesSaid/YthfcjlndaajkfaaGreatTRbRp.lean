/- The document's reader: its place. -/
import Derived.Test.YthfcjlndaajkfaaGreatTRbRd
import Derived.Test.YthfcjlndaajkfaaGreatTEdTkE
import Derived.Test.YthfcjlndaajkfaaGreatTHeldS
namespace Go.Proofs.YthfcjlndaajkfaaGreat
open Go.RowKit
set_option linter.unusedVariables false
set_option linter.unusedSimpArgs false
namespace Ed
/-- Pairs are taken, k of them, as long as it goes on. -/
def dQs : Nat → List Nat → Bool → List (Int × Int) × List Nat × Bool
  | 0, r, ok => ([], r, ok)
  | k + 1, r, ok => if ok = true then (((dN r ok).1, (dN (dN r ok).2.1 (dN r ok).2.2).1) :: (dQs k (dN (dN r ok).2.1 (dN r ok).2.2).2.1 (dN (dN r ok).2.1 (dN r ok).2.2).2.2).1, (dQs k (dN (dN r ok).2.1 (dN r ok).2.2).2.1 (dN (dN r ok).2.1 (dN r ok).2.2).2.2).2) else ([], r, ok)
theorem dQs_no (k : Nat) (r : List Nat) : dQs k r false = ([], r, false) := by cases k <;> simp [dQs]
/-- A place is taken. -/
def dP (r : List Nat) (ok : Bool) : Pl × List Nat × Bool :=
  let x := dN r ok
  let y := dN x.2.1 x.2.2
  let z := dN y.2.1 y.2.2
  let q := dQs (min z.1.toNat 65) z.2.1 z.2.2
  (⟨x.1, y.1, q.1⟩, q.2)
theorem dN_q (r : List Nat) (ok : Bool) : 0 ≤ (dN r ok).1 ∧ (dN r ok).1 ≤ 2199023255552 := by
  unfold dN
  split
  · exact ⟨by dsimp only; omega, by dsimp only; omega⟩
  · split
    · exact ⟨by dsimp only; omega, by dsimp only; omega⟩
    · exact ⟨by dsimp only; omega, by dsimp only; omega⟩
end Ed
/-- What taking a place gives. -/
def GivesDP (w : World) (rb : Nat) (A : Option Addr) (r0 : List Nat) (x : Ed.Pl × List Nat × Bool) (e : Ending) (w' : World) : Prop :=
  ∃ P pn pc, e = .returned (.agg #[.int .i64 x.1.id, .int .i64 x.1.ep, .slice P pn pc]) ∧ OwP w' w.heap.size P pn pc x.1.ps ∧ (∃ A' cap', Rr w' rb A' cap' x.2.1 x.2.2 ∧ ((A' = A ∧ x.2.1 = r0) ∨ (0 < x.2.1.length → ∀ g, blkOf A' = some g → w.heap.size ≤ g)) ∧ (0 < x.2.1.length → ∀ g, blkOf P = some g → blkOf A' ≠ some g)) ∧ Two w w' rb rb
/-- New, or as it was: one behind the other. -/
theorem Rr.newer {w v : World} {A A1 A2 : Option Addr} {r0 r1 r2 : List Nat} (h : (A1 = A ∧ r1 = r0) ∨ (0 < r1.length → ∀ g, blkOf A1 = some g → w.heap.size ≤ g)) (k : (A2 = A1 ∧ r2 = r1) ∨ (0 < r2.length → ∀ g, blkOf A2 = some g → v.heap.size ≤ g)) (hs : w.heap.size ≤ v.heap.size) :
    (A2 = A ∧ r2 = r0) ∨ (0 < r2.length → ∀ g, blkOf A2 = some g → w.heap.size ≤ g) := by
  rcases k with ⟨rfl, rfl⟩ | k
  · exact h
  · exact .inr fun h0 g e => Nat.le_trans hs (k h0 g e)
theorem enter_dnum (args : Array Value) (w : World) : (callFunc 58 args).run Tryz.prog w = .ok (.enter 58 args) w := run_enter Tryz.func58 (by kernel_rfl) (by kernel_rfl) args w
set_option maxRecDepth 100000 in
set_option maxHeartbeats 16000000 in
theorem dplace_any (rb : Nat) (A : Option Addr) (cap : Nat) (r : List Nat) (ok : Bool) (w : World) (h : Rr w rb A cap r ok) :
    Calls Tryz.prog 59 #[.pointer (some ⟨rb, 0, none⟩)] w (GivesDP w rb A r (Ed.dP r ok)) := by
  have h1 : Below w.heap.size w (w.alloc (.cells #[.int .i64 0, .int .i64 0, .slice none 0 0] 32)) := (Below.refl _ _).alloc (Nat.le_refl _) _
  have HZ := Lib.hid (Holds.new w #[.int .i64 0, .int .i64 0, .slice none 0 0] 32)
  have hlt := h.lt
  have HLt := Lib.hid hlt
  have C1 := Lib.hid (dnum_any rb r ok (w.alloc (.cells #[.int .i64 0, .int .i64 0, .slice none 0 0] 32)) A cap (h.below h1))
  have HT1 := Lib.hid (Two.below h1 rb rb)
  have hw0 : w.heap.size ≤ (w.alloc (.cells #[.int .i64 0, .int .i64 0, .slice none 0 0] 32)).heap.size := h1.size
  have HRes := Lib.hid (show Ed.dP r ok = (⟨(Ed.dN r ok).1, (Ed.dN (Ed.dN r ok).2.1 (Ed.dN r ok).2.2).1, (Ed.dQs (min (Ed.dN (Ed.dN (Ed.dN r ok).2.1 (Ed.dN r ok).2.2).2.1 (Ed.dN (Ed.dN r ok).2.1 (Ed.dN r ok).2.2).2.2).1.toNat 65) (Ed.dN (Ed.dN (Ed.dN r ok).2.1 (Ed.dN r ok).2.2).2.1 (Ed.dN (Ed.dN r ok).2.1 (Ed.dN r ok).2.2).2.2).2.1 (Ed.dN (Ed.dN (Ed.dN r ok).2.1 (Ed.dN r ok).2.2).2.1 (Ed.dN (Ed.dN r ok).2.1 (Ed.dN r ok).2.2).2.2).2.2).1⟩, (Ed.dQs (min (Ed.dN (Ed.dN (Ed.dN r ok).2.1 (Ed.dN r ok).2.2).2.1 (Ed.dN (Ed.dN r ok).2.1 (Ed.dN r ok).2.2).2.2).1.toNat 65) (Ed.dN (Ed.dN (Ed.dN r ok).2.1 (Ed.dN r ok).2.2).2.1 (Ed.dN (Ed.dN r ok).2.1 (Ed.dN r ok).2.2).2.2).2.1 (Ed.dN (Ed.dN (Ed.dN r ok).2.1 (Ed.dN r ok).2.2).2.1 (Ed.dN (Ed.dN r ok).2.1 (Ed.dN r ok).2.2).2.2).2.2).2) from rfl)
  generalize Ed.dP r ok = res at *
  have HCz0 := Lib.hid (show 0 < r.length → blkOf A ≠ some w.heap.size from fun h0 e => by have := h.blk h0 e; omega)
  have hz1 : w.heap.size < (w.alloc (.cells #[.int .i64 0, .int .i64 0, .slice none 0 0] 32)).heap.size := by simp
  clear h h1 hlt
  generalize Ed.dN r ok = x at *
  go_enter Tryz.func59, Tryz.ntmps59
  go_wp2_with fail
  refine C1.out.mono ?_
  rintro e v1 ⟨rfl, ⟨A1, c1, hr1, hn1⟩, ht1⟩
  have C2 := Lib.hid (dnum_any rb x.2.1 x.2.2 v1 A1 c1 hr1)
  have HN1 := Lib.hid (show (A1 = A ∧ x.2.1 = r) ∨ (0 < x.2.1.length → ∀ g, blkOf A1 = some g → w.heap.size ≤ g) from hn1.elim .inl (fun h => .inr fun h0 g e => Nat.le_trans hw0 (h h0 g e)))
  have HZ1 := Lib.hid (show Holds v1 w.heap.size [.int .i64 0, .int .i64 0, .slice none 0 0] from HZ.out.two ht1 (by have := HLt.out; omega) (by have := HLt.out; omega))
  have HT2 := Lib.hid (HT1.out.trans ht1)
  have HCz1 := Lib.hid (Rr.clear hn1 hz1 HCz0.out)
  have hz2 := HZ1.out.1
  clear hr1 ht1 hn1 C1 HZ HT1 hw0 hz1 HCz0
  generalize Ed.dN x.2.1 x.2.2 = y at *
  go_wp2_with fail
  refine C2.out.mono ?_
  rintro e v2 ⟨rfl, ⟨A2, c2, hr2, hn2⟩, ht2⟩
  have hal : Below v2.heap.size v2 (v2.alloc (.cells #[.int .i64 x.1, .int .i64 y.1, .slice none 0 0] 32)) := (Below.refl _ _).alloc (Nat.le_refl _) _
  have HN2 := Lib.hid (Rr.newer HN1.out hn2 HT2.out.size)
  have HZ2 := Lib.hid ((HZ1.out.two ht2 (by have := HLt.out; omega) (by have := HLt.out; omega)).below hal)
  have HT3 := Lib.hid ((HT2.out.trans ht2).trans (Two.below hal rb rb))
  have HPb := Lib.hid (Holds.new v2 #[.int .i64 x.1, .int .i64 y.1, .slice none 0 0] 32)
  have hw2 : w.heap.size < v2.heap.size := Nat.lt_of_lt_of_le HZ1.out.1 ht2.size
  have C3 := Lib.hid (dnum_any rb y.2.1 y.2.2 (v2.alloc (.cells #[.int .i64 x.1, .int .i64 y.1, .slice none 0 0] 32)) A2 c2 (hr2.below hal))
  have HCz2 := Lib.hid (Rr.clear hn2 hz2 HCz1.out)
  have HCp2 := Lib.hid (show 0 < y.2.1.length → blkOf A2 ≠ some v2.heap.size from fun h0 e => by have := hr2.blk h0 e; omega)
  have hz3 := HZ2.out.1
  have hp3 := HPb.out.1
  clear hr2 ht2 hn2 C2 HZ1 HT2 hal HN1 HCz1 hz2
  have HQz := Lib.hid (Ed.dN_q y.2.1 y.2.2)
  generalize Ed.dN y.2.1 y.2.2 = z at *
  go_wp2_with fail
  refine C3.out.mono ?_
  generalize (v2.alloc (.cells #[.int .i64 x.1, .int .i64 y.1, .slice none 0 0] 32)) = v3 at *
  replace HPb : Hid (Holds v3 v2.heap.size [.int .i64 x.1, .int .i64 y.1, .slice none 0 0]) := HPb
  obtain ⟨pb, hpb⟩ : ∃ pb, pb = v2.heap.size := ⟨_, rfl⟩
  rw [← hpb] at HPb hw2 HCp2 hp3
  rw [← hpb]
  clear hpb
  rintro e v4 ⟨rfl, ⟨A4, c4, hr4, hn4⟩, ht4⟩
  have HPb4 := Lib.hid (HPb.out.two ht4 (by have := HLt.out; omega) (by have := HLt.out; omega))
  have HZ4 := Lib.hid (HZ2.out.two ht4 (by have := HLt.out; omega) (by have := HLt.out; omega))
  have HN4 := Lib.hid (Rr.newer HN2.out hn4 HT3.out.size)
  have HT4 := Lib.hid (HT3.out.trans ht4)
  have HR4 := Lib.hid hr4
  have HCz4 := Lib.hid (Rr.clear hn4 hz3 HCz2.out)
  have HCp4 := Lib.hid (Rr.clear hn4 hp3 HCp2.out)
  clear hr4 ht4 hn4 C3 HPb HZ2 HT3 HN2 HCz2 HCp2 hz3 hp3
  obtain ⟨c, hc⟩ : ∃ c : Nat, c = min z.1.toNat 65 := ⟨_, rfl⟩
  have hcz : (c : Int) ≤ z.1 ∧ ((c : Int) = z.1 ∨ c = 65) ∧ c ≤ 65 := by have := HQz.out; omega
  rw [← hc] at HRes
  clear hc
  have hpb4 := HPb4.out.1
  have hzb4 := HZ4.out.1
  go_wp2_with fail
  go_loopw [5] (fun ii wr => ∃ (k : Nat) (P : Option Addr) (pc : Nat) (ps : List (Int × Int)) (l : List Nat) (o : Bool) (A' : Option Addr) (cap' : Nat), k ≤ c ∧ ii = .int .i64 (k : Int) ∧ Hid (Rr wr rb A' cap' l o) ∧ Hid ((A' = A ∧ l = r) ∨ (0 < l.length → ∀ g, blkOf A' = some g → w.heap.size ≤ g)) ∧ Hid ((0 < l.length → ∀ g, blkOf P = some g → blkOf A' ≠ some g) ∧ (0 < l.length → blkOf A' ≠ some w.heap.size) ∧ (0 < l.length → blkOf A' ≠ some pb)) ∧ Hid (Holds wr pb [.int .i64 x.1, .int .i64 y.1, .slice P k pc]) ∧ Hid (ps.length = k ∧ OwnC 2 wr v4.heap.size 64 P k pc (Pk.iv (Ed.fl ps))) ∧ Hid (Holds wr w.heap.size [.int .i64 0, .int .i64 0, .slice none 0 0]) ∧ Hid (Two w wr rb rb) ∧ v4.heap.size ≤ wr.heap.size ∧ Hid (Ed.dQs c z.2.1 z.2.2 = (ps ++ (Ed.dQs (c - k) l o).1, (Ed.dQs (c - k) l o).2))) (fun ii _ => c - (intOf ii).toNat)
  case atStart => exact ⟨0, none, 0, [], z.2.1, z.2.2, A4, c4, by omega, rfl, HR4, HN4, Lib.hid ⟨fun _ g e => (by cases e), HCz4.out, HCp4.out⟩, HPb4, Lib.hid ⟨rfl, OwnC.none_ _ _ _ _⟩, HZ4, HT4, Nat.le_refl _, Lib.hid (by simp)⟩
  case round =>
    clear HPb4 HR4 HZ4 HT4 HN4 HCz4 HCp4
    obtain ⟨k, P, pc, ps, l, o, A', cap', hk, rfl, HR, HN, HC, HP, HO, HZr, HT, hsz, HD⟩ := hrel
    have r1 := HR.out.1.at_ 1 rfl
    by_cases hlt : k < c ∧ o = true
    · obtain ⟨hlt, rfl⟩ := hlt
      have hki : (k : Int) < z.1 := by omega
      have hk64 : (k : Int) ≤ 64 := by omega
      have hk0 : (0 : Int) ≤ (k : Int) := by omega
      have C5 := Lib.hid (dnum_any rb l true wr A' cap' HR.out)
      have HSt := Lib.hid (show Ed.dQs (c - k) l true = (((Ed.dN l true).1, (Ed.dN (Ed.dN l true).2.1 (Ed.dN l true).2.2).1) :: (Ed.dQs (c - (k + 1)) (Ed.dN (Ed.dN l true).2.1 (Ed.dN l true).2.2).2.1 (Ed.dN (Ed.dN l true).2.1 (Ed.dN l true).2.2).2.2).1, (Ed.dQs (c - (k + 1)) (Ed.dN (Ed.dN l true).2.1 (Ed.dN l true).2.2).2.1 (Ed.dN (Ed.dN l true).2.1 (Ed.dN l true).2.2).2.2).2) by
        rw [show c - k = (c - (k + 1)) + 1 by omega]
        rfl)
      generalize Ed.dN l true = a at *
      go_wp2_with fail
      refine C5.out.mono ?_
      rintro e v5 ⟨rfl, ⟨A5, c5, hr5, hn5⟩, ht5⟩
      have HPlt := Lib.hid (show ∀ g, blkOf P = some g → v4.heap.size ≤ g ∧ g < wr.heap.size from fun g e => HO.out.2.blk g (by rw [ownBlock_eq]; exact e))
      have HC5 := Lib.hid (show 0 < a.2.1.length → ∀ g, blkOf P = some g → blkOf A5 ≠ some g from fun h0 g e => Rr.clear hn5 (HPlt.out g e).2 (fun h1 => HC.out.1 h1 g e) h0)
      have hszz : w.heap.size < wr.heap.size := HZr.out.1
      have hszp : pb < wr.heap.size := HP.out.1
      have HCz5 := Lib.hid (Rr.clear hn5 hszz HC.out.2.1)
      have HCp5 := Lib.hid (Rr.clear hn5 hszp HC.out.2.2)
      have HN5 := Lib.hid (Rr.newer HN.out hn5 HT.out.size)
      have HP5 := Lib.hid (HP.out.two ht5 (by have := HLt.out; omega) (by have := HLt.out; omega))
      have hrbv : rb < v4.heap.size := by have := HLt.out; omega
      have HO5 := Lib.hid (HO.out.2.two ht5 hrbv hrbv)
      have HOl := Lib.hid HO.out.1
      have HZ5 := Lib.hid (HZr.out.two ht5 (by have := HLt.out; omega) (by have := HLt.out; omega))
      have HT5 := Lib.hid (HT.out.trans ht5)
      have hs5 := Nat.le_trans hsz ht5.size
      have hd5 : Below v5.heap.size v5 v5.drew := (Below.refl _ _).drew
      have HPd := Lib.hid (HP5.out.below hd5)
      have HZd := Lib.hid (HZ5.out.below hd5)
      have HTd := Lib.hid (HT5.out.trans (Two.below hd5 rb rb))
      have HOd := Lib.hid (HO5.out.below hd5)
      have hsd : v4.heap.size ≤ v5.drew.heap.size := Nat.le_trans hs5 hd5.size
      have p2 := HPd.out.at_ 2 rfl
      have C6 := Lib.hid (dnum_any rb a.2.1 a.2.2 v5.drew A5 c5 (hr5.below hd5))
      generalize Ed.dN a.2.1 a.2.2 = b at *
      have hq5 : w.heap.size < v5.drew.heap.size ∧ pb < v5.drew.heap.size := ⟨HZd.out.1, HPd.out.1⟩
      have HPlt5 := Lib.hid (show ∀ g, blkOf P = some g → g < v5.drew.heap.size from fun g e => by have := (HPlt.out g e).2; have := ht5.size; have := hd5.size; omega)
      have hSz5 : w.heap.size ≤ v5.drew.heap.size := HTd.out.size
      clear hr5 ht5 hd5 hn5 C5 HP HO HZr HT HR HN HC hsz HP5 HO5 HZ5 HT5 hs5 r1 HPlt
      go_wp2_with fail
      go_region_law (first
        | (refine step_call1 (by simp [Region.wanted]) 35 rfl (.tmp 34) rfl rfl enter_dnum (C6.out.mono ?_); rintro e v6 ⟨rfl, ⟨A9, c9, hr6, hn6⟩, ht6⟩; have HI6 := Lib.hid (And.intro hr6 ht6); have HN6 := Lib.hid hn6; have HP6 := Lib.hid (HPd.out.two ht6 (by have := HLt.out; omega) (by have := HLt.out; omega)); have HO6 := Lib.hid (HOd.out.two ht6 hrbv hrbv); have p6 := HP6.out.at_ 2 rfl; have ha6 : Below v6.heap.size v6 (v6.alloc (.cells #[.int .i64 a.1, .int .i64 b.1] 64)) := (Below.refl _ _).alloc (Nat.le_refl _) _; have HP7 := Lib.hid (HP6.out.below ha6); have p7 := HP7.out.at_ 2 rfl; have HO7 := Lib.hid (HO6.out.below ha6); have hr7 : RdC 2 (v6.alloc (.cells #[.int .i64 a.1, .int .i64 b.1] 64)) (some ⟨v6.heap.size, 0, none⟩) 1 (Pk.iv [a.1, b.1]) := rd_pair v6 a.1 b.1 64; have hb7 := Nat.le_trans (Nat.le_trans hsd ht6.size) ha6.size; clear hr6 ht6 hn6; refine ⟨_, rfl, ?_⟩)
        | (refine step_appN manyPr (by simp [Region.wanted]) 38 rfl (.tmp 32) (.tmp 37) rfl rfl HO7.out (some ⟨v6.heap.size, 0, none⟩) 1 1 (Pk.iv [a.1, b.1]) (Pk.iv_one [a.1, b.1]) rfl hr7 (by omega) hb7 ?_; intro P8 c8 v8 hg8; have HG8 := Lib.hid hg8; have HP8 := Lib.hid (HP7.out.grown hg8.grew (fun e => by have := (HO7.out.blk _ e).1; omega)); have p8 := HP8.out.at_ 2 rfl; have q8 := HP8.out.2.2 2; clear hg8))
      all_goals
        have hl := HLt.out
        have hrow : ∀ g, (Value.slice P k pc).ownBlock = some g → v4.heap.size ≤ g := fun g e => (HO7.out.blk g e).1
        have HG9 := Lib.hid (grown_cell v8 pb 2 (.slice P8 (k + 1) c8))
        have HC6 := Lib.hid (show 0 < b.2.1.length → ∀ g, blkOf P = some g → blkOf A9 ≠ some g from fun h0 g e => Rr.clear HN6.out (HPlt5.out g e) (fun h1 => HC5.out h1 g e) h0)
        have HCz6 := Lib.hid (Rr.clear HN6.out hq5.1 HCz5.out)
        have HCp6 := Lib.hid (Rr.clear HN6.out hq5.2 HCp5.out)
        have HRn := Lib.hid (Rr.grown (Rr.grown (HI6.out.1.below ha6) HG8.out.grew (fun e => by have := hrow _ e; omega) (fun h0 e => by
          obtain ⟨bb, oo, hA, _⟩ := HI6.out.1.2.1.2.2 h0
          have e2 : blkOf A9 = some bb := by rw [hA]; rfl
          rw [e2, ownBlock_eq] at e
          exact HC6.out h0 bb e.symm e2)) HG9.out (fun e => by injection e with e; omega) HCp6.out)
        have HPn := Lib.hid (show Holds (v8.setCell ⟨pb, 2, none⟩ (.slice P8 (k + 1) c8)) pb [.int .i64 x.1, .int .i64 y.1, .slice P8 (k + 1) c8] from HP8.out.set 2 _ (by simp))
        have HOn := Lib.hid (show (ps ++ [(a.1, b.1)]).length = k + 1 ∧ OwnC 2 (v8.setCell ⟨pb, 2, none⟩ (.slice P8 (k + 1) c8)) v4.heap.size 64 P8 (k + 1) c8 (Pk.iv (Ed.fl (ps ++ [(a.1, b.1)]))) by
          refine ⟨by rw [List.length_append, HOl.out]; rfl, ?_⟩
          rw [Ed.fl_put]
          have h9 := HG8.out.own.grown HG9.out (.inr fun g e e2 => by injection e with e; have := (HG8.out.own.blk g e2).1; omega)
          have e9 : Pk.iv (Ed.fl ps ++ [a.1, b.1]) = Pk.iv (Ed.fl ps) ++ Pk.iv [a.1, b.1] := by unfold Pk.iv; rw [List.map_append]
          rw [e9]
          exact h9)
        have HZn := Lib.hid ((((HZd.out.two HI6.out.2 (by omega) (by omega)).below ha6).grown HG8.out.grew (fun e => by have := hrow _ e; omega)).grown HG9.out (fun e => by injection e with e; omega))
        have HTn := Lib.hid ((((HTd.out.trans HI6.out.2).trans (Two.below ha6 rb rb)).grow HG8.out.grew (fun g e => by have := hrow g e; omega)).grow HG9.out (fun g e => by injection e with e; omega))
        have hsn : v4.heap.size ≤ (v8.setCell ⟨pb, 2, none⟩ (.slice P8 (k + 1) c8)).heap.size := Nat.le_trans (Nat.le_trans hb7 HG8.out.grew.size) HG9.out.size
        have HNn := Lib.hid (Rr.newer HN5.out HN6.out hSz5)
        have hI := HI6.out.1
        have HCn := Lib.hid (show (0 < b.2.1.length → ∀ g, blkOf P8 = some g → blkOf A9 ≠ some g) ∧ (0 < b.2.1.length → blkOf A9 ≠ some w.heap.size) ∧ (0 < b.2.1.length → blkOf A9 ≠ some pb) from ⟨fun h0 g e e2 => by
          rcases HG8.out.blk with hB | hB
          · rw [ownBlock_eq, ownBlock_eq, e] at hB
            exact HC6.out h0 g hB.symm e2
          · rw [ownBlock_eq, e] at hB
            injection hB with hB
            have h1 := hI.blk h0 e2
            have h2 := ha6.size
            omega, HCz6.out, HCp6.out⟩)
        have HDn := Lib.hid (show Ed.dQs c z.2.1 z.2.2 = ((ps ++ [(a.1, b.1)]) ++ (Ed.dQs (c - (k + 1)) b.2.1 b.2.2).1, (Ed.dQs (c - (k + 1)) b.2.1 b.2.2).2) by rw [HD.out, HSt.out]; simp)
        clear p2 p6 p7 p8 q8 HG8 HG9 HI6 HP6 HO6 HP7 HO7 hr7 hb7 ha6 HPd HZd HTd HOd C6 hrow hI
        go_wp2
        go_roundw
        case rel => exact ⟨k + 1, P8, c8, ps ++ [(a.1, b.1)], b.2.1, b.2.2, A9, c9, by omega, by go_num, HRn, HNn, HCn, HPn, HOn, HZn, HTn, hsn, HDn⟩
        case measure => simp [intOf]; omega
    · have HD2 := Lib.hid (show Ed.dQs c z.2.1 z.2.2 = (ps, l, o) by
        rw [HD.out]
        by_cases ho : o = true
        · rw [show c - k = 0 by have : ¬ k < c := fun h => hlt ⟨h, ho⟩; omega]
          simp [Ed.dQs]
        · rw [show o = false by simpa using ho, Ed.dQs_no]
          simp)
      have x0 := HP.out.at_ 0 rfl
      have x1 := HP.out.at_ 1 rfl
      have x2 := HP.out.at_ 2 rfl
      have z0 := HZr.out.at_ 0 rfl
      have z1 := HZr.out.at_ 1 rfl
      have z2 := HZr.out.at_ 2 rfl
      have f0 := HZr.out.2.2 0
      have f1 := HZr.out.2.2 1
      have f2 := HZr.out.2.2 2
      have hl := HLt.out
      have HG := Lib.hid ((grown_cell wr w.heap.size 0 (.int .i64 x.1)).trans ((grown_cell _ w.heap.size 1 (.int .i64 y.1)).trans (grown_cell _ w.heap.size 2 (.slice P k pc))))
      have HF := Lib.hid (HZr.out.set3 (.int .i64 x.1) (.int .i64 y.1) (.slice P k pc))
      have HRn := Lib.hid (Rr.grown HR.out HG.out (fun e => by injection e with e; omega) HC.out.2.1)
      have HTn := Lib.hid (HT.out.grow HG.out (fun g e => by injection e with e; omega))
      have HOn := Lib.hid (show OwP _ w.heap.size P k pc ps from ⟨HO.out.1, (HO.out.2.grown HG.out (.inr fun g e e2 => by injection e with e; have := (HO.out.2.blk g e2).1; omega)).base_ (by omega)⟩)
      have HCf := Lib.hid HC.out.1
      have HNf := Lib.hid HN.out
      rw [HD2.out] at HRes
      have HEnd := Lib.hid (fun (W : World) (h1 : OwP W w.heap.size P k pc ps) (h2 : Rr W rb A' cap' l o) (h3 : Two w W rb rb) => show GivesDP w rb A r res (.returned (.agg #[.int .i64 x.1, .int .i64 y.1, .slice P k pc])) W by
        rw [HRes.out]
        exact ⟨P, k, pc, rfl, h1, ⟨A', cap', h2, HNf.out, HCf.out⟩, h3⟩)
      have hlt0 := hlt
      clear hlt
      have hk0 : (0 : Int) ≤ (k : Int) := by omega
      by_cases hki : (k : Int) < z.1
      · by_cases hk64 : (k : Int) ≤ 64
        · have ho : o = false := by
            have : ¬ o = true := fun h => hlt0 ⟨by omega, h⟩
            simpa using this
          subst ho
          go_wp2_with fail
          clear x0 x1 x2 z0 z1 z2 f0 f1 f2 HG HP HZr HO HT HR r1
          generalize ((wr.setCell ⟨w.heap.size, 0, none⟩ (.int .i64 x.1)).setCell ⟨w.heap.size, 1, none⟩ (.int .i64 y.1)).setCell ⟨w.heap.size, 2, none⟩ (.slice P k pc) = zz at *
          have y0 := HF.out.at_ 0 rfl
          have y1 := HF.out.at_ 1 rfl
          have y2 := HF.out.at_ 2 rfl
          refine bodyPost_ret (v := .agg #[.int .i64 x.1, .int .i64 y.1, .slice P k pc]) ?_ rfl (HEnd.out _ HOn.out HRn.out HTn.out)
          simp [results, Tryz.results59, go_sem, y0, y1, y2]
        · skip
          go_wp2_with fail
          clear x0 x1 x2 z0 z1 z2 f0 f1 f2 HG HP HZr HO HT HR r1
          generalize ((wr.setCell ⟨w.heap.size, 0, none⟩ (.int .i64 x.1)).setCell ⟨w.heap.size, 1, none⟩ (.int .i64 y.1)).setCell ⟨w.heap.size, 2, none⟩ (.slice P k pc) = zz at *
          have y0 := HF.out.at_ 0 rfl
          have y1 := HF.out.at_ 1 rfl
          have y2 := HF.out.at_ 2 rfl
          refine bodyPost_ret (v := .agg #[.int .i64 x.1, .int .i64 y.1, .slice P k pc]) ?_ rfl (HEnd.out _ HOn.out HRn.out HTn.out)
          simp [results, Tryz.results59, go_sem, y0, y1, y2]
      · skip
        go_wp2_with fail
        clear x0 x1 x2 z0 z1 z2 f0 f1 f2 HG HP HZr HO HT HR r1
        generalize ((wr.setCell ⟨w.heap.size, 0, none⟩ (.int .i64 x.1)).setCell ⟨w.heap.size, 1, none⟩ (.int .i64 y.1)).setCell ⟨w.heap.size, 2, none⟩ (.slice P k pc) = zz at *
        have y0 := HF.out.at_ 0 rfl
        have y1 := HF.out.at_ 1 rfl
        have y2 := HF.out.at_ 2 rfl
        refine bodyPost_ret (v := .agg #[.int .i64 x.1, .int .i64 y.1, .slice P k pc]) ?_ rfl (HEnd.out _ HOn.out HRn.out HTn.out)
        simp [results, Tryz.results59, go_sem, y0, y1, y2]
end Go.Proofs.YthfcjlndaajkfaaGreat
