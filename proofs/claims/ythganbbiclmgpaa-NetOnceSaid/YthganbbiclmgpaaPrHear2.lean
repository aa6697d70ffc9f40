/- A peer's Hear: transfers, acks, and what is neither. -/
import Derived.Test.YthganbbiclmgpaaPrHear
namespace Go.Proofs.Ythganbbiclmgpaa
open Go.RowKit
open Go.MapKept Go.ChangeMaps
/-- What is known behind the first test. -/
structure HIn (w w2 : World) (g b1 b2 b3 : Nat) (who : Int) (S O G : List Pr.Mg) (m : Pr.Mg) (zs : List Value) : Prop where
  bel : Below w.heap.size w w2
  peer : Peer w2 g b1 b2 b3 who S O G
  msg : Holds w2 w.heap.size m.cells
  res : Holds w2 (w.heap.size + 1) zs
  lt : g < w.heap.size ∧ b1 < w.heap.size ∧ b2 < w.heap.size ∧ b3 < w.heap.size
set_option maxRecDepth 100000 in
set_option maxHeartbeats 2000000 in
/-- A message that is neither. -/
theorem hear_other (g b1 b2 b3 : Nat) (who : Int) (S O G : List Pr.Mg) (m : Pr.Mg) (w : World) (h : Peer w g b1 b2 b3 who S O G) (hw : 0 < who) (hp : m.p = who) (hq : 0 ≤ m.q) (k1 : m.k ≠ 1) (k2 : m.k ≠ 2) :
    Calls Try.prog 25 #[.pointer (some ⟨g, 0, none⟩), .agg m.cells.toArray] w fun e w' => e = .returned (.tuple #[.agg Pr.zero.cells.toArray, .bool false]) ∧ Below w.heap.size w w' := by
  obtain ⟨mk, mp, mq, ms, mn⟩ := m
  obtain rfl : mp = who := hp
  replace hq : 0 ≤ mq := hq
  have HS := Lib.hid (hear_start h (m := ⟨mk, mp, mq, ms, mn⟩) (cs := [.int .i64 mk, .int .i64 mp, .int .i64 mq, .string ms, .int .i64 mn]) rfl [.int .i64 0, .int .i64 0, .int .i64 0, .string ⟨#[]⟩, .int .i64 0])
  have Hm := Lib.hid (fun W (h : Holds W g [.int .i64 mp, .map (some b1), .map (some b2), .map (some b3)]) => pmade_any g mp _ _ _ W h hw)
  show Calls _ _ #[.pointer (some ⟨g, 0, none⟩), .agg #[.int .i64 mk, .int .i64 mp, .int .i64 mq, .string ms, .int .i64 mn]] _ _
  have t1 : (mp != mp) = false := by simp
  have t2 : ¬ mq < 0 := by omega
  have t3 : (mk == 1) = false := by simpa using k1
  have t4 : (mk == 2) = false := by simpa using k2
  clear h k1 k2 hq
  go_enter Try.func25, Try.ntmps25
  go_wp2_with fail
  generalize ((w.alloc (.cells #[.int .i64 mk, .int .i64 mp, .int .i64 mq, .string ms, .int .i64 mn] 59)).alloc (.cells #[.int .i64 0, .int .i64 0, .int .i64 0, .string ⟨#[]⟩, .int .i64 0] 59)) = w1 at *
  obtain ⟨hb1, hP1, hM1, hR1, hlt⟩ := HS.out
  have c0 := hP1.box.at_ 0 rfl
  have m1 := hM1.at_ 1 rfl
  have m2 := hM1.at_ 2 rfl
  have hX := Lib.hid (And.intro hb1 (And.intro hP1 (And.intro hM1 (And.intro hR1 hlt))))
  clear HS hb1 hP1 hM1 hR1 hlt
  go_quiet ((go_at_call 38; exact Calls.quiet_of_same ((Hm.out _ (hX.out.2.1.box.below (drewN_below _ _ _))).mono (fun _ _ h => ⟨h.1, h.2.symm⟩))))
  rename_i nq
  have hb2 := drewN_below w1.heap.size w1 nq
  have H2 := Lib.hid (hX.out.2.2.2.1.below hb2)
  have M2 := hX.out.2.2.1.below hb2
  have HB2 := Lib.hid (below_next hX.out.1 hb2)
  clear hb2 c0 m1 m2 t1
  generalize w1.drewN nq = w2 at *
  have z0 := H2.out.2.2 0
  have z1 := H2.out.2.2 1
  have z2 := H2.out.2.2 2
  have z3 := H2.out.2.2 3
  have z4 := H2.out.2.2 4
  have m0 := M2.at_ 0 rfl
  obtain ⟨b0, b1, b2, b3, b4⟩ := results5 H2.out
  clear M2
  go_wp2
  obtain ⟨c0, c1, c2, c3, c4⟩ := results5 (H2.out.set5 (.int .i64 0) (.int .i64 0) (.int .i64 0) (.string ⟨#[]⟩) (.int .i64 0))
  refine ⟨rfl, .tuple #[.agg #[.int .i64 0, .int .i64 0, .int .i64 0, .string ⟨#[]⟩, .int .i64 0], .bool false], ?_, rfl, below_set5 HB2.out _ _ _ _ _ _ (by omega)⟩
  simp [results, Try.results25, go_sem, c0, c1, c2, c3, c4]

/-- A peer's blocks when one book's block is another. -/
theorem setBlock_ch {w w2 : World} {b1 b2 b3 b : Nat} (hb : Below w.heap.size w w2) (hb' : b = b1 ∨ b = b2 ∨ b = b3) (o : Obj) : PCh b1 b2 b3 w (setBlock w2 b o) :=
  ⟨hb.os, hb.tape, hb.output, by simp [setBlock]; exact hb.size, fun k hk p q r => (setBlock_other (by rcases hb' with rfl | rfl | rfl <;> assumption)).trans (hb.block k hk)⟩
theorem PCh.low_of {w w2 w3 : World} {b1 b2 b3 B : Nat} (h : PCh b1 b2 b3 w w2) (hb : Below B w2 w3) (hB : w.heap.size ≤ B) : PCh b1 b2 b3 w w3 :=
  ⟨hb.os.trans h.os, hb.tape.trans h.tape, hb.output.trans h.output, Nat.le_trans h.size hb.size, fun k hk p q r => (hb.block k (by omega)).trans (h.block k hk p q r)⟩
/-- What a delete makes of a peer. -/
theorem peer_del {w w2 w3 : World} {g b1 b2 b3 : Nat} {who : Int} {S O O' G : List Pr.Mg} {zs : List Value} (hP : Peer w2 g b1 b2 b3 who S O G) (hb : Below w.heap.size w w2) (hR : Holds w2 (w.heap.size + 1) zs) (hlt : g < w.heap.size ∧ b1 < w.heap.size ∧ b2 < w.heap.size ∧ b3 < w.heap.size) (h2 : Bk w3 b2 O') (ht : w2.drew.mapTurned w3 b2) :
    Peer w3 g b1 b2 b3 who S O' G ∧ PCh b1 b2 b3 w w3 ∧ Holds w3 (w.heap.size + 1) zs := by
  obtain ⟨es, ck, es', ck', hes, rfl⟩ := ht
  obtain ⟨f1, f2, f3, f4, f5, f6⟩ := hP.far
  have hc := setBlock_ch (b1 := b1) (b2 := b2) (b3 := b3) (Below.refl w2.heap.size w2).drew (.inr (.inl rfl)) (.map es' ck')
  exact ⟨⟨hc.holds hP.box f4 f5 f6, hP.sent.block (setBlock_other f1), h2, hP.got.block (setBlock_other (Ne.symm f3)), hP.far⟩, setBlock_ch hb.drew (.inr (.inl rfl)) _, hc.holds hR (by omega) (by omega) (by omega)⟩
/-- What a new transfer makes of a peer. -/
theorem peer_put {w w2 w3 : World} {g b1 b2 b3 : Nat} {who : Int} {S O G G' : List Pr.Mg} {zs ms : List Value} (hP : Peer w2 g b1 b2 b3 who S O G) (hb : Below w.heap.size w w2) (hR : Holds w2 (w.heap.size + 1) zs) (hM : Holds w2 w.heap.size ms) (hlt : g < w.heap.size ∧ b1 < w.heap.size ∧ b2 < w.heap.size ∧ b3 < w.heap.size) (h2 : Bk w3 b3 G') (ht : w2.drew.mapTurned w3 b3) :
    Peer w3 g b1 b2 b3 who S O G' ∧ PCh b1 b2 b3 w w3 ∧ Holds w3 (w.heap.size + 1) zs ∧ Holds w3 w.heap.size ms := by
  obtain ⟨es, ck, es', ck', hes, rfl⟩ := ht
  obtain ⟨f1, f2, f3, f4, f5, f6⟩ := hP.far
  have hc := setBlock_ch (b1 := b1) (b2 := b2) (b3 := b3) (Below.refl w2.heap.size w2).drew (.inr (.inr rfl)) (.map es' ck')
  exact ⟨⟨hc.holds hP.box f4 f5 f6, hP.sent.block (setBlock_other f2), hP.open_.block (setBlock_other f3), h2, hP.far⟩, setBlock_ch hb.drew (.inr (.inr rfl)) _, hc.holds hR (by omega) (by omega) (by omega), hc.holds hM (by omega) (by omega) (by omega)⟩
set_option maxRecDepth 100000 in
set_option maxHeartbeats 4000000 in
/-- An ack. -/
theorem hear_ack (g b1 b2 b3 : Nat) (who : Int) (S O G : List Pr.Mg) (m : Pr.Mg) (w : World) (h : Peer w g b1 b2 b3 who S O G) (hw : 0 < who) (hp : m.p = who) (hq : 0 ≤ m.q) (hq2 : Q64 m.q) (k2 : m.k = 2) :
    Calls Try.prog 25 #[.pointer (some ⟨g, 0, none⟩), .agg m.cells.toArray] w fun e w' => e = .returned (.tuple #[.agg Pr.zero.cells.toArray, .bool false]) ∧ Peer w' g b1 b2 b3 who S (Pr.str O m.q) G ∧ PCh b1 b2 b3 w w' := by
  obtain ⟨mk, mp, mq, ms, mn⟩ := m
  obtain rfl : mp = who := hp
  obtain rfl : mk = 2 := k2
  replace hq : 0 ≤ mq := hq
  replace hq2 : Q64 mq := hq2
  have HS := Lib.hid (hear_start h (m := ⟨2, mp, mq, ms, mn⟩) (cs := [.int .i64 2, .int .i64 mp, .int .i64 mq, .string ms, .int .i64 mn]) rfl [.int .i64 0, .int .i64 0, .int .i64 0, .string ⟨#[]⟩, .int .i64 0])
  have Hm := Lib.hid (fun W (h : Holds W g [.int .i64 mp, .map (some b1), .map (some b2), .map (some b3)]) => pmade_any g mp _ _ _ W h hw)
  show Calls _ _ #[.pointer (some ⟨g, 0, none⟩), .agg #[.int .i64 2, .int .i64 mp, .int .i64 mq, .string ms, .int .i64 mn]] _ _
  have t1 : (mp != mp) = false := by simp
  have t2 : ¬ mq < 0 := by omega
  have HQ := Lib.hid hq2
  have HFar := Lib.hid h.far
  clear h hq hq2
  go_enter Try.func25, Try.ntmps25
  go_wp2_with fail
  generalize ((w.alloc (.cells #[.int .i64 2, .int .i64 mp, .int .i64 mq, .string ms, .int .i64 mn] 59)).alloc (.cells #[.int .i64 0, .int .i64 0, .int .i64 0, .string ⟨#[]⟩, .int .i64 0] 59)) = w1 at *
  obtain ⟨hb1, hP1, hM1, hR1, hlt⟩ := HS.out
  have c0 := hP1.box.at_ 0 rfl
  have m1 := hM1.at_ 1 rfl
  have m2 := hM1.at_ 2 rfl
  have HLT := Lib.hid hlt
  have hX := Lib.hid (And.intro hb1 (And.intro hP1 (And.intro hM1 (And.intro hR1 hlt))))
  clear HS hb1 hP1 hM1 hR1 hlt
  go_quiet ((go_at_call 38; exact Calls.quiet_of_same ((Hm.out _ (hX.out.2.1.box.below (drewN_below _ _ _))).mono (fun _ _ h => ⟨h.1, h.2.symm⟩))))
  rename_i nq
  have hb2 := drewN_below w1.heap.size w1 nq
  have H2 := Lib.hid (hX.out.2.2.2.1.below hb2)
  have HP2 := Lib.hid (hX.out.2.1.below hb2)
  have HM2 := Lib.hid (hX.out.2.2.1.below hb2)
  have HB2 := Lib.hid (below_next hX.out.1 hb2)
  clear hb2 c0 m1 m2 t1
  generalize w1.drewN nq = w2 at *
  have m0 := HM2.out.at_ 0 rfl
  have m2 := HM2.out.at_ 2 rfl
  have c2 := HP2.out.box.at_ 2 rfl
  go_wp2_with fail
  obtain ⟨w3, hrun, hB3, hT3⟩ := Bk.del (w := w2.drew) (HP2.out.open_.block rfl) HQ.out 0
  go_region
  have H3 := Lib.hid (peer_del HP2.out HB2.out H2.out HLT.out hB3 hT3)
  clear hrun hB3 hT3 m0 m2 c2
  have z0 := H3.out.2.2.2.2 0
  have z1 := H3.out.2.2.2.2 1
  have z2 := H3.out.2.2.2.2 2
  have z3 := H3.out.2.2.2.2 3
  have z4 := H3.out.2.2.2.2 4
  obtain ⟨y0, y1, y2, y3, y4⟩ := results5 H3.out.2.2
  go_wp2
  obtain ⟨c0, c1, c2, c3, c4⟩ := results5 (H3.out.2.2.set5 (.int .i64 0) (.int .i64 0) (.int .i64 0) (.string ⟨#[]⟩) (.int .i64 0))
  refine ⟨rfl, .tuple #[.agg #[.int .i64 0, .int .i64 0, .int .i64 0, .string ⟨#[]⟩, .int .i64 0], .bool false], ?_, rfl, H3.out.1.low (below_set5 (Below.refl _ _) _ _ _ _ _ _ (Nat.le_succ _)) HLT.out, H3.out.2.1.low_of (below_set5 (Below.refl _ _) _ _ _ _ _ _ (Nat.le_succ _)) (Nat.le_refl _)⟩
  simp [results, Try.results25, go_sem, c0, c1, c2, c3, c4]
set_option maxRecDepth 100000 in
set_option maxHeartbeats 4000000 in
/-- A transfer whose number is there. -/
theorem hear_had (g b1 b2 b3 : Nat) (who : Int) (S O G : List Pr.Mg) (m : Pr.Mg) (w : World) (h : Peer w g b1 b2 b3 who S O G) (hw : 0 < who) (hp : m.p = who) (hq : 0 ≤ m.q) (hq2 : Q64 m.q) (k2 : m.k = 1) (hy : Pr.hasq G m.q = true) (hris : Pr.Ris G) :
    Calls Try.prog 25 #[.pointer (some ⟨g, 0, none⟩), .agg m.cells.toArray] w fun e w' => e = .returned (.tuple #[.agg #[.int .i64 2, .int .i64 who, .int .i64 m.q, .string ⟨#[]⟩, .int .i64 0], .bool true]) ∧ Below w.heap.size w w' := by
  obtain ⟨m', hm', hmq⟩ := Pr.hasq_yes.1 hy
  obtain ⟨mk, mp, mq, ms, mn⟩ := m
  obtain rfl : mp = who := hp
  obtain rfl : mk = 1 := k2
  replace hq : 0 ≤ mq := hq
  replace hq2 : Q64 mq := hq2
  have HS := Lib.hid (hear_start h (m := ⟨1, mp, mq, ms, mn⟩) (cs := [.int .i64 1, .int .i64 mp, .int .i64 mq, .string ms, .int .i64 mn]) rfl [.int .i64 0, .int .i64 0, .int .i64 0, .string ⟨#[]⟩, .int .i64 0])
  have Hm := Lib.hid (fun W (h : Holds W g [.int .i64 mp, .map (some b1), .map (some b2), .map (some b3)]) => pmade_any g mp _ _ _ W h hw)
  show Calls _ _ #[.pointer (some ⟨g, 0, none⟩), .agg #[.int .i64 1, .int .i64 mp, .int .i64 mq, .string ms, .int .i64 mn]] _ _
  have t1 : (mp != mp) = false := by simp
  have t2 : ¬ mq < 0 := by omega
  have HQ := Lib.hid hq2
  have HFar := Lib.hid h.far
  clear h hq hq2
  go_enter Try.func25, Try.ntmps25
  go_wp2_with fail
  generalize ((w.alloc (.cells #[.int .i64 1, .int .i64 mp, .int .i64 mq, .string ms, .int .i64 mn] 59)).alloc (.cells #[.int .i64 0, .int .i64 0, .int .i64 0, .string ⟨#[]⟩, .int .i64 0] 59)) = w1 at *
  obtain ⟨hb1, hP1, hM1, hR1, hlt⟩ := HS.out
  have c0 := hP1.box.at_ 0 rfl
  have m1 := hM1.at_ 1 rfl
  have m2 := hM1.at_ 2 rfl
  have HLT := Lib.hid hlt
  have hX := Lib.hid (And.intro hb1 (And.intro hP1 (And.intro hM1 (And.intro hR1 hlt))))
  clear HS hb1 hP1 hM1 hR1 hlt
  go_quiet ((go_at_call 38; exact Calls.quiet_of_same ((Hm.out _ (hX.out.2.1.box.below (drewN_below _ _ _))).mono (fun _ _ h => ⟨h.1, h.2.symm⟩))))
  rename_i nq
  have hb2 := drewN_below w1.heap.size w1 nq
  have H2 := Lib.hid (hX.out.2.2.2.1.below hb2)
  have HP2 := Lib.hid (hX.out.2.1.below hb2)
  have HM2 := Lib.hid (hX.out.2.2.1.below hb2)
  have HB2 := Lib.hid (below_next hX.out.1 hb2)
  clear hb2 c0 m1 m2 t1
  generalize w1.drewN nq = w2 at *
  have m0 := HM2.out.at_ 0 rfl
  have m2 := HM2.out.at_ 2 rfl
  replace hmq : m'.q = mq := hmq
  obtain ⟨nk, np, nq', ns, nn⟩ := m'
  replace hmq : nq' = mq := hmq
  subst hmq
  have hL : ∀ (W : World), W.heap[b3]? = w2.heap[b3]? → (Instr.lookup 80 (.map (some b3)) (.int .i64 nq') true).run Try.prog W = .ok (.tuple #[.agg #[.int .i64 nk, .int .i64 np, .int .i64 nq', .string ns, .int .i64 nn], .bool true]) W :=
    fun W hW => Bk.look_yes (m := ⟨nk, np, nq', ns, nn⟩) (HP2.out.got.block hW) hris hm' HQ.out
  have hL1 := hL w2 rfl
  have hL2 := hL w2.drew rfl
  have hA : ∀ o, (w2.alloc o).heap[b3]? = w2.heap[b3]? := fun o => ((Below.refl w2.heap.size w2).alloc (Nat.le_refl _) o).block _ HP2.out.got.lt
  have hL3 := fun o => hL (w2.alloc o) (hA o)
  have hL4 := fun o => hL (w2.alloc o).drew (hA o)
  have hL5 := fun o => hL (w2.drew.alloc o) (hA o)
  have c3 := HP2.out.box.at_ 3 rfl
  have c3' : ∀ o, (w2.alloc o).cell? ⟨g, 3, none⟩ = some (.map (some b3)) := fun o => (HP2.out.box.alloc o).at_ 3 rfl
  have m2' : ∀ o, (w2.alloc o).cell? ⟨w.heap.size, 2, none⟩ = some (.int .i64 nq') := fun o => (HM2.out.alloc o).at_ 2 rfl
  clear hL hA hm' hy
  go_wp2_with fail
  go_region
  clear hL1 hL2 hL3 hL4 hL5 c3 c3' m2' m2 m0
  have HB3 := Lib.hid (((Below.refl w2.heap.size w2).alloc (Nat.le_refl _) (.cells #[.int .i64 nk, .int .i64 np, .int .i64 nq', .string ns, .int .i64 nn] 59)).drew)
  generalize (w2.alloc (.cells #[.int .i64 nk, .int .i64 np, .int .i64 nq', .string ns, .int .i64 nn] 59)).drew = w3 at *
  have H3 := Lib.hid (H2.out.below HB3.out)
  have HB4 := Lib.hid (below_next HB2.out HB3.out)
  have c0 := (HP2.out.box.below HB3.out).at_ 0 rfl
  have m2 := (HM2.out.below HB3.out).at_ 2 rfl
  have z0 := H3.out.2.2 0
  have z1 := H3.out.2.2 1
  have z2 := H3.out.2.2 2
  have z3 := H3.out.2.2 3
  have z4 := H3.out.2.2 4
  obtain ⟨y0, y1, y2, y3, y4⟩ := results5 H3.out
  go_wp2_with fail
  go_region
  go_wp2
  obtain ⟨c0, c1, c2, c3, c4⟩ := results5 (H3.out.set5 (.int .i64 2) (.int .i64 mp) (.int .i64 nq') (.string ⟨#[]⟩) (.int .i64 0))
  refine ⟨rfl, .tuple #[.agg #[.int .i64 2, .int .i64 mp, .int .i64 nq', .string ⟨#[]⟩, .int .i64 0], .bool true], ?_, rfl, (below_set5 HB4.out _ _ _ _ _ _ (by omega)).drew⟩
  simp [results, Try.results25, go_sem, c0, c1, c2, c3, c4]

set_option maxRecDepth 100000 in
set_option maxHeartbeats 4000000 in
/-- A transfer whose number is new. -/
theorem hear_new (g b1 b2 b3 : Nat) (who : Int) (S O G : List Pr.Mg) (m : Pr.Mg) (w : World) (h : Peer w g b1 b2 b3 who S O G) (hw : 0 < who) (hp : m.p = who) (hq : 0 ≤ m.q) (hq2 : Q64 m.q) (k2 : m.k = 1) (hy : Pr.hasq G m.q = false) (hl : G.length ≤ 1000000) :
    Calls Try.prog 25 #[.pointer (some ⟨g, 0, none⟩), .agg m.cells.toArray] w fun e w' => e = .returned (.tuple #[.agg #[.int .i64 2, .int .i64 who, .int .i64 m.q, .string ⟨#[]⟩, .int .i64 0], .bool true]) ∧ Peer w' g b1 b2 b3 who S O (Pr.ins m G) ∧ PCh b1 b2 b3 w w' := by
  obtain ⟨mk, mp, mq, ms, mn⟩ := m
  obtain rfl : mp = who := hp
  obtain rfl : mk = 1 := k2
  replace hq : 0 ≤ mq := hq
  replace hq2 : Q64 mq := hq2
  have HS := Lib.hid (hear_start h (m := ⟨1, mp, mq, ms, mn⟩) (cs := [.int .i64 1, .int .i64 mp, .int .i64 mq, .string ms, .int .i64 mn]) rfl [.int .i64 0, .int .i64 0, .int .i64 0, .string ⟨#[]⟩, .int .i64 0])
  have Hm := Lib.hid (fun W (h : Holds W g [.int .i64 mp, .map (some b1), .map (some b2), .map (some b3)]) => pmade_any g mp _ _ _ W h hw)
  show Calls _ _ #[.pointer (some ⟨g, 0, none⟩), .agg #[.int .i64 1, .int .i64 mp, .int .i64 mq, .string ms, .int .i64 mn]] _ _
  have t1 : (mp != mp) = false := by simp
  have t2 : ¬ mq < 0 := by omega
  have HQ := Lib.hid hq2
  have HFar := Lib.hid h.far
  clear h hq hq2
  go_enter Try.func25, Try.ntmps25
  go_wp2_with fail
  generalize ((w.alloc (.cells #[.int .i64 1, .int .i64 mp, .int .i64 mq, .string ms, .int .i64 mn] 59)).alloc (.cells #[.int .i64 0, .int .i64 0, .int .i64 0, .string ⟨#[]⟩, .int .i64 0] 59)) = w1 at *
  obtain ⟨hb1, hP1, hM1, hR1, hlt⟩ := HS.out
  have c0 := hP1.box.at_ 0 rfl
  have m1 := hM1.at_ 1 rfl
  have m2 := hM1.at_ 2 rfl
  have HLT := Lib.hid hlt
  have hX := Lib.hid (And.intro hb1 (And.intro hP1 (And.intro hM1 (And.intro hR1 hlt))))
  clear HS hb1 hP1 hM1 hR1 hlt
  go_quiet ((go_at_call 38; exact Calls.quiet_of_same ((Hm.out _ (hX.out.2.1.box.below (drewN_below _ _ _))).mono (fun _ _ h => ⟨h.1, h.2.symm⟩))))
  rename_i nq
  have hb2 := drewN_below w1.heap.size w1 nq
  have H2 := Lib.hid (hX.out.2.2.2.1.below hb2)
  have HP2 := Lib.hid (hX.out.2.1.below hb2)
  have HM2 := Lib.hid (hX.out.2.2.1.below hb2)
  have HB2 := Lib.hid (below_next hX.out.1 hb2)
  clear hb2 c0 m1 m2 t1
  generalize w1.drewN nq = w2 at *
  have m0 := HM2.out.at_ 0 rfl
  have m2 := HM2.out.at_ 2 rfl
  replace hy : Pr.hasq G mq = false := hy
  have HY := Lib.hid hy
  have hL : ∀ (W : World), W.heap[b3]? = w2.heap[b3]? → (Instr.lookup 80 (.map (some b3)) (.int .i64 mq) true).run Try.prog W = .ok (.tuple #[.agg #[.int .i64 0, .int .i64 0, .int .i64 0, .string ⟨#[]⟩, .int .i64 0], .bool false]) W :=
    fun W hW => Bk.look_no (HP2.out.got.block hW) HQ.out HY.out
  have hL1 := hL w2 rfl
  have hL2 := hL w2.drew rfl
  have hA : ∀ o, (w2.alloc o).heap[b3]? = w2.heap[b3]? := fun o => ((Below.refl w2.heap.size w2).alloc (Nat.le_refl _) o).block _ HP2.out.got.lt
  have hL3 := fun o => hL (w2.alloc o) (hA o)
  have hL4 := fun o => hL (w2.alloc o).drew (hA o)
  have hL5 := fun o => hL (w2.drew.alloc o) (hA o)
  have c3 := HP2.out.box.at_ 3 rfl
  have c3' : ∀ o, (w2.alloc o).cell? ⟨g, 3, none⟩ = some (.map (some b3)) := fun o => (HP2.out.box.alloc o).at_ 3 rfl
  have m2' : ∀ o, (w2.alloc o).cell? ⟨w.heap.size, 2, none⟩ = some (.int .i64 mq) := fun o => (HM2.out.alloc o).at_ 2 rfl
  clear hL hA hy
  go_wp2_with fail
  go_region
  clear hL1 hL2 hL3 hL4 hL5 c3 c3' m2' m2 m0
  have HB3 := Lib.hid (((Below.refl w2.heap.size w2).alloc (Nat.le_refl _) (.cells #[.int .i64 0, .int .i64 0, .int .i64 0, .string ⟨#[]⟩, .int .i64 0] 59)).drew)
  generalize (w2.alloc (.cells #[.int .i64 0, .int .i64 0, .int .i64 0, .string ⟨#[]⟩, .int .i64 0] 59)).drew = w3 at *
  have H3 := Lib.hid (H2.out.below HB3.out)
  have HP3 := Lib.hid (HP2.out.below HB3.out)
  have HM3 := Lib.hid (HM2.out.below HB3.out)
  have HB4 := Lib.hid (below_next HB2.out HB3.out)
  have c3 := HP3.out.box.at_ 3 rfl
  have m0 := HM3.out.at_ 0 rfl
  have m1 := HM3.out.at_ 1 rfl
  have m2 := HM3.out.at_ 2 rfl
  have m3 := HM3.out.at_ 3 rfl
  have m4 := HM3.out.at_ 4 rfl
  obtain ⟨w4, hrun, hB5, hT5⟩ := Bk.store (w := w3.drew) (m := ⟨1, mp, mq, ms, mn⟩) (HP3.out.got.block rfl) hl HQ.out HY.out
  replace hrun : (Instr.mapUpdate 80 (.map (some b3)) (.int .i64 mq) (.agg #[.int .i64 1, .int .i64 mp, .int .i64 mq, .string ms, .int .i64 mn])).run Try.prog w3.drew = .ok () w4 := hrun
  go_wp2_with fail
  go_region
  have H5 := Lib.hid (peer_put HP3.out HB4.out H3.out HM3.out HLT.out hB5 hT5)
  clear hrun hB5 hT5 m0 m1 m2 m3 m4 c3
  have c0 := H5.out.1.box.at_ 0 rfl
  have m2 := H5.out.2.2.2.at_ 2 rfl
  have z0 := H5.out.2.2.1.2.2 0
  have z1 := H5.out.2.2.1.2.2 1
  have z2 := H5.out.2.2.1.2.2 2
  have z3 := H5.out.2.2.1.2.2 3
  have z4 := H5.out.2.2.1.2.2 4
  obtain ⟨y0, y1, y2, y3, y4⟩ := results5 H5.out.2.2.1
  go_wp2_with fail
  go_region
  go_wp2
  obtain ⟨c0, c1, c2, c3, c4⟩ := results5 (H5.out.2.2.1.set5 (.int .i64 2) (.int .i64 mp) (.int .i64 mq) (.string ⟨#[]⟩) (.int .i64 0))
  refine ⟨rfl, .tuple #[.agg #[.int .i64 2, .int .i64 mp, .int .i64 mq, .string ⟨#[]⟩, .int .i64 0], .bool true], ?_, rfl, H5.out.1.low (below_set5 (Below.refl _ _) _ _ _ _ _ _ (Nat.le_succ _)).drew HLT.out, H5.out.2.1.low_of (below_set5 (Below.refl _ _) _ _ _ _ _ _ (Nat.le_succ _)).drew (Nat.le_refl _)⟩
  simp [results, Try.results25, go_sem, c0, c1, c2, c3, c4]
end Go.Proofs.Ythganbbiclmgpaa
