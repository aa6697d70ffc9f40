/- A line that may be, put into its key's state: the method put of a book. -/
import Derived.Test.YtcoekdfmfjglpaaBoStep
namespace Go.Proofs.Ytcoekdfmfjglpaa
open Go.RowKit
namespace Bo
theorem dn_in {l : Ln} (h : okL l = true) : (-1125899906842624 ≤ dF l ∧ dF l ≤ 1125899906842624) ∧ (-1125899906842624 ≤ dH l ∧ dH l ≤ 1125899906842624) ∧ (-1125899906842624 ≤ dO l ∧ dO l ≤ 1125899906842624) := by
  obtain ⟨_, _, hn⟩ := okL_iff.1 h
  unfold dF dH dO
  refine ⟨?_, ?_, ?_⟩
  · split
    · omega
    · split <;> omega
  · split
    · omega
    · split <;> omega
  · split
    · omega
    · split <;> omega
theorem nm_le {s : ByteArray} (h : nm s = true) : s.size ≤ 16 := by
  unfold nm at h
  exact (of_decide_eq_true h).2
theorem lt_no {x : Int} (h : x.natAbs < 2 ^ 53) (hx : ¬ x < 0) : (FloatKind.f64.format.order (fl x) 0 == some .lt) = false := by
  have h1 := ord_fl h (y := 0) (by decide)
  rw [fl_zero] at h1
  rw [h1]
  show (some (compareOfLessAndEq x 0) == some Ordering.lt) = false
  unfold compareOfLessAndEq
  rw [if_neg hx]
  split <;> rfl
theorem lt_yes {x : Int} (h : x.natAbs < 2 ^ 53) (hx : x < 0) : (FloatKind.f64.format.order (fl x) 0 == some .lt) = true := by
  have h1 := ord_fl h (y := 0) (by decide)
  rw [fl_zero] at h1
  rw [h1]
  show (some (compareOfLessAndEq x 0) == some Ordering.lt) = true
  unfold compareOfLessAndEq
  rw [if_pos hx]
  rfl
theorem fl_most : fl 1125899906842624 = 4832362400168542208 := by decide
theorem gt_no {x : Int} (h : x.natAbs < 2 ^ 53) (hx : ¬ 1125899906842624 < x) : (FloatKind.f64.format.order (fl x) 4832362400168542208 == some .gt) = false := by
  have h1 := ord_fl h (y := 1125899906842624) (by decide)
  rw [fl_most] at h1
  rw [h1]
  show (some (compareOfLessAndEq x 1125899906842624) == some Ordering.gt) = false
  unfold compareOfLessAndEq
  split
  · rfl
  · rw [if_pos (by omega)]; rfl
theorem gt_yes {x : Int} (h : x.natAbs < 2 ^ 53) (hx : 1125899906842624 < x) : (FloatKind.f64.format.order (fl x) 4832362400168542208 == some .gt) = true := by
  have h1 := ord_fl h (y := 1125899906842624) (by decide)
  rw [fl_most] at h1
  rw [h1]
  show (some (compareOfLessAndEq x 1125899906842624) == some Ordering.gt) = true
  unfold compareOfLessAndEq
  rw [if_neg (by omega), if_neg (by omega)]
  rfl
end Bo
theorem store_complex (P : Program) : ∀ (u : World) (a : Addr) (m : Mode) (x y : Nat), (store a (.complex .f64 x y) m).run P u = stored P u a (.complex .f64 x y) m := fun u a m _ _ => run_store P u a _ m rfl
def GivesPut (w : World) (b n : Nat) (T : List Bo.Tt) (l : Bo.Ln) (e : Ending) (w' : World) : Prop :=
  e = .returned (.int .i64 (Bo.code T l)) ∧ Below b w w' ∧ (Bo.code T l = 0 → Bk w' b (n + 1) (Bo.next T l))
set_option maxRecDepth 100000 in
set_option maxHeartbeats 8000000 in
theorem bput_any (b m : Nat) (T : List Bo.Tt) (x : Bo.Ln) (w : World) (h : Bk w b m T) (hs : Bo.Srt T) (hi : Bo.InT T) (hx : Bo.okL x = true) (hm : m < 10000) :
    Calls Try.prog 20 #[.map (some b), .agg x.cells.toArray] w (GivesPut w b m T x) := by
  have HSt := Lib.hid (fun (u : World) => step_any x u hx)
  have HBk := Lib.hid h
  have HS := Lib.hid hs
  have hD := Bo.dn_in hx
  have hks : x.key.size ≤ 9223372036854775807 := by have := Bo.nm_le (Bo.okL_iff.1 hx).2.1; omega
  have hgi := Bo.get_in hi x.key
  have HG := Lib.hid (Bo.get_key T x.key)
  have HLk := Lib.hid (fun (u : World) (hu : Bk u b m T) => hu.look hks)
  have HC := Lib.hid (show Bo.code T x = Bo.bad ⟨x.key, (Bo.get T x.key).free + Bo.dF x, (Bo.get T x.key).held + Bo.dH x, (Bo.get T x.key).out + Bo.dO x⟩ by unfold Bo.code Bo.put; rw [Bo.get_key])
  have HNx := Lib.hid (show Bo.next T x = Bo.ins T ⟨x.key, (Bo.get T x.key).free + Bo.dF x, (Bo.get T x.key).held + Bo.dH x, (Bo.get T x.key).out + Bo.dO x⟩ by unfold Bo.next Bo.put; rw [Bo.get_key])
  unfold GivesPut
  unfold GivesStep at HSt
  generalize Bo.code T x = cd at HC
  generalize Bo.next T x = nx at HNx
  clear h hs hi hx
  generalize Bo.get T x.key = g at *
  generalize Bo.dF x = a at *
  generalize Bo.dH x = c at *
  generalize Bo.dO x = d at *
  obtain ⟨gk, gf, gh, go⟩ := g
  obtain ⟨kind, key, n⟩ := x
  unfold Bo.InX at hgi
  dsimp only at HC HNx HLk hgi HG hks
  have hlb := HBk.out.lt
  have HLb := Lib.hid hlb
  have hL1 := HLk.out (w.alloc (.cells #[Value.int .i64 kind, .string key, .int .i64 n] 25)) (HBk.out.alloc _)
  replace hL1 : (Instr.lookup 52 (.map (some b)) (.string key) false).run Try.prog (w.alloc (.cells #[Value.int .i64 kind, .string key, .int .i64 n] 25)) = .ok (.agg #[.complex .f64 (Bo.fl gf) (Bo.fl gh), .int .i64 go]) (w.alloc (.cells #[Value.int .i64 kind, .string key, .int .i64 n] 25)) := hL1
  show Calls _ _ #[.map (some b), .agg #[.int .i64 kind, .string key, .int .i64 n]] _ _
  replace HSt : Hid (∀ u : World, Calls Try.prog 27 #[.agg #[.int .i64 kind, .string key, .int .i64 n]] u (fun e w' => e = .returned (.tuple #[.complex .f64 (Bo.fl a) (Bo.fl c), .int .i64 d]) ∧ Below u.heap.size u w')) := HSt
  clear hlb HLk
  have hst := store_complex Try.prog
  go_enter Try.func20, Try.ntmps20
  go_wp2_with fail
  clear hL1
  refine (HSt.out _).mono ?_
  rintro e w3 ⟨rfl, hb3⟩
  have HLn := Lib.hid ((Holds.new w #[Value.int .i64 kind, .string key, .int .i64 n] 25 |>.alloc (.cells #[.complex .f64 (Bo.fl gf) (Bo.fl gh), .int .i64 go] 56)).below hb3)
  have HSx := Lib.hid (Holds.next hb3)
  have HB3 := Lib.hid ((((Below.refl w.heap.size w).alloc (Nat.le_refl _) (.cells #[Value.int .i64 kind, .string key, .int .i64 n] 25)).alloc (by simp) (.cells #[.complex .f64 (Bo.fl gf) (Bo.fl gh), .int .i64 go] 56)).trans (hb3.mono (by simp; omega)))
  clear hb3
  have hsz : (w.alloc (.cells #[Value.int .i64 kind, .string key, .int .i64 n] 25)).heap.size = w.heap.size + 1 := by simp
  rw [hsz] at HSx
  have c0 := HSx.out.at_ 0 rfl
  have c1 := HSx.out.at_ 1 rfl
  have f0 := HSx.out.2.2 0
  have f1 := HSx.out.2.2 1
  have hadd : ∀ u : World, (binOp .add 53 (.complex .f64 (Bo.fl gf) (Bo.fl gh)) (.complex .f64 (Bo.fl a) (Bo.fl c))).run Try.prog u = .ok (.complex .f64 (Bo.fl (gf + a)) (Bo.fl (gh + c))) u := fun u => run_complex_sum u .add (.inl rfl) _ _ _ _ _ _ _ _ (Bo.cadd_fl (by omega) (by omega) (by omega) (by omega))
  have hF : (gf + a).natAbs < 2 ^ 52 := by omega
  have hH : (gh + c).natAbs < 2 ^ 52 := by omega
  have hO1 : -9223372036854775808 ≤ go + d := by omega
  have hO2 : go + d ≤ 9223372036854775807 := by omega
  go_wp2_with fail
  go_region
  clear c0 c1 f0 f1 hadd
  generalize gf + a = F at *
  generalize gh + c = H at *
  generalize go + d = O at *
  have HSx5 : Hid (Holds ((w3.setCell ⟨w.heap.size + 1, 0, none⟩ (.complex .f64 (Bo.fl F) (Bo.fl H))).setCell ⟨w.heap.size + 1, 1, none⟩ (.int .i64 O)).drew (w.heap.size + 1) [.complex .f64 (Bo.fl F) (Bo.fl H), .int .i64 O]) := Lib.hid ((HSx.out.set 0 (.complex .f64 (Bo.fl F) (Bo.fl H)) (by simp)).set 1 (.int .i64 O) (by simp))
  have HLn5 : Hid (Holds ((w3.setCell ⟨w.heap.size + 1, 0, none⟩ (.complex .f64 (Bo.fl F) (Bo.fl H))).setCell ⟨w.heap.size + 1, 1, none⟩ (.int .i64 O)).drew w.heap.size [Value.int .i64 kind, .string key, .int .i64 n]) := Lib.hid ((HLn.out.other (b := w.heap.size + 1) (by omega)).other (by omega))
  have HB5 : Hid (Below w.heap.size w ((w3.setCell ⟨w.heap.size + 1, 0, none⟩ (.complex .f64 (Bo.fl F) (Bo.fl H))).setCell ⟨w.heap.size + 1, 1, none⟩ (.int .i64 O)).drew) := Lib.hid ((HB3.out.setCell (p := ⟨w.heap.size + 1, 0, none⟩) (by simp) _).setCell (p := ⟨w.heap.size + 1, 1, none⟩) (by simp) _).drew
  generalize ((w3.setCell ⟨w.heap.size + 1, 0, none⟩ (.complex .f64 (Bo.fl F) (Bo.fl H))).setCell ⟨w.heap.size + 1, 1, none⟩ (.int .i64 O)).drew = w5 at *
  clear HSx HLn HB3
  have HBk5 := Lib.hid (HBk.out.below HLb.out HB5.out)
  have HBb := Lib.hid (HB5.out.mono (Nat.le_of_lt HLb.out))
  have e1 := HSx5.out.at_ 1 rfl
  have e0 := HSx5.out.at_ 0 rfl
  have l1 := HLn5.out.at_ 1 rfl
  by_cases k1 : F < 0
  · have q1 := Bo.lt_yes (x := F) (by omega) k1
    have HFin : Hid (cd = 201) := Lib.hid (by rw [HC.out]; unfold Bo.bad; rw [if_pos (.inl k1)])
    clear HC k1
    go_wp2
    go_ret
    exact ⟨by rw [HFin.out]; rfl, HBb.out, fun h => absurd (HFin.out.symm.trans h) (by decide)⟩
  have q1 := Bo.lt_no (x := F) (by omega) k1
  by_cases k2 : H < 0
  · have q2 := Bo.lt_yes (x := H) (by omega) k2
    have HFin : Hid (cd = 201) := Lib.hid (by rw [HC.out]; unfold Bo.bad; rw [if_pos (.inr (.inl k2))])
    clear HC k1 k2
    go_wp2
    go_ret
    exact ⟨by rw [HFin.out]; rfl, HBb.out, fun h => absurd (HFin.out.symm.trans h) (by decide)⟩
  have q2 := Bo.lt_no (x := H) (by omega) k2
  by_cases k3 : O < 0
  · have HFin : Hid (cd = 201) := Lib.hid (by rw [HC.out]; unfold Bo.bad; rw [if_pos (.inr (.inr k3))])
    clear HC k1 k2
    go_wp2
    go_ret
    exact ⟨by rw [HFin.out]; rfl, HBb.out, fun h => absurd (HFin.out.symm.trans h) (by decide)⟩
  have HN1 := Lib.hid (show ¬ (F < 0 ∨ H < 0 ∨ O < 0) by omega)
  have hadd2 : ∀ u : World, (binOp .add 54 (.float .f64 (Bo.fl F)) (.float .f64 (Bo.fl H))).run Try.prog u = .ok (.float .f64 (Bo.fl (F + H))) u := fun u => run_float_arith u .add _ .f64 _ _ _ (Bo.add_fl (by omega) (by omega) (by omega))
  by_cases k4 : 1125899906842624 < F + H
  · have q4 := Bo.gt_yes (x := F + H) (by omega) k4
    have HFin : Hid (cd = 200) := Lib.hid (by rw [HC.out]; unfold Bo.bad; rw [if_neg HN1.out, if_pos (.inl k4)])
    clear HC k1 k2 k4
    go_wp2
    go_ret
    exact ⟨by rw [HFin.out]; rfl, HBb.out, fun h => absurd (HFin.out.symm.trans h) (by decide)⟩
  have q4 := Bo.gt_no (x := F + H) (by omega) k4
  by_cases k5 : 1152921504606846976 < O
  · have HFin : Hid (cd = 200) := Lib.hid (by rw [HC.out]; unfold Bo.bad; rw [if_neg HN1.out, if_pos (.inr k5)])
    clear HC k1 k2 k4
    go_wp2
    go_ret
    exact ⟨by rw [HFin.out]; rfl, HBb.out, fun h => absurd (HFin.out.symm.trans h) (by decide)⟩
  have HFin : Hid (cd = 0) := Lib.hid (by rw [HC.out]; unfold Bo.bad; rw [if_neg HN1.out, if_neg (fun h => h.elim k4 k5)])
  clear HC k1 k2 k4
  obtain ⟨w6, hrun, hb6, hg6⟩ := HBk5.out.store hm HS.out ⟨key, F, H, O⟩ hks
  replace hrun : (Instr.mapUpdate 52 (.map (some b)) (.string key) (.agg #[.complex .f64 (Bo.fl F) (Bo.fl H), .int .i64 O])).run Try.prog w5 = .ok () w6 := hrun
  have HRes := Lib.hid (show Below b w w6 ∧ Bk w6 b (m + 1) nx from ⟨HBb.out.grown hg6 (Nat.le_of_lt (HBk5.out.lt)) (fun k hk => by injection hk with hk; omega), by rw [HNx.out]; exact hb6⟩)
  clear hb6 hg6 HNx
  go_wp2
  go_ret
  exact ⟨by rw [HFin.out]; rfl, HRes.out.1, fun _ => HRes.out.2⟩
end Go.Proofs.Ytcoekdfmfjglpaa
