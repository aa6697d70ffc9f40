/- One more: Put, where an older one of that key is there; and all ways together. -/
import Derived.Test.YtfmbnoafmnbhcaaMmPutN
namespace Go.Proofs.Ytfmbnoafmnbhcaa
open Go.RowKit
set_option maxRecDepth 100000 in
set_option maxHeartbeats 4000000 in
theorem put_new2 (S : Nat → Prop) (m : Nat) (T : Bk.Tr) (top : Int) (x : Bk.P) (w : World) (hM : Bk.IsM S w m T top) (hS : ∀ k, S k → k < w.heap.size) (hx : Bk.At w x) (hok : Bk.ok x.1 = true) (hlow : ¬ x.1.seq < top) (y : Bk.P) (hp : Bk.pick x.1.key (T.from_ (Bk.want x.1.key x.1.seq)) = some y) (hys : ¬ y.1.seq = x.1.seq) (hsz : T.size + 2 ≤ 1000000) (hbig : Bk.bytes T.row ≤ 1000000000000) :
    Calls Try.prog 29 #[.pointer (some ⟨m, 0, none⟩), .agg (Bk.cells x).toArray] w (GivesPut S w m T top x) := by
  have HF := Lib.hid (show Bk.putE T top x = 0 by unfold Bk.putE; rw [if_neg (by rw [hok]; decide), if_neg (by rw [show Bk.dup T x = false from by unfold Bk.dup; rw [hp]; exact decide_eq_false hys]; simpa using hlow)])
  have HSz := Lib.hid hsz
  have HEn := Lib.hid hbig
  clear hsz hbig
  obtain ⟨p, hH, hT, hSm⟩ := hM
  have HM := Lib.hid hH
  have HT := Lib.hid hT
  have HS := Lib.hid hS
  have HAt := Lib.hid hx
  have HSm := Lib.hid hSm
  clear hH hT hSm hS hx
  have Ck := Lib.hid (fun (u : World) (hu : Below w.heap.size w u) => check_any x u (HAt.out.below hu))
  obtain ⟨⟨key, seq, del, val⟩, V, n, c⟩ := x
  show Calls _ _ #[.pointer (some ⟨m, 0, none⟩), .agg #[.string key, .int .i64 seq, .bool del, .slice V n c]] _ _
  have HB := Lib.hid (show Below w.heap.size w (w.alloc (.cells #[Value.string key, .int .i64 seq, .bool del, .slice V n c] 24)) from (Below.refl _ _).alloc (Nat.le_refl _) _)
  have HZ := Lib.hid (Holds.new w #[Value.string key, .int .i64 seq, .bool del, .slice V n c] 24)
  have Ck2 : Hid (∀ u, Below w.heap.size w u → Calls Try.prog 11 #[.agg #[.string key, .int .i64 seq, .bool del, .slice V n c]] u fun e w' => e = .returned (.int .i64 0) ∧ Below u.heap.size u w') := Lib.hid (fun u hu => by have h := Ck.out u hu; rw [if_pos hok] at h; exact h)
  clear Ck hok
  have hp : Bk.pick key (T.from_ (Bk.want key seq)) = some y := hp
  have ht : (Bk.pick key (T.from_ (Bk.want key seq))).isSome = true := by rw [hp]; rfl
  have HP := Lib.hid (And.intro hp hys)
  clear hp hys
  have hlow : ¬ seq < top := hlow
  have Gt : Hid (∀ u, Below w.heap.size w u → Calls Try.prog 23 #[.pointer (some ⟨m, 0, none⟩), .string key, .int .i64 seq] u fun e w' => ∃ q : Bk.P, e = .returned (.tuple #[.agg (Bk.cells q).toArray, .bool true]) ∧ q.1 = ((Bk.pick key (T.from_ (Bk.want key seq))).map (fun z => z.1)).getD Bk.zeroE.1 ∧ Bk.At w' q ∧ (0 < q.2.2.1 → ∀ g o, q.2.1 = some ⟨g, o, none⟩ → u.heap.size ≤ g) ∧ Below u.heap.size u w') := Lib.hid (fun u hu => by have h := get_any S m T top key seq u ⟨p, HM.out.below hu, HT.out.below hu, HSm.out⟩; unfold GivesGet at h; rw [ht] at h; exact h)
  clear ht
  go_enter Try.func29, Try.ntmps29
  go_wp2_with fail
  generalize (w.alloc (.cells #[Value.string key, .int .i64 seq, .bool del, .slice V n c] 24)) = v at HB HZ ⊢
  have HM1 := Lib.hid (HM.out.below HB.out)
  have z0 := HZ.out.2.1 0 _ rfl
  have z1 := HZ.out.2.1 1 _ rfl
  have z2 := HZ.out.2.1 2 _ rfl
  have z3 := HZ.out.2.1 3 _ rfl
  have m2 := HM1.out.2.1 2 _ rfl
  go_upto_region 7 with (first | (go_at_call 32; refine (made_any m _ _ HM1.out).mono ?_; rintro e w1 ⟨rfl, rfl⟩) | (go_at_call 11; refine (Ck2.out _ HB.out).mono ?_; rintro e v2 ⟨rfl, hb2⟩; have HB2 := Lib.hid (below_next HB.out hb2); have HZ2 := Lib.hid (HZ.out.below hb2); have HM2 := Lib.hid (HM1.out.below hb2); clear hb2; have y0 := HZ2.out.2.1 0 _ rfl; have y1 := HZ2.out.2.1 1 _ rfl; have y2 := HZ2.out.2.1 2 _ rfl; have y3 := HZ2.out.2.1 3 _ rfl; have n2' := HM2.out.2.1 2 _ rfl) | (go_at_call 23; refine (Gt.out _ HB2.out).mono ?_; rintro e v3 ⟨⟨⟨qk, qs, qd, qv⟩, qV, qn, qc⟩, he, hq1, _, _, hb3⟩; have he : e = .returned (.tuple #[.agg #[.string qk, .int .i64 qs, .bool qd, .slice qV qn qc], .bool true]) := he; subst he; have HQ1 := Lib.hid hq1; have hb4 := hb3.alloc hb3.size (.cells #[Value.string qk, .int .i64 qs, .bool qd, .slice qV qn qc] 24); have HQ := Lib.hid (Holds.new v3 #[Value.string qk, .int .i64 qs, .bool qd, .slice qV qn qc] 24); have HB4 := Lib.hid (below_next HB2.out hb4); have HZ4 := Lib.hid (HZ2.out.below hb4); have HM4 := Lib.hid (HM2.out.below hb4); clear hq1 hb3 hb4; have x0 := HZ4.out.2.1 0 _ rfl; have x1 := HZ4.out.2.1 1 _ rfl; have x2 := HZ4.out.2.1 2 _ rfl; have x3 := HZ4.out.2.1 3 _ rfl; have w1' := HM4.out.2.1 1 _ rfl; have w2' := HM4.out.2.1 2 _ rfl; have w3' := HM4.out.2.1 3 _ rfl; have w4' := HM4.out.2.1 4 _ rfl; have q1 := HQ.out.2.1 1 _ rfl))
  have hqs : ¬ qs = seq := by
    intro e
    have h := HQ1.out
    rw [HP.out.1] at h
    exact HP.out.2 ((congrArg Bk.En.seq h).symm.trans e)
  have hqd : decide (qs = seq) = false := decide_eq_false hqs
  have hqe : (qs == seq) = false := by simpa using hqs
  go_quiet (fail)
  go_wp2_with fail
  have HM5 := Lib.hid (HM4.out.below (below_drewN (Below.refl _ _) nq))
  have HZ5 := Lib.hid (HZ4.out.below (below_drewN (Below.refl _ _) nq))
  have HB5 := Lib.hid (below_drewN HB4.out nq)
  clear HM4 HZ4 HB4 HQ HM2 HZ2 HM1 x0 x1 x2 x3 w1' w2' w3' w4' q1 z0 z1 z2 z3 m2
  clear y0 y1 y2 y3 n2'
  generalize (World.drewN (v3.alloc (.cells #[Value.string qk, .int .i64 qs, .bool qd, .slice qV qn qc] 24)) nq) = u at HM5 HZ5 HB5 ⊢
  have hne : w.heap.size ≠ m := by have := HM.out.1; omega
  have HCl := Lib.hid (fun (wx : World) (hb : Below u.heap.size u wx) => (⟨(HM5.out.below hb).2.1 1 _ rfl, (HZ5.out.below hb).2.1 0 _ rfl, (HZ5.out.below hb).2.1 1 _ rfl, (HZ5.out.below hb).2.1 2 _ rfl, (HZ5.out.below hb).2.1 3 _ rfl⟩ : wx.cell? ⟨m, 1, none⟩ = some (.pointer p) ∧ wx.cell? ⟨w.heap.size, 0, none⟩ = some (.string key) ∧ wx.cell? ⟨w.heap.size, 1, none⟩ = some (.int .i64 seq) ∧ wx.cell? ⟨w.heap.size, 2, none⟩ = some (.bool del) ∧ wx.cell? ⟨w.heap.size, 3, none⟩ = some (.slice V n c)))
  have HD := Lib.hid (show Below u.heap.size u u.drew from (Below.refl _ _).drew)
  have hHeld := HCl.out _ HD.out
  refine region_end (fun wx => wx.cell? ⟨m, 1, none⟩ = some (.pointer p) ∧ wx.cell? ⟨w.heap.size, 0, none⟩ = some (.string key) ∧ wx.cell? ⟨w.heap.size, 1, none⟩ = some (.int .i64 seq) ∧ wx.cell? ⟨w.heap.size, 2, none⟩ = some (.bool del) ∧ wx.cell? ⟨w.heap.size, 3, none⟩ = some (.slice V n c)) (by kernel_rfl) (by simp) (by kernel_rfl) ?_
  simp only [List.dropLast, List.length_cons, List.length_nil]
  refine take_at (i := 0) (v := ?_) (some 42) rfl rfl (by kernel_rfl) (by kernel_rfl) (by kernel_rfl) (fun _ _ _ h => h) (by rfl) hHeld ?_ ?_
  rotate_left
  · intro wz hSw; (try dsimp only at hSw); go_simp; (try with_reducible rfl)
  (try simp only [Act.put, List.setIfInBounds_toArray, List.set_cons_zero, List.set_cons_succ])
  refine take_at (i := 1) (v := ?_) (some 43) rfl rfl (by kernel_rfl) (by kernel_rfl) (by kernel_rfl) (fun _ _ _ h => h) (by rfl) hHeld ?_ ?_
  rotate_left
  · intro wz hSw; (try dsimp only at hSw); go_simp; (try with_reducible rfl)
  (try simp only [Act.put, List.setIfInBounds_toArray, List.set_cons_zero, List.set_cons_succ])
  refine take_at (i := 2) (v := ?_) (some 44) rfl rfl (by kernel_rfl) (by kernel_rfl) (by kernel_rfl) (fun _ _ _ h => h) (by rfl) hHeld ?_ ?_
  rotate_left
  · intro wz hSw; (try dsimp only at hSw); go_simp; (try with_reducible rfl)
  (try simp only [Act.put, List.setIfInBounds_toArray, List.set_cons_zero, List.set_cons_succ])
  refine take_at (i := 3) (v := ?_) (some 45) rfl rfl (by kernel_rfl) (by kernel_rfl) (by kernel_rfl) (fun _ _ _ h => h) (by rfl) hHeld ?_ ?_
  rotate_left
  · intro wz hSw; (try dsimp only at hSw); go_simp; (try with_reducible rfl)
  (try simp only [Act.put, List.setIfInBounds_toArray, List.set_cons_zero, List.set_cons_succ])
  refine take_at (i := 4) (v := ?_) (some 46) rfl rfl (by kernel_rfl) (by kernel_rfl) (by kernel_rfl) (fun _ _ _ h => h) (by rfl) hHeld ?_ ?_
  rotate_left
  · intro wz hSw; (try dsimp only at hSw); go_simp; (try with_reducible rfl)
  (try simp only [Act.put, List.setIfInBounds_toArray, List.set_cons_zero, List.set_cons_succ])
  refine take_at (i := 5) (v := ?_) (some 47) rfl rfl (by kernel_rfl) (by kernel_rfl) (by kernel_rfl) (fun _ _ _ h => h) (by rfl) hHeld ?_ ?_
  rotate_left
  · intro wz hSw; (try dsimp only at hSw); go_simp; (try with_reducible rfl)
  (try simp only [Act.put, List.setIfInBounds_toArray, List.set_cons_zero, List.set_cons_succ])
  refine wpAnyH_ready (rs := [6]) (by kernel_rfl) (by simp) ?_
  refine ready_cons (i := 6) rfl (by rfl) (fun K hK => ?_) AllReadyH.nil
  refine wp_call1 48 rfl (.tmp 47) rfl rfl (run_enter Try.func35 (by kernel_rfl) (by kernel_rfl)) ((show Calls _ _ _ _ (GivesOwn u.drew (⟨key, seq, del, val⟩, V, n, c)) from own_any (⟨key, seq, del, val⟩, V, n, c) u.drew (HAt.out.below (HB5.out.drew))).mono ?_)
  rintro e v6 ⟨V6, c6, rfl, h6, hf6, hb6'⟩
  have hb6 := below_next HD.out hb6'
  have HO6 := Lib.hid (put_own (S := S) HS.out HB5.out hb6 h6 hf6)
  have HB6 := Lib.hid hb6
  refine ⟨_, rfl, ?_⟩
  refine hK.out _ _ ?_ ?_
  · exact HCl.out _ HB6.out
  clear hK K h6 hf6 hb6 hb6' hHeld
  have hHeld := HCl.out _ HB6.out
  (try simp only [Act.put, List.setIfInBounds_toArray, List.set_cons_zero, List.set_cons_succ])
  refine wpAnyH_ready (rs := [7]) (by kernel_rfl) (by simp) ?_
  refine ready_cons (i := 7) rfl (by rfl) (fun K hK => ?_) AllReadyH.nil
  refine wp_call3 49 rfl (.tmp 46) (.tmp 48) (.func 31) rfl rfl rfl rfl (run_enter Try.func36 (by kernel_rfl) (by kernel_rfl)) ((show Calls _ _ _ _ (GivesT S v6 (Bk.Tr.ins (⟨key, seq, del, val⟩, V6, n, c6) T)) from with_any S (⟨key, seq, del, val⟩, V6, n, c6) T p v6 (levelS HS.out (HB5.out.trans (HB6.out.mono HB5.out.size))) (HT.out.below (HB5.out.trans (HB6.out.mono HB5.out.size))) HO6.out HSz.out).mono ?_)
  rintro e v7 ⟨p7, rfl, hT7, hb7'⟩
  have HB7 := Lib.hid (below_next HB6.out hb7')
  have HT7 := Lib.hid hT7
  refine ⟨_, rfl, ?_⟩
  refine hK.out _ _ ?_ ?_
  · exact HCl.out _ HB7.out
  clear hK K hT7 hb7' hHeld
  have hHeld := HCl.out _ HB7.out
  (try simp only [Act.put, List.setIfInBounds_toArray, List.set_cons_zero, List.set_cons_succ])
  refine take_at (i := 8) (v := ?_) (some 50) rfl rfl (by kernel_rfl) (by kernel_rfl) (by kernel_rfl) (fun _ _ _ h => h) (by rfl) hHeld ?_ ?_
  rotate_left
  · intro wz hSw; (try dsimp only at hSw); go_simp; (try with_reducible rfl)
  (try simp only [Act.put, List.setIfInBounds_toArray, List.set_cons_zero, List.set_cons_succ])
  refine take_at (i := 9) (v := ?_) (some 51) rfl rfl (by kernel_rfl) (by kernel_rfl) (by kernel_rfl) (fun _ _ _ h => h) (by rfl) hHeld ?_ ?_
  rotate_left
  · intro wz hSw; (try dsimp only at hSw); go_simp; (try with_reducible rfl)
  (try simp only [Act.put, List.setIfInBounds_toArray, List.set_cons_zero, List.set_cons_succ])
  refine wpAnyH_done (by kernel_rfl) ?_ _
  clear hHeld
  change wpList _ _ _ _ _ _
  have HM7 := Lib.hid (HM5.out.below HB7.out)
  have HZ7 := Lib.hid (HZ5.out.below HB7.out)
  have a0 := HM7.out.2.1 1 _ rfl
  have a1 := HM7.out.2.2
  have a2 := HM7.out.2.1 2 _ rfl
  have a3 := HM7.out.2.1 3 _ rfl
  have a4 := HM7.out.2.1 4 _ rfl
  have b0 := HZ7.out.2.1 0 _ rfl
  have b1 := HZ7.out.2.1 1 _ rfl
  have b3 := HZ7.out.2.1 3 _ rfl
  have hl1 : (T.row.length : Int) + 1 ≤ 1000001 := by have := HSz.out; rw [T.row_size]; omega
  have hl0 : (0 : Int) ≤ T.row.length := by omega
  have hk := HAt.out.2.2.1
  have hn := HAt.out.2.2.2.2.2
  have hk : (key.size : Int) ≤ 1000000 := by have : key.size ≤ 1000000 := hk; omega
  have hn : (n : Int) ≤ 1000000 := by have : n ≤ 1000000 := hn; omega
  have hbt : (Bk.bytes T.row : Int) ≤ 1000000000000 := by have := HEn.out; omega
  go_wp2
  clear a0 a1 a2 a3 a4 b0 b1 b3
  have HM9 := Lib.hid (put_three (.pointer p7) (.int .i64 seq) (.int .i64 ((T.row.length : Int) + 1)) HM7.out hne HZ7.out HB7.out HB5.out)
  have HT9 := Lib.hid (HT7.out.sm (put_sm (m := m) (x := .pointer p7) (y := .int .i64 seq) (z := .int .i64 ((T.row.length : Int) + 1)) HSm.out))
  generalize (((v7.setCell ⟨m, 1, none⟩ (.pointer p7)).setCell ⟨m, 2, none⟩ (.int .i64 seq)).setCell ⟨m, 3, none⟩ (.int .i64 ((T.row.length : Int) + 1))) = v9 at HM9 HT9 ⊢
  have a4 := HM9.out.1.2.1 4 _ rfl
  have a1 := HM9.out.1.2.2
  have b0 := HM9.out.2.1.2.1 0 _ rfl
  have b3 := HM9.out.2.1.2.1 3 _ rfl
  have hb0 : (0 : Int) ≤ (Bk.bytes T.row : Int) := by omega
  go_region
  go_wp2
  go_ret
  refine ⟨by rw [HF.out]; rfl, Bk.Tr.ins (⟨key, seq, del, val⟩, V6, n, c6) T, seq, ⟨p7, ?_, HT9.out.sm (put_sm1 HSm.out), HSm.out⟩, put_grown HM9.out.2.2, fun e => absurd HF.out e, fun _ => ⟨V6, c6, rfl, rfl⟩⟩
  have h := (HM9.out.1.drew).set 4 (.int .i64 ((Bk.bytes T.row : Int) + ((key.size : Int) + (n : Int) + 16))) (by simp)
  rw [Bk.Tr.row_size, Bk.Tr.ins_size, ← Bk.Tr.row_size, Bk.bytes_ins]
  simp only [List.set_cons_zero, List.set_cons_succ] at h
  have e1 : ((T.row.length + 1 : Nat) : Int) = (T.row.length : Int) + 1 := by omega
  have e2 : ((Bk.bytes T.row + Bk.size1 ((⟨key, seq, del, val⟩, V6, n, c6) : Bk.P) : Nat) : Int) = (Bk.bytes T.row : Int) + ((key.size : Int) + (n : Int) + 16) := by simp only [Bk.size1]; omega
  rw [e1, e2]
  exact h
/-- Put, of whatever entry. -/
theorem put_any (S : Nat → Prop) (m : Nat) (T : Bk.Tr) (top : Int) (x : Bk.P) (w : World) (hM : Bk.IsM S w m T top) (hS : ∀ k, S k → k < w.heap.size) (hx : Bk.At w x) (hsz : T.size + 2 ≤ 1000000) (hbig : Bk.bytes T.row ≤ 1000000000000) :
    Calls Try.prog 29 #[.pointer (some ⟨m, 0, none⟩), .agg (Bk.cells x).toArray] w (GivesPut S w m T top x) := by
  by_cases hok : Bk.ok x.1 = true
  · by_cases hlow : x.1.seq < top
    · exact put_low S m T top x w hM hS hx hok hlow _ rfl
    · cases hp : Bk.pick x.1.key (T.from_ (Bk.want x.1.key x.1.seq)) with
      | none => exact put_new S m T top x w hM hS hx hok hlow hp hsz hbig
      | some y =>
        by_cases hys : y.1.seq = x.1.seq
        · exact put_dup S m T top x w hM hS hx hok hlow y hp hys
        · exact put_new2 S m T top x w hM hS hx hok hlow y hp hys hsz hbig
  · exact put_bad S m T top x w hM hS hx hok
end Go.Proofs.Ytfmbnoafmnbhcaa
