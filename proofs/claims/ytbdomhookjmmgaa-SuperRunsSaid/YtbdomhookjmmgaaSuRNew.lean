/- The document's Encode, and its superblock's: in memory of its own. -/
import Derived.Test.YtbdomhookjmmgaaFrREnc
import Derived.Test.YtbdomhookjmmgaaSuR
namespace Go.Proofs.Ytbdomhookjmmgaa
open Go.RowKit Fr Su
set_option linter.unusedVariables false
/-- As GivesEnc, in a block that was not there. -/
def GivesEncW (w : World) (l : List Nat) (r : Int) (e : Ending) (w' : World) : Prop :=
  ∃ (A : Option Addr) (c : Nat), e = .returned (.tuple #[.slice A l.length c, .int .i64 r]) ∧ Rd w' A l.length l ∧ l.length ≤ c ∧ (∀ b o, A = some ⟨b, o, none⟩ → w.heap.size ≤ b) ∧ Below w.heap.size w w'
set_option maxRecDepth 100000 in
set_option maxHeartbeats 4000000 in
theorem rencode_new (f e i k : Nat) (A : Option Addr) (c : Nat) (p : List Nat) (w : World) (hs : okS (f : Int) (e : Int) (i : Int) = true) (hk : okK (k : Int) = true) (hp : Rd w A p.length p) (hn : p.length ≤ 108) : Calls Try.prog 50 #[.agg #[.int .i64 (f : Int), .int .i64 (e : Int), .int .i64 (i : Int)], .int .i64 (k : Int), .slice A p.length c] w (GivesEncW w (frame k f e i p) 0) := by
  have hc := fun W => rcheck_any f e i W
  rw [if_pos hs] at hc
  have HC := Lib.hid hc
  obtain ⟨k1, k2⟩ := okK_iff.1 hk
  obtain ⟨⟨f1, f2⟩, ⟨e1, e2⟩, i1, i2⟩ := okS_iff.1 hs
  have k3 : ¬ (k : Int) < 1 := by omega
  have k4 : ¬ 4 < (k : Int) := by omega
  have k5 : (k : Int) % 256 = (k : Int) := by omega
  have hni : ¬ (108 : Int) < (p.length : Int) := by omega
  have hk0 := Holds.new w #[.int .i64 (f : Int), .int .i64 (e : Int), .int .i64 (i : Int)] 96
  have HK0 := Lib.hid hk0
  have HP := Lib.hid hp
  clear hc hs hk hk0 hp
  go_enter Try.func50, Try.ntmps50
  go_wp2_with (go_at_call 76; refine (HC.out _).mono ?_; rintro e v1 ⟨rfl, hb1⟩)
  have hs1 : w.heap.size + 1 ≤ v1.heap.size := by have := hb1.size; simp at this; omega
  have hB1 : Below (w.heap.size + 1) (w.alloc (.cells #[.int .i64 (f : Int), .int .i64 (e : Int), .int .i64 (i : Int)] 96)) v1 := hb1.mono (by simp)
  have hK1 := HK0.out.below hb1
  have hacc : Own (v1.alloc (.cells #[.int .u8 76, .int .u8 (k : Int)] 5)) (w.heap.size + 1) (some ⟨v1.heap.size, 0, none⟩) 2 2 [76, k] := by
    have := Own.lit (base := w.heap.size + 1) v1 [76, k] (by intro x hx; simp at hx; omega) hs1 (by simp)
    simpa [bv] using this
  have hB := hB1.alloc hs1 (.cells #[.int .u8 76, .int .u8 (k : Int)] 5)
  have hK := hK1.alloc (.cells #[.int .u8 76, .int .u8 (k : Int)] 5)
  clear hb1 hB1 hK1
  refine (low_any p.length 2 _ (by omega) (by omega)).mono ?_
  rintro e u2 ⟨D2, d2, rfl, hO2, hb2⟩
  rw [le_len] at hO2
  have hacc2 := hacc.below hb2
  have hr2 := hO2.rd
  have hB2 := hB.trans (hb2.mono (by have := hB.size; simp at this; simp; omega))
  have hK2 := hK.below hb2
  have hz2 : w.heap.size + 1 ≤ u2.heap.size := by have := hB2.size; simp at this; omega
  have hl2 : 2 + 2 ≤ 100000000 := by omega
  have HAcc := Lib.hid hacc2
  have HB2 := Lib.hid hB2
  have HK2 := Lib.hid hK2
  have hlow2 := le_len 2 p.length
  have HLow2 := Lib.hid hlow2
  clear hacc hB hK hO2 hb2 hB2 hK2 hlow2
  rw [HLow2.out]
  go_wp2_with (first | (at_builtin; refine wpList_appB rfl (.tmp 26) (.tmp 29) rfl rfl hacc2 D2 2 d2 (le 2 p.length) rfl hr2 hl2 hz2 ?_; intro E2 g2 v2 hg2; have hacc := hg2.own; have hB := hg2.below HB2.out hz2 (fun g h => (HAcc.out.blk g h).1); have hK := HK2.out.grown hg2.grew (fun e => by have := (HAcc.out.blk _ e.symm).1; omega); have cf := hK.at_ 0 rfl; have ce := hK.at_ 1 rfl; have ci := hK.at_ 2 rfl; clear hg2 HAcc HB2 HK2 hacc2 hr2))
  refine (low_any f 4 _ (by omega) (by omega)).mono ?_
  rintro e u3 ⟨D3, d3, rfl, hO3, hb3⟩
  rw [le_len] at hO3
  have hacc2 := hacc.below hb3
  have hr3 := hO3.rd
  have hB2 := hB.trans (hb3.mono (by have := hB.size; simp at this; simp; omega))
  have hK2 := hK.below hb3
  have hz3 : w.heap.size + 1 ≤ u3.heap.size := by have := hB2.size; simp at this; omega
  have hl3 : 4 + 4 ≤ 100000000 := by omega
  have HAcc := Lib.hid hacc2
  have HB2 := Lib.hid hB2
  have HK2 := Lib.hid hK2
  have hlow3 := le_len 4 f
  have HLow3 := Lib.hid hlow3
  clear hacc hB hK hO3 hb3 hB2 hK2 hlow3
  rw [HLow3.out]
  go_wp2_with (first | (at_builtin; refine wpList_appB rfl (.tmp 31) (.tmp 34) rfl rfl hacc2 D3 4 d3 (le 4 f) rfl hr3 hl3 hz3 ?_; intro E3 g3 v3 hg3; have hacc := hg3.own; have hB := hg3.below HB2.out hz3 (fun g h => (HAcc.out.blk g h).1); have hK := HK2.out.grown hg3.grew (fun e => by have := (HAcc.out.blk _ e.symm).1; omega); have cf := hK.at_ 0 rfl; have ce := hK.at_ 1 rfl; have ci := hK.at_ 2 rfl; clear hg3 HAcc HB2 HK2 hacc2 hr3))
  refine (low_any e 4 _ (by omega) (by omega)).mono ?_
  rintro e u4 ⟨D4, d4, rfl, hO4, hb4⟩
  rw [le_len] at hO4
  have hacc2 := hacc.below hb4
  have hr4 := hO4.rd
  have hB2 := hB.trans (hb4.mono (by have := hB.size; simp at this; simp; omega))
  have hK2 := hK.below hb4
  have hz4 : w.heap.size + 1 ≤ u4.heap.size := by have := hB2.size; simp at this; omega
  have hl4 : 8 + 4 ≤ 100000000 := by omega
  have HAcc := Lib.hid hacc2
  have HB2 := Lib.hid hB2
  have HK2 := Lib.hid hK2
  have hlow4 := le_len 4 e
  have HLow4 := Lib.hid hlow4
  clear hacc hB hK hO4 hb4 hB2 hK2 hlow4
  rw [HLow4.out]
  go_wp2_with (first | (at_builtin; refine wpList_appB rfl (.tmp 36) (.tmp 39) rfl rfl hacc2 D4 4 d4 (le 4 e) rfl hr4 hl4 hz4 ?_; intro E4 g4 v4 hg4; have hacc := hg4.own; have hB := hg4.below HB2.out hz4 (fun g h => (HAcc.out.blk g h).1); have hK := HK2.out.grown hg4.grew (fun e => by have := (HAcc.out.blk _ e.symm).1; omega); have cf := hK.at_ 0 rfl; have ce := hK.at_ 1 rfl; have ci := hK.at_ 2 rfl; clear hg4 HAcc HB2 HK2 hacc2 hr4))
  refine (low_any i 4 _ (by omega) (by omega)).mono ?_
  rintro e u5 ⟨D5, d5, rfl, hO5, hb5⟩
  rw [le_len] at hO5
  have hacc2 := hacc.below hb5
  have hr5 := hO5.rd
  have hB2 := hB.trans (hb5.mono (by have := hB.size; simp at this; simp; omega))
  have hK2 := hK.below hb5
  have hz5 : w.heap.size + 1 ≤ u5.heap.size := by have := hB2.size; simp at this; omega
  have hl5 : 12 + 4 ≤ 100000000 := by omega
  have HAcc := Lib.hid hacc2
  have HB2 := Lib.hid hB2
  have HK2 := Lib.hid hK2
  have hlow5 := le_len 4 i
  have HLow5 := Lib.hid hlow5
  clear hacc hB hK hO5 hb5 hB2 hK2 hlow5
  rw [HLow5.out]
  go_wp2_with (first | (at_builtin; refine wpList_appB rfl (.tmp 41) (.tmp 44) rfl rfl hacc2 D5 4 d5 (le 4 i) rfl hr5 hl5 hz5 ?_; intro E5 g5 v5 hg5; have hacc := hg5.own; have hB := hg5.below HB2.out hz5 (fun g h => (HAcc.out.blk g h).1); have hK := HK2.out.grown hg5.grew (fun e => by have := (HAcc.out.blk _ e.symm).1; omega); have cf := hK.at_ 0 rfl; have ce := hK.at_ 1 rfl; have ci := hK.at_ 2 rfl; clear hg5 HAcc HB2 HK2 hacc2 hr5) | (at_builtin; have hbw5 : Below w.heap.size w v5 := ((Below.refl w.heap.size w).alloc (Nat.le_refl _) _).trans (hB.mono (by omega)); have hrp := HP.out.below hbw5; have hz6 : w.heap.size + 1 ≤ v5.heap.size := (by have := hB.size; simp at this; omega); have hl6 : 16 + p.length ≤ 100000000 := (by omega); have HAcc := Lib.hid hacc; have HB6 := Lib.hid hB; refine wpList_appB rfl (.tmp 46) (.tmp 47) rfl rfl hacc A p.length c p rfl hrp hl6 hz6 ?_; intro E6 g6 v6 hg6; have hacc := hg6.own; have hB := hg6.below HB6.out hz6 (fun g h => (HAcc.out.blk g h).1); clear hg6 HAcc HB6 hrp hK cf ce ci hbw5))
  have htop : [76, k] ++ le 2 p.length ++ le 4 f ++ le 4 e ++ le 4 i = top k f e i p.length := rfl
  rw [htop] at hacc
  have Hacc := Lib.hid hacc
  have HB := Lib.hid hB
  clear htop hacc hB
  go_loopw [8] (fun v wr => ∃ (j q d : Nat) (B : Option Addr), q = 16 + p.length + j ∧ q ≤ 124 ∧ v = .slice B q d ∧ Own wr (w.heap.size + 1) B q d (top k f e i p.length ++ p ++ List.replicate j 0) ∧ Below (w.heap.size + 1) (w.alloc (.cells #[.int .i64 (f : Int), .int .i64 (e : Int), .int .i64 (i : Int)] 96)) wr) (fun v _ => 124 - lenOf v)
  case atStart => exact ⟨0, 16 + p.length, g6, E6, by omega, by omega, rfl, by simpa using Hacc.out, HB.out⟩
  case round =>
    clear Hacc HB
    obtain ⟨j, q, d, B, hq, hq2, rfl, hO, hb⟩ := hrel
    have hs9 : w.heap.size + 1 ≤ wr.heap.size := by have := hb.size; simp at this; omega
    by_cases hlt : q < 124
    · have hqi : (q : Int) < 124 := by omega
      have hOa := hO.alloc (.cells #[.int .u8 0] 5)
      have hra : Rd (wr.alloc (.cells #[.int .u8 0] 5)) (some ⟨wr.heap.size, 0, none⟩) 1 [0] := by
        have := rd_new wr [0] (by intro x hx; rw [List.mem_singleton] at hx; omega) (0, 0)
        simpa [bv] using this
      have hba : w.heap.size + 1 ≤ (wr.alloc (.cells #[.int .u8 0] 5)).heap.size := by simp; omega
      have hbb := hb.alloc hs9 (.cells #[.int .u8 0] 5)
      have HO := Lib.hid hO
      have hl9 : q + 1 ≤ 100000000 := by omega
      have HQ := Lib.hid hq
      clear hO hq
      go_wp2_with (first | (at_builtin; refine wpList_appB rfl (.tmp 52) (.tmp 53) rfl rfl hOa (some ⟨wr.heap.size, 0, none⟩) 1 1 [0] rfl hra hl9 hba ?_; intro E9 g9 v9 hg9))
      have hO9 := hg9.own
      have hb9 := hg9.below hbb hba (fun g h => (HO.out.blk g h).1)
      rw [List.append_assoc, ← List.replicate_succ'] at hO9
      clear hOa hra hba hbb hg9
      go_roundw
      case rel => exact ⟨j + 1, q + 1, g9, E9, by have := HQ.out; omega, by omega, rfl, hO9, hb9⟩
      case measure => simp [lenOf]; omega
    · have hq3 : q = 124 := by omega
      subst hq3
      have hj : j = 108 - p.length := by omega
      subst hj
      have hbody : top k f e i p.length ++ p ++ List.replicate (108 - p.length) 0 = body k f e i p := rfl
      rw [hbody] at hO
      have hof := rof_any B 124 d (body k f e i p) wr hO.rd (by omega)
      have hml : Cr.more 0 (body k f e i p) < 4294967296 := Cr.more_lt (body_lt (by omega) (fun x hx => HP.out.lt hx)) (by omega)
      have HOf := Lib.hid hof
      have HFrame := Lib.hid (show body k f e i p ++ le 4 (Cr.more 0 (body k f e i p)) = frame k f e i p from rfl)
      have HFlen := Lib.hid (frame_len (k := k) (f := f) (e := e) (i := i) hn)
      have HO := Lib.hid hO
      generalize Cr.more 0 (body k f e i p) = cs at *
      have hlow := low_any cs 4 wr (by omega) (by omega)
      have HLow := Lib.hid hlow
      clear hof hbody hlow hO hq hq2
      go_wp2_with (first | (go_at_call 78; refine HOf.out.mono ?_; rintro e w' ⟨rfl, rfl⟩))
      refine HLow.out.mono ?_
      rintro e u9 ⟨D9, d9, rfl, hO9, hb9⟩
      rw [le_len] at hO9
      have hlow9 := le_len 4 cs
      have HLow9 := Lib.hid hlow9
      have hacc := HO.out.below hb9
      have hr9 := hO9.rd
      have hB9 := hb.trans (hb9.mono hs9)
      have hz9 : w.heap.size + 1 ≤ u9.heap.size := Nat.le_trans hs9 hb9.size
      have hl9 : 124 + 4 ≤ 100000000 := by omega
      have HAcc := Lib.hid hacc
      have HB9 := Lib.hid hB9
      clear hlow9 hO9 hb9 hB9
      rw [HLow9.out]
      go_wp2_with (first | (at_builtin; refine wpList_appB rfl (.tmp 55) (.tmp 59) rfl rfl hacc D9 4 d9 (le 4 cs) rfl hr9 hl9 hz9 ?_; intro E10 g10 v10 hg10; have hfin := hg10.own; have hBf := hg10.below HB9.out hz9 (fun g h => (HAcc.out.blk g h).1); clear hg10 HAcc HB9 hacc hr9))
      go_ret2
      rw [HFrame.out] at hfin
      refine ⟨E10, g10, ?_, ?_, ?_, fun b o e9 => (by subst e9; have := (hfin.blk b (by simp [Value.ownBlock])).1; omega), ((Below.refl w.heap.size w).alloc (Nat.le_refl _) _).trans (hBf.mono (by omega))⟩
      · rw [HFlen.out]; rfl
      · rw [HFlen.out]; exact hfin.rd
      · rw [HFlen.out]; exact hfin.cap
theorem rencode_sun (e i n : Nat) (A : Option Addr) (c : Nat) (p : List Nat) (w : World) (h : e ≤ 2147483647 ∧ i ≤ 2147483647) (hpn : n = p.length) (hp : Rd w A n p) (hn : n ≤ 108) : Calls Try.prog 50 #[.agg #[.int .i64 0, .int .i64 (e : Int), .int .i64 (i : Int)], .int .i64 1, .slice A n c] w (GivesEncW w (frame 1 0 e i p) 0) := by
  subst hpn
  exact rencode_new 0 e i 1 A c p w (okS_iff.2 ⟨by omega, by omega, by omega⟩) (by decide) hp hn
set_option maxRecDepth 100000 in
set_option maxHeartbeats 4000000 in
theorem srencode_new (s : S) (A : Option Addr) (c : Nat) (w : World) (hr : RdC 2 w A s.ps.length (pv s.ps)) (hok : Su.ok s = true) : Calls Try.prog 12 #[Su.val s A c] w (GivesEncW w (sec s) 0) := by
  have HC := Lib.hid (fun v (hb : Below w.heap.size w v) => is_any s A c v (hr.below hb))
  have HR := Lib.hid hr
  have HOk := Lib.hid hok
  have HPt := Lib.hid (fun k x y => ok_pair hok (k := k) (x := x) (y := y))
  obtain ⟨g, e, i, m, hg, he, hi, hm, g1, g2, e1, e2, i1, i2, m1, m2, n1, n2⟩ := ok_nat hok
  obtain ⟨N, hN⟩ : ∃ N, N = s.ps.length := ⟨_, rfl⟩
  have HPay := Lib.hid (show sec s = frame 1 0 e g (le 4 i ++ le 4 m ++ [N] ++ pairsB s.ps) by
    unfold sec pay
    rw [hg, he, hi, hm, hN, Nat.mod_eq_of_lt (by omega)]
    rfl)
  unfold Su.val at HC ⊢
  rw [hg, he, hi, hm] at HC ⊢
  rw [← hN] at HC HR n1 n2 ⊢
  have HN := Lib.hid hN
  clear hr hok hg he hi hm hN
  have hb0 := Holds.new w #[.int .i64 (g : Int), .int .i64 (e : Int), .int .i64 (i : Int), .int .i64 (m : Int), .slice A N c] 26
  have HB0 := Lib.hid hb0
  clear hb0
  go_enter Try.func12, Try.ntmps12
  go_wp2_with fail
  refine (HC.out _ ((Below.refl _ _).alloc (Nat.le_refl _) _)).mono ?_
  rintro e' v1 ⟨rfl, hb1⟩
  rw [HOk.out]
  have HB1 := Lib.hid (show Below w.heap.size w v1 from ((Below.refl _ _).alloc (Nat.le_refl _) _).trans (hb1.mono (by simp)))
  have HK1 := Lib.hid (HB0.out.below hb1)
  have hb0s : w.heap.size < v1.heap.size := HK1.out.1
  clear hb1
  generalize hb : w.heap.size = b0 at *
  have HS := Lib.hid (fun wx (hbx : Below v1.heap.size v1 wx) => (⟨(HK1.out.below hbx).at_ 2 rfl, (HK1.out.below hbx).at_ 3 rfl⟩ : wx.cell? ⟨b0, 2, none⟩ = some (.int .i64 (i : Int)) ∧ wx.cell? ⟨b0, 3, none⟩ = some (.int .i64 (m : Int))))
  have hd0 : Below v1.heap.size v1 v1.drew := (Below.refl _ _).drew
  go_upto_region 3 with fail
  refine wp_region_held_drew (S := fun wx => wx.cell? ⟨b0, 2, none⟩ = some (.int .i64 (i : Int)) ∧ wx.cell? ⟨b0, 3, none⟩ = some (.int .i64 (m : Int))) (by kernel_rfl) ?_ (fun hHeld => ?_)
  · exact HS.out _ hd0
  refine take_at (i := 0) (v := ?_) (some 11) rfl rfl (by kernel_rfl) (by kernel_rfl) (by kernel_rfl) (fun _ _ _ h => h) (by rfl) hHeld ?_ ?_
  rotate_left
  · intro wz hSw; (try dsimp only at hSw); go_simp; (try with_reducible rfl)
  (try simp only [Act.put, List.setIfInBounds_toArray, List.set_cons_zero, List.set_cons_succ])
  refine take_at (i := 1) (v := ?_) (some 12) rfl rfl (by kernel_rfl) (by kernel_rfl) (by kernel_rfl) (fun _ _ _ h => h) (by rfl) hHeld ?_ ?_
  rotate_left
  · intro wz hSw; (try dsimp only at hSw); go_simp; (try with_reducible rfl)
  (try simp only [Act.put, List.setIfInBounds_toArray, List.set_cons_zero, List.set_cons_succ])
  refine take_at (i := 2) (v := ?_) (some 13) rfl rfl (by kernel_rfl) (by kernel_rfl) (by kernel_rfl) (fun _ _ _ h => h) (by rfl) hHeld ?_ ?_
  rotate_left
  · intro wz hSw; (try dsimp only at hSw); go_simp; (try with_reducible rfl)
  (try simp only [Act.put, List.setIfInBounds_toArray, List.set_cons_zero, List.set_cons_succ])
  refine take_at (i := 4) (v := ?_) (some 15) rfl rfl (by kernel_rfl) (by kernel_rfl) (by kernel_rfl) (fun _ _ _ h => h) (by rfl) hHeld ?_ ?_
  rotate_left
  · intro wz hSw; (try dsimp only at hSw); go_simp; (try with_reducible rfl)
  (try simp only [Act.put, List.setIfInBounds_toArray, List.set_cons_zero, List.set_cons_succ])
  refine take_at (i := 5) (v := ?_) (some 16) rfl rfl (by kernel_rfl) (by kernel_rfl) (by kernel_rfl) (fun _ _ _ h => h) (by rfl) hHeld ?_ ?_
  rotate_left
  · intro wz hSw; (try dsimp only at hSw); go_simp; (try with_reducible rfl)
  (try simp only [Act.put, List.setIfInBounds_toArray, List.set_cons_zero, List.set_cons_succ])
  refine take_at (i := 6) (v := ?_) (some 17) rfl rfl (by kernel_rfl) (by kernel_rfl) (by kernel_rfl) (fun _ _ _ h => h) (by rfl) hHeld ?_ ?_
  rotate_left
  · intro wz hSw; (try dsimp only at hSw); go_simp; (try with_reducible rfl)
  (try simp only [Act.put, List.setIfInBounds_toArray, List.set_cons_zero, List.set_cons_succ])
  refine wpAnyH_ready (rs := [3]) (by kernel_rfl) (by simp) ?_
  refine ready_cons (i := 3) rfl (by rfl) (fun K' hK => ?_) (AllReadyH.nil)
  refine wp_call2 14 rfl (.tmp 13) (.const (.int .i64 4)) rfl rfl rfl enter_low ((slow_lit i v1.drew (by omega)).mono ?_)
  rintro e u1 ⟨A1, c1, rfl, hO1, hb1⟩
  refine ⟨_, rfl, ?_⟩
  have hk1 : Below v1.heap.size v1 u1 := below_next2 hd0 hb1 (Nat.le_refl _)
  refine hK.out _ _ ?_ ?_
  · exact HS.out _ hk1
  clear hK K'
  (try simp only [Act.put, List.setIfInBounds_toArray, List.set_cons_zero, List.set_cons_succ])
  refine wpAnyH_ready (rs := [7]) (by kernel_rfl) (by simp) ?_
  refine ready_cons (i := 7) rfl (by rfl) (fun K' hK => ?_) (AllReadyH.nil)
  refine wp_call2 18 rfl (.tmp 17) (.const (.int .i64 4)) rfl rfl rfl enter_low ((slow_lit m u1 (by omega)).mono ?_)
  rintro e u2 ⟨A2, c2, rfl, hO2, hb2⟩
  refine ⟨_, rfl, ?_⟩
  have hk2 : Below v1.heap.size v1 u2 := below_next2 hk1 hb2 hk1.size
  have hp2 := hO1.below hb2
  refine hK.out _ _ ?_ ?_
  · exact HS.out _ hk2
  clear hK K'
  (try simp only [Act.put, List.setIfInBounds_toArray, List.set_cons_zero, List.set_cons_succ])
  refine wpAnyH_ready (rs := [8]) (by kernel_rfl) (by simp) ?_
  refine ready_cons (i := 8) rfl (by rfl) (fun K' hK => ?_) (AllReadyH.nil)
  refine wp_appB 19 rfl (.tmp 14) (.tmp 18) rfl rfl hp2 A2 4 c2 (le 4 m) rfl hO2.rd (by omega) hk2.size ?_
  intro A3 c3 u3 hg3
  have hk3 : Below v1.heap.size v1 u3 := hg3.below hk2 hk2.size (fun g hg => (hp2.blk g hg).1)
  refine hK.out _ _ ?_ ?_
  · exact HS.out _ hk3
  clear hK K'
  (try simp only [Act.put, List.setIfInBounds_toArray, List.set_cons_zero, List.set_cons_succ])
  have hH3 := HS.out _ hk3
  refine take_at (i := 9) (v := ?_) (some 4) rfl rfl (by kernel_rfl) (by kernel_rfl) (by kernel_rfl) (fun _ _ _ h => h) (by rfl) hH3 ?_ ?_
  rotate_left
  · intro wz hSw; (try dsimp only at hSw); go_simp; (try with_reducible rfl)
  (try simp only [Act.put, List.setIfInBounds_toArray, List.set_cons_zero, List.set_cons_succ])
  refine wpAnyH_done (by kernel_rfl) ?_ _
  have HO3 := Lib.hid (show Own u3 v1.heap.size A3 8 c3 (le 4 i ++ le 4 m) from hg3.own)
  have HK3 := Lib.hid hk3
  have cc4 := (HK1.out.below hk3).at_ 4 rfl
  have hv1 : IntKind.u8.wrap (N : Int) = (N : Int) := by show (N : Int) % 256 = _; omega
  have hv2 : (N : Int) % 256 = (N : Int) := by omega
  have hOa : Own (u3.alloc (.cells #[.int .u8 (N : Int)] 5)) v1.heap.size A3 8 c3 (le 4 i ++ le 4 m) := HO3.out.alloc _
  have hra : Rd (u3.alloc (.cells #[.int .u8 (N : Int)] 5)) (some ⟨u3.heap.size, 0, none⟩) 1 [N] := by
    have := rd_new u3 [N] (by intro x hx; rw [List.mem_singleton] at hx; omega) (0, 0)
    simpa [bv] using this
  have hba : v1.heap.size ≤ (u3.alloc (.cells #[.int .u8 (N : Int)] 5)).heap.size := by have := hk3.size; simp; omega
  clear hg3 hk1 hk2 hk3 hH3 hHeld hp2 hO1 hO2 hb1 hb2
  go_wp2_with (first | (at_builtin; refine wpList_appB rfl (.tmp 20) (.tmp 26) rfl rfl hOa (some ⟨u3.heap.size, 0, none⟩) 1 1 [N] rfl hra (by omega) hba ?_; intro A4 c4 u4 hg4))
  have hB4 : Below v1.heap.size v1 u4 := hg4.below (HK3.out.alloc HK3.out.size _) hba (fun g hg => (HO3.out.blk g hg).1)
  obtain ⟨pre, hpre⟩ : ∃ pre, pre = le 4 i ++ le 4 m ++ [N] := ⟨_, rfl⟩
  have HO4 := Lib.hid (show Own u4 v1.heap.size A4 9 c4 pre by rw [hpre]; exact hg4.own)
  have hplen : pre.length = 9 := by rw [hpre]; simp [le_len]
  rw [← hpre] at HPay
  have HB4 := Lib.hid hB4
  clear hg4 hB4 hpre cc4 hOa hra hba hv1 hv2
  go_loopw [4, 5] (fun l i wr => ∃ (k M : Nat) (B : Option Addr) (cb : Nat), k ≤ N ∧ M ≤ 60 ∧ l = .slice B M cb ∧ i = .int .i64 (k : Int) ∧ Hid (M = 9 + k * 4) ∧ Hid (Own wr v1.heap.size B M cb (pre ++ pairsB (s.ps.take k))) ∧ Hid (Below v1.heap.size v1 wr)) (fun _ i _ => N - (intOf i).toNat)
  case atStart => exact ⟨0, 9, A4, _, by omega, by omega, rfl, rfl, Lib.hid (by omega), Lib.hid (by simpa [pairsB] using HO4.out), HB4⟩
  case round =>
    obtain ⟨k, M, B, cb, hk, hM60, rfl, rfl, HM, HO, HB⟩ := hrel
    have cc4 := (HK1.out.below HB.out).at_ 4 rfl
    by_cases hkN : k < N
    · have hki : (k : Int) < (N : Int) := by omega
      have hk0 : ¬ (k : Int) < 0 := by omega
      obtain ⟨⟨X, Y⟩, hp⟩ : ∃ p, s.ps[k]? = some p := ⟨_, List.getElem?_eq_getElem (by rw [← HN.out]; exact hkN)⟩
      obtain ⟨X, Y, rfl, rfl, hX, hY⟩ := HPt.out k X Y hp
      have hM2 : M ≤ 40 := by have := HM.out; omega
      have HBw := Lib.hid (show Below w.heap.size w v1 by rw [hb]; exact HB1.out)
      obtain ⟨b, q, rfl, hbl, f0, f1⟩ := (HR.out.below HBw.out).two2 hkN (pv_at hp).1 (pv_at hp).2
      simp only at f0 f1
      have HPs := Lib.hid (show pre ++ pairsB (s.ps.take (k + 1)) = (pre ++ pairsB (s.ps.take k) ++ le 2 X) ++ le 2 Y by
        rw [List.take_add_one, hp]
        simp only [Option.toList_some]
        rw [pairsB_snoc]
        simp [pairB, List.append_assoc])
      have HS2 := Lib.hid (fun wx (hbx : Below v1.heap.size v1 wx) => (⟨(HK1.out.below hbx).at_ 4 rfl, (hbx.cell (p := ⟨b, q + k * 2, none⟩) hbl).trans f0, (hbx.cell (p := ⟨b, q + k * 2 + 1, none⟩) hbl).trans f1⟩ : wx.cell? ⟨b0, 4, none⟩ = some (.slice (some ⟨b, q, none⟩) N c) ∧ wx.cell? ⟨b, q + k * 2, none⟩ = some (.int .i64 (X : Int)) ∧ wx.cell? ⟨b, q + k * 2 + 1, none⟩ = some (.int .i64 (Y : Int))))
      have hd1v : Below v1.heap.size v1 wr.drew := HB.out.drew
      have hsz : v1.heap.size ≤ wr.heap.size := HB.out.size
      have hd1 := hd1v
      have hw0 : Below wr.heap.size wr wr.drew := (Below.refl _ _).drew
      clear hp f0 f1
      go_upto_region 8 with fail
      refine wp_region_held_drew (S := fun wx => wx.cell? ⟨b0, 4, none⟩ = some (.slice (some ⟨b, q, none⟩) N c) ∧ wx.cell? ⟨b, q + k * 2, none⟩ = some (.int .i64 (X : Int)) ∧ wx.cell? ⟨b, q + k * 2 + 1, none⟩ = some (.int .i64 (Y : Int))) (by kernel_rfl) ?_ (fun hHeld => ?_)
      · exact HS2.out _ hd1
      refine take_at (i := 0) (v := ?_) (some 36) rfl rfl (by kernel_rfl) (by kernel_rfl) (by kernel_rfl) (fun _ _ _ h => h) (by rfl) hHeld ?_ ?_
      rotate_left
      · intro wz hSw; (try dsimp only at hSw); go_simp; (try with_reducible rfl)
      (try simp only [Act.put, List.setIfInBounds_toArray, List.set_cons_zero, List.set_cons_succ])
      refine take_at (i := 1) (v := ?_) (some 37) rfl rfl (by kernel_rfl) (by kernel_rfl) (by kernel_rfl) (fun _ _ _ h => h) (by rfl) hHeld ?_ ?_
      rotate_left
      · intro wz hSw; (try dsimp only at hSw); go_simp; (try with_reducible rfl)
      (try simp only [Act.put, List.setIfInBounds_toArray, List.set_cons_zero, List.set_cons_succ])
      refine take_at (i := 2) (v := ?_) (some 38) rfl rfl (by kernel_rfl) (by kernel_rfl) (by kernel_rfl) (fun _ _ _ h => h) (by rfl) hHeld ?_ ?_
      rotate_left
      · intro wz hSw; (try dsimp only at hSw); go_simp; (try with_reducible rfl)
      (try simp only [Act.put, List.setIfInBounds_toArray, List.set_cons_zero, List.set_cons_succ])
      refine take_at (i := 3) (v := ?_) (some 39) rfl rfl (by kernel_rfl) (by kernel_rfl) (by kernel_rfl) (fun _ _ _ h => h) (by rfl) hHeld ?_ ?_
      rotate_left
      · intro wz hSw; (try dsimp only at hSw); go_simp; (try with_reducible rfl)
      (try simp only [Act.put, List.setIfInBounds_toArray, List.set_cons_zero, List.set_cons_succ])
      refine take_at (i := 4) (v := ?_) (some 40) rfl rfl (by kernel_rfl) (by kernel_rfl) (by kernel_rfl) (fun _ _ _ h => h) (by rfl) hHeld ?_ ?_
      rotate_left
      · intro wz hSw; (try dsimp only at hSw); go_simp; (try with_reducible rfl)
      (try simp only [Act.put, List.setIfInBounds_toArray, List.set_cons_zero, List.set_cons_succ])
      refine take_at (i := 5) (v := ?_) (some 41) rfl rfl (by kernel_rfl) (by kernel_rfl) (by kernel_rfl) (fun _ _ _ h => h) (by rfl) hHeld ?_ ?_
      rotate_left
      · intro wz hSw; (try dsimp only at hSw); go_simp; (try with_reducible rfl)
      (try simp only [Act.put, List.setIfInBounds_toArray, List.set_cons_zero, List.set_cons_succ])
      refine take_at (i := 6) (v := ?_) (some 42) rfl rfl (by kernel_rfl) (by kernel_rfl) (by kernel_rfl) (fun _ _ _ h => h) (by rfl) hHeld ?_ ?_
      rotate_left
      · intro wz hSw; (try dsimp only at hSw); go_simp; (try with_reducible rfl)
      (try simp only [Act.put, List.setIfInBounds_toArray, List.set_cons_zero, List.set_cons_succ])
      refine take_at (i := 7) (v := ?_) (some 43) rfl rfl (by kernel_rfl) (by kernel_rfl) (by kernel_rfl) (fun _ _ _ h => h) (by rfl) hHeld ?_ ?_
      rotate_left
      · intro wz hSw; (try dsimp only at hSw); go_simp; (try with_reducible rfl)
      (try simp only [Act.put, List.setIfInBounds_toArray, List.set_cons_zero, List.set_cons_succ])
      refine take_at (i := 10) (v := ?_) (some 46) rfl rfl (by kernel_rfl) (by kernel_rfl) (by kernel_rfl) (fun _ _ _ h => h) (by rfl) hHeld ?_ ?_
      rotate_left
      · intro wz hSw; (try dsimp only at hSw); go_simp; (try with_reducible rfl)
      (try simp only [Act.put, List.setIfInBounds_toArray, List.set_cons_zero, List.set_cons_succ])
      refine take_at (i := 11) (v := ?_) (some 47) rfl rfl (by kernel_rfl) (by kernel_rfl) (by kernel_rfl) (fun _ _ _ h => h) (by rfl) hHeld ?_ ?_
      rotate_left
      · intro wz hSw; (try dsimp only at hSw); go_simp; (try with_reducible rfl)
      (try simp only [Act.put, List.setIfInBounds_toArray, List.set_cons_zero, List.set_cons_succ])
      refine take_at (i := 12) (v := ?_) (some 48) rfl rfl (by kernel_rfl) (by kernel_rfl) (by kernel_rfl) (fun _ _ _ h => h) (by rfl) hHeld ?_ ?_
      rotate_left
      · intro wz hSw; (try dsimp only at hSw); go_simp; (try with_reducible rfl)
      (try simp only [Act.put, List.setIfInBounds_toArray, List.set_cons_zero, List.set_cons_succ])
      refine take_at (i := 13) (v := ?_) (some 49) rfl rfl (by kernel_rfl) (by kernel_rfl) (by kernel_rfl) (fun _ _ _ h => h) (by rfl) hHeld ?_ ?_
      rotate_left
      · intro wz hSw; (try dsimp only at hSw); go_simp; (try with_reducible rfl)
      (try simp only [Act.put, List.setIfInBounds_toArray, List.set_cons_zero, List.set_cons_succ])
      refine take_at (i := 14) (v := ?_) (some 50) rfl rfl (by kernel_rfl) (by kernel_rfl) (by kernel_rfl) (fun _ _ _ h => h) (by rfl) hHeld ?_ ?_
      rotate_left
      · intro wz hSw; (try dsimp only at hSw); go_simp; (try with_reducible rfl)
      (try simp only [Act.put, List.setIfInBounds_toArray, List.set_cons_zero, List.set_cons_succ])
      refine take_at (i := 15) (v := ?_) (some 51) rfl rfl (by kernel_rfl) (by kernel_rfl) (by kernel_rfl) (fun _ _ _ h => h) (by rfl) hHeld ?_ ?_
      rotate_left
      · intro wz hSw; (try dsimp only at hSw); go_simp; (try with_reducible rfl)
      (try simp only [Act.put, List.setIfInBounds_toArray, List.set_cons_zero, List.set_cons_succ])
      refine take_at (i := 16) (v := ?_) (some 52) rfl rfl (by kernel_rfl) (by kernel_rfl) (by kernel_rfl) (fun _ _ _ h => h) (by rfl) hHeld ?_ ?_
      rotate_left
      · intro wz hSw; (try dsimp only at hSw); go_simp; (try with_reducible rfl)
      (try simp only [Act.put, List.setIfInBounds_toArray, List.set_cons_zero, List.set_cons_succ])
      refine wpAnyH_ready (rs := [8]) (by kernel_rfl) (by simp) ?_
      refine ready_cons (i := 8) rfl (by rfl) (fun K' hK => ?_) (AllReadyH.nil)
      refine wp_call2 44 rfl (.tmp 43) (.const (.int .i64 2)) rfl rfl rfl enter_low ((slow_lit2 X wr.drew (by omega)).mono ?_)
      rintro e w1 ⟨A1, c1, rfl, hO1, hb1⟩
      refine ⟨_, rfl, ?_⟩
      have hk1 : Below v1.heap.size v1 w1 := below_next2 hd1 hb1 hsz
      have hp1 := HO.out.drew.below hb1
      refine hK.out _ _ ?_ ?_
      · exact HS2.out _ hk1
      clear hK K'
      (try simp only [Act.put, List.setIfInBounds_toArray, List.set_cons_zero, List.set_cons_succ])
      refine wpAnyH_ready (rs := [9]) (by kernel_rfl) (by simp) ?_
      refine ready_cons (i := 9) rfl (by rfl) (fun K' hK => ?_) (AllReadyH.nil)
      refine wp_appB 45 rfl (.tmp 36) (.tmp 44) rfl rfl hp1 A1 2 c1 (le 2 X) rfl hO1.rd (by omega) hk1.size ?_
      intro A2 c2 w2 hg2
      have hk2 : Below v1.heap.size v1 w2 := hg2.below hk1 hk1.size (fun g hg => (hp1.blk g hg).1)
      have hk2v := hk2
      refine hK.out _ _ ?_ ?_
      · exact HS2.out _ (hk2v)
      clear hK K'
      (try simp only [Act.put, List.setIfInBounds_toArray, List.set_cons_zero, List.set_cons_succ])
      refine wpAnyH_ready (rs := [17]) (by kernel_rfl) (by simp) ?_
      refine ready_cons (i := 17) rfl (by rfl) (fun K' hK => ?_) (AllReadyH.nil)
      refine wp_call2 53 rfl (.tmp 52) (.const (.int .i64 2)) rfl rfl rfl enter_low ((slow_lit2 Y w2 (by omega)).mono ?_)
      rintro e w3 ⟨A3, c3, rfl, hO3, hb3⟩
      refine ⟨_, rfl, ?_⟩
      have hk3 : Below v1.heap.size v1 w3 := below_next2 hk2 hb3 hk2.size
      have hp3 := hg2.own.below hb3
      refine hK.out _ _ ?_ ?_
      · exact HS2.out _ hk3
      clear hK K'
      (try simp only [Act.put, List.setIfInBounds_toArray, List.set_cons_zero, List.set_cons_succ])
      refine wpAnyH_ready (rs := [18]) (by kernel_rfl) (by simp) ?_
      refine ready_cons (i := 18) rfl (by rfl) (fun K' hK => ?_) (AllReadyH.nil)
      refine wp_appB 54 rfl (.tmp 45) (.tmp 53) rfl rfl hp3 A3 2 c3 (le 2 Y) rfl hO3.rd (by omega) hk3.size ?_
      intro A4 c4 w4 hg4
      have hk4 : Below v1.heap.size v1 w4 := hg4.below hk3 hk3.size (fun g hg => (hp3.blk g hg).1)
      refine hK.out _ _ ?_ ?_
      · exact HS2.out _ hk4
      clear hK K'
      (try simp only [Act.put, List.setIfInBounds_toArray, List.set_cons_zero, List.set_cons_succ])
      have hH4 := HS2.out _ hk4
      refine take_at (i := 19) (v := ?_) (some 4) rfl rfl (by kernel_rfl) (by kernel_rfl) (by kernel_rfl) (fun _ _ _ h => h) (by rfl) hH4 ?_ ?_
      rotate_left
      · intro wz hSw; (try dsimp only at hSw); go_simp; (try with_reducible rfl)
      (try simp only [Act.put, List.setIfInBounds_toArray, List.set_cons_zero, List.set_cons_succ])
      refine wpAnyH_done (by kernel_rfl) ?_ _
      have HO5 := Lib.hid (show Own w4 v1.heap.size A4 (M + 4) c4 (pre ++ pairsB (s.ps.take (k + 1))) by rw [HPs.out]; exact hg4.own)
      have HK5 := Lib.hid hk4
      clear hg4 hk4 hk3 hk2 hk2v hk1 hp1 hp3 hO1 hO3 hb1 hb3 hg2 hHeld hH4
      go_wp2_with fail
      go_roundw
      case rel => exact ⟨k + 1, M + 4, A4, c4, by omega, by omega, rfl, by go_num, Lib.hid (by have := HM.out; omega), HO5, HK5⟩
      case measure => simp [intOf]; omega
    · have hkl : k = N := by omega
      have d0 := (HK1.out.below HB.out).at_ 0 rfl
      have d1 := (HK1.out.below HB.out).at_ 1 rfl
      have hRB := HO.out.rd
      rw [List.take_of_length_le (by rw [← HN.out]; omega)] at hRB
      have HRB := Lib.hid hRB
      have hM2 : M ≤ 41 := by have := HM.out; omega
      have HML := Lib.hid (show M = (pre ++ pairsB s.ps).length from hRB.1.symm)
      subst hkl
      clear hRB
      go_wp2_with fail
      refine (rencode_sun e g M B cb (pre ++ pairsB s.ps) wr ⟨by omega, by omega⟩ HML.out HRB.out (by omega)).mono ?_
      rintro e' v9 ⟨A9, c9, rfl, hR9, hc9, hn9, hb9⟩
      have hB9 : Below w.heap.size w v9 := by
        rw [hb]
        have h1 := HB1.out.size
        exact HB1.out.trans ((HB.out.trans (hb9.mono HB.out.size)).mono (by omega))
      rw [← HPay.out] at hR9 hc9 ⊢
      have HN9 := Lib.hid (show ∀ x o, A9 = some ⟨x, o, none⟩ → b0 ≤ x from fun x o e => Nat.le_trans (by have h1 := HB1.out.size; have h2 := HB.out.size; rw [hb] at h1; omega) (hn9 x o e))
      have HR9 := Lib.hid hR9
      clear hR9 hn9 hb9 cc4 d0 d1
      go_wp2_with fail
      go_ret2
      exact ⟨A9, c9, rfl, HR9.out, hc9, (by rw [hb]; exact HN9.out), hB9⟩
end Go.Proofs.Ytbdomhookjmmgaa
