/- The document's Decode: bytes that are a superblock's frame. The document's Decode: bytes that are no superblock's frame. The document's Decode of any bytes. -/
import Derived.Test.YtbdomhookjmmgaaSuCutP
namespace Go.Proofs.Ytbdomhookjmmgaa
open Go.RowKit Fr Su
set_option linter.unusedVariables false
/-- A part of a slice of bytes, its bounds as they come. -/
theorem run_cut6 (b q n c lo m : Nat) (lo' hi : Int) (hlo : lo' = (lo : Int)) (hhi : hi = (m : Int)) (h1 : lo ≤ m) (h2 : m ≤ c) (h3 : lo < c) (w : World) : (Instr.slice 28 (.slice (some ⟨b, q, none⟩) n c) (some (.int .i64 lo')) (some (.int .i64 hi)) none).run Try.prog w = .ok (.slice (some ⟨b, q + lo, none⟩) (m - lo) (c - lo)) w := by
  subst hlo
  exact run_cut5 b q n c lo m hi hhi h1 h2 h3 w
set_option maxRecDepth 100000 in
set_option maxHeartbeats 4000000 in
theorem srdecode_full (A : Option Addr) (n c : Nat) (e i : Nat) (p : List Nat) (w : World) (P8 : Nat) (h8 : p[8]? = some P8) (hpl : p.length ≤ 108) (h9 : 9 ≤ p.length) (hlen : p.length = 9 + 4 * P8)
    (hd : ∀ v, Below w.heap.size w v → Calls Try.prog 55 #[.slice A n c] v (GivesDecC v 0 (e : Int) (i : Int) 1 p 0)) :
    Calls Try.prog 16 #[.slice A n c] w (GivesSu w (if Su.ok ⟨i, e, F p 0 4, F p 4 4, pairs p P8⟩ then ⟨i, e, F p 0 4, F p 4 4, pairs p P8⟩ else none_) (if Su.ok ⟨i, e, F p 0 4, F p 4 4, pairs p P8⟩ then 0 else 50)) := by
  have HO := Lib.hid hd
  have hB0 : Below w.heap.size w (w.alloc (.cells #[.int .i64 0, .int .i64 0, .int .i64 0, .int .i64 0, .slice none 0 0] 26)) := (Below.refl _ _).alloc (Nat.le_refl _) _
  have hk0 := Holds.new w #[.int .i64 0, .int .i64 0, .int .i64 0, .int .i64 0, .slice none 0 0] 26
  obtain ⟨PL, hPL⟩ : ∃ PL, PL = p.length := ⟨_, rfl⟩
  rw [← hPL] at hlen hpl h9
  have HPL := Lib.hid hPL
  have q5i : ¬ (PL : Int) < 9 := by omega
  have q5j : (8 : Int) < (PL : Int) := by omega
  have q6b : ((PL : Int) != 9 + 4 * (P8 : Int)) = false := by simp; omega
  obtain ⟨T, hT⟩ : ∃ T : S, T = ⟨i, e, F p 0 4, F p 4 4, pairs p P8⟩ := ⟨_, rfl⟩
  rw [← hT]
  obtain ⟨TT, hTT⟩ : ∃ TT : S, TT = if Su.ok T then T else none_ := ⟨_, rfl⟩
  obtain ⟨rr, hrr⟩ : ∃ rr : Int, rr = if Su.ok T then 0 else 50 := ⟨_, rfl⟩
  rw [← hTT, ← hrr]
  have HT := Lib.hid hT
  have HTT := Lib.hid hTT
  have Hrr := Lib.hid hrr
  have HLn := Lib.hid hlen
  have hP8 : P8 ≤ 24 := by omega
  clear hd hPL hlen hT hTT hrr
  go_enter Try.func16, Try.ntmps16
  go_wp2_with fail
  refine (HO.out _ hB0).mono ?_
  rintro x v1 ⟨A1, c1, rfl, hR1, hcp, hb1⟩
  rw [← HPL.out] at hR1 hcp ⊢
  obtain ⟨b, q, rfl, hbl, hcb⟩ := hR1.2.2 (by omega)
  have y8 := (((Below.refl v1.heap.size v1).alloc (Nat.le_refl _) (.cells #[.int .i64 0, .int .i64 (e : Int), .int .i64 (i : Int)] 96)).cell (p := ⟨b, q + 8, none⟩) hbl).trans (hcb 8 P8 h8)
  have hkW := (hk0.below hb1).alloc (.cells #[.int .i64 0, .int .i64 (e : Int), .int .i64 (i : Int)] 96)
  have hBW := (hB0.trans (hb1.mono hB0.size)).alloc (by have := hB0.size; have := hb1.size; omega) (.cells #[.int .i64 0, .int .i64 (e : Int), .int .i64 (i : Int)] 96)
  have hks := Holds.new v1 #[.int .i64 0, .int .i64 (e : Int), .int .i64 (i : Int)] 96
  have hRp := hR1.alloc (.cells #[.int .i64 0, .int .i64 (e : Int), .int .i64 (i : Int)] 96)
  have y0 := hks.at_ 0 rfl
  clear hcb hk0 hB0 hb1 hR1
  go_upto_region 4 with fail
  clear y0 y8
  have hbW : b < (v1.alloc (.cells #[.int .i64 0, .int .i64 (e : Int), .int .i64 (i : Int)] 96)).heap.size := by simp; omega
  generalize v1.alloc (.cells #[.int .i64 0, .int .i64 (e : Int), .int .i64 (i : Int)] 96) = W at *
  generalize v1.heap.size = g1 at *
  have y1 := hks.at_ 1 rfl
  have y2 := hks.at_ 2 rfl
  have hnum0 := fun v (hv : Below W.heap.size W v) => number_part (o := 0) (s := 4) (c := c1) (hRp.below hv) (by omega) (by omega)
  have hnum4 := fun v (hv : Below W.heap.size W v) => number_part (o := 4) (s := 4) (c := c1 - 4) (hRp.below hv) (by omega) (by omega)
  simp only [Nat.add_zero] at hnum0
  have HNum0 := Lib.hid hnum0
  have HNum4 := Lib.hid hnum4
  have h4c : (4 : Int) ≤ (c1 : Int) := by omega
  have h8c : (8 : Int) ≤ (c1 : Int) := by omega
  have hn4 : ¬ c1 = 4 := by omega
  have hdW : Below W.heap.size W W.drew := (Below.refl _ _).drew
  have HKs := Lib.hid hks
  clear hnum0 hnum4
  go_cut [8] from 45 to 56 (fun s8 wx => s8 = .pointer (some ⟨W.heap.size, 0, none⟩) ∧ Hid (Below W.heap.size W wx) ∧ Hid (Holds wx W.heap.size [.int .i64 (i : Int), .int .i64 (e : Int), .int .i64 (F p 0 4 : Int), .int .i64 (F p 4 4 : Int), .slice none 0 0]))
  case first =>
    refine wp_region_held_drew (S := fun wx => wx.cell? ⟨g1, 1, none⟩ = some (.int .i64 (e : Int)) ∧ wx.cell? ⟨g1, 2, none⟩ = some (.int .i64 (i : Int))) (by kernel_rfl) ?_ (fun hHeld => ?_)
    · exact ⟨(HKs.out.below hdW).at_ 1 rfl, (HKs.out.below hdW).at_ 2 rfl⟩
    refine take_at (i := 0) (v := ?_) (some 45) rfl rfl (by kernel_rfl) (by kernel_rfl) (by kernel_rfl) (fun _ _ _ h => h) (by rfl) hHeld ?_ ?_
    rotate_left
    · intro wz hSw; (try dsimp only at hSw); go_simp; (try with_reducible rfl)
    (try simp only [Act.put, List.setIfInBounds_toArray, List.set_cons_zero, List.set_cons_succ])
    refine take_at (i := 1) (v := ?_) (some 46) rfl rfl (by kernel_rfl) (by kernel_rfl) (by kernel_rfl) (fun _ _ _ h => h) (by rfl) hHeld ?_ ?_
    rotate_left
    · intro wz hSw; (try dsimp only at hSw); go_simp; (try with_reducible rfl)
    (try simp only [Act.put, List.setIfInBounds_toArray, List.set_cons_zero, List.set_cons_succ])
    refine take_at (i := 2) (v := ?_) (some 47) rfl rfl (by kernel_rfl) (by kernel_rfl) (by kernel_rfl) (fun _ _ _ h => h) (by rfl) hHeld ?_ ?_
    rotate_left
    · intro wz hSw; (try dsimp only at hSw); go_simp; (try with_reducible rfl)
    (try simp only [Act.put, List.setIfInBounds_toArray, List.set_cons_zero, List.set_cons_succ])
    refine take_at (i := 3) (v := ?_) (some 48) rfl rfl (by kernel_rfl) (by kernel_rfl) (by kernel_rfl) (fun _ _ _ h => h) (by rfl) hHeld ?_ ?_
    rotate_left
    · intro wz hSw; (try dsimp only at hSw); go_simp; (try with_reducible rfl)
    (try simp only [Act.put, List.setIfInBounds_toArray, List.set_cons_zero, List.set_cons_succ])
    refine take_at (i := 4) (v := ?_) (some 49) rfl rfl (by kernel_rfl) (by kernel_rfl) (by kernel_rfl) (fun _ _ _ h => h) (by rfl) hHeld ?_ ?_
    rotate_left
    · intro wz hSw; (try dsimp only at hSw); go_simp; (try with_reducible rfl)
    (try simp only [Act.put, List.setIfInBounds_toArray, List.set_cons_zero, List.set_cons_succ])
    refine take_at (i := 5) (v := .slice (some ⟨b, q, none⟩) 4 c1) (some 50) rfl rfl (by kernel_rfl) (by kernel_rfl) (by kernel_rfl) (fun _ _ _ h => h) (by rfl) hHeld ?_ ?_
    · intro wz hSw; (try dsimp only at hSw); go_simp; (try with_reducible rfl)
    (try simp only [Act.put, List.setIfInBounds_toArray, List.set_cons_zero, List.set_cons_succ])
    refine take_at (i := 7) (v := ?_) (some 52) rfl rfl (by kernel_rfl) (by kernel_rfl) (by kernel_rfl) (fun _ _ _ h => h) (by rfl) hHeld ?_ ?_
    rotate_left
    · intro wz hSw; (try dsimp only at hSw); go_simp; (try with_reducible rfl)
    (try simp only [Act.put, List.setIfInBounds_toArray, List.set_cons_zero, List.set_cons_succ])
    refine take_at (i := 8) (v := .slice (some ⟨b, q + 4, none⟩) 4 (c1 - 4)) (some 53) rfl rfl (by kernel_rfl) (by kernel_rfl) (by kernel_rfl) (fun _ _ _ h => h) (by rfl) hHeld ?_ ?_
    · intro wz hSw; (try dsimp only at hSw); go_simp; (try with_reducible rfl)
    (try simp only [Act.put, List.setIfInBounds_toArray, List.set_cons_zero, List.set_cons_succ])
    have hS := hHeld
    refine wpAnyH_ready (rs := [6, 12]) (by kernel_rfl) (by simp) ?_
    refine ready_cons (i := 6) rfl (by rfl) (fun K' hK => ?_) ?_
    · skip
      refine wp_call1 51 rfl (.tmp 50) rfl rfl enter_snum ((HNum0.out _ hdW).mono ?_)
      rintro e x9 ⟨rfl, rfl⟩
      refine ⟨_, rfl, ?_⟩
      refine hK.out _ _ hS ?_
      clear hK K'
      (try simp only [Act.put, List.setIfInBounds_toArray, List.set_cons_zero, List.set_cons_succ])
      refine wpAnyH_ready (rs := [9, 12]) (by kernel_rfl) (by simp) ?_
      refine ready_cons (i := 9) rfl (by rfl) (fun K' hK => ?_) ?_
      · skip
        refine wp_call1 54 rfl (.tmp 53) rfl rfl enter_snum ((HNum4.out _ hdW).mono ?_)
        rintro e x9 ⟨rfl, rfl⟩
        refine ⟨_, rfl, ?_⟩
        refine hK.out _ _ hS ?_
        clear hK K'
        (try simp only [Act.put, List.setIfInBounds_toArray, List.set_cons_zero, List.set_cons_succ])
        refine take_at (i := 10) (v := ?_) (some 55) rfl rfl (by kernel_rfl) (by kernel_rfl) (by kernel_rfl) (fun _ _ _ h => h) (by rfl) hS ?_ ?_
        rotate_left
        · intro wz hSw; (try dsimp only at hSw); go_simp; (try with_reducible rfl)
        (try simp only [Act.put, List.setIfInBounds_toArray, List.set_cons_zero, List.set_cons_succ])
        refine take_at (i := 11) (v := ?_) (some 56) rfl rfl (by kernel_rfl) (by kernel_rfl) (by kernel_rfl) (fun _ _ _ h => h) (by rfl) hS ?_ ?_
        rotate_left
        · intro wz hSw; (try dsimp only at hSw); go_simp; (try with_reducible rfl)
        (try simp only [Act.put, List.setIfInBounds_toArray, List.set_cons_zero, List.set_cons_succ])
        refine wpAnyH_ready (rs := [12]) (by kernel_rfl) (by simp) ?_
        refine ready_cons (i := 12) rfl (by rfl) (fun K' hK => ?_) (AllReadyH.nil)
        go_simp
        have hbA : Below W.heap.size W (W.alloc (.cells #[.int .i64 0, .int .i64 0, .int .i64 0, .int .i64 0, .slice none 0 0] 26)).drew := ((Below.refl _ _).alloc (Nat.le_refl _) _).drew
        have hnew : Holds (W.alloc (.cells #[.int .i64 0, .int .i64 0, .int .i64 0, .int .i64 0, .slice none 0 0] 26)).drew W.heap.size [.int .i64 0, .int .i64 0, .int .i64 0, .int .i64 0, .slice none 0 0] := Holds.new W #[.int .i64 0, .int .i64 0, .int .i64 0, .int .i64 0, .slice none 0 0] 26
        refine hK.out _ _ ⟨(HKs.out.below hbA).at_ 1 rfl, (HKs.out.below hbA).at_ 2 rfl⟩ ?_
        clear hK K'
        generalize (W.alloc (.cells #[.int .i64 0, .int .i64 0, .int .i64 0, .int .i64 0, .slice none 0 0] 26)).drew = U at *
        have hS := (⟨(HKs.out.below hbA).at_ 1 rfl, (HKs.out.below hbA).at_ 2 rfl⟩ : U.cell? ⟨g1, 1, none⟩ = some (.int .i64 (e : Int)) ∧ U.cell? ⟨g1, 2, none⟩ = some (.int .i64 (i : Int)))
        (try simp only [Act.put, List.setIfInBounds_toArray, List.set_cons_zero, List.set_cons_succ])
        have zf0 := hnew.2.2 0
        have zf1 := hnew.2.2 1
        have zf2 := hnew.2.2 2
        have zf3 := hnew.2.2 3
        have zf4 := hnew.2.2 4
        have zc0 := hnew.at_ 0 rfl
        have zc1 := hnew.at_ 1 rfl
        have zc2 := hnew.at_ 2 rfl
        have zc3 := hnew.at_ 3 rfl
        have zc4 := hnew.at_ 4 rfl
        refine wpAnyH_ready (rs := [13]) (by kernel_rfl) (by simp) ?_
        refine ready_cons (i := 13) rfl (by rfl) (fun K' hK => ?_) (AllReadyH.nil)
        have hBx := below_set5' hbA (b := W.heap.size) (Nat.le_refl _) (.int .i64 (i : Int)) (.int .i64 (e : Int)) (.int .i64 (F p 0 4 : Int)) (.int .i64 (F p 4 4 : Int)) (.slice none 0 0)
        have hXx := hnew.set5 (.int .i64 (i : Int)) (.int .i64 (e : Int)) (.int .i64 (F p 0 4 : Int)) (.int .i64 (F p 4 4 : Int)) (.slice none 0 0)
        go_simp
        clear zf0 zf1 zf2 zf3 zf4 zc0 zc1 zc2 zc3 zc4 hnew
        generalize (((((U.setCell ⟨W.heap.size, 0, none⟩ (.int .i64 (i : Int))).setCell ⟨W.heap.size, 1, none⟩ (.int .i64 (e : Int))).setCell ⟨W.heap.size, 2, none⟩ (.int .i64 (F p 0 4 : Int))).setCell ⟨W.heap.size, 3, none⟩ (.int .i64 (F p 4 4 : Int))).setCell ⟨W.heap.size, 4, none⟩ (.slice none 0 0)) = Y at *
        refine hK.out _ _ ⟨(HKs.out.below hBx).at_ 1 rfl, (HKs.out.below hBx).at_ 2 rfl⟩ ?_
        clear hK K'
        (try simp only [Act.put, List.setIfInBounds_toArray, List.set_cons_zero, List.set_cons_succ])
        refine wpAnyH_done (by kernel_rfl) ?_ _
        have HBx := Lib.hid hBx
        have HXx := Lib.hid hXx
        clear hBx hXx
        go_wp2_with fail
        go_meet
        case rel => exact ⟨rfl, HBx, HXx⟩
      refine ready_cons (i := 12) rfl (by rfl) (fun K' hK => ?_) (AllReadyH.nil)
      go_simp
      have hbA : Below W.heap.size W (W.alloc (.cells #[.int .i64 0, .int .i64 0, .int .i64 0, .int .i64 0, .slice none 0 0] 26)).drew := ((Below.refl _ _).alloc (Nat.le_refl _) _).drew
      have hnew : Holds (W.alloc (.cells #[.int .i64 0, .int .i64 0, .int .i64 0, .int .i64 0, .slice none 0 0] 26)).drew W.heap.size [.int .i64 0, .int .i64 0, .int .i64 0, .int .i64 0, .slice none 0 0] := Holds.new W #[.int .i64 0, .int .i64 0, .int .i64 0, .int .i64 0, .slice none 0 0] 26
      refine hK.out _ _ ⟨(HKs.out.below hbA).at_ 1 rfl, (HKs.out.below hbA).at_ 2 rfl⟩ ?_
      clear hK K'
      generalize (W.alloc (.cells #[.int .i64 0, .int .i64 0, .int .i64 0, .int .i64 0, .slice none 0 0] 26)).drew = U at *
      have hS := (⟨(HKs.out.below hbA).at_ 1 rfl, (HKs.out.below hbA).at_ 2 rfl⟩ : U.cell? ⟨g1, 1, none⟩ = some (.int .i64 (e : Int)) ∧ U.cell? ⟨g1, 2, none⟩ = some (.int .i64 (i : Int)))
      (try simp only [Act.put, List.setIfInBounds_toArray, List.set_cons_zero, List.set_cons_succ])
      refine wpAnyH_ready (rs := [9]) (by kernel_rfl) (by simp) ?_
      refine ready_cons (i := 9) rfl (by rfl) (fun K' hK => ?_) (AllReadyH.nil)
      refine wp_call1 54 rfl (.tmp 53) rfl rfl enter_snum ((HNum4.out _ hbA).mono ?_)
      rintro e x9 ⟨rfl, rfl⟩
      refine ⟨_, rfl, ?_⟩
      refine hK.out _ _ hS ?_
      clear hK K'
      (try simp only [Act.put, List.setIfInBounds_toArray, List.set_cons_zero, List.set_cons_succ])
      refine take_at (i := 10) (v := ?_) (some 55) rfl rfl (by kernel_rfl) (by kernel_rfl) (by kernel_rfl) (fun _ _ _ h => h) (by rfl) hS ?_ ?_
      rotate_left
      · intro wz hSw; (try dsimp only at hSw); go_simp; (try with_reducible rfl)
      (try simp only [Act.put, List.setIfInBounds_toArray, List.set_cons_zero, List.set_cons_succ])
      refine take_at (i := 11) (v := ?_) (some 56) rfl rfl (by kernel_rfl) (by kernel_rfl) (by kernel_rfl) (fun _ _ _ h => h) (by rfl) hS ?_ ?_
      rotate_left
      · intro wz hSw; (try dsimp only at hSw); go_simp; (try with_reducible rfl)
      (try simp only [Act.put, List.setIfInBounds_toArray, List.set_cons_zero, List.set_cons_succ])
      have zf0 := hnew.2.2 0
      have zf1 := hnew.2.2 1
      have zf2 := hnew.2.2 2
      have zf3 := hnew.2.2 3
      have zf4 := hnew.2.2 4
      have zc0 := hnew.at_ 0 rfl
      have zc1 := hnew.at_ 1 rfl
      have zc2 := hnew.at_ 2 rfl
      have zc3 := hnew.at_ 3 rfl
      have zc4 := hnew.at_ 4 rfl
      refine wpAnyH_ready (rs := [13]) (by kernel_rfl) (by simp) ?_
      refine ready_cons (i := 13) rfl (by rfl) (fun K' hK => ?_) (AllReadyH.nil)
      have hBx := below_set5' hbA (b := W.heap.size) (Nat.le_refl _) (.int .i64 (i : Int)) (.int .i64 (e : Int)) (.int .i64 (F p 0 4 : Int)) (.int .i64 (F p 4 4 : Int)) (.slice none 0 0)
      have hXx := hnew.set5 (.int .i64 (i : Int)) (.int .i64 (e : Int)) (.int .i64 (F p 0 4 : Int)) (.int .i64 (F p 4 4 : Int)) (.slice none 0 0)
      go_simp
      clear zf0 zf1 zf2 zf3 zf4 zc0 zc1 zc2 zc3 zc4 hnew
      generalize (((((U.setCell ⟨W.heap.size, 0, none⟩ (.int .i64 (i : Int))).setCell ⟨W.heap.size, 1, none⟩ (.int .i64 (e : Int))).setCell ⟨W.heap.size, 2, none⟩ (.int .i64 (F p 0 4 : Int))).setCell ⟨W.heap.size, 3, none⟩ (.int .i64 (F p 4 4 : Int))).setCell ⟨W.heap.size, 4, none⟩ (.slice none 0 0)) = Y at *
      refine hK.out _ _ ⟨(HKs.out.below hBx).at_ 1 rfl, (HKs.out.below hBx).at_ 2 rfl⟩ ?_
      clear hK K'
      (try simp only [Act.put, List.setIfInBounds_toArray, List.set_cons_zero, List.set_cons_succ])
      refine wpAnyH_done (by kernel_rfl) ?_ _
      have HBx := Lib.hid hBx
      have HXx := Lib.hid hXx
      clear hBx hXx
      go_wp2_with fail
      go_meet
      case rel => exact ⟨rfl, HBx, HXx⟩
    refine ready_cons (i := 12) rfl (by rfl) (fun K' hK => ?_) (AllReadyH.nil)
    go_simp
    have hbA : Below W.heap.size W (W.alloc (.cells #[.int .i64 0, .int .i64 0, .int .i64 0, .int .i64 0, .slice none 0 0] 26)).drew := ((Below.refl _ _).alloc (Nat.le_refl _) _).drew
    have hnew : Holds (W.alloc (.cells #[.int .i64 0, .int .i64 0, .int .i64 0, .int .i64 0, .slice none 0 0] 26)).drew W.heap.size [.int .i64 0, .int .i64 0, .int .i64 0, .int .i64 0, .slice none 0 0] := Holds.new W #[.int .i64 0, .int .i64 0, .int .i64 0, .int .i64 0, .slice none 0 0] 26
    refine hK.out _ _ ⟨(HKs.out.below hbA).at_ 1 rfl, (HKs.out.below hbA).at_ 2 rfl⟩ ?_
    clear hK K'
    generalize (W.alloc (.cells #[.int .i64 0, .int .i64 0, .int .i64 0, .int .i64 0, .slice none 0 0] 26)).drew = U at *
    have hS := (⟨(HKs.out.below hbA).at_ 1 rfl, (HKs.out.below hbA).at_ 2 rfl⟩ : U.cell? ⟨g1, 1, none⟩ = some (.int .i64 (e : Int)) ∧ U.cell? ⟨g1, 2, none⟩ = some (.int .i64 (i : Int)))
    (try simp only [Act.put, List.setIfInBounds_toArray, List.set_cons_zero, List.set_cons_succ])
    refine wpAnyH_ready (rs := [6]) (by kernel_rfl) (by simp) ?_
    refine ready_cons (i := 6) rfl (by rfl) (fun K' hK => ?_) (AllReadyH.nil)
    refine wp_call1 51 rfl (.tmp 50) rfl rfl enter_snum ((HNum0.out _ hbA).mono ?_)
    rintro e x9 ⟨rfl, rfl⟩
    refine ⟨_, rfl, ?_⟩
    refine hK.out _ _ hS ?_
    clear hK K'
    (try simp only [Act.put, List.setIfInBounds_toArray, List.set_cons_zero, List.set_cons_succ])
    refine wpAnyH_ready (rs := [9]) (by kernel_rfl) (by simp) ?_
    refine ready_cons (i := 9) rfl (by rfl) (fun K' hK => ?_) (AllReadyH.nil)
    refine wp_call1 54 rfl (.tmp 53) rfl rfl enter_snum ((HNum4.out _ hbA).mono ?_)
    rintro e x9 ⟨rfl, rfl⟩
    refine ⟨_, rfl, ?_⟩
    refine hK.out _ _ hS ?_
    clear hK K'
    (try simp only [Act.put, List.setIfInBounds_toArray, List.set_cons_zero, List.set_cons_succ])
    refine take_at (i := 10) (v := ?_) (some 55) rfl rfl (by kernel_rfl) (by kernel_rfl) (by kernel_rfl) (fun _ _ _ h => h) (by rfl) hS ?_ ?_
    rotate_left
    · intro wz hSw; (try dsimp only at hSw); go_simp; (try with_reducible rfl)
    (try simp only [Act.put, List.setIfInBounds_toArray, List.set_cons_zero, List.set_cons_succ])
    refine take_at (i := 11) (v := ?_) (some 56) rfl rfl (by kernel_rfl) (by kernel_rfl) (by kernel_rfl) (fun _ _ _ h => h) (by rfl) hS ?_ ?_
    rotate_left
    · intro wz hSw; (try dsimp only at hSw); go_simp; (try with_reducible rfl)
    (try simp only [Act.put, List.setIfInBounds_toArray, List.set_cons_zero, List.set_cons_succ])
    have zf0 := hnew.2.2 0
    have zf1 := hnew.2.2 1
    have zf2 := hnew.2.2 2
    have zf3 := hnew.2.2 3
    have zf4 := hnew.2.2 4
    have zc0 := hnew.at_ 0 rfl
    have zc1 := hnew.at_ 1 rfl
    have zc2 := hnew.at_ 2 rfl
    have zc3 := hnew.at_ 3 rfl
    have zc4 := hnew.at_ 4 rfl
    refine wpAnyH_ready (rs := [13]) (by kernel_rfl) (by simp) ?_
    refine ready_cons (i := 13) rfl (by rfl) (fun K' hK => ?_) (AllReadyH.nil)
    have hBx := below_set5' hbA (b := W.heap.size) (Nat.le_refl _) (.int .i64 (i : Int)) (.int .i64 (e : Int)) (.int .i64 (F p 0 4 : Int)) (.int .i64 (F p 4 4 : Int)) (.slice none 0 0)
    have hXx := hnew.set5 (.int .i64 (i : Int)) (.int .i64 (e : Int)) (.int .i64 (F p 0 4 : Int)) (.int .i64 (F p 4 4 : Int)) (.slice none 0 0)
    go_simp
    clear zf0 zf1 zf2 zf3 zf4 zc0 zc1 zc2 zc3 zc4 hnew
    generalize (((((U.setCell ⟨W.heap.size, 0, none⟩ (.int .i64 (i : Int))).setCell ⟨W.heap.size, 1, none⟩ (.int .i64 (e : Int))).setCell ⟨W.heap.size, 2, none⟩ (.int .i64 (F p 0 4 : Int))).setCell ⟨W.heap.size, 3, none⟩ (.int .i64 (F p 4 4 : Int))).setCell ⟨W.heap.size, 4, none⟩ (.slice none 0 0)) = Y at *
    refine hK.out _ _ ⟨(HKs.out.below hBx).at_ 1 rfl, (HKs.out.below hBx).at_ 2 rfl⟩ ?_
    clear hK K'
    (try simp only [Act.put, List.setIfInBounds_toArray, List.set_cons_zero, List.set_cons_succ])
    refine wpAnyH_done (by kernel_rfl) ?_ _
    have HBx := Lib.hid hBx
    have HXx := Lib.hid hXx
    clear hBx hXx
    go_wp2_with fail
    go_meet
    case rel => exact ⟨rfl, HBx, HXx⟩
  case rest =>
    obtain ⟨rfl, HBc, HXc⟩ := hcut
    have HEr := Lib.hid (hRp.below HBc.out)
    have HEk := Lib.hid (hkW.below HBc.out)
    have HBa := Lib.hid (hBW.trans (HBc.out.mono hBW.size))
    have HAt := Lib.hid (show w.heap.size ≤ W.heap.size from hBW.size)
    have HRn := Lib.hid (show w.heap.size ≠ W.heap.size by have := hkW.1; omega)
    have HBn := Lib.hid (show b ≠ W.heap.size by omega)
    have HP0 := Lib.hid (⟨⟨none, 0, HXc.out, OwnC.none_ _ _ _ _⟩, Ch2.refl _ _ _, HXc.out.1⟩ : PairsR wc W.heap.size (i : Int) (e : Int) (F p 0 4 : Int) (F p 4 4 : Int) wc [])
    clear hRp hkW hBW hks y1 y2 h4c h8c hn4 hdW HKs HNum0 HNum4 hbW hbl q5i q5j q6b
    generalize hSB : W.heap.size = SB at *
    generalize wc = a at *
    go_wp2_with fail
    go_loopw [9] (fun v wr => ∃ k : Nat, k ≤ P8 ∧ v = .int .i64 ((9 + 4 * k : Nat) : Int) ∧ Hid (PairsR a SB (i : Int) (e : Int) (F p 0 4 : Int) (F p 4 4 : Int) wr (pairs p k))) (fun v _ => PL + 4 - (intOf v).toNat)
    case atStart => exact ⟨0, by omega, rfl, HP0⟩
    case round =>
      obtain ⟨k, hk, rfl, HP⟩ := hrel
      obtain ⟨J, hJ⟩ : ∃ J, J = 9 + 4 * k := ⟨_, rfl⟩
      rw [← hJ]
      have HJ := Lib.hid hJ
      by_cases hkP : k < P8
      · have hJP : J + 4 ≤ PL := by have := HLn.out; omega
        have hJ1 : (J : Int) < (PL : Int) := by omega
        have hJ2 : J ≤ 200 := by omega
        clear hJ
        obtain ⟨u4, rfl⟩ : ∃ z : World, z = wr := ⟨wr, rfl⟩
        have hPd := HP.out.drew
        obtain ⟨B, cB, hX1, hO1⟩ := hPd.cell
        have HpL := Lib.hid (pairs_len p k)
        rw [pairs_len] at hX1 hO1
        have hs0 : u4.drew.cell? ⟨SB, 4, none⟩ = some (.slice B k cB) := hX1.at_ 4 rfl
        have hRd : Rd u4.drew (some ⟨b, q, none⟩) PL p := HEr.out.ch2 hPd.ch HBn.out HBn.out
        have hw2 : IntKind.i64.wrap ((J : Int) + 2) = (J : Int) + 2 := by rw [IntKind.wrap_i64]; omega
        have hw4 : IntKind.i64.wrap ((J : Int) + 4) = (J : Int) + 4 := by rw [IntKind.wrap_i64]; omega
        have hslA : ∀ v, (Instr.slice 28 (.slice (some ⟨b, q, none⟩) PL c1) (some (.int .i64 (J : Int))) (some (.int .i64 ((J : Int) + 2))) none).run Try.prog v = .ok (.slice (some ⟨b, q + J, none⟩) 2 (c1 - J)) v := fun v => by
          have := run_cut6 b q PL c1 J (J + 2) (J : Int) ((J : Int) + 2) rfl (by omega) (by omega) (by omega) (by omega) v
          rwa [show J + 2 - J = 2 by omega] at this
        have hslB : ∀ v, (Instr.slice 28 (.slice (some ⟨b, q, none⟩) PL c1) (some (.int .i64 ((J : Int) + 2))) (some (.int .i64 ((J : Int) + 4))) none).run Try.prog v = .ok (.slice (some ⟨b, q + (J + 2), none⟩) 2 (c1 - (J + 2))) v := fun v => by
          have := run_cut6 b q PL c1 (J + 2) (J + 4) ((J : Int) + 2) ((J : Int) + 4) (by omega) (by omega) (by omega) (by omega) (by omega) v
          rwa [show J + 4 - (J + 2) = 2 by omega] at this
        go_upto_region 8 with fail
        refine region_end (fun wx => wx.cell? ⟨SB, 4, none⟩ = some (.slice B k cB)) (by kernel_rfl) (by simp) (by kernel_rfl) ?_
        simp only [List.dropLast, List.length_cons, List.length_nil]
        refine take_at (i := 0) (v := ?_) (some 63) rfl rfl (by kernel_rfl) (by kernel_rfl) (by kernel_rfl) (fun _ _ _ h => h) (by rfl) hs0 ?_ ?_
        rotate_left
        · intro wz hSw; (try dsimp only at hSw); go_simp; (try with_reducible rfl)
        (try simp only [Act.put, List.setIfInBounds_toArray, List.set_cons_zero, List.set_cons_succ])
        refine take_at (i := 1) (v := ?_) (some 64) rfl rfl (by kernel_rfl) (by kernel_rfl) (by kernel_rfl) (fun _ _ _ h => h) (by rfl) hs0 ?_ ?_
        rotate_left
        · intro wz hSw; (try dsimp only at hSw); go_simp; (try with_reducible rfl)
        (try simp only [Act.put, List.setIfInBounds_toArray, List.set_cons_zero, List.set_cons_succ])
        refine take_at (i := 2) (v := ?_) (some 65) rfl rfl (by kernel_rfl) (by kernel_rfl) (by kernel_rfl) (fun _ _ _ h => h) (by rfl) hs0 ?_ ?_
        rotate_left
        · intro wz hSw; (try dsimp only at hSw); go_simp; (try with_reducible rfl)
        (try simp only [Act.put, List.setIfInBounds_toArray, List.set_cons_zero, List.set_cons_succ])
        refine take_at (i := 3) (v := ?_) (some 66) rfl rfl (by kernel_rfl) (by kernel_rfl) (by kernel_rfl) (fun _ _ _ h => h) (by rfl) hs0 ?_ ?_
        rotate_left
        · intro wz hSw; (try dsimp only at hSw); go_simp; (try with_reducible rfl)
        (try simp only [Act.put, List.setIfInBounds_toArray, List.set_cons_zero, List.set_cons_succ])
        refine take_at (i := 4) (v := ?_) (some 67) rfl rfl (by kernel_rfl) (by kernel_rfl) (by kernel_rfl) (fun _ _ _ h => h) (by rfl) hs0 ?_ ?_
        rotate_left
        · intro wz hSw; (try dsimp only at hSw); go_simp; (try with_reducible rfl)
        (try simp only [Act.put, List.setIfInBounds_toArray, List.set_cons_zero, List.set_cons_succ])
        refine take_at (i := 5) (v := ?_) (some 68) rfl rfl (by kernel_rfl) (by kernel_rfl) (by kernel_rfl) (fun _ _ _ h => h) (by rfl) hs0 ?_ ?_
        rotate_left
        · intro wz hSw; (try dsimp only at hSw); go_simp; (try with_reducible rfl)
        (try simp only [Act.put, List.setIfInBounds_toArray, List.set_cons_zero, List.set_cons_succ])
        refine take_at (i := 6) (v := .int .i64 ((J : Int) + 2)) (some 69) rfl rfl (by kernel_rfl) (by kernel_rfl) (by kernel_rfl) (fun _ _ _ h => h) (by rfl) hs0 ?_ ?_
        · intro wz hSw; (try dsimp only at hSw); go_simp; (try with_reducible rfl)
        (try simp only [Act.put, List.setIfInBounds_toArray, List.set_cons_zero, List.set_cons_succ])
        refine take_at (i := 7) (v := .slice (some ⟨b, q + J, none⟩) 2 (c1 - J)) (some 70) rfl rfl (by kernel_rfl) (by kernel_rfl) (by kernel_rfl) (fun _ _ _ h => h) (by rfl) hs0 ?_ ?_
        · intro wz hSw; (try dsimp only at hSw); go_simp; (try with_reducible rfl)
        (try simp only [Act.put, List.setIfInBounds_toArray, List.set_cons_zero, List.set_cons_succ])
        refine take_at (i := 9) (v := ?_) (some 72) rfl rfl (by kernel_rfl) (by kernel_rfl) (by kernel_rfl) (fun _ _ _ h => h) (by rfl) hs0 ?_ ?_
        rotate_left
        · intro wz hSw; (try dsimp only at hSw); go_simp; (try with_reducible rfl)
        (try simp only [Act.put, List.setIfInBounds_toArray, List.set_cons_zero, List.set_cons_succ])
        refine take_at (i := 10) (v := ?_) (some 73) rfl rfl (by kernel_rfl) (by kernel_rfl) (by kernel_rfl) (fun _ _ _ h => h) (by rfl) hs0 ?_ ?_
        rotate_left
        · intro wz hSw; (try dsimp only at hSw); go_simp; (try with_reducible rfl)
        (try simp only [Act.put, List.setIfInBounds_toArray, List.set_cons_zero, List.set_cons_succ])
        refine take_at (i := 11) (v := .int .i64 ((J : Int) + 2)) (some 74) rfl rfl (by kernel_rfl) (by kernel_rfl) (by kernel_rfl) (fun _ _ _ h => h) (by rfl) hs0 ?_ ?_
        · intro wz hSw; (try dsimp only at hSw); go_simp; (try with_reducible rfl)
        (try simp only [Act.put, List.setIfInBounds_toArray, List.set_cons_zero, List.set_cons_succ])
        refine take_at (i := 12) (v := ?_) (some 75) rfl rfl (by kernel_rfl) (by kernel_rfl) (by kernel_rfl) (fun _ _ _ h => h) (by rfl) hs0 ?_ ?_
        rotate_left
        · intro wz hSw; (try dsimp only at hSw); go_simp; (try with_reducible rfl)
        (try simp only [Act.put, List.setIfInBounds_toArray, List.set_cons_zero, List.set_cons_succ])
        refine take_at (i := 13) (v := .int .i64 ((J : Int) + 4)) (some 76) rfl rfl (by kernel_rfl) (by kernel_rfl) (by kernel_rfl) (fun _ _ _ h => h) (by rfl) hs0 ?_ ?_
        · intro wz hSw; (try dsimp only at hSw); go_simp; (try with_reducible rfl)
        (try simp only [Act.put, List.setIfInBounds_toArray, List.set_cons_zero, List.set_cons_succ])
        refine take_at (i := 14) (v := .slice (some ⟨b, q + (J + 2), none⟩) 2 (c1 - (J + 2))) (some 77) rfl rfl (by kernel_rfl) (by kernel_rfl) (by kernel_rfl) (fun _ _ _ h => h) (by rfl) hs0 ?_ ?_
        · intro wz hSw; (try dsimp only at hSw); go_simp; (try with_reducible rfl)
        (try simp only [Act.put, List.setIfInBounds_toArray, List.set_cons_zero, List.set_cons_succ])
        refine wpAnyH_ready (rs := [8]) (by kernel_rfl) (by simp) ?_
        refine ready_cons (i := 8) rfl (by rfl) (fun K' hK => ?_) (AllReadyH.nil)
        refine wp_call1 71 rfl (.tmp 70) rfl rfl enter_snum ((number_part (o := J) (s := 2) (c := c1 - J) hRd (by omega) (by omega)).mono ?_)
        rintro e x9 ⟨rfl, rfl⟩
        refine ⟨_, rfl, ?_⟩
        refine hK.out _ _ ?_ ?_
        · exact hs0
        clear hK K'
        (try simp only [Act.put, List.setIfInBounds_toArray, List.set_cons_zero, List.set_cons_succ])
        refine wpAnyH_ready (rs := [15]) (by kernel_rfl) (by simp) ?_
        refine ready_cons (i := 15) rfl (by rfl) (fun K' hK => ?_) (AllReadyH.nil)
        refine wp_call1 78 rfl (.tmp 77) rfl rfl enter_snum ((number_part (o := (J + 2)) (s := 2) (c := c1 - (J + 2)) hRd (by omega) (by omega)).mono ?_)
        rintro e x9 ⟨rfl, rfl⟩
        refine ⟨_, rfl, ?_⟩
        refine hK.out _ _ ?_ ?_
        · exact hs0
        clear hK K'
        (try simp only [Act.put, List.setIfInBounds_toArray, List.set_cons_zero, List.set_cons_succ])
        refine take_at (i := 16) (v := ?_) (some 79) rfl rfl (by kernel_rfl) (by kernel_rfl) (by kernel_rfl) (fun _ _ _ h => h) (by rfl) hs0 ?_ ?_
        rotate_left
        · intro wz hSw; (try dsimp only at hSw); go_simp; (try with_reducible rfl)
        (try simp only [Act.put, List.setIfInBounds_toArray, List.set_cons_zero, List.set_cons_succ])
        refine wpAnyH_ready (rs := [17]) (by kernel_rfl) (by simp) ?_
        refine ready_cons (i := 17) rfl (by rfl) (fun K' hK => ?_) (AllReadyH.nil)
        go_simp
        refine hK.out _ _ ?_ ?_
        · exact ((hX1.alloc _).at_ 4 rfl)
        clear hK K'
        (try simp only [Act.put, List.setIfInBounds_toArray, List.set_cons_zero, List.set_cons_succ])
        have hs2 := (hX1.alloc (.cells #[.int .i64 (F p J 2 : Int), .int .i64 (F p (J + 2) 2 : Int)] 93)).at_ 4 rfl
        refine wpAnyH_ready (rs := [18]) (by kernel_rfl) (by simp) ?_
        refine ready_cons (i := 18) rfl (by rfl) (fun K' hK => ?_) (AllReadyH.nil)
        refine wp_appC manyPs 81 rfl (.tmp 65) (.tmp 80) rfl rfl (hO1.alloc _) ⟨u4.drew.heap.size, 0, none⟩ 1 1 [.int .i64 (F p J 2 : Int), .int .i64 (F p (J + 2) 2 : Int)] (by intro u hu; simp at hu; rcases hu with rfl | rfl <;> rfl) rfl (rdc_two _ _ _ _) (by omega) (by have := hPd.ch.size; simp at this ⊢; omega) ?_
        intro A3 c3 w3 hg3
        obtain ⟨hX3, hP3⟩ := hPd.more hX1 hO1 HpL.out hg3
        refine hK.out _ _ ?_ ?_
        · exact (hX3.at_ 4 rfl)
        clear hK K'
        (try simp only [Act.put, List.setIfInBounds_toArray, List.set_cons_zero, List.set_cons_succ])
        have hs3 := hX3.at_ 4 rfl
        refine take_at (i := 19) (v := ?_) (some 82) rfl rfl (by kernel_rfl) (by kernel_rfl) (by kernel_rfl) (fun _ _ _ h => h) (by rfl) hs3 ?_ ?_
        rotate_left
        · intro wz hSw; (try dsimp only at hSw); go_simp; (try with_reducible rfl)
        (try simp only [Act.put, List.setIfInBounds_toArray, List.set_cons_zero, List.set_cons_succ])
        refine take_at (i := 20) (v := ?_) (some 83) rfl rfl (by kernel_rfl) (by kernel_rfl) (by kernel_rfl) (fun _ _ _ h => h) (by rfl) hs3 ?_ ?_
        rotate_left
        · intro wz hSw; (try dsimp only at hSw); go_simp; (try with_reducible rfl)
        (try simp only [Act.put, List.setIfInBounds_toArray, List.set_cons_zero, List.set_cons_succ])
        refine wpAnyH_done (by kernel_rfl) ?_ _
        have hzc := hX3.at_ 4 rfl
        have hzf := hX3.2.2 4
        have HP6 := Lib.hid (show PairsR a SB (i : Int) (e : Int) (F p 0 4 : Int) (F p 4 4 : Int) (w3.setCell ⟨SB, 4, none⟩ (.slice A3 (k + 1) c3)) (pairs p (k + 1)) by
          rw [pairs_snoc, show 11 + 4 * k = J + 2 by have := HJ.out; omega, ← HJ.out]
          exact hP3)
        clear hg3 hX3 hP3 hs0 hs2 hs3 hX1 hO1 hPd hRd hslA hslB hw2 hw4
        change wpList _ _ _ _ _ _
        go_wp2_with fail
        go_roundw
        case rel => exact ⟨k + 1, by omega, by rw [show ((9 + 4 * (k + 1) : Nat) : Int) = (J : Int) + 4 by have := HJ.out; omega], HP6⟩
        case measure => simp [intOf]; omega
      · have hkl : k = P8 := by omega
        have hJL : J = PL := by have := HLn.out; omega
        subst hJL
        clear hJ
        subst hkl
        obtain ⟨B, cB, hX, hO⟩ := HP.out.cell
        have hRT := hO.rd
        have hBr := HP.out.ch.below HBa.out HAt.out HAt.out HBa.out.size
        have hkr := HEk.out.ch2 HP.out.ch HRn.out HRn.out
        have hck := fun T' (hT' : T' = T) => is_any T' B cB wr (by rw [hT', HT.out]; exact hRT)
        have hck := hck T rfl
        obtain ⟨ot, hot⟩ : ∃ o : Bool, o = Su.ok T := ⟨_, rfl⟩
        rw [← hot] at hck
        unfold Su.val at hck
        rw [HT.out] at hck
        simp only [pairs_len] at hck
        rw [pairs_len] at hX
        have HCk := Lib.hid hck
        have HOt := Lib.hid hot
        have HBr := Lib.hid hBr
        have x0 := hX.at_ 0 rfl
        have x1 := hX.at_ 1 rfl
        have x2 := hX.at_ 2 rfl
        have x3 := hX.at_ 3 rfl
        have x4 := hX.at_ 4 rfl
        clear hck hot hBr hRT
        go_wp2_with fail
        refine HCk.out.mono ?_
        rintro e' v9 ⟨rfl, hb9⟩
        have hkv := hkr.below hb9
        have hXv := hX.below hb9
        have hBv : Below w.heap.size w v9 := HBr.out.trans (hb9.mono HBr.out.size)
        have HOv := Lib.hid (hO.below hb9)
        clear x0 x1 x2 x3 x4 hkr hX hb9
        have x0 := hXv.at_ 0 rfl
        have x1 := hXv.at_ 1 rfl
        have x2 := hXv.at_ 2 rfl
        have x3 := hXv.at_ 3 rfl
        have x4 := hXv.at_ 4 rfl
        have r0 := hkv.at_ 0 rfl
        have r1 := hkv.at_ 1 rfl
        have r2 := hkv.at_ 2 rfl
        have r3 := hkv.at_ 3 rfl
        have r4 := hkv.at_ 4 rfl
        have zf0 := hkv.2.2 0
        have zf1 := hkv.2.2 1
        have zf2 := hkv.2.2 2
        have zf3 := hkv.2.2 3
        have zf4 := hkv.2.2 4
        cases ot
        · have z9 := hkv.set5 (.int .i64 0) (.int .i64 0) (.int .i64 0) (.int .i64 0) (.slice none 0 0)
          have R0 := Lib.hid (z9.at_ 0 rfl)
          have R1 := Lib.hid (z9.at_ 1 rfl)
          have R2 := Lib.hid (z9.at_ 2 rfl)
          have R3 := Lib.hid (z9.at_ 3 rfl)
          have R4 := Lib.hid (z9.at_ 4 rfl)
          have hBf := below_set5' hBv (b := w.heap.size) (Nat.le_refl _) (.int .i64 0) (.int .i64 0) (.int .i64 0) (.int .i64 0) (.slice none 0 0)
          have HBf := Lib.hid hBf
          clear z9 hBf hkv hXv hBv
          go_wp2_with fail
          generalize (((((v9.setCell ⟨w.heap.size, 0, none⟩ (.int .i64 0)).setCell ⟨w.heap.size, 1, none⟩ (.int .i64 0)).setCell ⟨w.heap.size, 2, none⟩ (.int .i64 0)).setCell ⟨w.heap.size, 3, none⟩ (.int .i64 0)).setCell ⟨w.heap.size, 4, none⟩ (.slice none 0 0)) = Wf at *
          refine bodyPost_ret (v := .tuple #[.agg #[.int .i64 0, .int .i64 0, .int .i64 0, .int .i64 0, .slice none 0 0], .int .i64 50]) (by simp [results, Try.results16, go_sem, R0.out, R1.out, R2.out, R3.out, R4.out]) rfl ?_
          rw [HTT.out, Hrr.out, ← HOt.out]
          exact ⟨none, 0, rfl, RdC.nil _ _ _, fun b o h => (by cases h), HBf.out⟩
        · have z9 := hkv.set5 (.int .i64 (i : Int)) (.int .i64 (e : Int)) (.int .i64 (F p 0 4 : Int)) (.int .i64 (F p 4 4 : Int)) (.slice B k cB)
          have R0 := Lib.hid (z9.at_ 0 rfl)
          have R1 := Lib.hid (z9.at_ 1 rfl)
          have R2 := Lib.hid (z9.at_ 2 rfl)
          have R3 := Lib.hid (z9.at_ 3 rfl)
          have R4 := Lib.hid (z9.at_ 4 rfl)
          have hBf := below_set5' hBv (b := w.heap.size) (Nat.le_refl _) (.int .i64 (i : Int)) (.int .i64 (e : Int)) (.int .i64 (F p 0 4 : Int)) (.int .i64 (F p 4 4 : Int)) (.slice B k cB)
          have HRf := Lib.hid (HOv.out.set5 (b := w.heap.size) (by have := HP.out.old; have := HAt.out; have := HRn.out; omega) (.int .i64 (i : Int)) (.int .i64 (e : Int)) (.int .i64 (F p 0 4 : Int)) (.int .i64 (F p 4 4 : Int)) (.slice B k cB)).rd
          have HBf := Lib.hid hBf
          clear z9 hBf hkv hXv hBv
          go_wp2_with fail
          generalize (((((v9.setCell ⟨w.heap.size, 0, none⟩ (.int .i64 (i : Int))).setCell ⟨w.heap.size, 1, none⟩ (.int .i64 (e : Int))).setCell ⟨w.heap.size, 2, none⟩ (.int .i64 (F p 0 4 : Int))).setCell ⟨w.heap.size, 3, none⟩ (.int .i64 (F p 4 4 : Int))).setCell ⟨w.heap.size, 4, none⟩ (.slice B k cB)) = Wf at *
          refine bodyPost_ret (v := .tuple #[.agg #[.int .i64 (i : Int), .int .i64 (e : Int), .int .i64 (F p 0 4 : Int), .int .i64 (F p 4 4 : Int), .slice B k cB], .int .i64 0]) (by simp [results, Try.results16, go_sem, R0.out, R1.out, R2.out, R3.out, R4.out]) rfl ?_
          have hRf := HRf.out
          rw [pairs_len] at hRf
          refine ⟨B, cB, ?_, ?_, fun b' o' hB' => Nat.le_trans HBa.out.size (HOv.out.new_ hB'), HBf.out⟩
          · rw [HTT.out, Hrr.out, ← HOt.out, if_pos rfl, if_pos rfl, HT.out]
            simp only [pairs_len]
          · rw [HTT.out, ← HOt.out, if_pos rfl, HT.out]
            simp only [pairs_len]
            exact hRf
end Go.Proofs.Ytbdomhookjmmgaa
namespace Go.Proofs.Ytbdomhookjmmgaa
open Go.RowKit Fr Su
set_option linter.unusedVariables false
set_option maxRecDepth 100000 in
set_option maxHeartbeats 4000000 in
theorem srdecode_none (A : Option Addr) (n c : Nat) (f e i k : Int) (p : List Nat) (r : Int) (w : World) (P8 : Nat) (h8 : 9 ≤ p.length → p[8]? = some P8 ∧ P8 < 256) (hpl : p.length ≤ 108)
    (hd : ∀ v, Below w.heap.size w v → Calls Try.prog 55 #[.slice A n c] v (GivesDec v f e i k p r))
    (hno : ¬ (r = 0 ∧ k = 1 ∧ f = 0 ∧ 9 ≤ p.length ∧ p.length = 9 + 4 * P8)) : Calls Try.prog 16 #[.slice A n c] w (GivesSu w none_ 50) := by
  have HO := Lib.hid hd
  have hB0 : Below w.heap.size w (w.alloc (.cells #[.int .i64 0, .int .i64 0, .int .i64 0, .int .i64 0, .slice none 0 0] 26)) := (Below.refl _ _).alloc (Nat.le_refl _) _
  have hk0 := Holds.new w #[.int .i64 0, .int .i64 0, .int .i64 0, .int .i64 0, .slice none 0 0] 26
  obtain ⟨PL, hPL⟩ : ∃ PL, PL = p.length := ⟨_, rfl⟩
  rw [← hPL] at h8 hno hpl
  have HPL := Lib.hid hPL
  clear hd hPL
  have key : ¬ r = 0 ∨ (r = 0 ∧ ¬ k = 1) ∨ (r = 0 ∧ k = 1 ∧ ¬ f = 0) ∨ (r = 0 ∧ k = 1 ∧ f = 0 ∧ PL < 9) ∨ (r = 0 ∧ k = 1 ∧ f = 0 ∧ 9 ≤ PL ∧ ¬ PL = 9 + 4 * P8) := by
    by_cases c1 : r = 0
    · by_cases c2 : k = 1
      · by_cases c3 : f = 0
        · by_cases c4 : PL < 9
          · exact .inr (.inr (.inr (.inl ⟨c1, c2, c3, c4⟩)))
          · exact .inr (.inr (.inr (.inr ⟨c1, c2, c3, by omega, fun h => hno ⟨c1, c2, c3, by omega, h⟩⟩)))
        · exact .inr (.inr (.inl ⟨c1, c2, c3⟩))
      · exact .inr (.inl ⟨c1, c2⟩)
    · exact .inl c1
  clear hno
  rcases key with q1 | ⟨rfl, q2⟩ | ⟨rfl, rfl, q3⟩ | ⟨rfl, rfl, rfl, q4⟩ | ⟨rfl, rfl, rfl, q5, q6⟩
  · have q1b : (r != 0) = true := by simpa using q1
    go_enter Try.func16, Try.ntmps16
    go_wp2_with fail
    refine (HO.out _ hB0).mono ?_
    rintro x v1 ⟨A1, c1, rfl, hR1, hb1⟩
    rw [← HPL.out] at hR1 ⊢
    have hkW := (hk0.below hb1).alloc (.cells #[.int .i64 f, .int .i64 e, .int .i64 i] 96)
    have hBW := (hB0.trans (hb1.mono hB0.size)).alloc (by have := hB0.size; have := hb1.size; omega) (.cells #[.int .i64 f, .int .i64 e, .int .i64 i] 96)
    have y0 := (Holds.new v1 #[.int .i64 f, .int .i64 e, .int .i64 i] 96).at_ 0 rfl
    clear hk0 hB0 hb1 hR1
    go_upto_region 2 with fail
    generalize v1.alloc (.cells #[.int .i64 f, .int .i64 e, .int .i64 i] 96) = W at *
    generalize v1.heap.size = g1 at *
    have zf0 := hkW.2.2 0
    have zz0 := hkW.at_ 0 rfl
    have zf1 := hkW.2.2 1
    have zz1 := hkW.at_ 1 rfl
    have zf2 := hkW.2.2 2
    have zz2 := hkW.at_ 2 rfl
    have zf3 := hkW.2.2 3
    have zz3 := hkW.at_ 3 rfl
    have zf4 := hkW.2.2 4
    have zz4 := hkW.at_ 4 rfl
    have z9 := hkW.set5 (.int .i64 0) (.int .i64 0) (.int .i64 0) (.int .i64 0) (.slice none 0 0)
    have R0 := Lib.hid (z9.at_ 0 rfl)
    have R1 := Lib.hid (z9.at_ 1 rfl)
    have R2 := Lib.hid (z9.at_ 2 rfl)
    have R3 := Lib.hid (z9.at_ 3 rfl)
    have R4 := Lib.hid (z9.at_ 4 rfl)
    have HBf := Lib.hid (below_set5' hBW (b := w.heap.size) (Nat.le_refl _) (.int .i64 0) (.int .i64 0) (.int .i64 0) (.int .i64 0) (.slice none 0 0))
    clear z9 hkW hBW
    go_wp2_with fail
    generalize (((((W.setCell ⟨w.heap.size, 0, none⟩ (.int .i64 0)).setCell ⟨w.heap.size, 1, none⟩ (.int .i64 0)).setCell ⟨w.heap.size, 2, none⟩ (.int .i64 0)).setCell ⟨w.heap.size, 3, none⟩ (.int .i64 0)).setCell ⟨w.heap.size, 4, none⟩ (.slice none 0 0)) = Wf at *
    refine bodyPost_ret (v := .tuple #[.agg #[.int .i64 0, .int .i64 0, .int .i64 0, .int .i64 0, .slice none 0 0], .int .i64 50]) (by simp [results, Try.results16, go_sem, R0.out, R1.out, R2.out, R3.out, R4.out]) rfl ?_
    exact ⟨none, 0, rfl, RdC.nil _ _ _, fun b o h => (by cases h), HBf.out⟩
  · have q2b : (k != 1) = true := by simpa using q2
    go_enter Try.func16, Try.ntmps16
    go_wp2_with fail
    refine (HO.out _ hB0).mono ?_
    rintro x v1 ⟨A1, c1, rfl, hR1, hb1⟩
    rw [← HPL.out] at hR1 ⊢
    have hkW := (hk0.below hb1).alloc (.cells #[.int .i64 f, .int .i64 e, .int .i64 i] 96)
    have hBW := (hB0.trans (hb1.mono hB0.size)).alloc (by have := hB0.size; have := hb1.size; omega) (.cells #[.int .i64 f, .int .i64 e, .int .i64 i] 96)
    have y0 := (Holds.new v1 #[.int .i64 f, .int .i64 e, .int .i64 i] 96).at_ 0 rfl
    clear hk0 hB0 hb1 hR1
    go_upto_region 2 with fail
    generalize v1.alloc (.cells #[.int .i64 f, .int .i64 e, .int .i64 i] 96) = W at *
    generalize v1.heap.size = g1 at *
    have zf0 := hkW.2.2 0
    have zz0 := hkW.at_ 0 rfl
    have zf1 := hkW.2.2 1
    have zz1 := hkW.at_ 1 rfl
    have zf2 := hkW.2.2 2
    have zz2 := hkW.at_ 2 rfl
    have zf3 := hkW.2.2 3
    have zz3 := hkW.at_ 3 rfl
    have zf4 := hkW.2.2 4
    have zz4 := hkW.at_ 4 rfl
    have z9 := hkW.set5 (.int .i64 0) (.int .i64 0) (.int .i64 0) (.int .i64 0) (.slice none 0 0)
    have R0 := Lib.hid (z9.at_ 0 rfl)
    have R1 := Lib.hid (z9.at_ 1 rfl)
    have R2 := Lib.hid (z9.at_ 2 rfl)
    have R3 := Lib.hid (z9.at_ 3 rfl)
    have R4 := Lib.hid (z9.at_ 4 rfl)
    have HBf := Lib.hid (below_set5' hBW (b := w.heap.size) (Nat.le_refl _) (.int .i64 0) (.int .i64 0) (.int .i64 0) (.int .i64 0) (.slice none 0 0))
    clear z9 hkW hBW
    go_wp2_with fail
    generalize (((((W.setCell ⟨w.heap.size, 0, none⟩ (.int .i64 0)).setCell ⟨w.heap.size, 1, none⟩ (.int .i64 0)).setCell ⟨w.heap.size, 2, none⟩ (.int .i64 0)).setCell ⟨w.heap.size, 3, none⟩ (.int .i64 0)).setCell ⟨w.heap.size, 4, none⟩ (.slice none 0 0)) = Wf at *
    refine bodyPost_ret (v := .tuple #[.agg #[.int .i64 0, .int .i64 0, .int .i64 0, .int .i64 0, .slice none 0 0], .int .i64 50]) (by simp [results, Try.results16, go_sem, R0.out, R1.out, R2.out, R3.out, R4.out]) rfl ?_
    exact ⟨none, 0, rfl, RdC.nil _ _ _, fun b o h => (by cases h), HBf.out⟩
  · have q3b : (f != 0) = true := by simpa using q3
    go_enter Try.func16, Try.ntmps16
    go_wp2_with fail
    refine (HO.out _ hB0).mono ?_
    rintro x v1 ⟨A1, c1, rfl, hR1, hb1⟩
    rw [← HPL.out] at hR1 ⊢
    have hkW := (hk0.below hb1).alloc (.cells #[.int .i64 f, .int .i64 e, .int .i64 i] 96)
    have hBW := (hB0.trans (hb1.mono hB0.size)).alloc (by have := hB0.size; have := hb1.size; omega) (.cells #[.int .i64 f, .int .i64 e, .int .i64 i] 96)
    have y0 := (Holds.new v1 #[.int .i64 f, .int .i64 e, .int .i64 i] 96).at_ 0 rfl
    clear hk0 hB0 hb1 hR1
    go_upto_region 2 with fail
    generalize v1.alloc (.cells #[.int .i64 f, .int .i64 e, .int .i64 i] 96) = W at *
    generalize v1.heap.size = g1 at *
    have zf0 := hkW.2.2 0
    have zz0 := hkW.at_ 0 rfl
    have zf1 := hkW.2.2 1
    have zz1 := hkW.at_ 1 rfl
    have zf2 := hkW.2.2 2
    have zz2 := hkW.at_ 2 rfl
    have zf3 := hkW.2.2 3
    have zz3 := hkW.at_ 3 rfl
    have zf4 := hkW.2.2 4
    have zz4 := hkW.at_ 4 rfl
    have z9 := hkW.set5 (.int .i64 0) (.int .i64 0) (.int .i64 0) (.int .i64 0) (.slice none 0 0)
    have R0 := Lib.hid (z9.at_ 0 rfl)
    have R1 := Lib.hid (z9.at_ 1 rfl)
    have R2 := Lib.hid (z9.at_ 2 rfl)
    have R3 := Lib.hid (z9.at_ 3 rfl)
    have R4 := Lib.hid (z9.at_ 4 rfl)
    have HBf := Lib.hid (below_set5' hBW (b := w.heap.size) (Nat.le_refl _) (.int .i64 0) (.int .i64 0) (.int .i64 0) (.int .i64 0) (.slice none 0 0))
    clear z9 hkW hBW
    go_wp2_with fail
    generalize (((((W.setCell ⟨w.heap.size, 0, none⟩ (.int .i64 0)).setCell ⟨w.heap.size, 1, none⟩ (.int .i64 0)).setCell ⟨w.heap.size, 2, none⟩ (.int .i64 0)).setCell ⟨w.heap.size, 3, none⟩ (.int .i64 0)).setCell ⟨w.heap.size, 4, none⟩ (.slice none 0 0)) = Wf at *
    refine bodyPost_ret (v := .tuple #[.agg #[.int .i64 0, .int .i64 0, .int .i64 0, .int .i64 0, .slice none 0 0], .int .i64 50]) (by simp [results, Try.results16, go_sem, R0.out, R1.out, R2.out, R3.out, R4.out]) rfl ?_
    exact ⟨none, 0, rfl, RdC.nil _ _ _, fun b o h => (by cases h), HBf.out⟩
  · have q4i : (PL : Int) < 9 := by omega
    go_enter Try.func16, Try.ntmps16
    go_wp2_with fail
    refine (HO.out _ hB0).mono ?_
    rintro x v1 ⟨A1, c1, rfl, hR1, hb1⟩
    rw [← HPL.out] at hR1 ⊢
    have hkW := (hk0.below hb1).alloc (.cells #[.int .i64 0, .int .i64 e, .int .i64 i] 96)
    have hBW := (hB0.trans (hb1.mono hB0.size)).alloc (by have := hB0.size; have := hb1.size; omega) (.cells #[.int .i64 0, .int .i64 e, .int .i64 i] 96)
    have y0 := (Holds.new v1 #[.int .i64 0, .int .i64 e, .int .i64 i] 96).at_ 0 rfl
    clear hk0 hB0 hb1 hR1
    go_upto_region 2 with fail
    generalize v1.alloc (.cells #[.int .i64 0, .int .i64 e, .int .i64 i] 96) = W at *
    generalize v1.heap.size = g1 at *
    have zf0 := hkW.2.2 0
    have zz0 := hkW.at_ 0 rfl
    have zf1 := hkW.2.2 1
    have zz1 := hkW.at_ 1 rfl
    have zf2 := hkW.2.2 2
    have zz2 := hkW.at_ 2 rfl
    have zf3 := hkW.2.2 3
    have zz3 := hkW.at_ 3 rfl
    have zf4 := hkW.2.2 4
    have zz4 := hkW.at_ 4 rfl
    have z9 := hkW.set5 (.int .i64 0) (.int .i64 0) (.int .i64 0) (.int .i64 0) (.slice none 0 0)
    have R0 := Lib.hid (z9.at_ 0 rfl)
    have R1 := Lib.hid (z9.at_ 1 rfl)
    have R2 := Lib.hid (z9.at_ 2 rfl)
    have R3 := Lib.hid (z9.at_ 3 rfl)
    have R4 := Lib.hid (z9.at_ 4 rfl)
    have HBf := Lib.hid (below_set5' hBW (b := w.heap.size) (Nat.le_refl _) (.int .i64 0) (.int .i64 0) (.int .i64 0) (.int .i64 0) (.slice none 0 0))
    clear z9 hkW hBW
    go_wp2_with fail
    generalize (((((W.setCell ⟨w.heap.size, 0, none⟩ (.int .i64 0)).setCell ⟨w.heap.size, 1, none⟩ (.int .i64 0)).setCell ⟨w.heap.size, 2, none⟩ (.int .i64 0)).setCell ⟨w.heap.size, 3, none⟩ (.int .i64 0)).setCell ⟨w.heap.size, 4, none⟩ (.slice none 0 0)) = Wf at *
    refine bodyPost_ret (v := .tuple #[.agg #[.int .i64 0, .int .i64 0, .int .i64 0, .int .i64 0, .slice none 0 0], .int .i64 50]) (by simp [results, Try.results16, go_sem, R0.out, R1.out, R2.out, R3.out, R4.out]) rfl ?_
    exact ⟨none, 0, rfl, RdC.nil _ _ _, fun b o h => (by cases h), HBf.out⟩
  · obtain ⟨h81, h82⟩ := h8 q5
    have q5i : ¬ (PL : Int) < 9 := by omega
    have q5j : (8 : Int) < (PL : Int) := by omega
    have q6b : ((PL : Int) != 9 + 4 * (P8 : Int)) = true := by simpa using (by omega : ¬ (PL : Int) = 9 + 4 * (P8 : Int))
    go_enter Try.func16, Try.ntmps16
    go_wp2_with fail
    refine (HO.out _ hB0).mono ?_
    rintro x v1 ⟨A1, c1, rfl, hR1, hb1⟩
    rw [← HPL.out] at hR1 ⊢
    obtain ⟨b, q, rfl, hbl, hcb⟩ := hR1.2.2 (by omega)
    have y8 := ((Below.refl v1.heap.size v1).alloc (Nat.le_refl _) (.cells #[.int .i64 0, .int .i64 e, .int .i64 i] 96)).cell (p := ⟨b, q + 8, none⟩) hbl |>.trans (hcb 8 P8 h81)
    clear hcb
    have hkW := (hk0.below hb1).alloc (.cells #[.int .i64 0, .int .i64 e, .int .i64 i] 96)
    have hBW := (hB0.trans (hb1.mono hB0.size)).alloc (by have := hB0.size; have := hb1.size; omega) (.cells #[.int .i64 0, .int .i64 e, .int .i64 i] 96)
    have y0 := (Holds.new v1 #[.int .i64 0, .int .i64 e, .int .i64 i] 96).at_ 0 rfl
    clear hk0 hB0 hb1 hR1
    go_upto_region 2 with fail
    generalize v1.alloc (.cells #[.int .i64 0, .int .i64 e, .int .i64 i] 96) = W at *
    generalize v1.heap.size = g1 at *
    have zf0 := hkW.2.2 0
    have zz0 := hkW.at_ 0 rfl
    have zf1 := hkW.2.2 1
    have zz1 := hkW.at_ 1 rfl
    have zf2 := hkW.2.2 2
    have zz2 := hkW.at_ 2 rfl
    have zf3 := hkW.2.2 3
    have zz3 := hkW.at_ 3 rfl
    have zf4 := hkW.2.2 4
    have zz4 := hkW.at_ 4 rfl
    have z9 := hkW.set5 (.int .i64 0) (.int .i64 0) (.int .i64 0) (.int .i64 0) (.slice none 0 0)
    have R0 := Lib.hid (z9.at_ 0 rfl)
    have R1 := Lib.hid (z9.at_ 1 rfl)
    have R2 := Lib.hid (z9.at_ 2 rfl)
    have R3 := Lib.hid (z9.at_ 3 rfl)
    have R4 := Lib.hid (z9.at_ 4 rfl)
    have HBf := Lib.hid (below_set5' hBW (b := w.heap.size) (Nat.le_refl _) (.int .i64 0) (.int .i64 0) (.int .i64 0) (.int .i64 0) (.slice none 0 0))
    clear z9 hkW hBW
    go_wp2_with fail
    generalize (((((W.setCell ⟨w.heap.size, 0, none⟩ (.int .i64 0)).setCell ⟨w.heap.size, 1, none⟩ (.int .i64 0)).setCell ⟨w.heap.size, 2, none⟩ (.int .i64 0)).setCell ⟨w.heap.size, 3, none⟩ (.int .i64 0)).setCell ⟨w.heap.size, 4, none⟩ (.slice none 0 0)) = Wf at *
    refine bodyPost_ret (v := .tuple #[.agg #[.int .i64 0, .int .i64 0, .int .i64 0, .int .i64 0, .slice none 0 0], .int .i64 50]) (by simp [results, Try.results16, go_sem, R0.out, R1.out, R2.out, R3.out, R4.out]) rfl ?_
    exact ⟨none, 0, rfl, RdC.nil _ _ _, fun b o h => (by cases h), HBf.out⟩
end Go.Proofs.Ytbdomhookjmmgaa
namespace Go.Proofs.Ytbdomhookjmmgaa
open Go.RowKit Fr Su
set_option linter.unusedVariables false
theorem srdecode_any (A : Option Addr) (n c : Nat) (l : List Nat) (w : World) (h : Rd w A n l) (hc : n ≤ c) (hbig : n ≤ 9223372036854775807) : Calls Try.prog 16 #[.slice A n c] w (GivesSu w (Su.read l) (if Su.isSu l then 0 else 50)) := by
  cases hf : isF l with
  | false =>
    have hn : Su.isSu l = false := isSu_no (fun e => by rw [hf] at e; cases e.1)
    unfold Su.read
    rw [hn]
    exact srdecode_none A n c 0 0 0 0 [] 40 w 0 (by simp) (by simp) (fun v hv => rdecode_no A n c l v (h.below hv) hc hbig hf) (by simp)
  | true =>
    have hb := body_len hf
    have hd : ∀ v, Below w.heap.size w v → Calls Try.prog 55 #[.slice A n c] v (GivesDecC v (F l 4 4) (F l 8 4) (F l 12 4) (F l 1 1) (Su.body l) 0) := fun v hv => rdecode_cap A n c l v (h.below hv) hc hf
    by_cases hs : headS l
    · have e1 := isSu_ok hf hs
      unfold Su.read
      rw [e1]
      obtain ⟨s1, s2, s3, s4⟩ := hs
      rw [s1, s2] at hd
      exact srdecode_full A n c (F l 8 4) (F l 12 4) (Su.body l) w (F (Su.body l) 8 1) (body_8 h.2.1 s3).1 hb.2 s3 s4 hd
    · have hn : Su.isSu l = false := isSu_no (fun e => hs e.2)
      unfold Su.read
      rw [hn]
      refine srdecode_none A n c _ _ _ _ (Su.body l) 0 w (F (Su.body l) 8 1) (fun h9 => body_8 h.2.1 h9) hb.2 (fun v hv => (hd v hv).mono fun _ _ h => h.dec) (fun e => hs ?_)
      obtain ⟨_, e1, e2, e3, e4⟩ := e
      exact ⟨by omega, by omega, e3, e4⟩
end Go.Proofs.Ytbdomhookjmmgaa
