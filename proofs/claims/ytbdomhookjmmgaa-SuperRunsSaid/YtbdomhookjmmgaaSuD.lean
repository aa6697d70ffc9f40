/- super.Decode: bytes that are a superblock's frame. super.Decode of any bytes. -/
import Derived.Test.YtbdomhookjmmgaaSuP
import Derived.Test.YtbdomhookjmmgaaSuDecNo
namespace Go.Proofs.Ytbdomhookjmmgaa
open Go.RowKit Fr Su
set_option linter.unusedVariables false
theorem F_at {l : List Nat} {j x : Nat} (h : l[j]? = some x) : F l j 1 = x := by
  have := F_succ (l := l) (o := j) (s := 0) (by simpa using h)
  rw [F_zero] at this
  simpa using this
set_option maxRecDepth 100000 in
set_option maxHeartbeats 4000000 in
theorem sdecode_full (A : Option Addr) (n c : Nat) (e i : Nat) (p : List Nat) (w : World) (P8 : Nat) (h8 : p[8]? = some P8) (hpl : p.length ≤ 108) (h9 : 9 ≤ p.length) (hlen : p.length = 9 + 4 * P8)
    (hd : ∀ v, Below w.heap.size w v → Calls Try.prog 53 #[.slice A n c] v (GivesDec v 0 (e : Int) (i : Int) 1 p 0)) :
    Calls Try.prog 15 #[.slice A n c] w (GivesSu w (if Su.ok ⟨i, e, F p 0 4, F p 4 4, pairs p P8⟩ then ⟨i, e, F p 0 4, F p 4 4, pairs p P8⟩ else none_) (if Su.ok ⟨i, e, F p 0 4, F p 4 4, pairs p P8⟩ then 0 else 50)) := by
  have HO := Lib.hid hd
  have hB0 : Below w.heap.size w (w.alloc (.cells #[.int .i64 0, .int .i64 0, .int .i64 0, .int .i64 0, .slice none 0 0] 26)) := (Below.refl _ _).alloc (Nat.le_refl _) _
  have hk0 := Holds.new w #[.int .i64 0, .int .i64 0, .int .i64 0, .int .i64 0, .slice none 0 0] 26
  obtain ⟨PL, hPL⟩ : ∃ PL, PL = p.length := ⟨_, rfl⟩
  rw [← hPL] at hlen hpl h9
  have HPL := Lib.hid hPL
  have q5i : ¬ (PL : Int) < 9 := by omega
  have q5j : (8 : Int) < (PL : Int) := by omega
  have q6b : ((PL : Int) != 9 + 4 * (P8 : Int)) = false := by simp; omega
  have hw1 : IntKind.i64.wrap (4 * (P8 : Int)) = 4 * (P8 : Int) := by rw [IntKind.wrap_i64]; omega
  have hw2 : IntKind.i64.wrap (9 + 4 * (P8 : Int)) = 9 + 4 * (P8 : Int) := by rw [IntKind.wrap_i64]; omega
  have hw3 : IntKind.i64.wrap (P8 : Int) = (P8 : Int) := by rw [IntKind.wrap_i64]; omega
  have hmf : ∀ (fn : Fn) (first cap : Array Value) (w : World), (Instr.makeFunc fn first cap).run Try.prog w = .ok (.func fn first cap) w := fun _ _ _ _ => rfl
  obtain ⟨T, hT⟩ : ∃ T : S, T = ⟨i, e, F p 0 4, F p 4 4, pairs p P8⟩ := ⟨_, rfl⟩
  rw [← hT]
  obtain ⟨TT, hTT⟩ : ∃ TT : S, TT = if Su.ok T then T else none_ := ⟨_, rfl⟩
  obtain ⟨rr, hrr⟩ : ∃ rr : Int, rr = if Su.ok T then 0 else 50 := ⟨_, rfl⟩
  rw [← hTT, ← hrr]
  have HT := Lib.hid hT
  have HTT := Lib.hid hTT
  have Hrr := Lib.hid hrr
  clear hT hTT hrr
  have HLn := Lib.hid hlen
  have H8 := Lib.hid h8
  have hP8 : P8 ≤ 24 := by omega
  clear hd hPL hlen
  go_enter Try.func15, Try.ntmps15
  go_wp2_with fail
  refine (HO.out _ hB0).mono ?_
  rintro x v1 ⟨A1, c1, rfl, hR1, hb1⟩
  rw [← HPL.out] at hR1 ⊢
  have hB1 := below_next hB0 hb1
  have hk1 := ((hk0.below hb1).alloc (.cells #[.int .i64 0, .int .i64 (e : Int), .int .i64 (i : Int)] 96)).alloc (.cells #[.slice A1 PL c1] 28)
  obtain ⟨b, q, rfl, hbl, hcb⟩ := hR1.2.2 (by omega)
  have cb := hcb 8 P8 h8
  have hks := (Holds.new v1 #[.int .i64 0, .int .i64 (e : Int), .int .i64 (i : Int)] 96).alloc (.cells #[.slice (some ⟨b, q, none⟩) PL c1] 28)
  have hkx : Holds ((v1.alloc (.cells #[.int .i64 0, .int .i64 (e : Int), .int .i64 (i : Int)] 96)).alloc (.cells #[.slice (some ⟨b, q, none⟩) PL c1] 28)) (v1.heap.size + 1) [.slice (some ⟨b, q, none⟩) PL c1] := by
    have := Holds.new (v1.alloc (.cells #[.int .i64 0, .int .i64 (e : Int), .int .i64 (i : Int)] 96)) #[.slice (some ⟨b, q, none⟩) PL c1] 28
    simpa using this
  have hB2 : Below v1.heap.size v1 ((v1.alloc (.cells #[.int .i64 0, .int .i64 (e : Int), .int .i64 (i : Int)] 96)).alloc (.cells #[.slice (some ⟨b, q, none⟩) PL c1] 28)) := ((Below.refl _ _).alloc (Nat.le_refl _) _).alloc (by simp) _
  have hRp := hR1.below hB2
  have y8 := (hB2.cell (p := ⟨b, q + 8, none⟩) hbl).trans cb
  have hB3 : Below w.heap.size w ((v1.alloc (.cells #[.int .i64 0, .int .i64 (e : Int), .int .i64 (i : Int)] 96)).alloc (.cells #[.slice (some ⟨b, q, none⟩) PL c1] 28)) := hB1.trans (hB2.mono hB1.size)
  have hsz : ((v1.alloc (.cells #[.int .i64 0, .int .i64 (e : Int), .int .i64 (i : Int)] 96)).alloc (.cells #[.slice (some ⟨b, q, none⟩) PL c1] 28)).heap.size = v1.heap.size + 1 + 1 := by simp
  go_upto_region 2 with fail
  generalize ((v1.alloc (.cells #[.int .i64 0, .int .i64 (e : Int), .int .i64 (i : Int)] 96)).alloc (.cells #[.slice (some ⟨b, q, none⟩) PL c1] 28)) = W at *
  have hs1 : w.heap.size < v1.heap.size := by have := hb1.size; simp at this; omega
  generalize hg1 : v1.heap.size = g1 at *
  have y0 := hks.at_ 0 rfl
  have y1 := hkx.at_ 0 rfl
  have hdW : Below W.heap.size W W.drew := (Below.refl _ _).drew
  refine wp_region_held_drew (S := fun wx => wx.cell? ⟨g1, 0, none⟩ = some (.int .i64 0) ∧ wx.cell? ⟨g1 + 1, 0, none⟩ = some (.slice (some ⟨b, q, none⟩) PL c1) ∧ wx.cell? ⟨b, q + 8, none⟩ = some (.int .u8 (P8 : Int))) (by kernel_rfl) ?_ (fun hHeld => ?_)
  · exact ⟨y0, y1, y8⟩
  refine take_at (i := 0) (v := ?_) (some 19) rfl rfl (by kernel_rfl) (by kernel_rfl) (by kernel_rfl) (fun _ _ _ h => h) (by rfl) hHeld ?_ ?_
  rotate_left
  · intro wz hSw; (try dsimp only at hSw); go_simp; (try with_reducible rfl)
  (try simp only [Act.put, List.setIfInBounds_toArray, List.set_cons_zero, List.set_cons_succ])
  refine take_at (i := 1) (v := ?_) (some 20) rfl rfl (by kernel_rfl) (by kernel_rfl) (by kernel_rfl) (fun _ _ _ h => h) (by rfl) hHeld ?_ ?_
  rotate_left
  · intro wz hSw; (try dsimp only at hSw); go_simp; (try with_reducible rfl)
  (try simp only [Act.put, List.setIfInBounds_toArray, List.set_cons_zero, List.set_cons_succ])
  refine take_at (i := 2) (v := ?_) (some 21) rfl rfl (by kernel_rfl) (by kernel_rfl) (by kernel_rfl) (fun _ _ _ h => h) (by rfl) hHeld ?_ ?_
  rotate_left
  · intro wz hSw; (try dsimp only at hSw); go_simp; (try with_reducible rfl)
  (try simp only [Act.put, List.setIfInBounds_toArray, List.set_cons_zero, List.set_cons_succ])
  refine take_at (i := 3) (v := ?_) (some 22) rfl rfl (by kernel_rfl) (by kernel_rfl) (by kernel_rfl) (fun _ _ _ h => h) (by rfl) hHeld ?_ ?_
  rotate_left
  · intro wz hSw; (try dsimp only at hSw); go_simp; (try with_reducible rfl)
  (try simp only [Act.put, List.setIfInBounds_toArray, List.set_cons_zero, List.set_cons_succ])
  refine take_at (i := 4) (v := ?_) (some 23) rfl rfl (by kernel_rfl) (by kernel_rfl) (by kernel_rfl) (fun _ _ _ h => h) (by rfl) hHeld ?_ ?_
  rotate_left
  · intro wz hSw; (try dsimp only at hSw); go_simp; (try with_reducible rfl)
  (try simp only [Act.put, List.setIfInBounds_toArray, List.set_cons_zero, List.set_cons_succ])
  refine take_at (i := 5) (v := ?_) (some 24) rfl rfl (by kernel_rfl) (by kernel_rfl) (by kernel_rfl) (fun _ _ _ h => h) (by rfl) hHeld ?_ ?_
  rotate_left
  · intro wz hSw; (try dsimp only at hSw); go_simp; (try with_reducible rfl)
  (try simp only [Act.put, List.setIfInBounds_toArray, List.set_cons_zero, List.set_cons_succ])
  refine take_at (i := 6) (v := ?_) (some 25) rfl rfl (by kernel_rfl) (by kernel_rfl) (by kernel_rfl) (fun _ _ _ h => h) (by rfl) hHeld ?_ ?_
  rotate_left
  · intro wz hSw; (try dsimp only at hSw); go_simp; (try with_reducible rfl)
  (try simp only [Act.put, List.setIfInBounds_toArray, List.set_cons_zero, List.set_cons_succ])
  refine take_at (i := 7) (v := ?_) (some 26) rfl rfl (by kernel_rfl) (by kernel_rfl) (by kernel_rfl) (fun _ _ _ h => h) (by rfl) hHeld ?_ ?_
  rotate_left
  · intro wz hSw; (try dsimp only at hSw); go_simp; (try with_reducible rfl)
  (try simp only [Act.put, List.setIfInBounds_toArray, List.set_cons_zero, List.set_cons_succ])
  refine take_at (i := 8) (v := ?_) (some 27) rfl rfl (by kernel_rfl) (by kernel_rfl) (by kernel_rfl) (fun _ _ _ h => h) (by rfl) hHeld ?_ ?_
  rotate_left
  · intro wz hSw; (try dsimp only at hSw); go_simp; (try with_reducible rfl)
  (try simp only [Act.put, List.setIfInBounds_toArray, List.set_cons_zero, List.set_cons_succ])
  refine take_at (i := 9) (v := ?_) (some 28) rfl rfl (by kernel_rfl) (by kernel_rfl) (by kernel_rfl) (fun _ _ _ h => h) (by rfl) hHeld ?_ ?_
  rotate_left
  · intro wz hSw; (try dsimp only at hSw); go_simp; (try with_reducible rfl)
  (try simp only [Act.put, List.setIfInBounds_toArray, List.set_cons_zero, List.set_cons_succ])
  refine take_at (i := 10) (v := ?_) (some 29) rfl rfl (by kernel_rfl) (by kernel_rfl) (by kernel_rfl) (fun _ _ _ h => h) (by rfl) hHeld ?_ ?_
  rotate_left
  · intro wz hSw; (try dsimp only at hSw); go_simp; (try with_reducible rfl)
  (try simp only [Act.put, List.setIfInBounds_toArray, List.set_cons_zero, List.set_cons_succ])
  refine take_at (i := 11) (v := ?_) (some 30) rfl rfl (by kernel_rfl) (by kernel_rfl) (by kernel_rfl) (fun _ _ _ h => h) (by rfl) hHeld ?_ ?_
  rotate_left
  · intro wz hSw; (try dsimp only at hSw); go_simp; (try with_reducible rfl)
  (try simp only [Act.put, List.setIfInBounds_toArray, List.set_cons_zero, List.set_cons_succ])
  refine take_at (i := 12) (v := ?_) (some 31) rfl rfl (by kernel_rfl) (by kernel_rfl) (by kernel_rfl) (fun _ _ _ h => h) (by rfl) hHeld ?_ ?_
  rotate_left
  · intro wz hSw; (try dsimp only at hSw); go_simp; (try with_reducible rfl)
  (try simp only [Act.put, List.setIfInBounds_toArray, List.set_cons_zero, List.set_cons_succ])
  refine take_at (i := 13) (v := ?_) (some 32) rfl rfl (by kernel_rfl) (by kernel_rfl) (by kernel_rfl) (fun _ _ _ h => h) (by rfl) hHeld ?_ ?_
  rotate_left
  · intro wz hSw; (try dsimp only at hSw); go_simp; (try with_reducible rfl)
  (try simp only [Act.put, List.setIfInBounds_toArray, List.set_cons_zero, List.set_cons_succ])
  refine take_at (i := 14) (v := .bool false) (some 33) rfl rfl (by kernel_rfl) (by kernel_rfl) (by kernel_rfl) (fun _ _ _ h => h) (by rfl) hHeld ?_ ?_
  · intro wz hSw; (try dsimp only at hSw); go_simp; (try with_reducible rfl)
  (try simp only [Act.put, List.setIfInBounds_toArray, List.set_cons_zero, List.set_cons_succ])
  refine take_at (i := 15) (v := ?_) (some 34) rfl rfl (by kernel_rfl) (by kernel_rfl) (by kernel_rfl) (fun _ _ _ h => h) (by rfl) hHeld ?_ ?_
  rotate_left
  · intro wz hSw; (try dsimp only at hSw); go_simp; (try with_reducible rfl)
  (try simp only [Act.put, List.setIfInBounds_toArray, List.set_cons_zero, List.set_cons_succ])
  refine take_at (i := 16) (v := ?_) (some 35) rfl rfl (by kernel_rfl) (by kernel_rfl) (by kernel_rfl) (fun _ _ _ h => h) (by rfl) hHeld ?_ ?_
  rotate_left
  · intro wz hSw; (try dsimp only at hSw); go_simp; (try with_reducible rfl)
  (try simp only [Act.put, List.setIfInBounds_toArray, List.set_cons_zero, List.set_cons_succ])
  refine take_at (i := 17) (v := ?_) (some 36) rfl rfl (by kernel_rfl) (by kernel_rfl) (by kernel_rfl) (fun _ _ _ h => h) (by rfl) hHeld ?_ ?_
  rotate_left
  · intro wz hSw; (try dsimp only at hSw); go_simp; (try with_reducible rfl)
  (try simp only [Act.put, List.setIfInBounds_toArray, List.set_cons_zero, List.set_cons_succ])
  refine take_at (i := 18) (v := ?_) (some 37) rfl rfl (by kernel_rfl) (by kernel_rfl) (by kernel_rfl) (fun _ _ _ h => h) (by rfl) hHeld ?_ ?_
  rotate_left
  · intro wz hSw; (try dsimp only at hSw); go_simp; (try with_reducible rfl)
  (try simp only [Act.put, List.setIfInBounds_toArray, List.set_cons_zero, List.set_cons_succ])
  refine take_at (i := 19) (v := ?_) (some 38) rfl rfl (by kernel_rfl) (by kernel_rfl) (by kernel_rfl) (fun _ _ _ h => h) (by rfl) hHeld ?_ ?_
  rotate_left
  · intro wz hSw; (try dsimp only at hSw); go_simp; (try with_reducible rfl)
  (try simp only [Act.put, List.setIfInBounds_toArray, List.set_cons_zero, List.set_cons_succ])
  refine take_at (i := 20) (v := ?_) (some 39) rfl rfl (by kernel_rfl) (by kernel_rfl) (by kernel_rfl) (fun _ _ _ h => h) (by rfl) hHeld ?_ ?_
  rotate_left
  · intro wz hSw; (try dsimp only at hSw); go_simp; (try with_reducible rfl)
  (try simp only [Act.put, List.setIfInBounds_toArray, List.set_cons_zero, List.set_cons_succ])
  refine take_at (i := 21) (v := ?_) (some 40) rfl rfl (by kernel_rfl) (by kernel_rfl) (by kernel_rfl) (fun _ _ _ h => h) (by rfl) hHeld ?_ ?_
  rotate_left
  · intro wz hSw; (try dsimp only at hSw); go_simp; (try with_reducible rfl)
  (try simp only [Act.put, List.setIfInBounds_toArray, List.set_cons_zero, List.set_cons_succ])
  refine take_at (i := 22) (v := ?_) (some 41) rfl rfl (by kernel_rfl) (by kernel_rfl) (by kernel_rfl) (fun _ _ _ h => h) (by rfl) hHeld ?_ ?_
  rotate_left
  · intro wz hSw; (try dsimp only at hSw); go_simp; (try with_reducible rfl)
  (try simp only [Act.put, List.setIfInBounds_toArray, List.set_cons_zero, List.set_cons_succ])
  refine take_at (i := 23) (v := ?_) (some 42) rfl rfl (by kernel_rfl) (by kernel_rfl) (by kernel_rfl) (fun _ _ _ h => h) (by rfl) hHeld ?_ ?_
  rotate_left
  · intro wz hSw; (try dsimp only at hSw); go_simp; (try with_reducible rfl)
  (try simp only [Act.put, List.setIfInBounds_toArray, List.set_cons_zero, List.set_cons_succ])
  refine take_at (i := 24) (v := ?_) (some 43) rfl rfl (by kernel_rfl) (by kernel_rfl) (by kernel_rfl) (fun _ _ _ h => h) (by rfl) hHeld ?_ ?_
  rotate_left
  · intro wz hSw; (try dsimp only at hSw); go_simp; (try with_reducible rfl)
  (try simp only [Act.put, List.setIfInBounds_toArray, List.set_cons_zero, List.set_cons_succ])
  refine take_at (i := 25) (v := .bool false) (some 44) rfl rfl (by kernel_rfl) (by kernel_rfl) (by kernel_rfl) (fun _ _ _ h => h) (by rfl) hHeld ?_ ?_
  · intro wz hSw; (try dsimp only at hSw); go_simp; (try with_reducible rfl)
  (try simp only [Act.put, List.setIfInBounds_toArray, List.set_cons_zero, List.set_cons_succ])
  refine take_at (i := 26) (v := ?_) (some 45) rfl rfl (by kernel_rfl) (by kernel_rfl) (by kernel_rfl) (fun _ _ _ h => h) (by rfl) hHeld ?_ ?_
  rotate_left
  · intro wz hSw; (try dsimp only at hSw); go_simp; (try with_reducible rfl)
  (try simp only [Act.put, List.setIfInBounds_toArray, List.set_cons_zero, List.set_cons_succ])
  refine wpAnyH_done (by kernel_rfl) ?_ _
  clear y0 y1 y8 hHeld cb hcb hb1 hk0 hB0 hB1 hB2
  have HEv : Below W.heap.size W W.drew := (Below.refl _ _).drew
  have HB4 := Lib.hid (show Below w.heap.size w W.drew from hB3.drew)
  have hks1 := hks.below HEv
  have hkx1 := hkx.below HEv
  have hRp1 := hRp.below HEv
  have hk11 := hk1.below HEv
  have hszV : W.drew.heap.size = g1 + 1 + 1 := hsz
  clear hB3 hks hkx hRp hk1 hR1 hsz hdW HEv q5i q5j q6b hw1 hw2 hw3 h8
  generalize W.drew = V at *
  have hks2 := (hks1.alloc (.cells #[.int .i64 0] 3))
  have s1 := hks1.at_ 1 rfl
  have s2 := hks1.at_ 2 rfl
  have s1a := hks2.at_ 1 rfl
  have s2a := hks2.at_ 2 rfl
  go_upto_region 7 with fail
  have hbg : b < g1 := hbl
  have hPs : Holds (V.alloc (.cells #[.int .i64 0] 3)) V.heap.size [.int .i64 ((0 : Nat) : Int)] := Holds.new V #[.int .i64 0] 3
  have hxa := (hkx1.alloc (.cells #[.int .i64 0] 3)).alloc (.cells #[.int .i64 (i : Int), .int .i64 (e : Int), .int .i64 0, .int .i64 0, .slice none 0 0] 26)
  have hRa := (hRp1.alloc (.cells #[.int .i64 0] 3)).alloc (.cells #[.int .i64 (i : Int), .int .i64 (e : Int), .int .i64 0, .int .i64 0, .slice none 0 0] 26)
  have hka := (hk11.alloc (.cells #[.int .i64 0] 3)).alloc (.cells #[.int .i64 (i : Int), .int .i64 (e : Int), .int .i64 0, .int .i64 0, .slice none 0 0] 26)
  have hSb : Holds ((V.alloc (.cells #[.int .i64 0] 3)).alloc (.cells #[.int .i64 (i : Int), .int .i64 (e : Int), .int .i64 0, .int .i64 0, .slice none 0 0] 26)) (g1 + 1 + 1 + 1) [.int .i64 (i : Int), .int .i64 (e : Int), .int .i64 0, .int .i64 0, .slice none 0 0] := by
    have := Holds.new (V.alloc (.cells #[.int .i64 0] 3)) #[.int .i64 (i : Int), .int .i64 (e : Int), .int .i64 0, .int .i64 0, .slice none 0 0] 26
    rw [show (V.alloc (.cells #[.int .i64 0] 3)).heap.size = g1 + 1 + 1 + 1 by simp [hszV]] at this
    exact this
  have hP0 : PairsAt ((V.alloc (.cells #[.int .i64 0] 3)).alloc (.cells #[.int .i64 (i : Int), .int .i64 (e : Int), .int .i64 0, .int .i64 0, .slice none 0 0] 26)) (g1 + 1 + 1) (g1 + 1 + 1 + 1) (i : Int) (e : Int) 0 0 0 ((V.alloc (.cells #[.int .i64 0] 3)).alloc (.cells #[.int .i64 (i : Int), .int .i64 (e : Int), .int .i64 0, .int .i64 0, .slice none 0 0] 26)) [] := by
    rw [hszV] at hPs
    exact ⟨⟨none, 0, hSb, OwnC.none_ _ _ _ _⟩, hPs.alloc _, Ch2.refl _ _ _, by simp; omega⟩
  have hBa : Below w.heap.size w ((V.alloc (.cells #[.int .i64 0] 3)).alloc (.cells #[.int .i64 (i : Int), .int .i64 (e : Int), .int .i64 0, .int .i64 0, .slice none 0 0] 26)) := (HB4.out.alloc HB4.out.size _).alloc (by have := HB4.out.size; simp; omega) _
  have hne : g1 + 1 ≠ g1 + 1 + 1 ∧ g1 + 1 ≠ g1 + 1 + 1 + 1 ∧ b ≠ g1 + 1 + 1 ∧ b ≠ g1 + 1 + 1 + 1 := by omega
  have hrn : w.heap.size ≠ g1 + 1 + 1 ∧ w.heap.size ≠ g1 + 1 + 1 + 1 := by omega
  clear hks2 s1 s2 s1a s2a hks1 hkx1 hRp1 hk11 hSb hPs
  generalize ((V.alloc (.cells #[.int .i64 0] 3)).alloc (.cells #[.int .i64 (i : Int), .int .i64 (e : Int), .int .i64 0, .int .i64 0, .slice none 0 0] 26)) = a at *
  generalize hat : g1 + 1 + 1 + 1 = sb at *
  generalize hat2 : g1 + 1 + 1 = at_ at *
  generalize hat3 : g1 + 1 = xb at *
  have HEx := Lib.hid hxa
  have HEr := Lib.hid hRa
  have HEk := Lib.hid hka
  have HNe := Lib.hid hne
  have HRn := Lib.hid hrn
  have HBa := Lib.hid hBa
  have HAt := Lib.hid (show w.heap.size ≤ at_ ∧ w.heap.size ≤ sb by omega)
  clear hxa hRa hka hne hrn hBa hat hat2 hat3 hszV hbg hbl
  go_wp2_with fail
  refine (take_4 hP0 HEx.out HEr.out (by omega) (by omega) HNe.out).mono ?_
  rintro e' u1 ⟨rfl, hP1, -⟩
  clear hP0
  go_wp2_with fail
  refine (take_4 hP1 HEx.out HEr.out (by omega) (by omega) HNe.out).mono ?_
  rintro e' u2 ⟨rfl, hP2, -⟩
  obtain ⟨B2, cB2, hX2, hO2⟩ := hP2.cell
  have x2 := hX2.at_ 2 rfl
  have x3 := hX2.at_ 3 rfl
  have f2 := hX2.2.2 2
  have f3 := hX2.2.2 3
  have x3b := (hX2.set 2 (.int .i64 (F p 0 4 : Int)) (by simp)).at_ 3 rfl
  have HP3 := Lib.hid (hP2.put (I' := (F p 0 4 : Int)) (M' := (F p (0 + 4) 4 : Int)))
  clear hP1 hP2 hX2 hO2
  go_wp2_with fail
  refine (take_1 HP3.out HEx.out HEr.out (by omega) (by omega) HNe.out).mono ?_
  rintro e' u3 ⟨rfl, hP4, -⟩
  have HP4 := Lib.hid hP4
  have HF8 := Lib.hid (F_at H8.out)
  rw [show 0 + 4 + 4 = 8 by omega, HF8.out]
  clear hP4 x2 x3 f2 f3 x3b
  go_wp2_with fail
  go_loopw [63] (fun v wr => ∃ k : Nat, k ≤ P8 ∧ v = .int .i64 (k : Int) ∧ Hid (PairsAt a at_ sb (i : Int) (e : Int) (F p 0 4 : Int) (F p 4 4 : Int) (9 + 4 * k) wr (pairs p k))) (fun v _ => P8 - (intOf v).toNat)
  case atStart => exact ⟨0, by omega, rfl, HP4⟩
  case round =>
    obtain ⟨k, hk, rfl, HP⟩ := hrel
    by_cases hkP : k < P8
    · have hki : (k : Int) < (P8 : Int) := by omega
      go_wp2_with fail
      refine (take_2 HP.out HEx.out HEr.out (by omega) (by have := HLn.out; omega) HNe.out).mono ?_
      rintro e' u4 ⟨rfl, hP5, -⟩
      have hPd := hP5.drew
      obtain ⟨B, cB, hX0, hO0⟩ := hP5.cell
      have HpL := Lib.hid (pairs_len p k)
      rw [pairs_len] at hX0 hO0
      have hs0 : u4.drew.cell? ⟨sb, 4, none⟩ = some (.slice B k cB) := hX0.at_ 4 rfl
      go_upto_region 11 with fail
      refine region_end (fun wx => wx.cell? ⟨sb, 4, none⟩ = some (.slice B k cB)) (by kernel_rfl) (by simp) (by kernel_rfl) ?_
      simp only [List.dropLast, List.length_cons, List.length_nil]
      refine take_at (i := 0) (v := ?_) (some 67) rfl rfl (by kernel_rfl) (by kernel_rfl) (by kernel_rfl) (fun _ _ _ h => h) (by rfl) hs0 ?_ ?_
      rotate_left
      · intro wz hSw; (try dsimp only at hSw); go_simp; (try with_reducible rfl)
      (try simp only [Act.put, List.setIfInBounds_toArray, List.set_cons_zero, List.set_cons_succ])
      refine take_at (i := 1) (v := ?_) (some 68) rfl rfl (by kernel_rfl) (by kernel_rfl) (by kernel_rfl) (fun _ _ _ h => h) (by rfl) hs0 ?_ ?_
      rotate_left
      · intro wz hSw; (try dsimp only at hSw); go_simp; (try with_reducible rfl)
      (try simp only [Act.put, List.setIfInBounds_toArray, List.set_cons_zero, List.set_cons_succ])
      refine take_at (i := 2) (v := ?_) (some 69) rfl rfl (by kernel_rfl) (by kernel_rfl) (by kernel_rfl) (fun _ _ _ h => h) (by rfl) hs0 ?_ ?_
      rotate_left
      · intro wz hSw; (try dsimp only at hSw); go_simp; (try with_reducible rfl)
      (try simp only [Act.put, List.setIfInBounds_toArray, List.set_cons_zero, List.set_cons_succ])
      refine take_at (i := 3) (v := ?_) (some 70) rfl rfl (by kernel_rfl) (by kernel_rfl) (by kernel_rfl) (fun _ _ _ h => h) (by rfl) hs0 ?_ ?_
      rotate_left
      · intro wz hSw; (try dsimp only at hSw); go_simp; (try with_reducible rfl)
      (try simp only [Act.put, List.setIfInBounds_toArray, List.set_cons_zero, List.set_cons_succ])
      refine take_at (i := 4) (v := ?_) (some 71) rfl rfl (by kernel_rfl) (by kernel_rfl) (by kernel_rfl) (fun _ _ _ h => h) (by rfl) hs0 ?_ ?_
      rotate_left
      · intro wz hSw; (try dsimp only at hSw); go_simp; (try with_reducible rfl)
      (try simp only [Act.put, List.setIfInBounds_toArray, List.set_cons_zero, List.set_cons_succ])
      refine wpAnyH_ready (rs := [5]) (by kernel_rfl) (by simp) ?_
      refine ready_cons (i := 5) rfl (by rfl) (fun K' hK => ?_) (AllReadyH.nil)
      refine wp_clo1 72 rfl (.tmp 71) (.const (.int .i64 2)) rfl rfl rfl enter_stake ((take_2 hPd HEx.out HEr.out (by omega) (by have := HLn.out; omega) HNe.out).mono ?_)
      rintro e' w1 ⟨rfl, hP1, hC1⟩
      refine ⟨_, rfl, ?_⟩
      have hX1 := (show Holds u4.drew sb _ from hX0).ch2 hC1 (fun e => hPd.old.2.2 e.symm) (fun e => hPd.old.2.2 e.symm)
      have hO1 := hO0.drew.ch1 hC1 hPd.old.1
      have hs1 := hX1.at_ 4 rfl
      refine hK.out _ _ ?_ ?_
      · exact hs1
      clear hK K'
      (try simp only [Act.put, List.setIfInBounds_toArray, List.set_cons_zero, List.set_cons_succ])
      refine take_at (i := 6) (v := ?_) (some 73) rfl rfl (by kernel_rfl) (by kernel_rfl) (by kernel_rfl) (fun _ _ _ h => h) (by rfl) hs1 ?_ ?_
      rotate_left
      · intro wz hSw; (try dsimp only at hSw); go_simp; (try with_reducible rfl)
      (try simp only [Act.put, List.setIfInBounds_toArray, List.set_cons_zero, List.set_cons_succ])
      refine wpAnyH_ready (rs := [7]) (by kernel_rfl) (by simp) ?_
      refine ready_cons (i := 7) rfl (by rfl) (fun K' hK => ?_) (AllReadyH.nil)
      go_simp
      refine hK.out _ _ ?_ ?_
      · exact ((hX1.alloc _).at_ 4 rfl)
      clear hK K'
      (try simp only [Act.put, List.setIfInBounds_toArray, List.set_cons_zero, List.set_cons_succ])
      have hs2 := (hX1.alloc (.cells #[.int .i64 (F p (9 + 4 * k) 2 : Int), .int .i64 (F p (9 + 4 * k + 2) 2 : Int)] 93)).at_ 4 rfl
      refine wpAnyH_ready (rs := [8]) (by kernel_rfl) (by simp) ?_
      refine ready_cons (i := 8) rfl (by rfl) (fun K' hK => ?_) (AllReadyH.nil)
      refine wp_appC manyPs 75 rfl (.tmp 69) (.tmp 74) rfl rfl (hO1.alloc _) ⟨w1.heap.size, 0, none⟩ 1 1 [.int .i64 (F p (9 + 4 * k) 2 : Int), .int .i64 (F p (9 + 4 * k + 2) 2 : Int)] (by intro u hu; simp at hu; rcases hu with rfl | rfl <;> rfl) rfl (rdc_two _ _ _ _) (by omega) (by have := hP1.ch.size; simp; omega) ?_
      intro A3 c3 w3 hg3
      obtain ⟨hX3, hP3⟩ := hP1.more_at hX1 hO1 HpL.out hg3
      refine hK.out _ _ ?_ ?_
      · exact (hX3.at_ 4 rfl)
      clear hK K'
      (try simp only [Act.put, List.setIfInBounds_toArray, List.set_cons_zero, List.set_cons_succ])
      have hs3 := hX3.at_ 4 rfl
      refine take_at (i := 9) (v := ?_) (some 76) rfl rfl (by kernel_rfl) (by kernel_rfl) (by kernel_rfl) (fun _ _ _ h => h) (by rfl) hs3 ?_ ?_
      rotate_left
      · intro wz hSw; (try dsimp only at hSw); go_simp; (try with_reducible rfl)
      (try simp only [Act.put, List.setIfInBounds_toArray, List.set_cons_zero, List.set_cons_succ])
      refine take_at (i := 10) (v := ?_) (some 77) rfl rfl (by kernel_rfl) (by kernel_rfl) (by kernel_rfl) (fun _ _ _ h => h) (by rfl) hs3 ?_ ?_
      rotate_left
      · intro wz hSw; (try dsimp only at hSw); go_simp; (try with_reducible rfl)
      (try simp only [Act.put, List.setIfInBounds_toArray, List.set_cons_zero, List.set_cons_succ])
      refine wpAnyH_done (by kernel_rfl) ?_ _
      have hzc := hX3.at_ 4 rfl
      have hzf := hX3.2.2 4
      have HP6 := Lib.hid (show PairsAt a at_ sb (i : Int) (e : Int) (F p 0 4 : Int) (F p 4 4 : Int) (9 + 4 * (k + 1)) (w3.setCell ⟨sb, 4, none⟩ (.slice A3 (k + 1) c3)) (pairs p (k + 1)) by
        rw [pairs_snoc, show 11 + 4 * k = 9 + 4 * k + 2 by omega, show 9 + 4 * (k + 1) = 9 + 4 * k + 2 + 2 by omega]
        exact hP3)
      clear hg3 hX3 hP3 hs0 hs1 hs2 hs3 hX1 hO1 hP1 hC1 hPd hX0 hO0 hP5
      change wpList _ _ _ _ _ _
      go_wp2_with fail
      go_roundw
      case rel => exact ⟨k + 1, by omega, by go_num, HP6⟩
      case measure => simp [intOf]; omega
    · have hkl : k = P8 := by omega
      subst hkl
      obtain ⟨B, cB, hX, hO⟩ := HP.out.cell
      have hRT := hO.rd
      have hBr := HP.out.ch.below HBa.out HAt.out.1 HAt.out.2 HBa.out.size
      have hkr := HEk.out.ch2 HP.out.ch HRn.out.1 HRn.out.2
      have hck := fun T' (hT' : T' = T) => scheck_any T' B cB wr (by rw [hT', HT.out]; exact hRT)
      have hck := hck T rfl
      obtain ⟨ot, hot⟩ : ∃ o : Bool, o = Su.ok T := ⟨_, rfl⟩
      rw [← hot] at hck
      unfold Su.val at hck
      rw [HT.out] at hck
      simp only [pairs_len] at hck
      rw [pairs_len] at hX
      have HCk := Lib.hid hck
      have HOt := Lib.hid hot
      have HBr := Lib.hid hBr
      have x0 := hX.at_ 0 rfl
      have x1 := hX.at_ 1 rfl
      have x2 := hX.at_ 2 rfl
      have x3 := hX.at_ 3 rfl
      have x4 := hX.at_ 4 rfl
      clear hck hot hBr hRT
      go_wp2_with fail
      refine HCk.out.mono ?_
      rintro e' v9 ⟨rfl, hb9⟩
      have hkv := hkr.below hb9
      have hXv := hX.below hb9
      have hBv : Below w.heap.size w v9 := HBr.out.trans (hb9.mono HBr.out.size)
      have HOv := Lib.hid (hO.below hb9)
      clear x0 x1 x2 x3 x4 hkr hX hb9
      have x0 := hXv.at_ 0 rfl
      have x1 := hXv.at_ 1 rfl
      have x2 := hXv.at_ 2 rfl
      have x3 := hXv.at_ 3 rfl
      have x4 := hXv.at_ 4 rfl
      have r0 := hkv.at_ 0 rfl
      have r1 := hkv.at_ 1 rfl
      have r2 := hkv.at_ 2 rfl
      have r3 := hkv.at_ 3 rfl
      have r4 := hkv.at_ 4 rfl
      have zf0 := hkv.2.2 0
      have zf1 := hkv.2.2 1
      have zf2 := hkv.2.2 2
      have zf3 := hkv.2.2 3
      have zf4 := hkv.2.2 4
      cases ot
      · have z9 := hkv.set5 (.int .i64 0) (.int .i64 0) (.int .i64 0) (.int .i64 0) (.slice none 0 0)
        have R0 := Lib.hid (z9.at_ 0 rfl)
        have R1 := Lib.hid (z9.at_ 1 rfl)
        have R2 := Lib.hid (z9.at_ 2 rfl)
        have R3 := Lib.hid (z9.at_ 3 rfl)
        have R4 := Lib.hid (z9.at_ 4 rfl)
        have hBf := below_set5' hBv (b := w.heap.size) (Nat.le_refl _) (.int .i64 0) (.int .i64 0) (.int .i64 0) (.int .i64 0) (.slice none 0 0)
        have HBf := Lib.hid hBf
        clear z9 hBf hkv hXv hBv
        go_wp2_with fail
        generalize (((((v9.setCell ⟨w.heap.size, 0, none⟩ (.int .i64 0)).setCell ⟨w.heap.size, 1, none⟩ (.int .i64 0)).setCell ⟨w.heap.size, 2, none⟩ (.int .i64 0)).setCell ⟨w.heap.size, 3, none⟩ (.int .i64 0)).setCell ⟨w.heap.size, 4, none⟩ (.slice none 0 0)) = Wf at *
        refine bodyPost_ret (v := .tuple #[.agg #[.int .i64 0, .int .i64 0, .int .i64 0, .int .i64 0, .slice none 0 0], .int .i64 50]) (by simp [results, Try.results15, go_sem, R0.out, R1.out, R2.out, R3.out, R4.out]) rfl ?_
        rw [HTT.out, Hrr.out, ← HOt.out]
        exact ⟨none, 0, rfl, RdC.nil _ _ _, fun b o h => (by cases h), HBf.out⟩
      · have z9 := hkv.set5 (.int .i64 (i : Int)) (.int .i64 (e : Int)) (.int .i64 (F p 0 4 : Int)) (.int .i64 (F p 4 4 : Int)) (.slice B k cB)
        have R0 := Lib.hid (z9.at_ 0 rfl)
        have R1 := Lib.hid (z9.at_ 1 rfl)
        have R2 := Lib.hid (z9.at_ 2 rfl)
        have R3 := Lib.hid (z9.at_ 3 rfl)
        have R4 := Lib.hid (z9.at_ 4 rfl)
        have hBf := below_set5' hBv (b := w.heap.size) (Nat.le_refl _) (.int .i64 (i : Int)) (.int .i64 (e : Int)) (.int .i64 (F p 0 4 : Int)) (.int .i64 (F p 4 4 : Int)) (.slice B k cB)
        have HRf := Lib.hid (HOv.out.set5 (b := w.heap.size) (by have := HP.out.old.1; have := HAt.out.1; have := HRn.out.1; omega) (.int .i64 (i : Int)) (.int .i64 (e : Int)) (.int .i64 (F p 0 4 : Int)) (.int .i64 (F p 4 4 : Int)) (.slice B k cB)).rd
        have HBf := Lib.hid hBf
        clear z9 hBf hkv hXv hBv
        go_wp2_with fail
        generalize (((((v9.setCell ⟨w.heap.size, 0, none⟩ (.int .i64 (i : Int))).setCell ⟨w.heap.size, 1, none⟩ (.int .i64 (e : Int))).setCell ⟨w.heap.size, 2, none⟩ (.int .i64 (F p 0 4 : Int))).setCell ⟨w.heap.size, 3, none⟩ (.int .i64 (F p 4 4 : Int))).setCell ⟨w.heap.size, 4, none⟩ (.slice B k cB)) = Wf at *
        refine bodyPost_ret (v := .tuple #[.agg #[.int .i64 (i : Int), .int .i64 (e : Int), .int .i64 (F p 0 4 : Int), .int .i64 (F p 4 4 : Int), .slice B k cB], .int .i64 0]) (by simp [results, Try.results15, go_sem, R0.out, R1.out, R2.out, R3.out, R4.out]) rfl ?_
        have hRf := HRf.out
        rw [pairs_len] at hRf
        refine ⟨B, cB, ?_, ?_, fun b' o' hB' => Nat.le_trans HBa.out.size (HOv.out.new_ hB'), HBf.out⟩
        · rw [HTT.out, Hrr.out, ← HOt.out, if_pos rfl, if_pos rfl, HT.out]
          simp only [pairs_len]
        · rw [HTT.out, ← HOt.out, if_pos rfl, HT.out]
          simp only [pairs_len]
          exact hRf
end Go.Proofs.Ytbdomhookjmmgaa
namespace Go.Proofs.Ytbdomhookjmmgaa
open Go.RowKit Fr Su
set_option linter.unusedVariables false
namespace Su
theorem body_len {l : List Nat} (h : isF l = true) : (body l).length = F l 2 2 ∧ (body l).length ≤ 108 := by
  obtain ⟨h1, _, _, h4, _⟩ := isF_iff.1 h
  unfold body
  rw [List.length_take, List.length_drop, h1]
  omega
theorem body_lt {l : List Nat} (h : ∀ x ∈ l, x < 256) : ∀ x ∈ body l, x < 256 := fun x hx => h x (List.mem_of_mem_drop (List.mem_of_mem_take hx))
theorem body_8 {l : List Nat} (h : ∀ x ∈ l, x < 256) (h9 : 9 ≤ (body l).length) : (body l)[8]? = some (F (body l) 8 1) ∧ F (body l) 8 1 < 256 := by
  obtain ⟨x, hx⟩ : ∃ x, (body l)[8]? = some x := ⟨_, List.getElem?_eq_getElem (by omega)⟩
  rw [F_at hx]
  exact ⟨hx, body_lt h x (List.mem_of_getElem? hx)⟩
/-- Has a frame the shape of a superblock's? -/
def headS (l : List Nat) : Prop := F l 1 1 = 1 ∧ F l 4 4 = 0 ∧ 9 ≤ (body l).length ∧ (body l).length = 9 + 4 * F (body l) 8 1
theorem isSu_no {l : List Nat} (h : ¬ (isF l = true ∧ headS l)) : isSu l = false := by
  rw [Bool.eq_false_iff]
  intro hh
  unfold isSu at hh
  simp only [Bool.and_eq_true, decide_eq_true_eq] at hh
  exact h ⟨hh.1.1.1.1.1, hh.1.1.1.1.2, hh.1.1.1.2, hh.1.1.2, hh.1.2⟩
theorem isSu_ok {l : List Nat} (h : isF l = true) (hs : headS l) : isSu l = Su.ok (sOf l) := by
  obtain ⟨h1, h2, h3, h4⟩ := hs
  unfold isSu
  rw [h, decide_eq_true h1, decide_eq_true h2, decide_eq_true h3, decide_eq_true h4]
  simp
end Su
theorem sdecode_any (A : Option Addr) (n c : Nat) (l : List Nat) (w : World) (h : Rd w A n l) (hc : n ≤ c) (hbig : n ≤ 9223372036854775807) : Calls Try.prog 15 #[.slice A n c] w (GivesSu w (Su.read l) (if Su.isSu l then 0 else 50)) := by
  cases hf : isF l with
  | false =>
    have hn : Su.isSu l = false := isSu_no (fun e => by rw [hf] at e; cases e.1)
    unfold Su.read
    rw [hn]
    exact sdecode_none A n c 0 0 0 0 [] 40 w 0 (by simp) (by simp) (fun v hv => decode_no A n c l v (h.below hv) hc hbig hf) (by simp)
  | true =>
    have hb := body_len hf
    have hd : ∀ v, Below w.heap.size w v → Calls Try.prog 53 #[.slice A n c] v (GivesDec v (F l 4 4) (F l 8 4) (F l 12 4) (F l 1 1) (body l) 0) := fun v hv => decode_any A n c l v (h.below hv) hc hf
    by_cases hs : headS l
    · have e1 := isSu_ok hf hs
      unfold Su.read
      rw [e1]
      obtain ⟨s1, s2, s3, s4⟩ := hs
      rw [s1, s2] at hd
      exact sdecode_full A n c (F l 8 4) (F l 12 4) (body l) w (F (body l) 8 1) (body_8 h.2.1 s3).1 hb.2 s3 s4 hd
    · have hn : Su.isSu l = false := isSu_no (fun e => hs e.2)
      unfold Su.read
      rw [hn]
      refine sdecode_none A n c _ _ _ _ (body l) 0 w (F (body l) 8 1) (fun h9 => body_8 h.2.1 h9) hb.2 hd (fun e => hs ?_)
      obtain ⟨_, e1, e2, e3, e4⟩ := e
      exact ⟨by omega, by omega, e3, e4⟩
end Go.Proofs.Ytbdomhookjmmgaa
