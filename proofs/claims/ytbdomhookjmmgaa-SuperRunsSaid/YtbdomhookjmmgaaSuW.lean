/- The law's light and one. The law's example: what it comes to. The law's example holds. -/
import Derived.Test.YtbdomhookjmmgaaSuP
import Derived.Test.YtbdomhookjmmgaaSuSave
import Derived.Test.YtbdomhookjmmgaaSuLoad
import Derived.Test.YtbdomhookjmmgaaSuSame
import Derived.Test.YtbdomhookjmmgaaRg
import Derived.Test.YtbdomhookjmmgaaSuR
namespace Go.Proofs.Ytbdomhookjmmgaa
open Go.RowKit Fr Su
set_option linter.unusedVariables false
namespace Su
/-- A superblock with not many more pairs than there may be. -/
def light (s : S) : S := ⟨s.g, s.e, s.i, s.m, s.ps.take 10⟩
/-- The example's. -/
def ex : S := ⟨1, 1, 1, 1, [(0, 1)]⟩
theorem light_len (s : S) : (light s).ps.length ≤ 10 := by unfold light; simp; omega
end Su
theorem rd_light {w : World} {A : Option Addr} {n : Nat} {ps : List (Int × Int)} (h : RdC 2 w A n (pv ps)) (hn : n = ps.length) : RdC 2 w A (ps.take 10).length (pv (ps.take 10)) := by
  subst hn
  have := h.take (k := (ps.take 10).length) (by rw [List.length_take]; omega)
  have e : pv (ps.take 10) = (pv ps).take ((ps.take 10).length * 2) := by
    clear this h
    have key : ∀ (l : List (Int × Int)) (k : Nat), pv (l.take k) = (pv l).take ((l.take k).length * 2) := by
      intro l
      induction l with
      | nil => intro k; simp [pv, flat]
      | cons x r ih =>
        intro k
        cases k with
        | zero => simp [pv, flat]
        | succ k =>
          have h1 : pv (x :: r) = .int .i64 x.1 :: .int .i64 x.2 :: pv r := by simp [pv, flat]
          have h2 : pv ((x :: r).take (k + 1)) = .int .i64 x.1 :: .int .i64 x.2 :: pv (r.take k) := by simp [pv, flat]
          rw [h1, h2, ih k, List.take_succ_cons, List.length_cons, show ((r.take k).length + 1) * 2 = (r.take k).length * 2 + 1 + 1 by omega]
          rfl
    exact key ps 10
  rw [e]
  exact this
set_option maxRecDepth 100000 in
set_option maxHeartbeats 1000000 in
theorem light_any (s : S) (A : Option Addr) (c : Nat) (w : World) (hc : s.ps.length ≤ c) (hbig : s.ps.length ≤ 9223372036854775807) : Calls Try.prog 10 #[Su.val s A c] w fun e w' => e = .returned (Su.val (Su.light s) A c) ∧ Below w.heap.size w w' := by
  unfold Su.val Su.light
  simp only
  rw [List.length_take]
  obtain ⟨n, hn⟩ : ∃ n, n = s.ps.length := ⟨_, rfl⟩
  rw [← hn] at hc hbig ⊢
  clear hn
  have hB : ∀ x tx y ty, Below w.heap.size w ((w.alloc (.cells x tx)).alloc (.cells y ty)) := fun x tx y ty => by repeat (first | exact Below.refl _ _ | refine Below.alloc ?_ (by simp <;> omega) _)
  by_cases h : 10 < n
  · rw [Nat.min_eq_left (by omega)]
    have h2 : (10 : Int) < (n : Int) := by omega
    have hmn : min (n : Int) 10 = 10 := by omega
    have h2' : ¬ (n : Int) < 10 := by omega
    have h3 : 10 ≤ c := by omega
    have h4 : (10 : Int) ≤ (c : Int) := by omega
    go_enter Try.func10, Try.ntmps10
    go_wp2_with fail
    refine bodyPost_ret (v := .agg #[.int .i64 s.g, .int .i64 s.e, .int .i64 s.i, .int .i64 s.m, .slice A 10 c]) (by first | (simp [results, Try.results10, go_sem]; done) | (simp [results, Try.results10, go_sem, hmn]; done)) rfl ?_
    exact ⟨rfl, (by repeat (first | exact Below.refl _ _ | refine Below.setCell ?_ (by simp) _ | refine Below.alloc ?_ (by simp <;> omega) _))⟩
  · rw [Nat.min_eq_right (by omega)]
    have hmn : min (n : Int) 10 = (n : Int) := by omega
    have h2 : ¬ (10 : Int) < (n : Int) := by omega
    have h4 : (n : Int) ≤ (c : Int) := by omega
    go_enter Try.func10, Try.ntmps10
    go_wp2_with fail
    refine bodyPost_ret (v := .agg #[.int .i64 s.g, .int .i64 s.e, .int .i64 s.i, .int .i64 s.m, .slice A n c]) (by first | (simp [results, Try.results10, go_sem]; done) | (simp [results, Try.results10, go_sem, hmn]; done)) rfl ?_
    exact ⟨rfl, (by repeat (first | exact Below.refl _ _ | refine Below.setCell ?_ (by simp) _ | refine Below.alloc ?_ (by simp <;> omega) _))⟩
set_option maxRecDepth 100000 in
set_option maxHeartbeats 1000000 in
theorem one_any (w : World) : Calls Try.prog 52 #[] w fun e w' => ∃ A c, e = .returned (Su.val Su.ex A c) ∧ RdC 2 w' A 1 (pv Su.ex.ps) ∧ Below w.heap.size w w' := by
  unfold Su.val Su.ex
  go_enter Try.func52, Try.ntmps52
  go_wp2_with fail
  refine bodyPost_ret (v := .agg #[.int .i64 1, .int .i64 1, .int .i64 1, .int .i64 1, .slice (some ⟨w.heap.size + 1, 0, none⟩) 1 1]) (by simp [results, Try.results52, go_sem]) rfl ?_
  refine ⟨some ⟨w.heap.size + 1, 0, none⟩, 1, rfl, ?_, (by repeat (first | exact Below.refl _ _ | refine Below.setCell ?_ (by simp) _ | refine Below.alloc ?_ (by simp <;> omega) _))⟩
  have := rdc_two (w.alloc (.cells #[.int .i64 1, .int .i64 1, .int .i64 1, .int .i64 1, .slice (some ⟨w.heap.size + 1, 0, none⟩) 1 1] 26)) (.int .i64 0) (.int .i64 1) 93
  rw [show pv [(0, 1)] = [.int .i64 0, .int .i64 1] from rfl]
  simpa using this
end Go.Proofs.Ytbdomhookjmmgaa
namespace Go.Proofs.Ytbdomhookjmmgaa
open Go.RowKit Fr Su
set_option linter.unusedVariables false
namespace Su
def exD : Dk.St := (saveS (Dk.St.new 8) ex).1
set_option maxRecDepth 100000
theorem ex_ok : Su.ok ex = true := by kernel_rfl
theorem ex_save : (saveS (Dk.St.new 8) ex).2 = 0 := by kernel_rfl
theorem ex_load : loadS exD = (ex, 0) := by kernel_rfl
theorem ex_ready : exD.ready 3 = 0 := by kernel_rfl
theorem ex_b0 : (exD.readB 3)[0]? = some 76 := by kernel_rfl
theorem ex_b2 : (exD.readB 3)[2]? = some 13 := by kernel_rfl
theorem ex_none : Su.ok none_ = false := by kernel_rfl
end Su
end Go.Proofs.Ytbdomhookjmmgaa
namespace Go.Proofs.Ytbdomhookjmmgaa
open Go.RowKit Fr Su
set_option linter.unusedVariables false
set_option maxRecDepth 100000 in
theorem enter_one (args : Array Value) (w : World) : (callFunc 52 args).run Try.prog w = .ok (.enter 52 args) w := run_enter Try.func52 (by kernel_rfl) (by kernel_rfl) args w
set_option maxRecDepth 100000 in
theorem enter_same (args : Array Value) (w : World) : (callFunc 17 args).run Try.prog w = .ok (.enter 17 args) w := run_enter Try.func17 (by kernel_rfl) (by kernel_rfl) args w
set_option maxRecDepth 100000 in
theorem enter_check (args : Array Value) (w : World) : (callFunc 13 args).run Try.prog w = .ok (.enter 13 args) w := run_enter Try.func13 (by kernel_rfl) (by kernel_rfl) args w
theorem one_ex (w : World) : Calls Try.prog 52 #[] w fun e w' => ∃ A c, e = .returned (.agg #[.int .i64 1, .int .i64 1, .int .i64 1, .int .i64 1, .slice A 1 c]) ∧ RdC 2 w' A 1 (pv Su.ex.ps) ∧ Below w.heap.size w w' := one_any w
theorem same_ex (A1 A2 : Option Addr) (c1 c2 : Nat) (w : World) (h1 : RdC 2 w A1 1 (pv ex.ps)) (h2 : RdC 2 w A2 1 (pv ex.ps)) :
    Calls Try.prog 17 #[.agg #[.int .i64 1, .int .i64 1, .int .i64 1, .int .i64 1, .slice A1 1 c1], .agg #[.int .i64 1, .int .i64 1, .int .i64 1, .int .i64 1, .slice A2 1 c2]] w fun e w' => e = .returned (.bool true) ∧ Below w.heap.size w w' := by
  have := same_su ex ex A1 A2 c1 c2 w h1 h2 (by decide) (by decide)
  rw [eqS_iff.2 rfl] at this
  exact this
theorem check_no0 (w : World) : Calls Try.prog 13 #[.agg #[.int .i64 0, .int .i64 0, .int .i64 0, .int .i64 0, .slice none 0 0]] w fun e w' => e = .returned (.int .i64 50) ∧ Below w.heap.size w w' := by
  have := scheck_any none_ none 0 w (RdC.nil _ _ _)
  rw [ex_none] at this
  exact this
theorem save_ex (A : Option Addr) (c : Nat) (w : World) (d : Nat) (lab : Nat → Tag) (hr : RdC 2 w A 1 (pv ex.ps)) (h : IsDisk w d lab (Dk.St.new 8)) :
    Calls Try.prog 20 #[.pointer (some ⟨d, 0, none⟩), .agg #[.int .i64 1, .int .i64 1, .int .i64 1, .int .i64 1, .slice A 1 c]] w fun e w' => e = .returned (.int .i64 0) ∧ Left lab d exD w w' := by
  have := save_any ex A c w d lab (Dk.St.new 8) 0 hr h (by refine ⟨by decide +kernel, by decide +kernel, by decide +kernel, by decide +kernel, by decide +kernel⟩) (by omega)
  rw [ex_save] at this
  exact this
theorem load_ex (w : World) (d : Nat) (lab : Nat → Tag) (h : IsDisk w d lab exD) : Calls Try.prog 22 #[.pointer (some ⟨d, 0, none⟩)] w fun e w' => ∃ A c, e = .returned (.tuple #[.agg #[.int .i64 1, .int .i64 1, .int .i64 1, .int .i64 1, .slice A 1 c], .int .i64 0]) ∧ RdC 2 w' A 1 (pv ex.ps) ∧ Below w.heap.size w w' := by
  have := load_any w d lab exD h
  rw [ex_load] at this
  refine this.mono ?_
  rintro e w' ⟨A, c, h1, h2, _, h4⟩
  exact ⟨A, c, h1, h2, h4⟩
theorem read_ex (w : World) (d : Nat) (lab : Nat → Tag) (h : IsDisk w d lab exD) : Calls Try.prog 41 #[.pointer (some ⟨d, 0, none⟩), .int .i64 3] w fun e w' => ∃ q, e = .returned (.tuple #[.slice (some ⟨q, 0, none⟩) 128 128, .int .i64 0]) ∧ q < w'.heap.size ∧ w'.cell? ⟨q, 0, none⟩ = some (.int .u8 76) ∧ w'.cell? ⟨q, 2, none⟩ = some (.int .u8 13) ∧ Below w.heap.size w w' := by
  refine (read_any 3 w d lab exD h).mono ?_
  rintro e w' ⟨A, n, c, rfl, hR, hb, hn, hr⟩
  obtain ⟨rfl, rfl, rfl, hB⟩ := hr ex_ready
  rw [ex_ready]
  obtain ⟨b, o, e, hq, hc⟩ := hR.2.2 (by omega)
  injection e with e
  injection e with e1 e2
  subst e1 e2
  have c0 := hc 0 76 ex_b0
  have c2 := hc 2 13 ex_b2
  rw [Nat.zero_add] at c0 c2
  exact ⟨_, rfl, hq, c0, c2, hb⟩
set_option maxRecDepth 100000 in
set_option maxHeartbeats 4000000 in
theorem awake_any (w : World) : Calls Try.prog 14 #[] w fun e w' => e = .returned (.bool true) ∧ Below w.heap.size w w' := by
  go_enter Try.func14, Try.ntmps14
  go_wp2_with fail
  refine (new_any 8 w).mono ?_
  intro e w1 hg
  rcases hg with ⟨_, _, d, lab, rfl, hD, hb1, hl1⟩ | ⟨hno, _⟩
  rotate_left 1
  · exact absurd ⟨by omega, by omega⟩ hno
  have HD1 := Lib.hid hD
  have HB1 := Lib.hid hb1
  have HL1 := Lib.hid hl1
  clear hD hb1 hl1
  go_wp2_with fail
  refine (one_ex w1).mono ?_
  rintro e w2 ⟨A2, c2, rfl, hr2, hb2⟩
  go_wp2_with fail
  refine (save_ex A2 c2 w2 d lab hr2 (HD1.out.below hb2)).mono ?_
  rintro e w3 ⟨rfl, lab3, hD3, hC3, hL3⟩
  have HD3 := Lib.hid hD3
  have hB2 := HB1.out.trans (hb2.mono HB1.out.size)
  have HB3 := Lib.hid (hC3.below hB2 HL1.out hB2.size)
  clear hr2 hb2 hC3 hL3 hD3 hB2
  go_wp2_with fail
  refine (load_ex w3 d lab3 HD3.out).mono ?_
  rintro e w4 ⟨A4, c4, rfl, hr4, hb4⟩
  have HD4 := Lib.hid ((HD3.out.below hb4).below ((Below.refl _ _).alloc (Nat.le_refl _) (.cells #[.int .i64 1, .int .i64 1, .int .i64 1, .int .i64 1, .slice A4 1 c4] 26)))
  have HB4 := Lib.hid ((HB3.out.trans (hb4.mono HB3.out.size)).alloc (by have := HB3.out.size; have := hb4.size; omega) (.cells #[.int .i64 1, .int .i64 1, .int .i64 1, .int .i64 1, .slice A4 1 c4] 26))
  have HR4 := Lib.hid (hr4.alloc (.cells #[.int .i64 1, .int .i64 1, .int .i64 1, .int .i64 1, .slice A4 1 c4] 26))
  have HX4 := Lib.hid (Holds.new w4 #[.int .i64 1, .int .i64 1, .int .i64 1, .int .i64 1, .slice A4 1 c4] 26)
  clear hr4 hb4
  go_wp2_with fail
  generalize w4.heap.size = sb at *
  generalize w4.alloc (.cells #[.int .i64 1, .int .i64 1, .int .i64 1, .int .i64 1, .slice A4 1 c4] 26) = w5 at *
  refine (read_ex w5 d lab3 HD4.out).mono ?_
  rintro e w6 ⟨q, rfl, hq, k0, k2, hb6⟩
  have HR6 := Lib.hid (HR4.out.below hb6)
  have HX6 := Lib.hid (HX4.out.below hb6)
  have HB6 := Lib.hid (HB4.out.trans (hb6.mono HB4.out.size))
  have hd : Below w6.heap.size w6 w6.drew := (Below.refl _ _).drew
  have HCl := Lib.hid (fun wx (hb : Below w6.heap.size w6 wx) => (⟨(HX6.out.below hb).at_ 0 rfl, (HX6.out.below hb).at_ 1 rfl, (HX6.out.below hb).at_ 2 rfl, (HX6.out.below hb).at_ 3 rfl, (HX6.out.below hb).at_ 4 rfl, (hb.cell (p := ⟨q, 0, none⟩) hq).trans k0, (hb.cell (p := ⟨q, 2, none⟩) hq).trans k2⟩ : wx.cell? ⟨sb, 0, none⟩ = some (.int .i64 1) ∧ wx.cell? ⟨sb, 1, none⟩ = some (.int .i64 1) ∧ wx.cell? ⟨sb, 2, none⟩ = some (.int .i64 1) ∧ wx.cell? ⟨sb, 3, none⟩ = some (.int .i64 1) ∧ wx.cell? ⟨sb, 4, none⟩ = some (.slice A4 1 c4) ∧ wx.cell? ⟨q, 0, none⟩ = some (.int .u8 76) ∧ wx.cell? ⟨q, 2, none⟩ = some (.int .u8 13)))
  clear hb6
  go_upto_region 5 with fail
  refine wp_region_held_drew (S := fun wx => wx.cell? ⟨sb, 0, none⟩ = some (.int .i64 1) ∧ wx.cell? ⟨sb, 1, none⟩ = some (.int .i64 1) ∧ wx.cell? ⟨sb, 2, none⟩ = some (.int .i64 1) ∧ wx.cell? ⟨sb, 3, none⟩ = some (.int .i64 1) ∧ wx.cell? ⟨sb, 4, none⟩ = some (.slice A4 1 c4) ∧ wx.cell? ⟨q, 0, none⟩ = some (.int .u8 76) ∧ wx.cell? ⟨q, 2, none⟩ = some (.int .u8 13)) (by kernel_rfl) ?_ (fun hHeld => ?_)
  · exact HCl.out _ hd
  refine take_at (i := 0) (v := ?_) (some 25) rfl rfl (by kernel_rfl) (by kernel_rfl) (by kernel_rfl) (fun _ _ _ h => h) (by rfl) hHeld ?_ ?_
  rotate_left
  · intro wz hSw; (try dsimp only at hSw); go_simp; (try with_reducible rfl)
  (try simp only [Act.put, List.setIfInBounds_toArray, List.set_cons_zero, List.set_cons_succ])
  refine take_at (i := 1) (v := ?_) (some 26) rfl rfl (by kernel_rfl) (by kernel_rfl) (by kernel_rfl) (fun _ _ _ h => h) (by rfl) hHeld ?_ ?_
  rotate_left
  · intro wz hSw; (try dsimp only at hSw); go_simp; (try with_reducible rfl)
  (try simp only [Act.put, List.setIfInBounds_toArray, List.set_cons_zero, List.set_cons_succ])
  refine take_at (i := 2) (v := ?_) (some 27) rfl rfl (by kernel_rfl) (by kernel_rfl) (by kernel_rfl) (fun _ _ _ h => h) (by rfl) hHeld ?_ ?_
  rotate_left
  · intro wz hSw; (try dsimp only at hSw); go_simp; (try with_reducible rfl)
  (try simp only [Act.put, List.setIfInBounds_toArray, List.set_cons_zero, List.set_cons_succ])
  refine take_at (i := 3) (v := ?_) (some 28) rfl rfl (by kernel_rfl) (by kernel_rfl) (by kernel_rfl) (fun _ _ _ h => h) (by rfl) hHeld ?_ ?_
  rotate_left
  · intro wz hSw; (try dsimp only at hSw); go_simp; (try with_reducible rfl)
  (try simp only [Act.put, List.setIfInBounds_toArray, List.set_cons_zero, List.set_cons_succ])
  refine take_at (i := 4) (v := ?_) (some 29) rfl rfl (by kernel_rfl) (by kernel_rfl) (by kernel_rfl) (fun _ _ _ h => h) (by rfl) hHeld ?_ ?_
  rotate_left
  · intro wz hSw; (try dsimp only at hSw); go_simp; (try with_reducible rfl)
  (try simp only [Act.put, List.setIfInBounds_toArray, List.set_cons_zero, List.set_cons_succ])
  refine take_at (i := 5) (v := ?_) (some 30) rfl rfl (by kernel_rfl) (by kernel_rfl) (by kernel_rfl) (fun _ _ _ h => h) (by rfl) hHeld ?_ ?_
  rotate_left
  · intro wz hSw; (try dsimp only at hSw); go_simp; (try with_reducible rfl)
  (try simp only [Act.put, List.setIfInBounds_toArray, List.set_cons_zero, List.set_cons_succ])
  refine take_at (i := 6) (v := ?_) (some 31) rfl rfl (by kernel_rfl) (by kernel_rfl) (by kernel_rfl) (fun _ _ _ h => h) (by rfl) hHeld ?_ ?_
  rotate_left
  · intro wz hSw; (try dsimp only at hSw); go_simp; (try with_reducible rfl)
  (try simp only [Act.put, List.setIfInBounds_toArray, List.set_cons_zero, List.set_cons_succ])
  refine take_at (i := 7) (v := ?_) (some 32) rfl rfl (by kernel_rfl) (by kernel_rfl) (by kernel_rfl) (fun _ _ _ h => h) (by rfl) hHeld ?_ ?_
  rotate_left
  · intro wz hSw; (try dsimp only at hSw); go_simp; (try with_reducible rfl)
  (try simp only [Act.put, List.setIfInBounds_toArray, List.set_cons_zero, List.set_cons_succ])
  refine take_at (i := 8) (v := ?_) (some 33) rfl rfl (by kernel_rfl) (by kernel_rfl) (by kernel_rfl) (fun _ _ _ h => h) (by rfl) hHeld ?_ ?_
  rotate_left
  · intro wz hSw; (try dsimp only at hSw); go_simp; (try with_reducible rfl)
  (try simp only [Act.put, List.setIfInBounds_toArray, List.set_cons_zero, List.set_cons_succ])
  refine take_at (i := 9) (v := ?_) (some 34) rfl rfl (by kernel_rfl) (by kernel_rfl) (by kernel_rfl) (fun _ _ _ h => h) (by rfl) hHeld ?_ ?_
  rotate_left
  · intro wz hSw; (try dsimp only at hSw); go_simp; (try with_reducible rfl)
  (try simp only [Act.put, List.setIfInBounds_toArray, List.set_cons_zero, List.set_cons_succ])
  refine take_at (i := 10) (v := ?_) (some 35) rfl rfl (by kernel_rfl) (by kernel_rfl) (by kernel_rfl) (fun _ _ _ h => h) (by rfl) hHeld ?_ ?_
  rotate_left
  · intro wz hSw; (try dsimp only at hSw); go_simp; (try with_reducible rfl)
  (try simp only [Act.put, List.setIfInBounds_toArray, List.set_cons_zero, List.set_cons_succ])
  refine take_at (i := 11) (v := ?_) (some 36) rfl rfl (by kernel_rfl) (by kernel_rfl) (by kernel_rfl) (fun _ _ _ h => h) (by rfl) hHeld ?_ ?_
  rotate_left
  · intro wz hSw; (try dsimp only at hSw); go_simp; (try with_reducible rfl)
  (try simp only [Act.put, List.setIfInBounds_toArray, List.set_cons_zero, List.set_cons_succ])
  refine take_at (i := 12) (v := ?_) (some 37) rfl rfl (by kernel_rfl) (by kernel_rfl) (by kernel_rfl) (fun _ _ _ h => h) (by rfl) hHeld ?_ ?_
  rotate_left
  · intro wz hSw; (try dsimp only at hSw); go_simp; (try with_reducible rfl)
  (try simp only [Act.put, List.setIfInBounds_toArray, List.set_cons_zero, List.set_cons_succ])
  refine take_at (i := 13) (v := ?_) (some 38) rfl rfl (by kernel_rfl) (by kernel_rfl) (by kernel_rfl) (fun _ _ _ h => h) (by rfl) hHeld ?_ ?_
  rotate_left
  · intro wz hSw; (try dsimp only at hSw); go_simp; (try with_reducible rfl)
  (try simp only [Act.put, List.setIfInBounds_toArray, List.set_cons_zero, List.set_cons_succ])
  refine take_at (i := 14) (v := ?_) (some 39) rfl rfl (by kernel_rfl) (by kernel_rfl) (by kernel_rfl) (fun _ _ _ h => h) (by rfl) hHeld ?_ ?_
  rotate_left
  · intro wz hSw; (try dsimp only at hSw); go_simp; (try with_reducible rfl)
  (try simp only [Act.put, List.setIfInBounds_toArray, List.set_cons_zero, List.set_cons_succ])
  refine take_at (i := 15) (v := ?_) (some 40) rfl rfl (by kernel_rfl) (by kernel_rfl) (by kernel_rfl) (fun _ _ _ h => h) (by rfl) hHeld ?_ ?_
  rotate_left
  · intro wz hSw; (try dsimp only at hSw); go_simp; (try with_reducible rfl)
  (try simp only [Act.put, List.setIfInBounds_toArray, List.set_cons_zero, List.set_cons_succ])
  refine wpAnyH_ready (rs := [16]) (by kernel_rfl) (by simp) ?_
  refine ready_cons (i := 16) rfl (by rfl) (fun K' hK => ?_) (AllReadyH.nil)
  refine wp_call0 41 rfl rfl enter_one ((one_ex w6.drew).mono ?_)
  rintro e x1 ⟨A7, c7, rfl, hr7, hb7⟩
  refine ⟨_, rfl, ?_⟩
  have hk7 : Below w6.heap.size w6 x1 := below_next2 hd hb7 (Nat.le_refl _)
  refine hK.out _ _ ?_ ?_
  · exact HCl.out _ hk7
  clear hK K'
  (try simp only [Act.put, List.setIfInBounds_toArray, List.set_cons_zero, List.set_cons_succ])
  refine wpAnyH_ready (rs := [17]) (by kernel_rfl) (by simp) ?_
  refine ready_cons (i := 17) rfl (by rfl) (fun K' hK => ?_) (AllReadyH.nil)
  refine wp_call2 42 rfl (.tmp 40) (.tmp 41) rfl rfl rfl enter_same ((same_ex A4 A7 c4 c7 x1 (HR6.out.below hk7) hr7).mono ?_)
  rintro e x2 ⟨rfl, hb8⟩
  refine ⟨_, rfl, ?_⟩
  have hk8 : Below w6.heap.size w6 x2 := below_next2 hk7 hb8 hk7.size
  refine hK.out _ _ ?_ ?_
  · exact HCl.out _ hk8
  clear hK K'
  (try simp only [Act.put, List.setIfInBounds_toArray, List.set_cons_zero, List.set_cons_succ])
  have hH8 := HCl.out _ hk8
  refine take_at (i := 18) (v := ?_) (some 43) rfl rfl (by kernel_rfl) (by kernel_rfl) (by kernel_rfl) (fun _ _ _ h => h) (by rfl) hH8 ?_ ?_
  rotate_left
  · intro wz hSw; (try dsimp only at hSw); go_simp; (try with_reducible rfl)
  (try simp only [Act.put, List.setIfInBounds_toArray, List.set_cons_zero, List.set_cons_succ])
  refine take_at (i := 19) (v := ?_) (some 44) rfl rfl (by kernel_rfl) (by kernel_rfl) (by kernel_rfl) (fun _ _ _ h => h) (by rfl) hH8 ?_ ?_
  rotate_left
  · intro wz hSw; (try dsimp only at hSw); go_simp; (try with_reducible rfl)
  (try simp only [Act.put, List.setIfInBounds_toArray, List.set_cons_zero, List.set_cons_succ])
  refine take_at (i := 20) (v := ?_) (some 45) rfl rfl (by kernel_rfl) (by kernel_rfl) (by kernel_rfl) (fun _ _ _ h => h) (by rfl) hH8 ?_ ?_
  rotate_left
  · intro wz hSw; (try dsimp only at hSw); go_simp; (try with_reducible rfl)
  (try simp only [Act.put, List.setIfInBounds_toArray, List.set_cons_zero, List.set_cons_succ])
  refine take_at (i := 21) (v := ?_) (some 46) rfl rfl (by kernel_rfl) (by kernel_rfl) (by kernel_rfl) (fun _ _ _ h => h) (by rfl) hH8 ?_ ?_
  rotate_left
  · intro wz hSw; (try dsimp only at hSw); go_simp; (try with_reducible rfl)
  (try simp only [Act.put, List.setIfInBounds_toArray, List.set_cons_zero, List.set_cons_succ])
  refine take_at (i := 22) (v := ?_) (some 47) rfl rfl (by kernel_rfl) (by kernel_rfl) (by kernel_rfl) (fun _ _ _ h => h) (by rfl) hH8 ?_ ?_
  rotate_left
  · intro wz hSw; (try dsimp only at hSw); go_simp; (try with_reducible rfl)
  (try simp only [Act.put, List.setIfInBounds_toArray, List.set_cons_zero, List.set_cons_succ])
  refine take_at (i := 23) (v := ?_) (some 48) rfl rfl (by kernel_rfl) (by kernel_rfl) (by kernel_rfl) (fun _ _ _ h => h) (by rfl) hH8 ?_ ?_
  rotate_left
  · intro wz hSw; (try dsimp only at hSw); go_simp; (try with_reducible rfl)
  (try simp only [Act.put, List.setIfInBounds_toArray, List.set_cons_zero, List.set_cons_succ])
  refine take_at (i := 24) (v := ?_) (some 49) rfl rfl (by kernel_rfl) (by kernel_rfl) (by kernel_rfl) (fun _ _ _ h => h) (by rfl) hH8 ?_ ?_
  rotate_left
  · intro wz hSw; (try dsimp only at hSw); go_simp; (try with_reducible rfl)
  (try simp only [Act.put, List.setIfInBounds_toArray, List.set_cons_zero, List.set_cons_succ])
  refine take_at (i := 25) (v := ?_) (some 50) rfl rfl (by kernel_rfl) (by kernel_rfl) (by kernel_rfl) (fun _ _ _ h => h) (by rfl) hH8 ?_ ?_
  rotate_left
  · intro wz hSw; (try dsimp only at hSw); go_simp; (try with_reducible rfl)
  (try simp only [Act.put, List.setIfInBounds_toArray, List.set_cons_zero, List.set_cons_succ])
  refine take_at (i := 26) (v := ?_) (some 51) rfl rfl (by kernel_rfl) (by kernel_rfl) (by kernel_rfl) (fun _ _ _ h => h) (by rfl) hH8 ?_ ?_
  rotate_left
  · intro wz hSw; (try dsimp only at hSw); go_simp; (try with_reducible rfl)
  (try simp only [Act.put, List.setIfInBounds_toArray, List.set_cons_zero, List.set_cons_succ])
  refine take_at (i := 27) (v := ?_) (some 52) rfl rfl (by kernel_rfl) (by kernel_rfl) (by kernel_rfl) (fun _ _ _ h => h) (by rfl) hH8 ?_ ?_
  rotate_left
  · intro wz hSw; (try dsimp only at hSw); go_simp; (try with_reducible rfl)
  (try simp only [Act.put, List.setIfInBounds_toArray, List.set_cons_zero, List.set_cons_succ])
  refine take_at (i := 28) (v := ?_) (some 53) rfl rfl (by kernel_rfl) (by kernel_rfl) (by kernel_rfl) (fun _ _ _ h => h) (by rfl) hH8 ?_ ?_
  rotate_left
  · intro wz hSw; (try dsimp only at hSw); go_simp; (try with_reducible rfl)
  (try simp only [Act.put, List.setIfInBounds_toArray, List.set_cons_zero, List.set_cons_succ])
  refine take_at (i := 29) (v := ?_) (some 54) rfl rfl (by kernel_rfl) (by kernel_rfl) (by kernel_rfl) (fun _ _ _ h => h) (by rfl) hH8 ?_ ?_
  rotate_left
  · intro wz hSw; (try dsimp only at hSw); go_simp; (try with_reducible rfl)
  (try simp only [Act.put, List.setIfInBounds_toArray, List.set_cons_zero, List.set_cons_succ])
  refine take_at (i := 30) (v := ?_) (some 55) rfl rfl (by kernel_rfl) (by kernel_rfl) (by kernel_rfl) (fun _ _ _ h => h) (by rfl) hH8 ?_ ?_
  rotate_left
  · intro wz hSw; (try dsimp only at hSw); go_simp; (try with_reducible rfl)
  (try simp only [Act.put, List.setIfInBounds_toArray, List.set_cons_zero, List.set_cons_succ])
  refine take_at (i := 31) (v := ?_) (some 56) rfl rfl (by kernel_rfl) (by kernel_rfl) (by kernel_rfl) (fun _ _ _ h => h) (by rfl) hH8 ?_ ?_
  rotate_left
  · intro wz hSw; (try dsimp only at hSw); go_simp; (try with_reducible rfl)
  (try simp only [Act.put, List.setIfInBounds_toArray, List.set_cons_zero, List.set_cons_succ])
  refine take_at (i := 32) (v := ?_) (some 57) rfl rfl (by kernel_rfl) (by kernel_rfl) (by kernel_rfl) (fun _ _ _ h => h) (by rfl) hH8 ?_ ?_
  rotate_left
  · intro wz hSw; (try dsimp only at hSw); go_simp; (try with_reducible rfl)
  (try simp only [Act.put, List.setIfInBounds_toArray, List.set_cons_zero, List.set_cons_succ])
  refine take_at (i := 33) (v := ?_) (some 58) rfl rfl (by kernel_rfl) (by kernel_rfl) (by kernel_rfl) (fun _ _ _ h => h) (by rfl) hH8 ?_ ?_
  rotate_left
  · intro wz hSw; (try dsimp only at hSw); go_simp; (try with_reducible rfl)
  (try simp only [Act.put, List.setIfInBounds_toArray, List.set_cons_zero, List.set_cons_succ])
  refine take_at (i := 34) (v := ?_) (some 59) rfl rfl (by kernel_rfl) (by kernel_rfl) (by kernel_rfl) (fun _ _ _ h => h) (by rfl) hH8 ?_ ?_
  rotate_left
  · intro wz hSw; (try dsimp only at hSw); go_simp; (try with_reducible rfl)
  (try simp only [Act.put, List.setIfInBounds_toArray, List.set_cons_zero, List.set_cons_succ])
  refine take_at (i := 35) (v := ?_) (some 60) rfl rfl (by kernel_rfl) (by kernel_rfl) (by kernel_rfl) (fun _ _ _ h => h) (by rfl) hH8 ?_ ?_
  rotate_left
  · intro wz hSw; (try dsimp only at hSw); go_simp; (try with_reducible rfl)
  (try simp only [Act.put, List.setIfInBounds_toArray, List.set_cons_zero, List.set_cons_succ])
  refine take_at (i := 36) (v := ?_) (some 61) rfl rfl (by kernel_rfl) (by kernel_rfl) (by kernel_rfl) (fun _ _ _ h => h) (by rfl) hH8 ?_ ?_
  rotate_left
  · intro wz hSw; (try dsimp only at hSw); go_simp; (try with_reducible rfl)
  (try simp only [Act.put, List.setIfInBounds_toArray, List.set_cons_zero, List.set_cons_succ])
  refine take_at (i := 37) (v := ?_) (some 62) rfl rfl (by kernel_rfl) (by kernel_rfl) (by kernel_rfl) (fun _ _ _ h => h) (by rfl) hH8 ?_ ?_
  rotate_left
  · intro wz hSw; (try dsimp only at hSw); go_simp; (try with_reducible rfl)
  (try simp only [Act.put, List.setIfInBounds_toArray, List.set_cons_zero, List.set_cons_succ])
  refine wpAnyH_ready (rs := [38]) (by kernel_rfl) (by simp) ?_
  refine ready_cons (i := 38) rfl (by rfl) (fun K' hK => ?_) (AllReadyH.nil)
  refine wp_call1 63 rfl (.tmp 62) rfl rfl enter_check ((check_no0 x2).mono ?_)
  rintro e x3 ⟨rfl, hb9⟩
  refine ⟨_, rfl, ?_⟩
  have hk9 : Below w6.heap.size w6 x3 := below_next2 hk8 hb9 hk8.size
  refine hK.out _ _ ?_ ?_
  · exact HCl.out _ hk9
  clear hK K'
  (try simp only [Act.put, List.setIfInBounds_toArray, List.set_cons_zero, List.set_cons_succ])
  have hH9 := HCl.out _ hk9
  refine take_at (i := 39) (v := ?_) (some 64) rfl rfl (by kernel_rfl) (by kernel_rfl) (by kernel_rfl) (fun _ _ _ h => h) (by rfl) hH9 ?_ ?_
  rotate_left
  · intro wz hSw; (try dsimp only at hSw); go_simp; (try with_reducible rfl)
  (try simp only [Act.put, List.setIfInBounds_toArray, List.set_cons_zero, List.set_cons_succ])
  refine take_at (i := 40) (v := ?_) (some 65) rfl rfl (by kernel_rfl) (by kernel_rfl) (by kernel_rfl) (fun _ _ _ h => h) (by rfl) hH9 ?_ ?_
  rotate_left
  · intro wz hSw; (try dsimp only at hSw); go_simp; (try with_reducible rfl)
  (try simp only [Act.put, List.setIfInBounds_toArray, List.set_cons_zero, List.set_cons_succ])
  refine take_at (i := 41) (v := ?_) (some 0) rfl rfl (by kernel_rfl) (by kernel_rfl) (by kernel_rfl) (fun _ _ _ h => h) (by rfl) hH9 ?_ ?_
  rotate_left
  · intro wz hSw; (try dsimp only at hSw); go_simp; (try with_reducible rfl)
  (try simp only [Act.put, List.setIfInBounds_toArray, List.set_cons_zero])
  refine wpAnyH_done (by kernel_rfl) ?_ _
  go_wp2_with fail
  go_ret
  exact ⟨rfl, HB6.out.trans (hk9.mono HB6.out.size)⟩
end Go.Proofs.Ytbdomhookjmmgaa
