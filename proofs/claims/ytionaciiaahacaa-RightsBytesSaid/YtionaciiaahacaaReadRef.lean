/- What the document's HoldBytes, ReadAccount and ReadHold return. -/
import Derived.Test.YtionaciiaahacaaReadMath
import Derived.Test.YtionaciiaahacaaInts
namespace Go.Proofs.Ytionaciiaahacaa
open Go.RowKit
set_option linter.unusedVariables false
set_option maxRecDepth 100000 in
set_option maxHeartbeats 1000000 in
theorem rholdbytes_any (n u : Int) (w : World) : Calls Try.prog 37 #[hold n u] w (GivesRow w (Ac.bytesH n u) (chkH n u)) := by
  rcases hk : Ac.okH n u with _ | _
  · have e1 : Ac.bytesH n u = [] := by unfold Ac.bytesH; rw [hk]; rfl
    have e2 : chkH n u = 206 := by unfold chkH; rw [hk]; rfl
    rw [e1, e2]
    have hc := fun w' => rhold_no hk w'
    unfold hold at hc ⊢
    have Hc := Lib.hid hc
    clear hc hk e1 e2
    go_enter Try.func37, Try.ntmps37
    go_wp2_with fail
    refine (Hc.out _).mono ?_
    rintro e v1 ⟨rfl, rfl⟩
    go_wp2_with fail
    go_ret2
    exact ⟨none, 0, rfl, Rd.nil _ _, Nat.le_refl _, ((Below.refl _ _).alloc (Nat.le_refl _) _).alloc (by simp) _⟩
  · have e1 : Ac.bytesH n u = numsOf [n.toNat, u.toNat] := by unfold Ac.bytesH; rw [hk]; rfl
    have e2 : chkH n u = 0 := by unfold chkH; rw [hk]; rfl
    rw [e1, e2]
    have hc := fun w' => rhold_yes hk w'
    obtain ⟨k1, k2, k3, k4⟩ := Ac.okH_iff.1 hk
    obtain ⟨a, rfl⟩ := Int.eq_ofNat_of_zero_le (show 0 ≤ n by omega)
    obtain ⟨b, rfl⟩ := Int.eq_ofNat_of_zero_le k3
    simp only [Int.toNat_natCast]
    have hl : (Cd.num a).length + (Cd.num b).length ≤ 22 := by have := Cd.num_length a; have := Cd.num_length b; omega
    have hw1 : IntKind.u64.wrap (a : Int) = (a : Int) := by rw [IntKind.wrap_u64]; omega
    have hw2 : IntKind.u64.wrap (b : Int) = (b : Int) := by rw [IntKind.wrap_u64]; omega
    have hna := fun w' => rnum_any a (by omega) w'
    have hnb := fun w' => rnum_any b (by omega) w'
    have eL : numsOf [a, b] = Cd.num a ++ Cd.num b := by simp [numsOf]
    rw [eL]
    unfold hold at hc ⊢
    have Hc := Lib.hid hc
    have Ha := Lib.hid hna
    have Hb := Lib.hid hnb
    clear hc hk e1 e2 k3 eL hna hnb
    go_enter Try.func37, Try.ntmps37
    go_wp2_with fail
    refine (Hc.out _).mono ?_
    rintro e v1 ⟨rfl, rfl⟩
    generalize Cd.num a = la at *
    generalize Cd.num b = lb at *
    have hA := (Holds.new w #[.int .i64 (a : Int), .int .i64 (b : Int)] 25).alloc (.cells #[.int .i64 (a : Int), .int .i64 (b : Int)] 25)
    have hx : Below w.heap.size w ((w.alloc (.cells #[.int .i64 (a : Int), .int .i64 (b : Int)] 25)).alloc (.cells #[.int .i64 (a : Int), .int .i64 (b : Int)] 25)) := ((Below.refl _ _).alloc (Nat.le_refl _) _).alloc (by simp) _
    go_wp2_with fail
    generalize (w.alloc (.cells #[.int .i64 (a : Int), .int .i64 (b : Int)] 25)).alloc (.cells #[.int .i64 (a : Int), .int .i64 (b : Int)] 25) = w0 at *
    have La : ∀ wx : World, Below w0.heap.size w0 wx → wx.cell? ⟨w.heap.size, 0, none⟩ = some (.int .i64 (a : Int)) := fun wx h => (hA.below h).at_ 0 rfl
    have La1 : ∀ wx : World, Below w0.heap.size w0 wx → wx.cell? ⟨w.heap.size, 1, none⟩ = some (.int .i64 (b : Int)) := fun wx h => (hA.below h).at_ 1 rfl
    have hd : Below w0.heap.size w0 w0.drew := (Below.refl _ _).drew
    go_region_held_law (fun w' => Below w0.heap.size w0 w') (first | exact hd | exact hc4 | exact hc5 | exact hc6) (first | (go_at_call 52; ((with_reducible refine (Ha.out _).mono ?_); rintro e v4 ⟨A4, c4, rfl, ho4, hb4⟩; have hc4 : Below w0.heap.size w0 v4 := below_next (by assumption) hb4)) | (go_at_call 52; ((with_reducible refine (Hb.out _).mono ?_); rintro e v5 ⟨A5, c5, rfl, ho5, hb5⟩; have hc5 : Below w0.heap.size w0 v5 := below_next (by assumption) hb5; have ho4' := ho4.below hb5; have hz5 := hb5.size)) | (refine step_appB (by simp [Region.wanted]) (.tmp 10) (.tmp 14) rfl rfl ho4' A5 lb.length c5 lb rfl ho5.rd (by omega) (Nat.le_trans hb4.size hz5) ?_; intro A6 c6 v6 hg6; have hb6 := hg6.below (hb4.trans (hb5.mono hb4.size)) (Nat.le_trans hb4.size hz5) (fun g hg => (ho4'.blk g hg).1); have hc6 : Below w0.heap.size w0 v6 := below_next hd (hb6.mono (by exact Nat.le_refl _)); have ho6 := hg6.own))
    have hx6 := below_next hx hc6
    clear La La1 hd
    go_wp2_with fail
    rename_i dd hdd
    have hdd' : some 15 = some dd := hdd
    injection hdd' with hdd'
    subst hdd'
    go_ret2
    refine ⟨A6, c6, ?_, ?_, ?_, hx6⟩
    · rw [List.length_append]; rfl
    · rw [List.length_append]; exact ho6.rd
    · rw [List.length_append]; exact ho6.cap
end Go.Proofs.Ytionaciiaahacaa
