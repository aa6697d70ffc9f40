/- For every slice of steps (the first sixty): whatever is done to an account it stays one that may be, and free and held ones together are what came less what went (P20.5), and the example at the head holds; the argument stays as it was. No condition. -/
import Derived.Test.YtionaciiaahacaaKept
import Derived.Test.YtionaciiaahacaaAccAwake
import Derived.WalkKit
import Derived.ProofKit
import Derived.OpenShut
import Derived.ShutString
import Derived.ChangeOld
import Derived.Below
import Derived.Deep.RegionHeld
namespace Go.Proofs.Ytionaciiaahacaa.rightsKept
open Go.ChangeShapes Go.WideShapes Go.ChangeAt Go.RowKit
set_option linter.unusedVariables false
theorem own : ownKnob Try.prog.godebug = none := by kernel_rfl
theorem laidOut : laidOutB Try.prog = true := by kernel_rfl
set_option maxRecDepth 100000 in
set_option maxHeartbeats 8000000 in
theorem walk (A0 : Option Addr) (m0 c0 : Nat) (l0 : List St) (w : World) (r0 : RdT w A0 m0 l0) (wc0 : m0 ≤ c0) (w0 : m0 ≤ 9223372036854775807) :
    Calls Try.prog 9 #[.slice A0 m0 c0] w fun e w' => e = .returned (.bool true) ∧ Below w.heap.size w w' := by
  -- heartbeats 8000000
  have haw := fun w' => awake_any w'
  have Haw := Lib.hid haw
  clear haw
  go_enter Try.func9, Try.ntmps9
  go_wp2_with fail
  refine (fresh_any _).mono ?_
  rintro e v1 ⟨rfl, hx1⟩
  unfold acc
  go_wp2_with fail
  have hA0 := Holds.new v1 #[.int .i64 (0), .int .i64 (0), .int .i64 (1125899906842624)] 23
  have hx0 : Below w.heap.size w (v1.alloc (.cells #[.int .i64 (0), .int .i64 (0), .int .i64 (1125899906842624)] 23)) := hx1.alloc hx1.size _
  have hsz := hx1.size
  clear hx1
  generalize v1.alloc (.cells #[.int .i64 (0), .int .i64 (0), .int .i64 (1125899906842624)] 23) = w0 at *
  generalize v1.heap.size = bA at *
  have hr0' := r0.1
  go_loopw [4, 5, 6, 7, 8] (fun sm i _ _ _ wr => ∃ (k : Nat) (f h q : Int), k ≤ m0 ∧ k ≤ 60 ∧ i = .int .i64 (k : Int) ∧ sm = .int .i64 (f + h) ∧ Hid (Ac.okA f h q = true) ∧ Holds wr bA [.int .i64 f, .int .i64 h, .int .i64 q] ∧ Below w.heap.size w wr) (fun _ i _ _ _ _ => 60 - (intOf i).toNat)
  case atStart => exact ⟨0, 0, 0, 1125899906842624, by omega, by omega, rfl, rfl, Lib.hid (by decide), hA0, hx0⟩
  case round =>
    obtain ⟨k, f, h, q, hk, hk60, rfl, rfl, hok, hA, hx⟩ := hrel
    by_cases hlt : k < m0 ∧ k < 60
    · obtain ⟨hkm, hk6⟩ := hlt
      have hkm' : (k : Int) < (m0 : Int) := by omega
      have hk6' : (k : Int) < 60 := by omega
      obtain ⟨b, o, hAeq, hbl, hcells⟩ := r0.2 (by omega)
      have hs : l0[k]? = some (l0[k]'(by rw [r0.1]; exact hkm)) := List.getElem?_eq_getElem _
      obtain ⟨s0, s1, s2, s3, sk, sl, su⟩ := hcells k _ hs
      generalize l0[k]'(by rw [r0.1]; exact hkm) = s at *
      subst hAeq
      have hw0 : wr.heap.size ≥ w.heap.size := hx.size
      have t0 := (hx.cell (p := ⟨b, o + (k * 4 + 0), none⟩) hbl).trans s0
      have t1 := (hx.cell (p := ⟨b, o + (k * 4 + 1), none⟩) hbl).trans s1
      have t2 := (hx.cell (p := ⟨b, o + (k * 4 + 2), none⟩) hbl).trans s2
      have t3 := (hx.cell (p := ⟨b, o + (k * 4 + 3), none⟩) hbl).trans s3
      rw [Nat.add_zero] at t0
      rw [← Nat.add_assoc] at t1 t2 t3
      obtain ⟨r1, r2, r3, by_, e, hst, hr, hcase⟩ := Ac.step_kept f h q s hok.out
      have hch := fun w' => lchange_any f h q s w' hok.out sk sl su
      rw [hst] at hch
      unfold GivesStep at hch
      unfold acc stepV at hch
      have Hst := Lib.hid hch
      have a0 := hA.at_ 0 rfl
      have a1 := hA.at_ 1 rfl
      have a2 := hA.at_ 2 rfl
      obtain ⟨k1, k2, k3, k4, k5, k6, k7⟩ := Ac.okA_iff.1 hok.out
      obtain ⟨q1, q2, q3, q4, q5, q6, q7⟩ := Ac.okA_iff.1 hr
      clear hch hst hs s0 s1 s2 s3 hcells r0 hr0'
      have hbr : b < wr.heap.size := Nat.lt_of_lt_of_le hbl hx.size
      rcases hcase with ⟨he, hsum⟩ | ⟨he, hsum⟩
      · have hby1 : -1125899906842624 ≤ by_ := by omega
        have hby2 : by_ ≤ 1125899906842624 := by omega
        clear q1 q2 q3 q4 q5 q6 q7
        have z1 : (e == 0) = true := by rw [beq_iff_eq]; exact he
        have E1 := Lib.hid hsum
        clear hsum he
        have hd : Below wr.heap.size wr wr.drew := (Below.refl _ _).drew
        have La : ∀ wx : World, Below wr.heap.size wr wx → wx.cell? ⟨bA, 0, none⟩ = some (.int .i64 f) := fun wx h => (hA.below h).at_ 0 rfl
        have La1 : ∀ wx : World, Below wr.heap.size wr wx → wx.cell? ⟨bA, 1, none⟩ = some (.int .i64 h) := fun wx h => (hA.below h).at_ 1 rfl
        have La2 : ∀ wx : World, Below wr.heap.size wr wx → wx.cell? ⟨bA, 2, none⟩ = some (.int .i64 q) := fun wx h => (hA.below h).at_ 2 rfl
        have Lt0 : ∀ wx : World, Below wr.heap.size wr wx → wx.cell? ⟨b, o + k * 4, none⟩ = some (.int .u8 (s.k : Int)) := fun wx h => (h.cell (p := ⟨b, o + k * 4, none⟩) hbr).trans t0
        have Lt1 : ∀ wx : World, Below wr.heap.size wr wx → wx.cell? ⟨b, o + k * 4 + 1, none⟩ = some (.int .i64 s.n) := fun wx h => (h.cell (p := ⟨b, o + k * 4 + 1, none⟩) hbr).trans t1
        have Lt2 : ∀ wx : World, Below wr.heap.size wr wx → wx.cell? ⟨b, o + k * 4 + 2, none⟩ = some (.int .i64 s.u) := fun wx h => (h.cell (p := ⟨b, o + k * 4 + 2, none⟩) hbr).trans t2
        have Lt3 : ∀ wx : World, Below wr.heap.size wr wx → wx.cell? ⟨b, o + k * 4 + 3, none⟩ = some (.int .i64 s.t) := fun wx h => (h.cell (p := ⟨b, o + k * 4 + 3, none⟩) hbr).trans t3
        clear t0 t1 t2 t3 a0 a1 a2
        go_wp2_with fail
        go_region_held (fun w' => Below wr.heap.size wr w') (repeat (first | exact hd | exact hc2 | exact Below.refl _ _ | refine Below.drew ?_ | assumption | refine Below.setCell ?_ (by first | exact hc2.size | exact Nat.le_refl _) _ | refine Below.drew ?_ | refine Below.alloc ?_ (by first | exact hc2.size | exact Nat.le_refl _) _)) (first | (go_at_call 42; refine (Hst.out _).mono ?_; rintro e' v2 ⟨rfl, hb2⟩; have hc2 : Below wr.heap.size wr v2 := below_next (by assumption) hb2; have hs2 := hb2.size; obtain ⟨hq2, hf2⟩ := bcell hb2))
        · have hWA : Holds (v2.alloc (.cells #[.int .i64 r1, .int .i64 r2, .int .i64 r3] 23)) bA [.int .i64 f, .int .i64 h, .int .i64 q] := (hA.below hc2).alloc _
          have hWB : Holds (v2.alloc (.cells #[.int .i64 r1, .int .i64 r2, .int .i64 r3] 23)) v2.heap.size [.int .i64 r1, .int .i64 r2, .int .i64 r3] := Holds.new v2 #[.int .i64 r1, .int .i64 r2, .int .i64 r3] _
          have hWx : Below w.heap.size w (v2.alloc (.cells #[.int .i64 r1, .int .i64 r2, .int .i64 r3] 23)) := (below_next hx hc2).alloc (below_next hx hc2).size _
          clear hb2 hs2 hq2 hf2 hd La La1 La2 Lt0 Lt1 Lt2 Lt3
          generalize v2.alloc (.cells #[.int .i64 r1, .int .i64 r2, .int .i64 r3] 23) = wz at *
          generalize v2.heap.size = bB at *
          have gA := Holds.set3 hWA (.int .i64 r1) (.int .i64 r2) (.int .i64 r3)
          have gC := gA.alloc (.cells #[.int .i64 r1, .int .i64 r2, .int .i64 r3] 23)
          have hxw : Below w.heap.size w ((((wz).setCell ⟨bA, 0, none⟩ (.int .i64 r1)).setCell ⟨bA, 1, none⟩ (.int .i64 r2)).setCell ⟨bA, 2, none⟩ (.int .i64 r3)) := ((hWx.setCell (p := ⟨bA, 0, none⟩) hsz _).setCell (p := ⟨bA, 1, none⟩) hsz _).setCell (p := ⟨bA, 2, none⟩) hsz _
          have lA := hWA.1
          have lB := hWB.1
          have zA := hWA.2.2
          have b0 := hWB.at_ 0 rfl
          have b1 := hWB.at_ 1 rfl
          have b2 := hWB.at_ 2 rfl
          have w0_ := hWA.at_ 0 rfl
          have w1_ := hWA.at_ 1 rfl
          have w2_ := hWA.at_ 2 rfl
          have g0 := gA.at_ 0 rfl
          have g1 := gA.at_ 1 rfl
          have g2 := gA.at_ 2 rfl
          have i0 := gC.at_ 0 rfl
          have i1 := gC.at_ 1 rfl
          have i2 := gC.at_ 2 rfl
          have hck := fun w' => rcheck_yes hr w'
          obtain ⟨p1, p2, p3, p4, p5, p6, p7⟩ := Ac.okA_iff.1 hr
          have hsame : ((r1 + r2 : Int) != f + h + by_) = false := by rw [bne_eq_false_iff_eq]; exact E1.out
          unfold acc at hck
          have Hck := Lib.hid hck
          have Hr := Lib.hid hr
          clear hck hr hA hx hWA hWB
          go_wp2_with fail
          refine (Hck.out _).mono ?_
          rintro e' v3 ⟨rfl, rfl⟩
          go_wp2_with fail
          go_roundw
          case rel => exact ⟨k + 1, r1, r2, r3, by omega, by omega, by go_num, by rw [E1.out], Hr, gC, hxw.alloc hxw.size _⟩
          case measure => simp [intOf]; omega
        · have hWA : Holds ((((v2).setCell ⟨wr.heap.size, 0, none⟩ (.int .i64 r1)).setCell ⟨wr.heap.size, 1, none⟩ (.int .i64 r2)).setCell ⟨wr.heap.size, 2, none⟩ (.int .i64 r3)) bA [.int .i64 f, .int .i64 h, .int .i64 q] := Holds.other3 (hA.below hc2) (by have := hA.1; omega)
          have hWB : Holds ((((v2).setCell ⟨wr.heap.size, 0, none⟩ (.int .i64 r1)).setCell ⟨wr.heap.size, 1, none⟩ (.int .i64 r2)).setCell ⟨wr.heap.size, 2, none⟩ (.int .i64 r3)) wr.heap.size [.int .i64 r1, .int .i64 r2, .int .i64 r3] := Holds.set3 ((show Holds ((wr.alloc (.cells #[.int .i64 0, .int .i64 0, .int .i64 0] 23)).drew) wr.heap.size [.int .i64 0, .int .i64 0, .int .i64 0] from Holds.new wr #[.int .i64 0, .int .i64 0, .int .i64 0] 23).below hb2) _ _ _
          have hWx : Below w.heap.size w ((((v2).setCell ⟨wr.heap.size, 0, none⟩ (.int .i64 r1)).setCell ⟨wr.heap.size, 1, none⟩ (.int .i64 r2)).setCell ⟨wr.heap.size, 2, none⟩ (.int .i64 r3)) := (((below_next hx hc2).setCell (p := ⟨wr.heap.size, 0, none⟩) hx.size _).setCell (p := ⟨wr.heap.size, 1, none⟩) hx.size _).setCell (p := ⟨wr.heap.size, 2, none⟩) hx.size _
          clear hb2 hs2 hq2 hf2 hd La La1 La2 Lt0 Lt1 Lt2 Lt3
          generalize (((v2).setCell ⟨wr.heap.size, 0, none⟩ (.int .i64 r1)).setCell ⟨wr.heap.size, 1, none⟩ (.int .i64 r2)).setCell ⟨wr.heap.size, 2, none⟩ (.int .i64 r3) = wz at *
          generalize wr.heap.size = bB at *
          have gA := Holds.set3 hWA (.int .i64 r1) (.int .i64 r2) (.int .i64 r3)
          have gC := gA.alloc (.cells #[.int .i64 r1, .int .i64 r2, .int .i64 r3] 23)
          have hxw : Below w.heap.size w ((((wz).setCell ⟨bA, 0, none⟩ (.int .i64 r1)).setCell ⟨bA, 1, none⟩ (.int .i64 r2)).setCell ⟨bA, 2, none⟩ (.int .i64 r3)) := ((hWx.setCell (p := ⟨bA, 0, none⟩) hsz _).setCell (p := ⟨bA, 1, none⟩) hsz _).setCell (p := ⟨bA, 2, none⟩) hsz _
          have lA := hWA.1
          have lB := hWB.1
          have zA := hWA.2.2
          have b0 := hWB.at_ 0 rfl
          have b1 := hWB.at_ 1 rfl
          have b2 := hWB.at_ 2 rfl
          have w0_ := hWA.at_ 0 rfl
          have w1_ := hWA.at_ 1 rfl
          have w2_ := hWA.at_ 2 rfl
          have g0 := gA.at_ 0 rfl
          have g1 := gA.at_ 1 rfl
          have g2 := gA.at_ 2 rfl
          have i0 := gC.at_ 0 rfl
          have i1 := gC.at_ 1 rfl
          have i2 := gC.at_ 2 rfl
          have hck := fun w' => rcheck_yes hr w'
          obtain ⟨p1, p2, p3, p4, p5, p6, p7⟩ := Ac.okA_iff.1 hr
          have hsame : ((r1 + r2 : Int) != f + h + by_) = false := by rw [bne_eq_false_iff_eq]; exact E1.out
          unfold acc at hck
          have Hck := Lib.hid hck
          have Hr := Lib.hid hr
          clear hck hr hA hx hWA hWB
          go_wp2_with fail
          refine (Hck.out _).mono ?_
          rintro e' v3 ⟨rfl, rfl⟩
          go_wp2_with fail
          go_roundw
          case rel => exact ⟨k + 1, r1, r2, r3, by omega, by omega, by go_num, by rw [E1.out], Hr, gC, hxw.alloc hxw.size _⟩
          case measure => simp [intOf]; omega
      · clear q1 q2 q3 q4 q5 q6 q7
        have z1 : (e == 0) = false := by rw [beq_eq_false_iff_ne]; exact he
        have E1 := Lib.hid hsum
        clear hsum he
        have hd : Below wr.heap.size wr wr.drew := (Below.refl _ _).drew
        have La : ∀ wx : World, Below wr.heap.size wr wx → wx.cell? ⟨bA, 0, none⟩ = some (.int .i64 f) := fun wx h => (hA.below h).at_ 0 rfl
        have La1 : ∀ wx : World, Below wr.heap.size wr wx → wx.cell? ⟨bA, 1, none⟩ = some (.int .i64 h) := fun wx h => (hA.below h).at_ 1 rfl
        have La2 : ∀ wx : World, Below wr.heap.size wr wx → wx.cell? ⟨bA, 2, none⟩ = some (.int .i64 q) := fun wx h => (hA.below h).at_ 2 rfl
        have Lt0 : ∀ wx : World, Below wr.heap.size wr wx → wx.cell? ⟨b, o + k * 4, none⟩ = some (.int .u8 (s.k : Int)) := fun wx h => (h.cell (p := ⟨b, o + k * 4, none⟩) hbr).trans t0
        have Lt1 : ∀ wx : World, Below wr.heap.size wr wx → wx.cell? ⟨b, o + k * 4 + 1, none⟩ = some (.int .i64 s.n) := fun wx h => (h.cell (p := ⟨b, o + k * 4 + 1, none⟩) hbr).trans t1
        have Lt2 : ∀ wx : World, Below wr.heap.size wr wx → wx.cell? ⟨b, o + k * 4 + 2, none⟩ = some (.int .i64 s.u) := fun wx h => (h.cell (p := ⟨b, o + k * 4 + 2, none⟩) hbr).trans t2
        have Lt3 : ∀ wx : World, Below wr.heap.size wr wx → wx.cell? ⟨b, o + k * 4 + 3, none⟩ = some (.int .i64 s.t) := fun wx h => (h.cell (p := ⟨b, o + k * 4 + 3, none⟩) hbr).trans t3
        clear t0 t1 t2 t3 a0 a1 a2
        go_wp2_with fail
        go_region_held (fun w' => Below wr.heap.size wr w') (repeat (first | exact hd | exact hc2 | exact Below.refl _ _ | refine Below.drew ?_ | assumption | refine Below.setCell ?_ (by first | exact hc2.size | exact Nat.le_refl _) _ | refine Below.drew ?_ | refine Below.alloc ?_ (by first | exact hc2.size | exact Nat.le_refl _) _)) (first | (go_at_call 42; refine (Hst.out _).mono ?_; rintro e' v2 ⟨rfl, hb2⟩; have hc2 : Below wr.heap.size wr v2 := below_next (by assumption) hb2; have hs2 := hb2.size; obtain ⟨hq2, hf2⟩ := bcell hb2))
        · have hWA : Holds (v2.alloc (.cells #[.int .i64 r1, .int .i64 r2, .int .i64 r3] 23)) bA [.int .i64 f, .int .i64 h, .int .i64 q] := (hA.below hc2).alloc _
          have hWB : Holds (v2.alloc (.cells #[.int .i64 r1, .int .i64 r2, .int .i64 r3] 23)) v2.heap.size [.int .i64 r1, .int .i64 r2, .int .i64 r3] := Holds.new v2 #[.int .i64 r1, .int .i64 r2, .int .i64 r3] _
          have hWx : Below w.heap.size w (v2.alloc (.cells #[.int .i64 r1, .int .i64 r2, .int .i64 r3] 23)) := (below_next hx hc2).alloc (below_next hx hc2).size _
          clear hb2 hs2 hq2 hf2 hd La La1 La2 Lt0 Lt1 Lt2 Lt3
          generalize v2.alloc (.cells #[.int .i64 r1, .int .i64 r2, .int .i64 r3] 23) = wz at *
          generalize v2.heap.size = bB at *
          have gA := Holds.set3 hWA (.int .i64 r1) (.int .i64 r2) (.int .i64 r3)
          have gC := gA.alloc (.cells #[.int .i64 r1, .int .i64 r2, .int .i64 r3] 23)
          have hxw : Below w.heap.size w ((((wz).setCell ⟨bA, 0, none⟩ (.int .i64 r1)).setCell ⟨bA, 1, none⟩ (.int .i64 r2)).setCell ⟨bA, 2, none⟩ (.int .i64 r3)) := ((hWx.setCell (p := ⟨bA, 0, none⟩) hsz _).setCell (p := ⟨bA, 1, none⟩) hsz _).setCell (p := ⟨bA, 2, none⟩) hsz _
          have lA := hWA.1
          have lB := hWB.1
          have zA := hWA.2.2
          have b0 := hWB.at_ 0 rfl
          have b1 := hWB.at_ 1 rfl
          have b2 := hWB.at_ 2 rfl
          have w0_ := hWA.at_ 0 rfl
          have w1_ := hWA.at_ 1 rfl
          have w2_ := hWA.at_ 2 rfl
          have g0 := gA.at_ 0 rfl
          have g1 := gA.at_ 1 rfl
          have g2 := gA.at_ 2 rfl
          have i0 := gC.at_ 0 rfl
          have i1 := gC.at_ 1 rfl
          have i2 := gC.at_ 2 rfl
          have hck := fun w' => rcheck_yes hr w'
          obtain ⟨p1, p2, p3, p4, p5, p6, p7⟩ := Ac.okA_iff.1 hr
          have hsame : ((r1 + r2 : Int) != f + h) = false := by rw [bne_eq_false_iff_eq]; exact E1.out
          unfold acc at hck
          have Hck := Lib.hid hck
          have Hr := Lib.hid hr
          clear hck hr hA hx hWA hWB
          go_wp2_with fail
          refine (Hck.out _).mono ?_
          rintro e' v3 ⟨rfl, rfl⟩
          go_wp2_with fail
          go_roundw
          case rel => exact ⟨k + 1, r1, r2, r3, by omega, by omega, by go_num, by rw [E1.out], Hr, gC, hxw.alloc hxw.size _⟩
          case measure => simp [intOf]; omega
        · have hWA : Holds ((((v2).setCell ⟨wr.heap.size, 0, none⟩ (.int .i64 r1)).setCell ⟨wr.heap.size, 1, none⟩ (.int .i64 r2)).setCell ⟨wr.heap.size, 2, none⟩ (.int .i64 r3)) bA [.int .i64 f, .int .i64 h, .int .i64 q] := Holds.other3 (hA.below hc2) (by have := hA.1; omega)
          have hWB : Holds ((((v2).setCell ⟨wr.heap.size, 0, none⟩ (.int .i64 r1)).setCell ⟨wr.heap.size, 1, none⟩ (.int .i64 r2)).setCell ⟨wr.heap.size, 2, none⟩ (.int .i64 r3)) wr.heap.size [.int .i64 r1, .int .i64 r2, .int .i64 r3] := Holds.set3 ((show Holds ((wr.alloc (.cells #[.int .i64 0, .int .i64 0, .int .i64 0] 23)).drew) wr.heap.size [.int .i64 0, .int .i64 0, .int .i64 0] from Holds.new wr #[.int .i64 0, .int .i64 0, .int .i64 0] 23).below hb2) _ _ _
          have hWx : Below w.heap.size w ((((v2).setCell ⟨wr.heap.size, 0, none⟩ (.int .i64 r1)).setCell ⟨wr.heap.size, 1, none⟩ (.int .i64 r2)).setCell ⟨wr.heap.size, 2, none⟩ (.int .i64 r3)) := (((below_next hx hc2).setCell (p := ⟨wr.heap.size, 0, none⟩) hx.size _).setCell (p := ⟨wr.heap.size, 1, none⟩) hx.size _).setCell (p := ⟨wr.heap.size, 2, none⟩) hx.size _
          clear hb2 hs2 hq2 hf2 hd La La1 La2 Lt0 Lt1 Lt2 Lt3
          generalize (((v2).setCell ⟨wr.heap.size, 0, none⟩ (.int .i64 r1)).setCell ⟨wr.heap.size, 1, none⟩ (.int .i64 r2)).setCell ⟨wr.heap.size, 2, none⟩ (.int .i64 r3) = wz at *
          generalize wr.heap.size = bB at *
          have gA := Holds.set3 hWA (.int .i64 r1) (.int .i64 r2) (.int .i64 r3)
          have gC := gA.alloc (.cells #[.int .i64 r1, .int .i64 r2, .int .i64 r3] 23)
          have hxw : Below w.heap.size w ((((wz).setCell ⟨bA, 0, none⟩ (.int .i64 r1)).setCell ⟨bA, 1, none⟩ (.int .i64 r2)).setCell ⟨bA, 2, none⟩ (.int .i64 r3)) := ((hWx.setCell (p := ⟨bA, 0, none⟩) hsz _).setCell (p := ⟨bA, 1, none⟩) hsz _).setCell (p := ⟨bA, 2, none⟩) hsz _
          have lA := hWA.1
          have lB := hWB.1
          have zA := hWA.2.2
          have b0 := hWB.at_ 0 rfl
          have b1 := hWB.at_ 1 rfl
          have b2 := hWB.at_ 2 rfl
          have w0_ := hWA.at_ 0 rfl
          have w1_ := hWA.at_ 1 rfl
          have w2_ := hWA.at_ 2 rfl
          have g0 := gA.at_ 0 rfl
          have g1 := gA.at_ 1 rfl
          have g2 := gA.at_ 2 rfl
          have i0 := gC.at_ 0 rfl
          have i1 := gC.at_ 1 rfl
          have i2 := gC.at_ 2 rfl
          have hck := fun w' => rcheck_yes hr w'
          obtain ⟨p1, p2, p3, p4, p5, p6, p7⟩ := Ac.okA_iff.1 hr
          have hsame : ((r1 + r2 : Int) != f + h) = false := by rw [bne_eq_false_iff_eq]; exact E1.out
          unfold acc at hck
          have Hck := Lib.hid hck
          have Hr := Lib.hid hr
          clear hck hr hA hx hWA hWB
          go_wp2_with fail
          refine (Hck.out _).mono ?_
          rintro e' v3 ⟨rfl, rfl⟩
          go_wp2_with fail
          go_roundw
          case rel => exact ⟨k + 1, r1, r2, r3, by omega, by omega, by go_num, by rw [E1.out], Hr, gC, hxw.alloc hxw.size _⟩
          case measure => simp [intOf]; omega
    · have hck := fun w' => rcheck_yes hok.out w'
      unfold acc at hck
      have Hck := Lib.hid hck
      have a0 := hA.at_ 0 rfl
      have a1 := hA.at_ 1 rfl
      have a2 := hA.at_ 2 rfl
      clear hck r0 hr0'
      by_cases hkm : k < m0
      · have hk6' : ¬ (k : Int) < 60 := by omega
        have hkm' : (k : Int) < (m0 : Int) := by omega
        clear hlt
        go_wp2_with fail
        refine (Hck.out _).mono ?_
        rintro e' v3 ⟨rfl, rfl⟩
        have hx3 := hx.alloc hx.size (.cells #[.int .i64 f, .int .i64 h, .int .i64 q] 23)
        go_wp2_with fail
        refine (Haw.out _).mono ?_
        rintro e' v4 ⟨rfl, hb⟩
        go_wp2_with fail
        go_ret
        exact ⟨rfl, below_next hx3 hb⟩
      · have hkm' : ¬ (k : Int) < (m0 : Int) := by omega
        clear hlt
        go_wp2_with fail
        refine (Hck.out _).mono ?_
        rintro e' v3 ⟨rfl, rfl⟩
        have hx3 := hx.alloc hx.size (.cells #[.int .i64 f, .int .i64 h, .int .i64 q] 23)
        go_wp2_with fail
        refine (Haw.out _).mono ?_
        rintro e' v4 ⟨rfl, hb⟩
        go_wp2_with fail
        go_ret
        exact ⟨rfl, below_next hx3 hb⟩
set_option maxRecDepth 100000 in
theorem lifted (os : Os) (started : os.Started) (H : Type) (enc : TypeId × Value → H) :
    ReturnsInHanded {} Try.checked os 9 .any (Rows.rightsKeptSpec.pre6 enc Try.prog Try.f9 Rows.rightsKeptRow.domain false) (Rows.rightsKeptSpec.post enc Try.prog Try.f9 false true false false) := by
  refine returnsInHanded_of_change (C := Try.checked) own started (by kernel_rfl) Try.func9
    (ChangeSpec.witness6 (enc := enc) (C := Try.checked) false ⟨#[], #[.slice none 0 0], []⟩ 8 (by kernel_rfl) (by kernel_rfl) (by kernel_rfl) (by kernel_rfl)) ?_
  intro W base args ds gs before hval0 hW hcnd _
  have hval : ∀ (j : Nat) t v, Try.f9.params[j]? = some t → args[j]? = some v → Value.okWide Try.prog W .any base t v := hval0
  have hW' := hW
  obtain ⟨p, q, hA0, hV, rfl, hfz, hnd⟩ := hW
  have hA : DataW.TrodAll enc Try.prog W 0 (fun _ => true) true Try.f9.params.toList args.toList ds p := hA0
  rw [Try.params9] at hA hval
  obtain ⟨v0, vs0, d0, ds0, p0, q0, hargs, rfl, rfl, h0, t0⟩ := trodAll_cons hA
  obtain ⟨rfl, rfl, rfl⟩ := trodAll_nil t0
  obtain rfl : args = #[v0] := by cases args; simp_all
  obtain ⟨rfl, rfl⟩ := trodVars_none hV
  have k0 : Reads enc W 46 v0 d0 p0 := h0
  have lt0 : ∀ x ∈ p0, x.block < W.heap.size := by obtain ⟨m, hm⟩ := k0; exact DataW.trod_lt m _ _ _ hm
  obtain ⟨A0, m0, c0, l0, rfl, r0, wc0, w0⟩ := in_steps (hval 0 46 v0 rfl rfl) k0
  clear hA0 hval0
  refine (walk A0 m0 c0 l0 W r0 wc0 w0).mono fun e W' ⟨he, bel⟩ => ?_
  subst he
  exact ⟨_, rfl, _, _, _, [], _, [], hW', trodAll_mk1 (shut_bool Try.underlying4 _), (trodAll_cons_mk (Below.trod laidOut (by kernel_rfl) (of_decide_eq_true (by kernel_rfl)) k0 bel lt0) trodAll_mk0), rfl, bel.frame _, fun h => by cases h⟩
theorem over : Rows.rightsKeptRow.holds Try.pinned (OpenSpec.ofChange Rows.rightsKeptSpec) :=
  OpenClaim.holds_of_wide 9 Try.f9 rfl rfl rfl rfl rfl rfl rfl ⟨rfl, rfl, rfl, rfl, rfl⟩ rfl rfl rfl rfl rfl (by kernel_rfl) Try.func9 (by kernel_rfl)
    (of_decide_eq_true (by kernel_rfl)) (by unfold Func.isWrapper; first | (rw [if_pos (by decide +kernel)]; kernel_rfl) | (rw [if_neg (by decide +kernel)]; exact ⟨rfl, rfl⟩))
    (fun os started H enc _ => lifted os started H enc)
theorem proved : Rows.RightsKeptSaid := over
end Go.Proofs.Ytionaciiaahacaa.rightsKept
