/- The law's example. -/
import Derived.Test.YtamdihodconjiaaDkAny
import Derived.Lib.SlBytesConst
namespace Go.Proofs.Ytamdihodconjiaa
open Go.RowKit
set_option linter.unusedVariables false
def exX : List Nat := Dk.full [120, 120, 120, 120, 120]
def exY : List Nat := Dk.full [121, 121, 121, 121, 121]
def ex0 : Dk.St := Dk.St.new 2
def ex1 : Dk.St := ex0.write 0 exX
def ex2 : Dk.St := ex1.write 0 exY
theorem ex_e1 : ex0.writeE 0 exX.length = 0 := by kernel_rfl
theorem ex_e2 : ex1.writeE 0 exY.length = 0 := by kernel_rfl
theorem ex_n : ex2.n = 2 := by kernel_rfl
theorem ex_loose : ex2.loose = [(0, 2)] := by kernel_rfl
theorem ex_crash : ex2.crashE [⟨1, 3⟩] = 0 := by kernel_rfl
theorem ex_ready : (ex2.crash [⟨1, 3⟩]).ready 0 = 0 := by kernel_rfl
theorem ex_read : ((ex2.crash [⟨1, 3⟩]).readB 0).take 6 = [121, 121, 121, 120, 120, 0] := by kernel_rfl
theorem ex_low0 : ex0.low 10 := ⟨by decide, by decide, by decide, by decide, fun s hs => by
  have : s = ⟨Dk.zeros, []⟩ := List.eq_of_mem_replicate hs
  subst this
  simp⟩
theorem ex_low1 : ex1.low 10 := ⟨by decide +kernel, by decide +kernel, by decide +kernel, by decide +kernel, by decide +kernel⟩
set_option maxRecDepth 100000 in
set_option maxHeartbeats 4000000 in
theorem awake_any (w : World) : Calls Try.prog 10 #[] w fun e w' => e = .returned (.bool true) ∧ Below w.heap.size w w' := by
  go_enter Try.func10, Try.ntmps10
  go_wp2_with fail
  refine (new_any 2 w).mono ?_
  intro e w1 hg
  rcases hg with ⟨_, _, d, lab, rfl, hD, hb, hl⟩ | ⟨h, _⟩
  · have HD := Lib.hid hD
    have HB := Lib.hid hb
    have HL := Lib.hid hl
    clear hD hb hl
    have kc := fun (w : World) (C : Array Value) (n c : Nat) => Lib.run_convert_bytes_const (P := Try.prog) w 35 5 C n c Try.underlying35 Try.underlying5
    have r1 := rd_new w1 [120, 120, 120, 120, 120] (by decide) (5, 6)
    replace r1 : Rd (w1.alloc (.cells #[.int .u8 120, .int .u8 120, .int .u8 120, .int .u8 120, .int .u8 120] 5 (5, 6))) (some ⟨w1.heap.size, 0, none⟩) 5 [120, 120, 120, 120, 120] := r1
    have b1 : Below w1.heap.size w1 (w1.alloc (.cells #[.int .u8 120, .int .u8 120, .int .u8 120, .int .u8 120, .int .u8 120] 5 (5, 6))) := (Below.refl _ _).alloc (Nat.le_refl _) _
    have R1 := Lib.hid r1
    have B1 := Lib.hid b1
    clear r1 b1
    go_wp2_with fail
    generalize (w1.alloc (.cells #[.int .u8 120, .int .u8 120, .int .u8 120, .int .u8 120, .int .u8 120] 5 (5, 6))) = w2 at *
    refine (full_any (some ⟨w1.heap.size, 0, none⟩) 5 5 _ w2 R1.out).mono ?_
    rintro e w3 ⟨rfl, hb3, hx3⟩
    have B3 := Lib.hid hb3
    have X3 := Lib.hid hx3
    clear hb3 hx3
    have r4 := rd_new w3 [121, 121, 121, 121, 121] (by decide) (5, 6)
    replace r4 : Rd (w3.alloc (.cells #[.int .u8 121, .int .u8 121, .int .u8 121, .int .u8 121, .int .u8 121] 5 (5, 6))) (some ⟨w3.heap.size, 0, none⟩) 5 [121, 121, 121, 121, 121] := r4
    have b4 : Below w3.heap.size w3 (w3.alloc (.cells #[.int .u8 121, .int .u8 121, .int .u8 121, .int .u8 121, .int .u8 121] 5 (5, 6))) := (Below.refl _ _).alloc (Nat.le_refl _) _
    have R4 := Lib.hid r4
    have B4 := Lib.hid b4
    clear r4 b4
    generalize hq : w2.heap.size = q at *
    have Hq := Lib.hid hq
    clear hq
    go_wp2_with fail
    generalize (w3.alloc (.cells #[.int .u8 121, .int .u8 121, .int .u8 121, .int .u8 121, .int .u8 121] 5 (5, 6))) = w4 at *
    refine (full_any (some ⟨w3.heap.size, 0, none⟩) 5 5 _ w4 R4.out).mono ?_
    rintro e w5 ⟨rfl, hb5, hx5⟩
    have B5 := Lib.hid hb5
    have X5 := Lib.hid hx5
    clear hb5 hx5 kc
    go_wp2_with fail
    have B3' : Below w2.heap.size w2 w3 := by rw [Hq.out]; exact B3.out
    have c13 := below_next B1.out B3'
    have c14 := below_next c13 B4.out
    have c15 := below_next c14 B5.out
    have c35 := below_next B4.out B5.out
    have HW := Lib.hid (HB.out.trans (c15.mono HB.out.size))
    have D5 := Lib.hid (HD.out.below c15)
    have hq0 : lab q = .no := HD.out.new_ (by have := B1.out.size; have := Hq.out; omega)
    have hy0 : lab w4.heap.size = .no := HD.out.new_ c14.size
    have X5' := X3.out.below c35
    have hw1 := write_any 0 (some ⟨q, 0, none⟩) 128 128 10 exX w5 d lab ex0 D5.out X5'.all ex_low0 (by omega) (by omega)
    rw [ex_e1] at hw1
    have HS5 := Lib.hid (show w.heap.size ≤ w5.heap.size from HW.out.size)
    have Hq0 := Lib.hid hq0
    have Hy0 := Lib.hid hy0
    have Hys := Lib.hid X5.out.lt
    clear B3' c13 c14 c15 c35 hq0 hy0 X5'
    generalize w4.heap.size = y at *
    refine hw1.mono ?_
    clear hw1
    rintro e w6 ⟨rfl, lab1, hD6, hC6, hL6⟩
    have D6 := Lib.hid hD6
    have HW6 := Lib.hid (hC6.below HW.out HL.out HS5.out)
    have HL1 := Lib.hid (hL6.above HL.out HS5.out)
    have Y6 := Lib.hid (X5.out.chg hC6 Hy0.out)
    clear hD6 hC6 hL6
    have hw2 := write_any 0 (some ⟨y, 0, none⟩) 128 128 10 exY w6 d lab1 ex1 D6.out Y6.out.all ex_low1 (by omega) (by omega)
    rw [ex_e2] at hw2
    have HWr := Lib.hid hw2
    clear hw2
    go_wp2_with fail
    refine HWr.out.mono ?_
    rintro e w7 ⟨rfl, lab2, hD7, hC7, hL7⟩
    have D7 := Lib.hid hD7
    have HW7 := Lib.hid (hC7.below HW6.out HL1.out HW6.out.size)
    clear hD7 hC7 hL7
    go_wp2_with fail
    refine (loose_any w7 d lab2 ex2 D7.out).mono ?_
    rintro e w8 ⟨A, cap, rfl, hO8, hb8⟩
    rw [ex_loose] at hO8
    have HE := Lib.hid ex_loose
    rw [HE.out]
    obtain ⟨p, rfl, hp1, hp2⟩ := hO8.form (by show 0 < 1; omega)
    obtain ⟨pb, po, hpe, _, hp0, hp3⟩ := hO8.rd.two (i := 0) (by show 0 < 1; omega) rfl rfl
    injection hpe with hpe
    injection hpe with hpe1 hpe2
    subst hpe1 hpe2
    have P0 := Lib.hid hp0
    have P1 := Lib.hid hp3
    have HP2 := Lib.hid hp2
    have B8 := Lib.hid hb8
    have rc := rdc_new 2 w8 55 [.int .i64 1, .int .i64 3] 1 rfl (0, 0)
    have RC := Lib.hid (show RdC 2 (w8.alloc (.cells #[.int .i64 1, .int .i64 3] 55)) (some ⟨w8.heap.size, 0, none⟩) 1 (flatFa [⟨1, 3⟩]) from rc)
    have b9 : Below w8.heap.size w8 (w8.alloc (.cells #[.int .i64 1, .int .i64 3] 55)) := (Below.refl _ _).alloc (Nat.le_refl _) _
    have B9 := Lib.hid b9
    clear hO8 hp0 hp3 hb8 rc b9 hp1 hp2
    go_wp2_with fail
    generalize (w8.alloc (.cells #[.int .i64 1, .int .i64 3] 55)) = w9 at *
    have B79 := Lib.hid (below_next B8.out B9.out)
    refine (crash_any w9 d lab2 ex2 (D7.out.below B79.out) (some ⟨w8.heap.size, 0, none⟩) 1 1 [⟨1, 3⟩] RC.out rfl (by omega)).mono ?_
    rintro e w10 (⟨_, g, rfl, lab3', hG, hb10, hl10⟩ | ⟨hne, _⟩)
    · have G10 := Lib.hid hG
      have B10 := Lib.hid hb10
      clear hG hb10 hl10
      go_wp2_with fail
      refine (read_any 0 w10 g lab3' (ex2.crash [⟨1, 3⟩]) G10.out).mono ?_
      rintro e w11 ⟨A', n', c', rfl, hR, hb11, hn11, hz⟩
      obtain ⟨rfl, rfl, rfl, hbuf⟩ := hz ex_ready
      have ER := Lib.hid ex_ready
      rw [ER.out]
      have B11 := Lib.hid hb11
      have hst := run_str (cap := 128) (hR.take (k := 6) (by omega))
      rw [ex_read] at hst
      have c711 := below_next (below_next B79.out B10.out) hb11
      have c811 := below_next (below_next B9.out B10.out) hb11
      have D11 := Lib.hid (D7.out.below c711)
      have HWf := Lib.hid (HW7.out.trans (c711.mono HW7.out.size))
      have q0 := (c811.cell (p := ⟨p, 0 + 0 * 2, none⟩) HP2.out).trans P0.out
      have q1 := (c811.cell (p := ⟨p, 0 + 0 * 2 + 1, none⟩) HP2.out).trans P1.out
      replace q0 : w11.cell? ⟨p, 0, none⟩ = some (.int .i64 0) := q0
      replace q1 : w11.cell? ⟨p, 1, none⟩ = some (.int .i64 2) := q1
      replace hst : (convert 35 9 (.slice (some ⟨w10.heap.size, 0, none⟩) 6 128)).run Try.prog w11 = .ok (.string ⟨#[121, 121, 121, 120, 120, 0]⟩) w11 := hst
      clear hR hb11 hbuf c711 c811 hz hn11
      go_wp2_with fail
      refine (done_any w11 d lab2 ex2 D11.out).mono ?_
      rintro e w12 ⟨rfl, rfl⟩
      have EN := Lib.hid ex_n
      rw [EN.out]
      go_wp2
      go_ret
      exact ⟨rfl, HWf.out⟩
    · exact absurd ex_crash hne
  · exact absurd ⟨by omega, by omega⟩ h
end Go.Proofs.Ytamdihodconjiaa
