/- WalNobody: logs that nobody made. -/
import Derived.Test.YtahoiabibjdobaaWlNil
import Derived.Test.YtahoiabibjdobaaM12
namespace Go.Proofs.Ytahoiabibjdobaa
open Go.RowKit Fi Fr
set_option linter.unusedVariables false
set_option linter.unusedSimpArgs false
theorem run_toP (A : Option Addr) (n c t : Nat) (ht : t ≤ n) (hc : n ≤ c) (w : World) : (Instr.slice 32 (.slice A n c) none (some (.int .i64 (t : Int))) none).run Try.prog w = .ok (.slice A t c) w := by
  have h2 : t ≤ c := by omega
  simp [Instr.slice, run_underlying Try.underlying32, Instr.sliceBounds, Instr.sliceBound, asIntOf, go_sem, h2]
set_option maxRecDepth 100000 in
set_option maxHeartbeats 8000000 in
theorem nobody_any (RA : Option Addr) (rn rc : Nat) (L : List (List Nat)) (S : Fi.Pl) (A : Option Addr) (c : Nat) (B : Option Addr) (m bc : Nat) (w : World) (hr : RdB w RA rn L) (hrn : rn ≤ 9223372036854775807) (hc : S.ps.length ≤ c) (hw : S.ps.length ≤ 9223372036854775807) :
    Calls Try.prog 5 #[.slice RA rn rc, .agg #[.int .i64 S.i, .int .i64 S.e, .slice A S.ps.length c], .slice B m bc] w fun e w' => e = .returned (.bool true) ∧ Below w.heap.size w w' := by
  obtain ⟨k, hk⟩ : ∃ k : Nat, k = min S.ps.length 66 := ⟨_, rfl⟩
  have hmin : min (S.ps.length : Int) 66 = (k : Int) := by omega
  have hmin2 : (if (66 : Int) < (S.ps.length : Int) then (66 : Int) else (S.ps.length : Int)) = (k : Int) := by split <;> omega
  have hkl : k ≤ S.ps.length := by omega
  have hsl := fun (W : World) => run_toP A S.ps.length c k hkl hc W
  have HR := Lib.hid hr
  have hfd : ∀ W : World, (Instr.field 60 (.agg #[.int .i64 0, .int .i64 0, .slice none 0 0, .int .i64 0, .int .i64 0]) 2).run Try.prog W = .ok (.int .i64 0) W := fun W => by kernel_rfl
  clear hr hk
  go_enter Try.func5, Try.ntmps5
  go_wp2_with fail
  have HX := Lib.hid (show Holds (((w.alloc (.cells #[.int .i64 S.i, .int .i64 S.e, .slice A k c] 34)).alloc (.cells #[.int .i64 0, .int .i64 0, .slice none 0 0, .int .i64 0, .int .i64 0, .pointer none, .int .i64 0, .int .i64 0] 57)).alloc (.cells #[.pointer none, .pointer (some ⟨w.heap.size + 1, 0, none⟩)] 28)) w.heap.size [.int .i64 S.i, .int .i64 S.e, .slice A k c] from ((Holds.new w #[.int .i64 S.i, .int .i64 S.e, .slice A k c] 34).alloc _).alloc _)
  have HZ := Lib.hid (show Holds (((w.alloc (.cells #[.int .i64 S.i, .int .i64 S.e, .slice A k c] 34)).alloc (.cells #[.int .i64 0, .int .i64 0, .slice none 0 0, .int .i64 0, .int .i64 0, .pointer none, .int .i64 0, .int .i64 0] 57)).alloc (.cells #[.pointer none, .pointer (some ⟨w.heap.size + 1, 0, none⟩)] 28)) (w.heap.size + 1) [.int .i64 0, .int .i64 0, .slice none 0 0, .int .i64 0, .int .i64 0, .pointer none, .int .i64 0, .int .i64 0] from by
    have h := (Holds.new (w.alloc (.cells #[.int .i64 S.i, .int .i64 S.e, .slice A k c] 34)) #[.int .i64 0, .int .i64 0, .slice none 0 0, .int .i64 0, .int .i64 0, .pointer none, .int .i64 0, .int .i64 0] 57).alloc (.cells #[.pointer none, .pointer (some ⟨w.heap.size + 1, 0, none⟩)] 28)
    simpa using h)
  have HP := Lib.hid (show Holds (((w.alloc (.cells #[.int .i64 S.i, .int .i64 S.e, .slice A k c] 34)).alloc (.cells #[.int .i64 0, .int .i64 0, .slice none 0 0, .int .i64 0, .int .i64 0, .pointer none, .int .i64 0, .int .i64 0] 57)).alloc (.cells #[.pointer none, .pointer (some ⟨w.heap.size + 1, 0, none⟩)] 28)) (w.heap.size + 1 + 1) [.pointer none, .pointer (some ⟨w.heap.size + 1, 0, none⟩)] from by
    have h := Holds.new ((w.alloc (.cells #[.int .i64 S.i, .int .i64 S.e, .slice A k c] 34)).alloc (.cells #[.int .i64 0, .int .i64 0, .slice none 0 0, .int .i64 0, .int .i64 0, .pointer none, .int .i64 0, .int .i64 0] 57)) #[.pointer none, .pointer (some ⟨w.heap.size + 1, 0, none⟩)] 28
    simpa using h)
  have HB := Lib.hid (show Below w.heap.size w (((w.alloc (.cells #[.int .i64 S.i, .int .i64 S.e, .slice A k c] 34)).alloc (.cells #[.int .i64 0, .int .i64 0, .slice none 0 0, .int .i64 0, .int .i64 0, .pointer none, .int .i64 0, .int .i64 0] 57)).alloc (.cells #[.pointer none, .pointer (some ⟨w.heap.size + 1, 0, none⟩)] 28)) by repeat (first | exact Below.refl _ _ | refine Below.alloc ?_ (by simp <;> omega) _))
  generalize (((w.alloc (.cells #[.int .i64 S.i, .int .i64 S.e, .slice A k c] 34)).alloc (.cells #[.int .i64 0, .int .i64 0, .slice none 0 0, .int .i64 0, .int .i64 0, .pointer none, .int .i64 0, .int .i64 0] 57)).alloc (.cells #[.pointer none, .pointer (some ⟨w.heap.size + 1, 0, none⟩)] 28)) = u at *
  have HRu := Lib.hid (fun (W : World) (hW : Below u.heap.size u W) => HR.out.below (below_next HB.out hW))
  clear hsl hmin hmin2 HR
  go_loopw [27] (fun ii wr => ∃ j : Nat, j ≤ 2 ∧ ii = .int .i64 (j : Int) ∧ Hid (Below u.heap.size u wr)) (fun ii _ => 2 - (intOf ii).toNat)
  case atStart => exact ⟨0, by omega, rfl, Lib.hid (Below.refl _ _)⟩
  case round =>
    obtain ⟨j, hj, rfl, HBr⟩ := hrel
    by_cases hj2 : j < 2
    · have hji : (j : Int) < 2 := by omega
      have hj0 : (0 : Int) ≤ (j : Int) := by omega
      obtain ⟨x, hx, hN⟩ : ∃ x : Value, wr.cell? ⟨w.heap.size + 1 + 1, j, none⟩ = some x ∧ NoLog wr x := by
        have hp := HP.out.below HBr.out
        rcases (show j = 0 ∨ j = 1 by omega) with rfl | rfl
        · exact ⟨.pointer none, hp.at_ 0 rfl, .inl rfl⟩
        · exact ⟨_, hp.at_ 1 rfl, .inr ⟨_, rfl, HZ.out.below HBr.out⟩⟩
      have HN := Lib.hid hN
      have CL := Lib.hid (light_any (fun _ => True) RA rn rc L wr (HRu.out wr HBr.out) hrn)
      clear hN hj2
      go_wp2_with fail
      refine CL.out.mono ?_
      rintro e v1 ⟨hb1, LB, lc, rfl, _, _, _⟩
      have HN1 := Lib.hid (HN.out.below hb1)
      have HB1 := Lib.hid (below_next HBr.out hb1)
      clear hb1 CL HN HBr hx
      go_wp2_with fail
      refine (add_no x v1 HN1.out LB _ lc).mono ?_
      rintro e v ⟨rfl, rfl⟩
      go_wp2_with fail
      refine (fits_no x v1 HN1.out B m bc).mono ?_
      rintro e v ⟨rfl, rfl⟩
      go_wp2_with fail
      refine (frames_no x v1 HN1.out).mono ?_
      rintro e v ⟨rfl, rfl⟩
      go_wp2_with fail
      refine (left_no x v1 HN1.out).mono ?_
      rintro e v ⟨rfl, rfl⟩
      go_wp2_with fail
      refine (records_no x v1 HN1.out).mono ?_
      rintro e v ⟨rfl, rfl⟩
      go_wp2_with fail
      refine (part_no x v1 HN1.out).mono ?_
      rintro e v2 ⟨rfl, hb2⟩
      have HB2 := Lib.hid (below_next HB1.out hb2)
      clear hb2 HN1 HB1
      go_wp2_with fail
      go_roundw
      case rel => exact ⟨j + 1, by omega, by go_num, HB2⟩
      case measure => simp [intOf]; omega
    · have hji : ¬ (j : Int) < 2 := by omega
      have x0 := (HX.out.below HBr.out).at_ 0 rfl
      have x1 := (HX.out.below HBr.out).at_ 1 rfl
      have x2 := (HX.out.below HBr.out).at_ 2 rfl
      clear hfd
      go_wp2_with fail
      refine (wopen_no S.i S.e A k c 2 S.e wr).mono ?_
      rintro e v1 ⟨rfl, hb1⟩
      have HB1 := Lib.hid (below_next HB.out (below_next HBr.out hb1))
      clear hb1 x0 x1 x2
      go_wp2_with fail
      refine (awake_any v1).mono ?_
      rintro e v2 ⟨rfl, hb2⟩
      have HB2 := Lib.hid (below_next HB1.out hb2)
      clear hb2
      go_wp2
      go_ret
      exact ⟨rfl, HB2.out⟩
end Go.Proofs.Ytahoiabibjdobaa
