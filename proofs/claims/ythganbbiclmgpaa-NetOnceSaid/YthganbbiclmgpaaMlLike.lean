/- A net's mails against a list of the same. -/
import Derived.Test.YthganbbiclmgpaaMlAwake
import Derived.BigQuiet
namespace Go.Proofs.Ythganbbiclmgpaa
open Go.RowKit
set_option maxRecDepth 100000 in
theorem ne_self (f t : Int) (s : ByteArray) (w : World) : (binOp .neq 28 (.agg #[.int .i64 f, .int .i64 t, .string s]) (.agg #[.int .i64 f, .int .i64 t, .string s])).run Try.prog w = .ok (.bool false) w := by
  simp [go_sem]
theorem below_drewN (B : Nat) (w : World) (n : Nat) : Below B w (w.drewN n) := (Below.refl _ _).trans ⟨rfl, rfl, rfl, Nat.le_refl _, fun _ _ => rfl⟩
set_option maxRecDepth 100000 in
set_option maxHeartbeats 4000000 in
theorem like_same (g cap c : Nat) (A B : Option Addr) (l : List Ml.M) (w : World) (h : NetIs w g A cap l) (hr : RdM w B l.length l) (hl : l.length ≤ 1000) :
    Calls Try.prog 19 #[.pointer (some ⟨g, 0, none⟩), .slice B l.length c] w fun e w' => e = .returned (.bool true) ∧ Below w.heap.size w w' := by
  have HN := Lib.hid h
  have HR := Lib.hid hr
  have HL := Lib.hid (len_any g cap A l w h)
  have HAt := Lib.hid (fun i wx hx => at_any g cap A l i wx hx)
  clear h hr
  go_enter Try.func19, Try.ntmps19
  go_wp2_with fail
  refine HL.out.mono ?_
  rintro e w1 ⟨rfl, rfl⟩
  go_upto_region 4 with fail
  go_loopw [5] (fun i wr => ∃ k : Nat, k ≤ l.length ∧ i = .int .i64 (k : Int) ∧ Hid (Below w.heap.size w wr)) (fun i _ => l.length - (intOf i).toNat)
  case atStart => exact ⟨0, by omega, rfl, Lib.hid (Below.refl _ _)⟩
  case round =>
    obtain ⟨k, hk, rfl, HB⟩ := hrel
    by_cases hkl : k < l.length
    · have hki : (k : Int) < (l.length : Int) := by omega
      obtain ⟨x, hx⟩ : ∃ x, l[k]? = some x := ⟨_, List.getElem?_eq_getElem hkl⟩
      have E0 := Lib.hid (show Ml.hasE l (k : Int) = 0 by unfold Ml.hasE; rw [if_pos ⟨by omega, hki⟩])
      have E1 := Lib.hid (Ml.at_in hx)
      have Hx := Lib.hid hx
      clear hx
      obtain ⟨f, t, s⟩ := x
      go_wp2_with fail
      refine (HAt.out (k : Int) wr (HN.out.below HB.out)).mono ?_
      rintro e v1 ⟨he, hb1⟩
      rw [E0.out, E1.out] at he
      have he : e = .returned (.tuple #[.agg #[.int .i64 f, .int .i64 t, .string s], .int .i64 0]) := he
      subst he
      have hb2 : Below v1.heap.size v1 (v1.alloc (.cells #[.int .i64 f, .int .i64 t, .string s] 28)) := (Below.refl _ _).alloc (Nat.le_refl _) _
      have Hbx := Lib.hid (Holds.new v1 #[.int .i64 f, .int .i64 t, .string s] 28)
      have B2 := Lib.hid (below_next (below_next HB.out hb1) hb2)
      clear hb1 hb2
      go_upto_region 7 with fail
      generalize (v1.alloc (.cells #[.int .i64 f, .int .i64 t, .string s] 28)) = v2 at *
      obtain ⟨b, o, rfl, hbl, hcell⟩ := (HR.out.below B2.out).at_ Hx.out
      have e0 : v2.cell? ⟨b, o + k * 3, none⟩ = some (.int .i64 f) := hcell 0 _ rfl
      have e1 : v2.cell? ⟨b, o + k * 3 + 1, none⟩ = some (.int .i64 t) := hcell 1 _ rfl
      have e2 : v2.cell? ⟨b, o + k * 3 + 2, none⟩ = some (.string s) := hcell 2 _ rfl
      obtain ⟨x0, x1, x2⟩ := results3 Hbx.out
      have hne := ne_self f t s
      clear hcell hbl
      go_quiet (fail)
      rename_i nq
      have B3 := Lib.hid (below_next B2.out (below_drewN _ v2 nq))
      go_wp2_with fail
      go_roundw
      case rel => exact ⟨k + 1, by omega, by go_num, B3⟩
      case measure => simp [intOf]; omega
    · obtain rfl : k = l.length := by omega
      clear hk hkl
      go_wp2
      go_ret
      exact ⟨rfl, HB.out⟩
end Go.Proofs.Ythganbbiclmgpaa
