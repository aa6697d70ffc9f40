/- Which levels have more than they may: the document's Full, and package pick's. -/
import Derived.Test.YtpompjihmcmmaaaPkFull
namespace Go.Proofs.Ytpompjihmcmmaaa
open Go.RowKit
/-- Numbers in a row of the call's own. -/
def GivesInts (w : World) (l : List Int) (e : Ending) (w' : World) : Prop :=
  ∃ B c, e = .returned (.slice B l.length c) ∧ OwnC 1 w' w.heap.size 3 B l.length c (Pk.iv l) ∧ Below w.heap.size w w'
set_option maxRecDepth 100000 in
set_option maxHeartbeats 4000000 in
theorem rfull_any (a b : Int) (L : Option Addr) (ln lc : Nat) (A : Option Addr) (n c : Nat) (l : List Pk.Tb) (w : World) (hr : RdTb w A n l) (hn : n ≤ 1000000) :
    Calls Try.prog 11 #[.agg (Pk.ver a b L ln lc A n c)] w (GivesInts w (Pk.full l)) := by
  have HR := Lib.hid hr
  clear hr
  have HZ := Lib.hid (Holds.new w #[.int .i64 a, .int .i64 b, .slice L ln lc, .slice A n c] 25)
  have HB0 := Lib.hid (show Below w.heap.size w (w.alloc (.cells #[.int .i64 a, .int .i64 b, .slice L ln lc, .slice A n c] 25)) from (Below.refl _ _).alloc (Nat.le_refl _) _)
  have HCn := Lib.hid (fun (v : Int) (u : World) (hu : Below w.heap.size w u) => rcount_any a b L ln lc A n c l v u (HR.out.below hu) hn)
  replace HCn : Hid (∀ (v : Int) (u : World), Below w.heap.size w u → Calls Try.prog 21 #[.agg #[.int .i64 a, .int .i64 b, .slice L ln lc, .slice A n c], .int .i64 v] u fun e w' => e = .returned (.int .i64 (Pk.count l v : Int)) ∧ Below u.heap.size u w') := HCn
  show Calls _ _ #[.agg #[.int .i64 a, .int .i64 b, .slice L ln lc, .slice A n c]] _ _
  go_enter Try.func11, Try.ntmps11
  go_wp2
  generalize (w.alloc (.cells #[.int .i64 a, .int .i64 b, .slice L ln lc, .slice A n c] 25)) = u at *
  go_loopw [3, 4] (fun s ii wr => ∃ (k : Nat) (B : Option Addr) (m d : Nat), k ≤ 3 ∧ m ≤ k ∧ ii = .int .i64 (k : Int) ∧ s = .slice B m d ∧ Hid (m = (((List.range k).filter (Pk.more l)).map (fun (k : Nat) => (k : Int))).length) ∧ Hid (OwnC 1 wr u.heap.size 3 B m d (Pk.iv (((List.range k).filter (Pk.more l)).map (fun (k : Nat) => (k : Int))))) ∧ Hid (Below u.heap.size u wr)) (fun _ ii _ => 3 - (intOf ii).toNat)
  case atStart => exact ⟨0, none, 0, 0, by omega, by omega, rfl, rfl, Lib.hid rfl, Lib.hid (OwnC.none_ _ _ _ _), Lib.hid (Below.refl _ _)⟩
  case round =>
    obtain ⟨k, B, m, d, hk, hm, rfl, rfl, HM, HO, HB⟩ := hrel
    have HBw := Lib.hid (below_next HB0.out HB.out)
    by_cases hk3 : k < 3
    · have hki : (k : Int) < 3 := by omega
      have HS := Lib.hid (Pk.range_step l k)
      have HZr := Lib.hid (HZ.out.below HB.out)
      have z0 := HZr.out.at_ 0 rfl
      have z1 := HZr.out.at_ 1 rfl
      have z2 := HZr.out.at_ 2 rfl
      have z3 := HZr.out.at_ 3 rfl
      go_wp2_with fail
      refine (HCn.out (k : Int) _ HBw.out).mono ?_
      rintro e w3 ⟨rfl, hb3⟩
      have HB3 := Lib.hid (below_next HB.out hb3)
      have HO3 := Lib.hid (HO.out.below hb3)
      have HBw3 := Lib.hid (below_next HBw.out hb3)
      clear hb3 z0 z1 z2 z3 HO
      go_wp2_with fail
      refine (rlimit_any (k : Int) _).mono ?_
      rintro e w4 ⟨rfl, rfl⟩
      cases hmo : Pk.more l k with
      | true =>
        have hd : Pk.lim (k : Int) < (Pk.count l (k : Int) : Int) := of_decide_eq_true hmo
        rw [hmo, if_pos rfl] at HS
        generalize Pk.lim (k : Int) = lm at *
        generalize Pk.count l (k : Int) = cn at *
        have hal : u.heap.size ≤ (w4.alloc (.cells #[Value.int .i64 (k : Int)] 3)).heap.size := by have := HB3.out.size; simp; omega
        have HRc := Lib.hid (rdc_new 1 w4 3 (Pk.iv [(k : Int)]) 1 rfl (0, 0))
        clear hmo
        go_wp2_with (at_builtin; refine wpList_appC manyI rfl (.tmp 15) (.tmp 17) rfl rfl (HO3.out.alloc _) ⟨w4.heap.size, 0, none⟩ 1 1 (Pk.iv [(k : Int)]) (Pk.iv_one _) rfl HRc.out (by omega) hal ?_; intro B6 cap6 w6 hg6)
        have HF := Lib.hid (show OwnC 1 w6 u.heap.size 3 B6 (m + 1) cap6 (Pk.iv (((List.range (k + 1)).filter (Pk.more l)).map (fun (k : Nat) => (k : Int)))) ∧ m + 1 = (((List.range (k + 1)).filter (Pk.more l)).map (fun (k : Nat) => (k : Int))).length ∧ Below u.heap.size u w6 by
          refine ⟨by rw [HS.out, Pk.iv_append]; exact hg6.own, by rw [HS.out, List.length_append, ← HM.out]; rfl, ?_⟩
          exact hg6.below (HB3.out.alloc HB3.out.size _) hal fun g hg => (HO3.out.blk g hg).1)
        clear hg6
        go_roundw
        case rel => exact ⟨k + 1, B6, m + 1, cap6, by omega, by omega, by go_num, rfl, Lib.hid HF.out.2.1, Lib.hid HF.out.1, Lib.hid HF.out.2.2⟩
        case measure => simp [intOf]; omega
      | false =>
        have hd : ¬ Pk.lim (k : Int) < (Pk.count l (k : Int) : Int) := of_decide_eq_false hmo
        rw [hmo, if_neg (by decide), List.append_nil] at HS
        generalize Pk.lim (k : Int) = lm at *
        generalize Pk.count l (k : Int) = cn at *
        clear hmo
        go_wp2
        go_roundw
        case rel => exact ⟨k + 1, B, m, d, by omega, by omega, by go_num, rfl, Lib.hid (by rw [HS.out]; exact HM.out), Lib.hid (by rw [HS.out]; exact HO3.out), HB3⟩
        case measure => simp [intOf]; omega
    · have hke : k = 3 := by omega
      subst hke
      have HF := Lib.hid (show GivesInts w (Pk.full l) (.returned (.slice B m d)) wr by
        have hO := HO.out
        have hM := HM.out
        subst hM
        exact ⟨B, d, rfl, hO.base_ HB0.out.size, HBw.out⟩)
      clear HO HM
      go_wp2
      go_ret
      exact HF.out
end Go.Proofs.Ytpompjihmcmmaaa
