/- What the document's Count of layer 11 returns. -/
import Derived.Test.YtpoogjdkjolkhaaBloomCount
namespace Go.Proofs.Ytpoogjdkjolkhaa
open Go.RowKit
def GivesCountR (w : World) (l : List Nat) (e : Ending) (w' : World) : Prop := GivesCount w l e w'
/-- So many bits of bytes, and of the lowest k of one more. -/
def cntK (l : List Nat) (y k : Nat) : Int := wrap64 ((Bl.count l + Bl.ones y k : Nat) : Int)
theorem cntK_zero (l : List Nat) (y : Nat) : cntK l y 0 = cntI l := rfl
theorem cntK_eight (l : List Nat) (y : Nat) : cntK l y 8 = cntI (l ++ [y]) := by unfold cntK cntI; rw [Bl.count_snoc]
theorem cntK_succ (l : List Nat) (y k : Nat) : wrap64 (cntK l y k + ((y / 2 ^ k % 2 : Nat) : Int)) = cntK l y (k + 1) := by
  unfold cntK
  show _ = wrap64 ((Bl.count l + (Bl.ones y k + y / 2 ^ k % 2) : Nat) : Int)
  generalize y / 2 ^ k % 2 = r
  unfold wrap64; omega
theorem bit_tm (y j : Nat) : wrap64 (((y : Int) / 2 ^ j).tmod 2) = ((y / 2 ^ j % 2 : Nat) : Int) := by
  have e1 : (y : Int) / 2 ^ j = ((y / 2 ^ j : Nat) : Int) := by simp
  have e : ((y : Int) / 2 ^ j).tmod 2 = ((y / 2 ^ j % 2 : Nat) : Int) := by rw [e1]; rfl
  rw [e]
  have := Nat.mod_lt (y / 2 ^ j) (show 0 < 2 by omega)
  unfold wrap64; omega
set_option maxRecDepth 100000 in
theorem rcount_any (A : Option Addr) (n cap : Nat) (l : List Nat) (w : World) (hl : Rd w A n l) (hn : n ≤ 9223372036854775807) :
    Calls Try.prog 16 #[.slice A n cap] w (GivesCount w l) := by
  have hck := fun W h => is_any A n cap l W h hn
  unfold GivesCount
  by_cases hI : isF l = true
  · have hI2 := hI
    unfold isF at hI2
    rw [decide_eq_true_iff, hl.1] at hI2
    obtain ⟨i1, i2, i3, i4⟩ := hI2
    obtain ⟨m, hm, m1, m2, m3, m4, n1⟩ := bitsI_form n i1 i2
    rw [hI, if_pos rfl, hl.1, hm]
    rw [hI] at hck
    obtain ⟨b, o, x, rfl, hbl, hx, hx2, hcell⟩ := hl.at_ n1
    unfold bitsI at hm
    have Hck := Lib.hid hck
    have Hlen := Lib.hid hl.1
    clear hck hI hx i1 i2 m3 hcell
    go_enter Try.func16, Try.ntmps16
    go_wp2_with (first | (go_at_call 20; refine (Hck.out _ hl).mono ?_; rintro e w1 ⟨rfl, rfl⟩))
    go_loop [5, 6, 7] (fun u i _ => ∃ (k : Nat) (c : Int), k ≤ n - 1 ∧ i = .int .i64 ((k : Int) + 1) ∧ u = .int .i64 c ∧ Hid (c = cntI ((l.drop 1).take k))) (fun _ i _ => n - (intOf i).toNat)
    case atStart => exact ⟨0, 0, by omega, rfl, rfl, Lib.hid (by rw [List.take_zero, cntI_nil])⟩
    case round =>
      obtain ⟨k, c, hk, rfl, rfl, hE⟩ := hrel
      by_cases hlt : k < n - 1
      · have hkn : (k : Int) + 1 < (n : Int) := by omega
        obtain ⟨b2, o2, y, he, _, hy, hy2, hcell2⟩ := hl.at_ (k := k + 1) (by omega)
        injection he with he
        injection he with e1 e2
        subst e1 e2
        have hy3 : (l.drop 1)[k]? = some y := by rw [List.getElem?_drop, Nat.add_comm]; exact hy
        have Hy := Lib.hid hy3
        clear hy hy3
        have hk0 : (0 : Int) ≤ (k : Int) + 1 := by omega
        have hkn2 : ((k : Int) + 1).toNat = k + 1 := by omega
        go_wp2
        go_loop [5, 7] (fun u i => ∃ (j : Nat) (c : Int), j ≤ 8 ∧ i = .int .i64 (j : Int) ∧ u = .int .i64 c ∧ Hid (c = cntK ((l.drop 1).take k) y j)) (fun _ i => 8 - (intOf i).toNat)
        case atStart => exact ⟨0, c, by omega, rfl, rfl, Lib.hid (by rw [cntK_zero]; exact hE.out)⟩
        case round =>
          obtain ⟨j, d, hj, rfl, rfl, hD⟩ := hrel
          by_cases hj8 : j < 8
          · have hji : (j : Int) < 8 := by omega
            go_wp2
            go_round
            case rel => exact ⟨j + 1, _, by omega, by go_num, rfl, Lib.hid (by rw [bit_tm, ← cntK_succ, ← hD.out])⟩
            case measure => simp [intOf]; omega
          · have hj8 : j = 8 := by omega
            subst hj8
            go_wp2
            go_round
            case rel => exact ⟨k + 1, d, by omega, by go_num, rfl, Lib.hid (by rw [take_snoc Hy.out, ← cntK_eight, ← hD.out])⟩
            case measure => simp [intOf]; omega
      · have hkn : k = n - 1 := by omega
        subst hkn
        have hE2 := hE.out
        rw [List.take_of_length_le (by rw [List.length_drop, Hlen.out]; exact Nat.le_refl _)] at hE2
        have HE := Lib.hid hE2
        clear hE hE2
        have hnn : ¬ ((n - 1 : Nat) : Int) + 1 < (n : Int) := by omega
        go_wp2
        go_ret3
        refine ⟨ret_cnt ?_ rfl 0, rfl⟩
        rw [← List.drop_one]
        exact HE.out
  · rw [Bool.not_eq_true] at hI
    rw [hI, if_neg (by decide)]
    rw [hI] at hck
    have Hck := Lib.hid hck
    clear hck hI
    go_enter Try.func16, Try.ntmps16
    go_wp2_with (first | (go_at_call 20; refine (Hck.out _ hl).mono ?_; rintro e w1 ⟨rfl, rfl⟩))
    go_ret3
    exact ⟨rfl, rfl⟩
end Go.Proofs.Ytpoogjdkjolkhaa
