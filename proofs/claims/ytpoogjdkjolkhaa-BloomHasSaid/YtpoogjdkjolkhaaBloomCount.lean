/- What both Count of layer 11 return: for every slice of bytes. -/
import Derived.Test.YtpoogjdkjolkhaaBloomIs
namespace Go.Proofs.Ytpoogjdkjolkhaa
open Go.RowKit
def tab8 : ByteArray := ⟨#[0, 1, 1, 2, 1, 2, 2, 3, 1, 2, 2, 3, 2, 3, 3, 4, 1, 2, 2, 3, 2, 3, 3, 4, 2, 3, 3, 4, 3, 4, 4, 5, 1, 2, 2, 3, 2, 3, 3, 4, 2, 3, 3, 4, 3, 4, 4, 5, 2, 3, 3, 4, 3, 4, 4, 5, 3, 4, 4, 5, 4, 5, 5, 6, 1, 2, 2, 3, 2, 3, 3, 4, 2, 3, 3, 4, 3, 4, 4, 5, 2, 3, 3, 4, 3, 4, 4, 5, 3, 4, 4, 5, 4, 5, 5, 6, 2, 3, 3, 4, 3, 4, 4, 5, 3, 4, 4, 5, 4, 5, 5, 6, 3, 4, 4, 5, 4, 5, 5, 6, 4, 5, 5, 6, 5, 6, 6, 7, 1, 2, 2, 3, 2, 3, 3, 4, 2, 3, 3, 4, 3, 4, 4, 5, 2, 3, 3, 4, 3, 4, 4, 5, 3, 4, 4, 5, 4, 5, 5, 6, 2, 3, 3, 4, 3, 4, 4, 5, 3, 4, 4, 5, 4, 5, 5, 6, 3, 4, 4, 5, 4, 5, 5, 6, 4, 5, 5, 6, 5, 6, 6, 7, 2, 3, 3, 4, 3, 4, 4, 5, 3, 4, 4, 5, 4, 5, 5, 6, 3, 4, 4, 5, 4, 5, 5, 6, 4, 5, 5, 6, 5, 6, 6, 7, 3, 4, 4, 5, 4, 5, 5, 6, 4, 5, 5, 6, 5, 6, 6, 7, 4, 5, 5, 6, 5, 6, 6, 7, 5, 6, 6, 7, 6, 7, 7, 8]⟩
theorem tab8_all : ∀ x : Fin 256, (tab8.data.getD x.val 0).toNat = Bl.ones x.val 8 := by decide +kernel
theorem tab8_at (x : Nat) (hx : x < 256) (h : x < tab8.size) : wrap64 ((tab8[x]'h).toNat : Int) = (Bl.ones x 8 : Int) := by
  have h1 : (tab8.data.getD x 0).toNat = Bl.ones x 8 := tab8_all ⟨x, hx⟩
  have h3 : x < tab8.data.size := h
  have h2 : tab8[x]'h = tab8.data.getD x 0 := by
    rw [ByteArray.getElem_eq_getElem_data, Array.getD, dif_pos h3]; rfl
  have h4 := Bl.ones_le x 8
  rw [h2, h1]; unfold wrap64; omega
set_option maxRecDepth 100000 in
theorem ones_any (x : Nat) (hx : x < 256) (w : World) :
    Calls Try.prog 23 #[.int .u8 (x : Int)] w fun e w' => e = .returned (.int .i64 (Bl.ones x 8 : Int)) ∧ w = w' := by
  have hx2 : (x : Int) < 256 := by omega
  go_enter Try.func23, Try.ntmps23
  go_wp2
  go_ret
  exact ⟨ret_i64 (tab8_at x hx _), rfl⟩
/-- How many bits are set, as an int. -/
def cntI (l : List Nat) : Int := wrap64 (Bl.count l : Int)
theorem cntI_snoc (l : List Nat) (x : Nat) : wrap64 (cntI l + (Bl.ones x 8 : Int)) = cntI (l ++ [x]) := by
  unfold cntI
  rw [Bl.count_snoc]; unfold wrap64; omega
theorem cntI_nil : cntI [] = 0 := by decide +kernel
def GivesCount (w : World) (l : List Nat) (e : Ending) (w' : World) : Prop :=
  e = .returned (.tuple (if isF l then #[.int .i64 (cntI (l.drop 1)), .int .i64 (bitsI l.length), .int .i64 0] else #[.int .i64 0, .int .i64 0, .int .i64 110])) ∧ w = w'
theorem ret_cnt {a b c d : Int} (h : a = b) (h2 : c = d) (k : Int) : Ending.returned (.tuple #[.int .i64 a, .int .i64 c, .int .i64 k]) = .returned (.tuple #[.int .i64 b, .int .i64 d, .int .i64 k]) := by rw [h, h2]
set_option maxRecDepth 100000 in
theorem count_any (A : Option Addr) (n cap : Nat) (l : List Nat) (w : World) (hl : Rd w A n l) (hc : n ≤ cap) (hn : n ≤ 9223372036854775807) :
    Calls Try.prog 15 #[.slice A n cap] w (GivesCount w l) := by
  have hck := fun W h => check_any A n cap l W h hn
  unfold GivesCount
  by_cases hI : isF l = true
  · have hI2 := hI
    unfold isF at hI2
    rw [decide_eq_true_iff, hl.1] at hI2
    obtain ⟨i1, i2, i3, i4⟩ := hI2
    obtain ⟨m, hm, m1, m2, m3, m4, n1⟩ := bitsI_form n i1 i2
    rw [hI, if_pos rfl, hl.1, hm]
    rw [hI, show errOf true = 0 from rfl] at hck
    obtain ⟨b, o, x, rfl, hbl, hx, hx2, hcell⟩ := hl.at_ n1
    unfold bitsI at hm
    have Hck := Lib.hid hck
    have hcap : (1 : Int) < (cap : Int) := by omega
    have hcap2 : (1 : Int) ≤ (n : Int) := by omega
    have Hlen := Lib.hid hl.1
    clear hck hI hx i1 i2 m3 hcell
    go_enter Try.func15, Try.ntmps15
    go_wp2_with (first | (go_at_call 19; refine (Hck.out _ hl).mono ?_; rintro e w1 ⟨rfl, rfl⟩))
    go_loop [6, 17] (fun u i => ∃ (k : Nat) (c : Int), k ≤ n - 1 ∧ i = .int .i64 (k : Int) ∧ u = .int .i64 c ∧ Hid (c = cntI ((l.drop 1).take k))) (fun _ i => n - 1 - (intOf i).toNat)
    case atStart => exact ⟨0, 0, by omega, rfl, rfl, Lib.hid (by rw [List.take_zero, cntI_nil])⟩
    case round =>
      obtain ⟨k, c, hk, rfl, rfl, hE⟩ := hrel
      by_cases hlt : k < n - 1
      · have hkn : (k : Int) < ((n - 1 : Nat) : Int) := by omega
        obtain ⟨b2, o2, y, he, _, hy, hy2, hcell2⟩ := hl.at_ (k := 1 + k) (by omega)
        injection he with he
        injection he with e1 e2
        subst e1 e2
        rw [← Nat.add_assoc] at hcell2
        have hy3 : (l.drop 1)[k]? = some y := by rw [List.getElem?_drop]; exact hy
        have Hy := Lib.hid hy3
        have Hon := Lib.hid (fun W => ones_any y hy2 W)
        clear hy hy3
        go_wp2_with (first | (go_at_call 23; refine (Hon.out _).mono ?_; rintro e w1 ⟨rfl, rfl⟩))
        go_round
        case rel => exact ⟨k + 1, _, by omega, by go_num, rfl, Lib.hid (by rw [take_snoc Hy.out, ← cntI_snoc, ← hE.out])⟩
        case measure => simp [intOf]; omega
      · have hkn : k = n - 1 := by omega
        subst hkn
        have hE2 := hE.out
        rw [List.take_of_length_le (by rw [List.length_drop, Hlen.out]; exact Nat.le_refl _)] at hE2
        have HE := Lib.hid hE2
        clear hE hE2
        go_wp2
        go_ret3
        refine ⟨ret_cnt ?_ rfl 0, rfl⟩
        rw [← List.drop_one]
        exact HE.out
  · rw [Bool.not_eq_true] at hI
    rw [hI, if_neg (by decide)]
    rw [hI, show errOf false = 110 from rfl] at hck
    have Hck := Lib.hid hck
    clear hck hI
    go_enter Try.func15, Try.ntmps15
    go_wp2_with (first | (go_at_call 19; refine (Hck.out _ hl).mono ?_; rintro e w1 ⟨rfl, rfl⟩))
    go_ret3
    exact ⟨rfl, rfl⟩
end Go.Proofs.Ytpoogjdkjolkhaa
