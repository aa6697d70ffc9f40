/- What both Has of layer 11 return: for every slice of bytes and every string. -/
import Derived.Test.YtpoogjdkjolkhaaBloomIs
import Derived.Test.YtpoogjdkjolkhaaBloomRPlaces
namespace Go.Proofs.Ytpoogjdkjolkhaa
open Go.RowKit
/-- Has a filter a text? -/
def hasF (l : List Nat) (s : ByteArray) : Bool := isF l && Bl.hasAll l (hashN s) (bitsI l.length).toNat (l.getD 0 0)
theorem all_take_succ {l : List Nat} {k p : Nat} {P : Nat → Bool} (h : l[k]? = some p) : (l.take (k + 1)).all P = ((l.take k).all P && P p) := by
  rw [take_snoc h, List.all_append]; simp
theorem all_false_of {l : List Nat} {k p : Nat} {P : Nat → Bool} (h : l[k]? = some p) (hp : P p = false) : l.all P = false := by
  rw [List.all_eq_false]
  exact ⟨p, List.mem_of_getElem? h, by rw [hp]; simp⟩
theorem bit_and (y r : Nat) (hy : y < 256) : (bits .and .u8 ((y : Int) / 2 ^ r) 1 == 0) = !y.testBit r := by
  have e : (y : Int) / 2 ^ r = ((y / 2 ^ r : Nat) : Int) := by simp
  have h2 : y / 2 ^ r < 256 := Nat.lt_of_le_of_lt (Nat.div_le_self _ _) hy
  have h1 : bits .and .u8 ((y / 2 ^ r : Nat) : Int) ((1 : Nat) : Int) = _ := u8_and_nat _ _ h2 (by omega)
  rw [e]
  show (bits .and .u8 ((y / 2 ^ r : Nat) : Int) ((1 : Nat) : Int) == 0) = _
  rw [h1, Nat.and_one_is_mod, Nat.testBit_eq_decide_div_mod_eq]
  rcases Nat.mod_two_eq_zero_or_one (y / 2 ^ r) with h | h <;> rw [h] <;> rfl
theorem set_at {l : List Nat} {p y : Nat} (h : l[1 + p / 8]? = some y) : Bl.set l p = y.testBit (p % 8) := by
  unfold Bl.set; rw [List.getD_eq_getElem?_getD, h]; rfl
set_option maxRecDepth 100000 in
theorem has_any (A : Option Addr) (n cap : Nat) (l : List Nat) (s : ByteArray) (w : World) (hl : Rd w A n l) (hn : n ≤ 9223372036854775807) (hs : s.size ≤ 9223372036854775807) :
    Calls Try.prog 17 #[.slice A n cap, .string s] w fun e w' => e = .returned (.bool (hasF l s)) ∧ Below w.heap.size w w' := by
  have hck := check_any A n cap l w hl hn
  by_cases hI : isF l = true
  · have hI2 := hI
    unfold isF at hI2
    rw [decide_eq_true_iff, hl.1] at hI2
    obtain ⟨i1, i2, i3, i4⟩ := hI2
    obtain ⟨m, hm, m1, m2, m3, m4, n1⟩ := bitsI_form n i1 i2
    obtain ⟨b, o, x, rfl, hbl, hx, hx2, hcell⟩ := hl.at_ n1
    have hg : l.getD 0 0 = x := by rw [List.getD_eq_getElem?_getD, hx]; rfl
    rw [hg] at i3 i4
    have hpl := fun W => places_any s x m hs (by omega) (by omega) m2 W
    have hF : hasF l s = (Bl.places (hashN s) m x).all (Bl.set l) := by
      unfold hasF Bl.hasAll
      rw [hI, hl.1, hm, Int.toNat_natCast, Bool.true_and, hg]
    have hplt := Bl.places_lt (hashN s) m x (by omega)
    have hpll := Bl.places_length (hashN s) m x
    generalize Bl.places (hashN s) m x = ps at *
    rw [hI, show errOf true = 0 from rfl] at hck
    rw [Nat.add_zero] at hcell
    have hn0 : (0 : Int) < (n : Int) := by omega
    unfold bitsI at hm
    have Hck := Lib.hid hck
    have M3 := Lib.hid m3
    have Hpl := Lib.hid hpl
    have HF := Lib.hid hF
    have Hplt := Lib.hid hplt
    have Hpll := Lib.hid hpll
    clear hck hI hx hg hF hplt hpll hpl i1 i2 m3
    go_enter Try.func17, Try.ntmps17
    go_wp2_with (first | (go_at_call 19; refine Hck.out.mono ?_; rintro e w1 ⟨rfl, rfl⟩) | (go_at_call 21; refine (Hpl.out _).mono ?_; rintro e w1 ⟨A1, c1, rfl, ho1, hb1⟩))
    go_loop [21] (fun i => ∃ k : Nat, k ≤ ps.length ∧ i = .int .i64 (k : Int) ∧ Hid ((ps.take k).all (Bl.set l) = true)) (fun i => ps.length - (intOf i).toNat)
    case atStart => exact ⟨0, by omega, rfl, Lib.hid rfl⟩
    case round =>
      obtain ⟨k, hk, rfl, hE⟩ := hrel
      by_cases hlt : k < ps.length
      · have hkn : (k : Int) < (ps.length : Int) := by omega
        have hp : ps[k]? = some ps[k] := List.getElem?_eq_getElem hlt
        generalize ps[k] = p at hp
        have hpm := Hplt.out p (List.mem_of_getElem? hp)
        obtain ⟨b1, o1, v, rfl, hbl1, hv, hcell1⟩ := ho1.rd.at_ hlt
        rw [pv_at hp] at hv
        injection hv with hv
        subst hv
        obtain ⟨b2, o2, y, he, _, hy, hy2, hcell2⟩ := hl.at_ (k := 1 + p / 8) (by have := M3.out; omega)
        injection he with he
        injection he with e1 e2
        subst e1 e2
        have hcell3 := (hb1.cell (p := ⟨b, o + (1 + p / 8), none⟩) hbl).trans hcell2
        have hset := set_at hy
        have hbit := bit_and y (p % 8) hy2
        rw [← hset] at hbit
        have hx255 : ps.length ≤ 255 := by rw [Hpll.out]; omega
        have Hp := Lib.hid hp
        have Hpm := Lib.hid hpm
        clear hp hset hy
        cases hb : Bl.set l p with
        | true =>
          have Hst := Lib.hid hb
          rw [hb, Bool.not_true] at hbit
          clear hb
          go_wp2
          go_round
          case rel => exact ⟨k + 1, by omega, by go_num, Lib.hid (by rw [all_take_succ Hp.out, hE.out, Hst.out]; rfl)⟩
          case measure => simp [intOf]; omega
        | false =>
          have Hst := Lib.hid hb
          rw [hb, Bool.not_false] at hbit
          clear hb
          go_wp2
          go_ret
          rw [HF.out, all_false_of Hp.out Hst.out]
          exact ⟨rfl, hb1⟩
      · have hkn : k = ps.length := by omega
        subst hkn
        go_wp2
        go_ret
        have := hE.out
        rw [List.take_length] at this
        rw [HF.out, this]
        exact ⟨rfl, hb1⟩
  · rw [Bool.not_eq_true] at hI
    have hF : hasF l s = false := by unfold hasF; rw [hI]; rfl
    rw [hF]
    rw [hI, show errOf false = 110 from rfl] at hck
    have Hck := Lib.hid hck
    clear hck hI hF
    go_enter Try.func17, Try.ntmps17
    go_wp2_with (first | (go_at_call 19; refine Hck.out.mono ?_; rintro e w1 ⟨rfl, rfl⟩))
    go_ret
    exact ⟨rfl, Below.refl _ _⟩
end Go.Proofs.Ytpoogjdkjolkhaa
