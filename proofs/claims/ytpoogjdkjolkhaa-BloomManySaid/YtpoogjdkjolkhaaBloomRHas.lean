/- What the document's Has of layer 11 returns. -/
import Derived.Test.YtpoogjdkjolkhaaBloomHas
namespace Go.Proofs.Ytpoogjdkjolkhaa
open Go.RowKit
theorem bit_rem (y r : Nat) (_hy : y < 256) : (((y : Int) / 2 ^ r).tmod 2 == 0) = !y.testBit r := by
  have e1 : (y : Int) / 2 ^ r = ((y / 2 ^ r : Nat) : Int) := by simp
  have e : ((y : Int) / 2 ^ r).tmod 2 = ((y / 2 ^ r % 2 : Nat) : Int) := by rw [e1]; rfl
  rw [e, Nat.testBit_eq_decide_div_mod_eq]
  rcases Nat.mod_two_eq_zero_or_one (y / 2 ^ r) with h | h <;> rw [h] <;> rfl
set_option maxRecDepth 100000 in
theorem rhas_any (A : Option Addr) (n cap : Nat) (l : List Nat) (s : ByteArray) (w : World) (hl : Rd w A n l) (hn : n ≤ 9223372036854775807) (hs : s.size ≤ 9223372036854775807) :
    Calls Try.prog 18 #[.slice A n cap, .string s] w fun e w' => e = .returned (.bool (hasF l s)) ∧ Below w.heap.size w w' := by
  have hck := is_any A n cap l w hl hn
  by_cases hI : isF l = true
  · have hI2 := hI
    unfold isF at hI2
    rw [decide_eq_true_iff, hl.1] at hI2
    obtain ⟨i1, i2, i3, i4⟩ := hI2
    obtain ⟨m, hm, m1, m2, m3, m4, n1⟩ := bitsI_form n i1 i2
    obtain ⟨b, o, x, rfl, hbl, hx, hx2, hcell⟩ := hl.at_ n1
    have hg : l.getD 0 0 = x := by rw [List.getD_eq_getElem?_getD, hx]; rfl
    rw [hg] at i3 i4
    have hpl := fun W => rplaces_any s x m hs (by omega) (by omega) m2 W
    have hF : hasF l s = (Bl.places (hashN s) m x).all (Bl.set l) := by
      unfold hasF Bl.hasAll
      rw [hI, hl.1, hm, Int.toNat_natCast, Bool.true_and, hg]
    have hplt := Bl.places_lt (hashN s) m x (by omega)
    have hpll := Bl.places_length (hashN s) m x
    generalize Bl.places (hashN s) m x = ps at *
    rw [hI] at hck
    rw [Nat.add_zero] at hcell
    have hn0 : (0 : Int) < (n : Int) := by omega
    unfold bitsI at hm
    have Hck := Lib.hid hck
    have M3 := Lib.hid m3
    have Hpl := Lib.hid hpl
    have HF := Lib.hid hF
    have Hplt := Lib.hid hplt
    have Hpll := Lib.hid hpll
    clear hck hI hx hg hF hplt hpll hpl i1 i2 m3
    go_enter Try.func18, Try.ntmps18
    go_wp2_with (first | (go_at_call 20; refine Hck.out.mono ?_; rintro e w1 ⟨rfl, rfl⟩) | (go_at_call 22; refine (Hpl.out _).mono ?_; rintro e w1 ⟨A1, c1, rfl, ho1, hb1⟩))
    go_loopw [6] (fun i wr => ∃ k : Nat, k ≤ ps.length ∧ i = .int .i64 (k : Int) ∧ Below w1.heap.size w1 wr ∧ Hid ((ps.take k).all (Bl.set l) = true)) (fun i _ => ps.length - (intOf i).toNat)
    case atStart => exact ⟨0, by omega, rfl, Below.refl _ _, Lib.hid rfl⟩
    case round =>
      obtain ⟨k, hk, rfl, hbr, hE⟩ := hrel
      by_cases hlt : k < ps.length
      · have hkn : (k : Int) < (ps.length : Int) := by omega
        have hp : ps[k]? = some ps[k] := List.getElem?_eq_getElem hlt
        generalize ps[k] = p at hp
        have hpm := Hplt.out p (List.mem_of_getElem? hp)
        obtain ⟨b1, o1, v, rfl, hbl1, hv, hcell1⟩ := ho1.rd.at_ hlt
        rw [pv_at hp] at hv
        injection hv with hv
        subst hv
        have hcell4 := (hbr.cell (p := ⟨b1, o1 + k, none⟩) hbl1).trans hcell1
        have hj0 : (0 : Int) ≤ 1 + (p : Int) / 8 := by omega
        have hjn : 1 + (p : Int) / 8 < (n : Int) := by have := M3.out; omega
        obtain ⟨b2, o2, y, he, _, hy, hy2, hcell2⟩ := hl.at_ (k := 1 + p / 8) (by have := M3.out; omega)
        injection he with he
        injection he with e1 e2
        subst e1 e2
        have hcell3 := ((below_next hb1 hbr).cell (p := ⟨b, o + (1 + p / 8), none⟩) hbl).trans hcell2
        have hset := set_at hy
        have hbit := bit_rem y (p % 8) hy2
        rw [← hset] at hbit
        have hx255 : ps.length ≤ 255 := by rw [Hpll.out]; omega
        have Hp := Lib.hid hp
        have Hpm := Lib.hid hpm
        clear hp hset hy
        cases hb : Bl.set l p with
        | true =>
          have Hst := Lib.hid hb
          rw [hb, Bool.not_true] at hbit
          clear hb
          go_wp2
          go_region
          go_wp2
          go_roundw
          case rel => exact ⟨k + 1, by omega, by go_num, hbr.drew, Lib.hid (by rw [all_take_succ Hp.out, hE.out, Hst.out]; rfl)⟩
          case measure => simp [intOf]; omega
        | false =>
          have Hst := Lib.hid hb
          rw [hb, Bool.not_false] at hbit
          clear hb
          go_wp2
          go_region
          go_wp2
          go_ret
          rw [HF.out, all_false_of Hp.out Hst.out]
          exact ⟨rfl, below_next hb1 hbr.drew⟩
      · have hkn : k = ps.length := by omega
        subst hkn
        go_wp2
        go_ret
        have := hE.out
        rw [List.take_length] at this
        rw [HF.out, this]
        exact ⟨rfl, below_next hb1 hbr⟩
  · rw [Bool.not_eq_true] at hI
    have hF : hasF l s = false := by unfold hasF; rw [hI]; rfl
    rw [hF]
    rw [hI] at hck
    have Hck := Lib.hid hck
    clear hck hI hF
    go_enter Try.func18, Try.ntmps18
    go_wp2_with (first | (go_at_call 20; refine Hck.out.mono ?_; rintro e w1 ⟨rfl, rfl⟩))
    go_ret
    exact ⟨rfl, Below.refl _ _⟩
end Go.Proofs.Ytpoogjdkjolkhaa
