/- What the document's Make of layer 11 returns. -/
import Derived.Test.YtpoogjdkjolkhaaBloomMake
import Derived.Test.YtpoogjdkjolkhaaBloomRPlaces
namespace Go.Proofs.Ytpoogjdkjolkhaa
open Go.RowKit
set_option maxRecDepth 100000 in
theorem rmake_in (A : Option Addr) (n cap b : Nat) (ks : List ByteArray) (w : World) (hk : RdS w A n ks) (hs : ∀ s ∈ ks, s.size ≤ 9223372036854775807) (hn : n ≤ 4096) (hb1 : 1 ≤ b) (hb : b ≤ 16) :
    Calls Try.prog 11 #[.slice A n cap, .int .i64 (b : Int)] w (GivesMake w (Bl.filter (ks.map hashN) (Bl.sizeOf n b) (Bl.probesOf b), 0)) := by
  obtain ⟨m1, m2, m3⟩ := size_form n b hn hb
  obtain ⟨p1, p2⟩ := probes_form b hb
  obtain ⟨c, hc⟩ : ∃ c : Nat, c = n * b := ⟨_, rfl⟩
  have hc1 : c ≤ 65536 := by rw [hc]; exact Nat.mul_le_mul hn hb
  have hc2 : (n : Int) * (b : Int) = (c : Int) := by rw [hc]; simp
  have hm : Bl.sizeOf n b = max 64 ((c + 7) / 8 * 8) := by rw [hc]; rfl
  have hp : Bl.probesOf b = max 1 (b * 7 / 10) := rfl
  generalize Bl.sizeOf n b = m at *
  generalize Bl.probesOf b = p at *
  have Hm := Lib.hid hm
  have Hp := Lib.hid hp
  have M3 := Lib.hid m3
  have Hs := Lib.hid hs
  have h1 : ¬ (b : Int) < 1 := by omega
  have h16 : ¬ 16 < (b : Int) := by omega
  have h4096 : ¬ 4096 < (n : Int) := by omega
  clear hc hm hp m3 hs
  go_enter Try.func11, Try.ntmps11
  go_upto_region 5 with fail
  go_cut [6] (fun s6 wx => s6 = .int .i64 (m : Int) ∧ wx = w)
  case first =>
    go_wp2
    all_goals
      go_meet
      refine ⟨congrArg (Value.int .i64) ?_, rfl⟩
      rw [Hm.out, Nat.max_def]
      split <;> omega
  case rest =>
    obtain ⟨rfl, rfl⟩ := hcut
    go_upto_region 6 with fail
    go_cut [7] (fun s7 wx => s7 = .int .i64 (p : Int) ∧ wx = wc)
    case first =>
      go_wp2
      all_goals
        go_meet
        refine ⟨congrArg (Value.int .i64) ?_, rfl⟩
        rw [Hp.out, Nat.max_def]
        split <;> omega
    case rest =>
      obtain ⟨rfl, rfl⟩ := hcut
      obtain ⟨q, hq⟩ : ∃ q : Nat, q = m / 8 := ⟨_, rfl⟩
      have hq8 : (m : Int) / 8 = (q : Int) := by omega
      have hmk := make_all (1 + q) (by omega)
      rw [show ((1 + q : Nat) : Int) = 1 + (q : Int) by omega] at hmk
      have hz := Own.zeros wc wc.heap.size (1 + q) (Nat.le_refl _) (by omega)
      have hq1 : 8 ≤ q := by omega
      have Hq := Lib.hid hq
      clear hq
      have hz1 := hz.set 0 p (by omega)
      have e0 : (List.replicate (1 + q) 0).set 0 p = p :: Bl.field (Bl.has (Bl.all ((ks.take 0).map hashN) m p)) q := by
        have e2 : Bl.field (Bl.has (Bl.all ((ks.take 0).map hashN) m p)) q = List.replicate q 0 := Bl.field_none q
        rw [Nat.add_comm, List.replicate_succ, List.set_cons_zero, e2]
      rw [World.setCell_alloc_new, e0] at hz1
      have hf0 := hz.free 0
      have hc0 := hz.cell (j := 0) (x := 0) (by rw [Nat.add_comm, List.replicate_succ]; rfl)
      clear hz e0
      go_wp2
      go_loopw [9] (fun i wr => ∃ k : Nat, k ≤ n ∧ i = .int .i64 (k : Int) ∧ Own wr wc.heap.size (some ⟨wc.heap.size, 0, none⟩) (1 + q) (1 + q) (p :: Bl.field (Bl.has (Bl.all ((ks.take k).map hashN) m p)) q) ∧ Below wc.heap.size wc wr) (fun i _ => n - (intOf i).toNat)
      case atStart => exact ⟨0, by omega, rfl, hz1, (Below.refl _ _).alloc (Nat.le_refl _) _⟩
      case round =>
        clear hz1 hmk hq8 hf0 hc0
        obtain ⟨k, hkn, rfl, ho, hb⟩ := hrel
        obtain ⟨wo, rfl⟩ : ∃ wo : World, wo = wr := ⟨_, rfl⟩
        by_cases hlt : k < n
        · have hki : (k : Int) < (n : Int) := by omega
          obtain ⟨b1, o1, s, rfl, hbl, hsk, hcell⟩ := hk.at_ hlt
          have hcell1 := (hb.cell (p := ⟨b1, o1 + k, none⟩) hbl).trans hcell
          have hpl := fun W => rplaces_any s p m (Hs.out s (List.mem_of_getElem? hsk)) (by omega) (by omega) m2 W
          have hplt := Bl.places_lt (hashN s) m p (by omega)
          have hpll := Bl.places_length (hashN s) m p
          have hall : Bl.all ((ks.take (k + 1)).map hashN) m p = Bl.all ((ks.take k).map hashN) m p ++ Bl.places (hashN s) m p := by
            rw [List.take_add_one, hsk]; simp [Bl.all_snoc]
          generalize Bl.places (hashN s) m p = ps at *
          generalize Bl.all ((ks.take k).map hashN) m p = S at *
          have Hpl := Lib.hid hpl
          have Hplt := Lib.hid hplt
          have Hpll := Lib.hid hpll
          have Hall := Lib.hid hall
          clear hpl hplt hpll hall hsk hcell
          go_wp2_with (first | (go_at_call 22; refine (Hpl.out _).mono ?_; rintro e w1 ⟨A1, c1, rfl, ho1, hb1⟩))
          have hp255 : ps.length ≤ 255 := by rw [Hpll.out]; omega
          have hf1 := ho.below hb1
          have hbb := below_next hb hb1
          have hg := (ho.blk _ rfl).2
          clear ho hcell1
          go_loopw [11] (fun i v => ∃ j : Nat, j ≤ ps.length ∧ i = .int .i64 (j : Int) ∧ Own v wc.heap.size (some ⟨wc.heap.size, 0, none⟩) (1 + q) (1 + q) (p :: Bl.field (Bl.has (S ++ ps.take j)) q) ∧ OwnV v wo.heap.size 3 A1 ps.length c1 (pv ps) ∧ Below wc.heap.size wc v) (fun i _ => ps.length - (intOf i).toNat)
          case atStart => exact ⟨0, by omega, rfl, by simpa using hf1, ho1, hbb⟩
          case round =>
            clear hf1 ho1 hbb
            obtain ⟨j, hj, rfl, hf, ho1, hbb⟩ := hrel
            by_cases hjl : j < ps.length
            · have hji : (j : Int) < (ps.length : Int) := by omega
              have hp : ps[j]? = some ps[j] := List.getElem?_eq_getElem hjl
              generalize ps[j] = a at hp
              have ham := Hplt.out a (List.mem_of_getElem? hp)
              have hpa : a / 8 < q := by rw [Hq.out]; have := M3.out; omega
              obtain ⟨b2, o2, u, rfl, hbl2, hu, hcell2⟩ := ho1.rd.at_ hjl
              rw [pv_at hp] at hu
              injection hu with hu
              subst hu
              have hx : (p :: Bl.field (Bl.has (S ++ ps.take j)) q)[1 + a / 8]? = some (Bl.byteOf (Bl.has (S ++ ps.take j)) (a / 8)) := by
                rw [Nat.add_comm, List.getElem?_cons_succ]; exact Bl.field_at _ hpa
              have hc3 := hf.cell hx
              have hfr := hf.free (1 + a / 8)
              have hx2 := Bl.byteOf_lt (Bl.has (S ++ ps.take j)) (a / 8)
              have hmore := Bl.field_more (S ++ ps.take j) a q (by omega)
              generalize Bl.byteOf (Bl.has (S ++ ps.take j)) (a / 8) = x at *
              have hd0 : (0 : Int) ≤ 1 + (a : Int) / 8 := by omega
              have hdq : 1 + (a : Int) / 8 < 1 + (q : Int) := by omega
              have Hp := Lib.hid hp
              have Hmore := Lib.hid hmore
              clear hx hp hmore
              go_wp2
              go_region
              go_wp2
              go_roundw
              case rel =>
                refine ⟨j + 1, by omega, by go_num, ?_, (ho1.far hg _).drew, (hbb.setCell (Nat.le_refl _) _).drew⟩
                have hr8 : a % 8 < 8 := Nat.mod_lt _ (by omega)
                rw [or_bit x _ hx2 hr8]
                have h3 := hf.set (1 + a / 8) (x ||| 2 ^ (a % 8)) (or_bit_lt x _ hx2 hr8)
                rw [Nat.add_comm 1 (a / 8), List.set_cons_succ, Hmore.out, List.append_assoc, ← take_snoc Hp.out, Nat.add_comm (a / 8) 1] at h3
                exact h3.drew
              case measure => simp [intOf]; omega
            · have hjl : j = ps.length := by omega
              subst hjl
              have hf2 := hf
              rw [List.take_length, ← Hall.out] at hf2
              clear hf
              go_wp2
              go_roundw
              case rel => exact ⟨k + 1, by omega, by go_num, hf2, hbb⟩
              case measure => simp [intOf]; omega
        · have hkn : k = n := by omega
          subst hkn
          rw [List.take_of_length_le (Nat.le_of_eq hk.1)] at ho
          have Hfil : Hid (Bl.filter (ks.map hashN) m p = p :: Bl.field (Bl.has (Bl.all (ks.map hashN) m p)) q) := Lib.hid (by unfold Bl.filter; rw [Hq.out])
          have Hlen := Lib.hid ho.1
          go_wp2
          go_ret2
          refine ⟨some ⟨wc.heap.size, 0, none⟩, 1 + q, ?_, ?_, hb⟩
          · show _ = Ending.returned (.tuple #[.slice _ (Bl.filter (ks.map hashN) m p).length _, _])
            rw [Hfil.out, Hlen.out]
            rfl
          · show Own wo wc.heap.size _ (Bl.filter (ks.map hashN) m p).length _ (Bl.filter (ks.map hashN) m p)
            rw [Hfil.out, Hlen.out]
            exact ho
set_option maxRecDepth 100000 in
theorem rmake_bad (A : Option Addr) (n cap : Nat) (b : Int) (w : World) (h : b < 1 ∨ 16 < b) :
    Calls Try.prog 11 #[.slice A n cap, .int .i64 b] w (GivesMake w ([], 110)) := by
  rcases h with h | h
  · go_enter Try.func11, Try.ntmps11
    go_wp2
    go_ret2
    exact ⟨none, 0, rfl, Own.none_ _ _, Below.refl _ _⟩
  · have h1 : ¬ b < 1 := by omega
    go_enter Try.func11, Try.ntmps11
    go_wp2
    go_ret2
    exact ⟨none, 0, rfl, Own.none_ _ _, Below.refl _ _⟩
set_option maxRecDepth 100000 in
theorem rmake_many (A : Option Addr) (n cap : Nat) (b : Int) (w : World) (h1 : ¬ b < 1) (h2 : ¬ 16 < b) (h : 4096 < n) :
    Calls Try.prog 11 #[.slice A n cap, .int .i64 b] w (GivesMake w ([], 3)) := by
  have h3 : 4096 < (n : Int) := by omega
  go_enter Try.func11, Try.ntmps11
  go_wp2
  go_ret2
  exact ⟨none, 0, rfl, Own.none_ _ _, Below.refl _ _⟩
theorem rmake_any (A : Option Addr) (n cap : Nat) (b : Int) (ks : List ByteArray) (w : World) (hk : RdS w A n ks) (hs : ∀ s ∈ ks, s.size ≤ 9223372036854775807) :
    Calls Try.prog 11 #[.slice A n cap, .int .i64 b] w (GivesMake w (makeF ks b)) := by
  unfold makeF
  rw [hk.1]
  by_cases h : b < 1 ∨ 16 < b
  · rw [if_pos h]
    exact rmake_bad A n cap b w h
  · rw [if_neg h]
    by_cases h2 : 4096 < n
    · rw [if_pos h2]
      exact rmake_many A n cap b w (by omega) (by omega) h2
    · rw [if_neg h2]
      obtain ⟨c, rfl⟩ := Int.eq_ofNat_of_zero_le (show 0 ≤ b by omega)
      rw [Int.toNat_natCast]
      exact rmake_in A n cap c ks w hk hs (by omega) (by omega) (by omega)
end Go.Proofs.Ytpoogjdkjolkhaa
