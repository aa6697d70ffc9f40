/- The rest that the document's own TakeNum hands back is memory of its own. -/
import Derived.Test.YtionaciiaahacaaTaken
namespace Go.Proofs.Ytionaciiaahacaa
open Go.RowKit
set_option maxRecDepth 100000 in
theorem rtakenum_own (A : Option Addr) (n cap : Nat) (l : List Nat) (w : World) (hl : Rd w A n l) (hc : n ≤ cap) (hn : n ≤ 1000000) :
    Calls Try.prog 59 #[.slice A n cap] w (GivesTakeO w (Cd.takeNum l)) := by
  go_enter Try.func59, Try.ntmps59
  go_wp2
  go_loop [5] (fun i => ∃ j : Nat, j ≤ n ∧ j ≤ 10 ∧ i = .int .i64 (j : Int) ∧ Led l j) (fun i => n - (intOf i).toNat)
  case atStart => exact ⟨0, by omega, by omega, rfl, fun i x hi => by omega⟩
  case round =>
    obtain ⟨j, hj, hj10, rfl, hled⟩ := hrel
    have Hled := Lib.hid hled
    clear hled
    by_cases hjn : j < n
    · have hjn' : (j : Int) < (n : Int) := by omega
      by_cases hj9 : j < 10
      · have hj9' : (j : Int) < 10 := by omega
        obtain ⟨b, o, x, rfl, hb, hx, hx256, hcell⟩ := hl.at_ hjn
        have hx2 : (x : Int) < 256 := by omega
        have Hx := Lib.hid hx
        clear hx
        by_cases h128 : 128 ≤ x
        · have h128' : 128 ≤ (x : Int) := by omega
          go_wp2
          go_round
          case rel =>
            refine ⟨j + 1, by omega, by omega, by go_num, fun i y hi hy => ?_⟩
            by_cases e : i = j
            · subst e; rw [Hx.out] at hy; injection hy with hy; omega
            · exact Hled.out i y (by omega) hy
          case measure => simp [intOf]; omega
        · have h128' : ¬ 128 ≤ (x : Int) := by omega
          have hlead : Cd.lead 10 l = j := Cd.lead_eq 10 l j (by omega) (by rw [hl.1]; omega) Hled.out (.inr (.inr ⟨x, Hx.out, by omega⟩))
          have htk := Cd.takeNum_led hlead (by rw [hl.1]; exact hjn) hj9
          have Htk := Lib.hid htk
          have hL : (l.take (j + 1)).length = j + 1 := by rw [List.length_take, hl.1]; omega
          have HL := Lib.hid hL
          have hne1 : ((j : Int) == (n : Int)) = false := by rw [beq_eq_false_iff_ne]; omega
          have hne2 : ((j : Int) == 10) = false := by rw [beq_eq_false_iff_ne]; omega
          clear hlead htk hL
          go_wp2
          clear hne1 hne2
          go_loop [6, 7] (fun v i => ∃ (r y : Nat), r ≤ j + 1 ∧ i = .int .i64 ((r : Int) - 1) ∧ v = .int .u64 (y : Int) ∧ Hid (Summed (l.take (j + 1)) r y)) (fun _ i => (intOf i + 1).toNat)
          case atStart => exact ⟨j + 1, 0, by omega, by go_num, rfl, Lib.hid ⟨by rw [List.drop_of_length_le (Nat.le_of_eq HL.out)]; rfl, by omega⟩⟩
          case round =>
            obtain ⟨r, y, hr, rfl, rfl, hS⟩ := hrel
            by_cases h0 : 0 < r
            · obtain ⟨q, rfl⟩ : ∃ q, r = q + 1 := ⟨r - 1, by omega⟩
              have hi0 : ((q + 1 : Nat) : Int) - 1 = (q : Int) := by omega
              obtain ⟨b', o', z, he, hb', hz, hz256, hcellz⟩ := hl.at_ (k := q) (by omega)
              injection he with he
              injection he with he1 he2
              subst he1 he2
              have hz2 : (z : Int) < 256 := by omega
              have hqn : (q : Int) < (n : Int) := by omega
              have Hz := Lib.hid hz
              clear hz hcell hx2 h128' hjn' hj9'
              by_cases hbig : 144115188075855871 < y
              · have hbig' : 144115188075855871 < (y : Int) := by omega
                go_wp2
                go_ret3
                have hnone : Cd.takeNum l = none := by
                  rw [Htk.out, if_pos]
                  have h1 := Cd.val7_drop (l.take (j + 1)) q (by rw [HL.out]; omega)
                  rw [← hS.out.1] at h1
                  omega
                rw [hnone]
                exact ⟨rfl, Below.refl _ _⟩
              · have hbig' : ¬ 144115188075855871 < (y : Int) := by omega
                go_wp2
                go_round
                case rel =>
                  refine ⟨q, y * 128 + z % 128, by omega, rfl, by go_num, Lib.hid ⟨?_, by omega⟩⟩
                  rw [Cd.val7_at _ q z (by rw [List.getElem?_take, if_pos (by omega)]; exact Hz.out), ← hS.out.1]
                case measure => simp [intOf] <;> omega
            · have hr0 : r = 0 := by omega
              subst hr0
              have hy64 := hS.out.2
              have hyv : Cd.val7 (l.take (j + 1)) = y := by
                have := hS.out.1
                rw [List.drop_zero] at this
                exact this.symm
              have htk2 : Cd.takeNum l = if (Cd.num y).length = j + 1 then some (y, l.drop (j + 1)) else none := by
                rw [Htk.out, hyv, if_neg (by omega)]
              have hnum := rnum_any y hy64 w
              have Htk2 := Lib.hid htk2
              have Hnum := Lib.hid hnum
              have hlen11 := Cd.num_length y
              clear htk2 hnum hy64 hyv hcell hx2 h128' hjn' hj9'
              by_cases hlen : (Cd.num y).length = j + 1
              · have hq : (((Cd.num y).length : Int) != (j : Int) + 1) = false := by rw [bne_eq_false_iff_eq]; omega
                have htk3 := Htk2.out
                rw [if_pos hlen] at htk3
                have Htk3 := Lib.hid htk3
                have hld : (l.drop (j + 1)).length = n - (j + 1) := by rw [List.length_drop, hl.1]
                have Hld := Lib.hid hld
                have Hlen := Lib.hid hlen
                clear htk3 hld hlen
                by_cases hck : j + 1 = cap
                · have hnj : n = j + 1 := by omega
                  subst hck
                  subst hnj
                  have hnil : l.drop (j + 1) = [] := by rw [List.drop_eq_nil_iff, hl.1]; exact Nat.le_refl _
                  have Hnil := Lib.hid hnil
                  clear hnil
                  go_wp2_with (first | (go_at_call 52; refine Hnum.out.mono ?_; rintro e w1 ⟨A1, c1, rfl, ho1, hb1⟩) | (at_builtin; refine wpList_appB rfl (.tmp 58) (.tmp 62) rfl rfl (Own.empty w1) (some ⟨b, o, none⟩) 0 0 [] rfl (Rd.nil _ _) (by omega) (size_alloc_le _ _) ?_; intro A2 c2 w2 hg2; have hz := hg2.fresh; have hb2 := hz.1; have ho2 := hz.2; clear hg2 hz))
                  go_ret3
                  rw [Htk3.out]
                  refine ⟨A2, c2, ?_⟩
                  rw [Hnil.out]
                  exact ⟨rfl, own_base ho2 hb1.size, below_next hb1 hb2⟩
                · have hrd := drop_rd hl (show j + 1 ≤ n by omega)
                  have hjc : (j : Int) + 1 < (cap : Int) := by omega
                  go_wp2_with (first | (go_at_call 52; refine Hnum.out.mono ?_; rintro e w1 ⟨A1, c1, rfl, ho1, hb1⟩) | (at_builtin; refine wpList_appB rfl (.tmp 58) (.tmp 62) rfl rfl (Own.empty w1) (some ⟨b, o + (j + 1), none⟩) (n - (j + 1)) (cap - (j + 1)) (l.drop (j + 1)) rfl ((hrd.below hb1).alloc _) (by omega) (size_alloc_le _ _) ?_; intro A2 c2 w2 hg2; have hz := hg2.fresh; have hb2 := hz.1; have ho2 := hz.2; clear hg2 hz))
                  go_ret3
                  rw [Htk3.out]
                  refine ⟨A2, c2, ?_⟩
                  rw [Hld.out]
                  exact ⟨rfl, own_base ho2 hb1.size, below_next hb1 hb2⟩
              · have hq : (((Cd.num y).length : Int) != (j : Int) + 1) = true := by rw [bne_iff_ne]; omega
                have htk3 := Htk2.out
                rw [if_neg hlen] at htk3
                have Htk3 := Lib.hid htk3
                clear htk3 hlen
                go_wp2_with (first | (go_at_call 52; refine Hnum.out.mono ?_; rintro e w1 ⟨A1, c1, rfl, ho1, hb1⟩))
                go_ret3
                rw [Htk3.out]
                exact ⟨rfl, hb1⟩
      · have hj10' : j = 10 := by omega
        subst hj10'
        have hnone := Cd.takeNum_none (l := l) (.inr (Cd.lead_eq 10 l 10 (by omega) (by rw [hl.1]; omega) Hled.out (.inl rfl)))
        have Hnone := Lib.hid hnone
        have hne1 : ((10 : Int) == (n : Int)) = false := by rw [beq_eq_false_iff_ne]; omega
        clear hnone
        go_wp2
        go_ret3
        rw [Hnone.out]
        exact ⟨rfl, Below.refl _ _⟩
    · have hjn2 : j = n := by omega
      subst hjn2
      have hnone := Cd.takeNum_none (l := l) (.inl ((Cd.lead_eq 10 l j (by omega) (by rw [hl.1]; omega) Hled.out (.inr (.inl hl.1.symm))).trans hl.1.symm))
      have Hnone := Lib.hid hnone
      clear hnone
      go_wp2
      go_ret3
      rw [Hnone.out]
      exact ⟨rfl, Below.refl _ _⟩
end Go.Proofs.Ytionaciiaahacaa
