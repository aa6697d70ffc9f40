/- What package code's own Parts returns, for every string of at most 100,000 bytes. -/
import Derived.Test.YtaoiokilnmpniaaCodeParts
import Derived.Deep.LoopGhost
namespace Go.Proofs.Ytaoiokilnmpniaa
open Go.RowKit
set_option maxRecDepth 100000 in
set_option maxHeartbeats 1000000 in
theorem parts_any (s : ByteArray) (hs : s.size ≤ 100000) (w : World) :
    Calls Try.prog 64 #[.string s] w (GivesParts w (Cd.parts (bs s))) := by
  go_enter Try.func64, Try.ntmps64
  go_wp2
  go_step3
  go_wp2
  go_step3
  go_wp2
  go_loopg [4, 5] s.size (fun g vo i wr => ∃ (k no co : Nat) (Bo : Option Addr) (out : List ByteArray), k ≤ s.size ∧ no ≤ k ∧ g = s.size - k ∧ vo = .slice Bo no co ∧ i = .int .i64 (k : Int) ∧ OwnS wr w.heap.size Bo no co out ∧ Below w.heap.size w wr ∧ Hid (Cd.parse (bs s) [] [] false = Cd.parse ((bs s).drop k) [] out false))
  case atStart => exact ⟨0, 0, 0, none, [], by omega, by omega, by omega, rfl, rfl, OwnS.none_ w w.heap.size, Below.refl _ _, Lib.hid rfl⟩
  case round =>
    rename_i g0
    obtain ⟨k0, no0, co0, Bo0, out0, hk0, hno0, hg, rfl, rfl, hoS0, hb0, hH0⟩ := hrel
    have Hg := Lib.hid hg
    clear hg
    by_cases hks0 : k0 < s.size
    · have hks0' : (k0 : Int) < (s.size : Int) := by omega
      obtain ⟨w0, rfl⟩ : ∃ w0 : World, w0 = wr := ⟨_, rfl⟩
      go_wp2
      go_loopg [4, 5, 6] (s.size - k0) (fun g vo i vp wr => ∃ (k np cp no co : Nat) (Bp Bo : Option Addr) (part : List Nat) (out : List ByteArray) (op : Bool), k ≤ s.size ∧ k0 ≤ k ∧ (k0 < k ∨ k = k0) ∧ np ≤ k ∧ no ≤ k ∧ g = s.size - k ∧ vo = .slice Bo no co ∧ vp = .slice Bp np cp ∧ i = .int .i64 (k : Int) ∧ Own wr w.heap.size Bp np cp part ∧ OwnS wr w.heap.size Bo no co out ∧ Below w.heap.size w wr ∧ Hid (Cd.parse (bs s) [] [] false = Cd.parse ((bs s).drop k) part out op) ∧ Hid (k < s.size ∨ op = true))
      case atStart => exact ⟨k0, 0, 0, no0, co0, none, Bo0, [], out0, false, by omega, by omega, .inr rfl, by omega, by omega, rfl, rfl, rfl, rfl, Own.none_ _ w.heap.size, hoS0, hb0, hH0, Lib.hid (.inl hks0)⟩
      case round =>
        rename_i g1
        obtain ⟨k, np, cp, no, co, Bp, Bo, part, out, op, hk, hk0k, _, hnp, hno, hg, rfl, rfl, rfl, ho, hoS, hb, hH, hop⟩ := hrel
        have Hg1 := Lib.hid hg
        clear hg
        have hsz := hb.size
        by_cases hks : k < s.size
        · have hks' : (k : Int) < (s.size : Int) := by omega
          have hbk := bs_at hks
          have hx2 : s[k].toNat < 256 := s[k].toNat_lt
          generalize hxe : s[k].toNat = x at hbk hx2
          have hxi : (s[k].toNat : Int) = (x : Int) := by omega
          have Hbk := Lib.hid hbk
          clear hxe hbk
          by_cases h0 : x = 0
          · have hx0 : ((x : Int) != 0) = false := by rw [bne_eq_false_iff_eq]; omega
            have H0 := Lib.hid h0
            clear h0
            by_cases hk1 : k + 1 = s.size
            · have hk1' : ((k : Int) + 1 == (s.size : Int)) = true := by rw [beq_iff_eq]; omega
              have hnone : Cd.parts (bs s) = none := by
                unfold Cd.parts
                rw [hH.out, drop_at Hbk.out, H0.out, List.drop_of_length_le (by rw [bs_length]; omega)]
                rfl
              have Hnone := Lib.hid hnone
              clear hnone hk1
              go_wp2
              try rw [Exit.noGoto_ret]
              go_ret2
              rw [Hnone.out]
              exact ⟨rfl, hb⟩
            · have hk1' : ((k : Int) + 1 == (s.size : Int)) = false := by rw [beq_eq_false_iff_ne]; omega
              have hk1n : k + 1 < s.size := by omega
              have hk1i : (k : Int) + 1 < (s.size : Int) := by omega
              have hbk1 := bs_at hk1n
              have hy2 : s[k + 1].toNat < 256 := s[k + 1].toNat_lt
              generalize hye : s[k + 1].toNat = y at hbk1 hy2
              have hyi : (s[k + 1].toNat : Int) = (y : Int) := by omega
              have hk21 : (k : Int) + 2 - 1 = (k : Int) + 1 := by omega
              have Hbk1 := Lib.hid hbk1
              clear hye hbk1 hk1
              by_cases h255 : y = 255
              · have hy255e : ((y : Int) == 255) = true := by rw [beq_iff_eq]; omega
                have H255 := Lib.hid h255
                have hrn := rd_new wr [0] (by simp) (0, 0)
                have hnp2 : np ≤ 100000 := by omega
                clear h255
                go_wp2_with (first | (at_builtin; refine wpList_appB rfl (.tmp 40) (.tmp 41) rfl rfl (ho.alloc _) (some ⟨wr.heap.size, 0, none⟩) 1 1 [0] rfl hrn (by omega) (Nat.le_trans hsz (size_alloc_le _ _)) ?_; intro B3 c3 w3 hg3))
                go_roundg (s.size - (k + 2))
                case rel =>
                  refine ⟨k + 2, np + 1, c3, no, co, B3, Bo, part ++ [0], out, true, by omega, by omega, .inl (by omega), by omega, by omega, rfl, rfl, rfl, by go_num, hg3.own, (hoS.alloc _).grown hg3.grew (fun g hg => fun e => own_apart ho hoS g e hg), hg3.below (hb.alloc hsz _) (Nat.le_trans hsz (size_alloc_le _ _)) (fun g hg => (ho.blk g hg).1), Lib.hid ?_, Lib.hid (.inr rfl)⟩
                  rw [hH.out, drop_at Hbk.out, H0.out, drop_at Hbk1.out, H255.out, Cd.parse_esc]
                case measure => rw [Hg1.out]; omega
              · by_cases h1 : y = 1
                · have hy255e : ((y : Int) == 255) = false := by rw [beq_eq_false_iff_ne]; omega
                  have hy1e : ((y : Int) == 1) = true := by rw [beq_iff_eq]; omega
                  have H1 := Lib.hid h1
                  have hcv := run_str (cap := cp) ho.rd
                  have hcell : (wr.alloc (.cells #[.string (str part)] 9)).cell? ⟨wr.heap.size, 0, none⟩ = some (.string (str part)) := by
                    rw [World.cell?_alloc_mark]; rfl
                  have hno2 : no ≤ 100000 := by omega
                  clear h1 h255
                  go_wp2_with (first | (at_builtin; refine wpList_appSS rfl (.tmp 45) (.tmp 48) rfl rfl (hoS.alloc _) ⟨wr.heap.size, 0, none⟩ (str part) 1 rfl hcell (by omega) (Nat.le_trans hsz (size_alloc_le _ _)) ?_; intro B3 c3 w3 ho3 hg3))
                  go_roundg (s.size - (k + 2))
                  case rel =>
                    refine ⟨k + 2, no + 1, c3, B3, out ++ [str part], by omega, by omega, rfl, rfl, by go_num, ho3, (hb.alloc hsz _).grown hg3 (Nat.le_trans hsz (size_alloc_le _ _)) (fun g hg => (hoS.blk g hg).1), Lib.hid ?_⟩
                    rw [hH.out, drop_at Hbk.out, H0.out, drop_at Hbk1.out, H1.out, Cd.parse_sep]
                  case measure => rw [Hg.out]; omega
                · have hy255e : ((y : Int) == 255) = false := by rw [beq_eq_false_iff_ne]; omega
                  have hy1e : ((y : Int) == 1) = false := by rw [beq_eq_false_iff_ne]; omega
                  have hnone : Cd.parts (bs s) = none := by
                    unfold Cd.parts
                    rw [hH.out, drop_at Hbk.out, H0.out, drop_at Hbk1.out, Cd.parse_bad h255 h1]
                  have Hnone := Lib.hid hnone
                  clear hnone
                  go_wp2
                  try rw [Exit.noGoto_ret]
                  go_ret2
                  rw [Hnone.out]
                  exact ⟨rfl, hb⟩
          · have hx0 : ((x : Int) != 0) = true := by rw [bne_iff_ne]; omega
            have H0 := Lib.hid h0
            have hrn := rd_one wr x hx2
            have hnp2 : np ≤ 100000 := by omega
            clear h0
            go_wp2_with (first | (at_builtin; refine wpList_appB rfl (.tmp 19) (.tmp 23) rfl rfl (ho.alloc _) (some ⟨wr.heap.size, 0, none⟩) 1 1 [x] rfl hrn (by omega) (Nat.le_trans hsz (size_alloc_le _ _)) ?_; intro B3 c3 w3 hg3))
            go_roundg (s.size - (k + 1))
            case rel =>
              refine ⟨k + 1, np + 1, c3, no, co, B3, Bo, part ++ [x], out, true, by omega, by omega, .inl (by omega), by omega, by omega, rfl, rfl, rfl, by go_num, hg3.own, (hoS.alloc _).grown hg3.grew (fun g hg => fun e => own_apart ho hoS g e hg), hg3.below (hb.alloc hsz _) (Nat.le_trans hsz (size_alloc_le _ _)) (fun g hg => (ho.blk g hg).1), Lib.hid ?_, Lib.hid (.inr rfl)⟩
              rw [hH.out, drop_at Hbk.out, Cd.parse_plain H0.out]
            case measure => rw [Hg1.out]; omega
        · have hke : k = s.size := by omega
          have hop2 : op = true := hop.out.resolve_left hks
          have hnone : Cd.parts (bs s) = none := by
            unfold Cd.parts
            rw [hH.out, List.drop_of_length_le (by rw [bs_length]; omega), hop2]
            rfl
          have Hnone := Lib.hid hnone
          have hks' : ¬ (k : Int) < (s.size : Int) := by omega
          clear hnone hke hop2
          go_wp2
          try rw [Exit.noGoto_ret]
          go_ret2
          rw [Hnone.out]
          exact ⟨rfl, hb⟩
    · have hks0' : ¬ (k0 : Int) < (s.size : Int) := by omega
      have hfin : Cd.parse (bs s) [] [] false = some out0 := by
        rw [hH0.out, List.drop_of_length_le (by rw [bs_length]; omega)]
        rfl
      have Hfin := Lib.hid hfin
      clear hfin
      by_cases h8 : 8 < no0
      · have h8' : (8 : Int) < (no0 : Int) := by omega
        have hnone : Cd.parts (bs s) = none := by
          unfold Cd.parts
          rw [Hfin.out]
          show (if 8 < out0.length then none else some out0) = none
          rw [if_pos (by rw [hoS0.1]; exact h8)]
        have Hnone := Lib.hid hnone
        clear hnone h8
        go_wp2
        try rw [Exit.noGoto_ret]
        go_ret2
        rw [Hnone.out]
        exact ⟨rfl, hb0⟩
      · have h8' : ¬ (8 : Int) < (no0 : Int) := by omega
        have hsome : Cd.parts (bs s) = some out0 := by
          unfold Cd.parts
          rw [Hfin.out]
          show (if 8 < out0.length then none else some out0) = some out0
          rw [if_neg (by rw [hoS0.1]; exact h8)]
        have Hsome := Lib.hid hsome
        clear hsome h8
        go_wp2
        try rw [Exit.noGoto_ret]
        go_ret2
        rw [Hsome.out]
        refine ⟨Bo0, co0, ?_⟩
        rw [hoS0.1]
        exact ⟨rfl, hoS0.rd, hoS0.fits, hb0⟩
end Go.Proofs.Ytaoiokilnmpniaa
