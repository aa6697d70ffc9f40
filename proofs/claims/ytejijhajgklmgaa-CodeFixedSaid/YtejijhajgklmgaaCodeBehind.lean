/- What package code's own Behind returns. -/
import Derived.Test.YtejijhajgklmgaaCodeText
import Derived.Test.YtejijhajgklmgaaBits
namespace Go.Proofs.Ytejijhajgklmgaa
open Go.RowKit
theorem str_append (a b : List Nat) : str (a ++ b) = str a ++ str b := by
  apply bs_inj
  have h : ∀ l : List Nat, bs (str l) = l.map (· % 256) := by
    intro l
    unfold bs str
    rw [List.map_map]
    refine List.map_congr_left fun x _ => ?_
    simp
  rw [bs_append, h, h, h, List.map_append]
set_option maxRecDepth 100000 in
theorem behind_any (s : ByteArray) (hs : s.size ≤ 1000000) (w : World) :
    Calls Try.prog 33 #[.string s] w fun e w' => e = .returned (.string (str (Cd.behind (bs s)))) ∧ Below w.heap.size w w' := by
  have hll := bs_length s
  have Hll := Lib.hid hll
  clear hll
  go_enter Try.func33, Try.ntmps33
  go_wp2
  go_loop [3] (fun i => ∃ j : Nat, j ≤ s.size ∧ i = .int .i64 (j : Int) ∧ Hid (Cd.strip (bs s).length (bs s) = Cd.strip j (bs s))) (fun i => (intOf i).toNat)
  case atStart => exact ⟨s.size, by omega, rfl, Lib.hid (by rw [Hll.out])⟩
  case round =>
    obtain ⟨j, hj, rfl, hS⟩ := hrel
    by_cases h0 : 0 < j
    · obtain ⟨q, rfl⟩ : ∃ q, j = q + 1 := ⟨j - 1, by omega⟩
      have hi0 : ((q + 1 : Nat) : Int) - 1 = (q : Int) := by omega
      have hqs : q < s.size := by omega
      have hbq := bs_at hqs
      have hbl : s[q].toNat < 256 := s[q].toNat_lt
      generalize hxe : s[q].toNat = x at hbq hbl
      have hxi : (s[q].toNat : Int) = (x : Int) := by omega
      have Hbq := Lib.hid hbq
      clear hbq hxe
      by_cases h255 : x = 255
      · have hb1 : ((x : Int) == 255) = true := by rw [beq_iff_eq]; omega
        go_wp2
        go_round
        case rel => exact ⟨q, by omega, by go_num, Lib.hid (by rw [hS.out, Cd.strip_on (by rw [Hbq.out, h255])])⟩
        case measure => simp [intOf] <;> omega
      · have hb1 : ((x : Int) == 255) = false := by rw [beq_eq_false_iff_ne]; omega
        have hstrip : Cd.strip (bs s).length (bs s) = q + 1 := by rw [hS.out, Cd.strip_off (by rw [Hbq.out]; intro e; injection e with e; exact h255 e)]
        have hbeh : Cd.behind (bs s) = (bs s).take q ++ [x + 1] := by
          unfold Cd.behind
          rw [hstrip, if_neg (by omega), show q + 1 - 1 = q by omega, List.getD_eq_getElem?_getD, Hbq.out]
          rfl
        have Hbeh := Lib.hid hbeh
        clear hbeh hstrip
        obtain ⟨y, hy⟩ : ∃ y, y = x + 1 := ⟨_, rfl⟩
        have hyi : (x : Int) + 1 = (y : Int) := by omega
        have hyi2 : IntKind.u8.wrap ((x : Int) + 1) = (y : Int) := by rw [IntKind.wrap_u8]; omega
        have hy2 : y < 256 := by omega
        have hcv : (convert 23 9 (.slice (some ⟨w.heap.size, 0, none⟩) 1 1)).run Try.prog (w.alloc (.cells #[.int .u8 (y : Int)] 5)).drew = .ok (.string (str [y])) (w.alloc (.cells #[.int .u8 (y : Int)] 5)).drew := run_str (rd_one w y hy2).drew
        have hadd : ∀ W : World, (Op.stringOp .add (s.extract 0 q) (str [y])).run Try.prog W = .ok (.string (s.extract 0 q ++ str [y])) W := fun W => run_string_add_sum W _ _ (by
          have e1 : (s.extract 0 q).size ≤ q := by rw [← bs_length, bs_extract, List.length_take]; omega
          have e2 : (str [y]).size = 1 := by rw [← bs_length, bs_str (by simpa using hy2)]; rfl
          omega)
        have Hy := Lib.hid hy
        clear hy
        go_wp2
        go_region
        all_goals
          go_wp2
          go_ret
          refine ⟨?_, ((Below.refl _ _).alloc (Nat.le_refl _) _).drew⟩
          rw [Hbeh.out, ← Hy.out, str_append]
          congr 2
          rw [← str_bs (s.extract 0 q), bs_extract, List.drop_zero, Nat.sub_zero]
          rfl
    · have hj0 : j = 0 := by omega
      subst hj0
      have hS2 : Cd.behind (bs s) = [] := by
        unfold Cd.behind
        rw [if_pos (show Cd.strip (bs s).length (bs s) = 0 from hS.out)]
      have HS2 := Lib.hid hS2
      clear hS2
      go_wp2
      go_ret
      rw [HS2.out]
      exact ⟨rfl, Below.refl _ _⟩
end Go.Proofs.Ytejijhajgklmgaa
