/- What outbox's readNumber and mayBeOf and the document's number return. -/
import Derived.Test.YtaoiokilnmpniaaBoxKeys
namespace Go.Proofs.Ytaoiokilnmpniaa
open Go.RowKit
set_option linter.unusedVariables false
/-- A text that is a number of 8 bytes, not too great; and which one. -/
def numB (y : ByteArray) : Bool := decide (y.size = 8 ∧ Cd.be (bs y) ≤ 1099511627776)
def numV (y : ByteArray) : Nat := Cd.be (bs y)
theorem take8 (y : ByteArray) : Cd.takeFixed (bs y) 8 = if y.size < 8 then none else some (Cd.be ((bs y).take 8), (bs y).drop 8) := by
  unfold Cd.takeFixed
  rw [bs_length]
  by_cases h : y.size < 8
  · rw [if_pos (by omega), if_pos h]
  · rw [if_neg (by omega), if_neg h]; rfl
set_option maxRecDepth 100000 in
theorem readnumber_any (y : ByteArray) (w : World) (hy : y.size ≤ 100000) : Calls Try.prog 65 #[.string y] w fun e w' => e = .returned (.tuple #[.int .i64 (if numB y then (numV y : Int) else 0), .bool (numB y)]) ∧ Below w.heap.size w w' := by
  obtain ⟨W, cap, hcv, hrd, hbW, hcap, _, _⟩ := conv_bytes w y
  have htf := takefixed_any _ y.size cap 8 (bs y) W hrd hcap (by omega)
  rw [take8] at htf
  by_cases h8 : y.size < 8
  · rw [if_pos h8] at htf
    have hB : numB y = false := by unfold numB; rw [decide_eq_false (by omega)]
    rw [hB]
    have Ht := Lib.hid htf
    clear htf hB
    go_enter Try.func65, Try.ntmps65
    go_wp2_with (first | (go_at_call 80; refine Ht.out.mono ?_; rintro e w1 ⟨rfl, hb1⟩))
    go_ret2
    exact ⟨rfl, below_next hbW hb1⟩
  · rw [if_neg h8] at htf
    have hlt : Cd.be ((bs y).take 8) < 18446744073709551616 := by
      have := Cd.be_lt (bs y) (bs_lt y) 8 (by rw [bs_length]; omega)
      rw [show 256 ^ 8 = 18446744073709551616 by decide] at this
      exact this
    have hdl : ((bs y).drop 8).length = y.size - 8 := by rw [List.length_drop, bs_length]
    by_cases h88 : 8 < y.size
    · have hB : numB y = false := by unfold numB; rw [decide_eq_false (by omega)]
      rw [hB]
      generalize Cd.be ((bs y).take 8) = v at *
      generalize (bs y).drop 8 = r at *
      have hne : ¬ r = [] := by intro e; rw [e] at hdl; simp at hdl; omega
      have hr : 0 < r.length := by omega
      have Ht := Lib.hid htf
      clear htf hB hdl
      go_enter Try.func65, Try.ntmps65
      go_wp2_with (first | (go_at_call 80; refine Ht.out.mono ?_; rintro e w1 ⟨A1, c1, rfl, hr1, hc1, hb1⟩))
      go_ret2
      exact ⟨rfl, below_next hbW hb1⟩
    · have hv : Cd.be ((bs y).take 8) = numV y := by
        unfold numV
        rw [List.take_of_length_le (by rw [bs_length]; omega)]
      have hn : (bs y).drop 8 = [] := List.eq_nil_of_length_eq_zero (by rw [hdl]; omega)
      rw [hv] at htf hlt
      rw [hn] at htf
      have Ht := Lib.hid htf
      clear htf hv hn hdl
      by_cases hbig : numV y ≤ 1099511627776
      · have hB : numB y = true := by unfold numB; rw [decide_eq_true ⟨by omega, hbig⟩]
        rw [hB]
        generalize numV y = v at *
        have hbi : ¬ 1099511627776 < (v : Int) := by omega
        clear hB
        go_enter Try.func65, Try.ntmps65
        go_wp2_with (first | (go_at_call 80; refine Ht.out.mono ?_; rintro e w1 ⟨A1, c1, rfl, hr1, hc1, hb1⟩))
        go_ret2
        exact ⟨rfl, below_next hbW hb1⟩
      · have hB : numB y = false := by unfold numB; rw [decide_eq_false (fun h => hbig h.2)]
        rw [hB]
        generalize numV y = v at *
        have hbi : 1099511627776 < (v : Int) := by omega
        clear hB
        go_enter Try.func65, Try.ntmps65
        go_wp2_with (first | (go_at_call 80; refine Ht.out.mono ?_; rintro e w1 ⟨A1, c1, rfl, hr1, hc1, hb1⟩))
        go_ret2
        exact ⟨rfl, below_next hbW hb1⟩
set_option maxRecDepth 100000 in
theorem rnumber_any (y : ByteArray) (w : World) (hy : y.size ≤ 100000) : Calls Try.prog 68 #[.string y] w fun e w' => e = .returned (.int .i64 (if numB y then (numV y : Int) else -1)) ∧ Below w.heap.size w w' := by
  obtain ⟨W, cap, hcv, hrd, hbW, hcap, _, _⟩ := conv_bytes w y
  have htf := rtakefixed_any _ y.size cap 8 (bs y) W hrd hcap (by omega)
  rw [take8] at htf
  by_cases h8 : y.size < 8
  · rw [if_pos h8] at htf
    have hB : numB y = false := by unfold numB; rw [decide_eq_false (by omega)]
    rw [hB]
    have Ht := Lib.hid htf
    clear htf hB
    go_enter Try.func68, Try.ntmps68
    go_wp2_with (first | (go_at_call 81; refine Ht.out.mono ?_; rintro e w1 ⟨rfl, hb1⟩))
    go_ret
    exact ⟨rfl, below_next hbW hb1⟩
  · rw [if_neg h8] at htf
    have hlt : Cd.be ((bs y).take 8) < 18446744073709551616 := by
      have := Cd.be_lt (bs y) (bs_lt y) 8 (by rw [bs_length]; omega)
      rw [show 256 ^ 8 = 18446744073709551616 by decide] at this
      exact this
    have hdl : ((bs y).drop 8).length = y.size - 8 := by rw [List.length_drop, bs_length]
    by_cases h88 : 8 < y.size
    · have hB : numB y = false := by unfold numB; rw [decide_eq_false (by omega)]
      rw [hB]
      generalize Cd.be ((bs y).take 8) = v at *
      generalize (bs y).drop 8 = r at *
      have hne : ¬ r = [] := by intro e; rw [e] at hdl; simp at hdl; omega
      have hr : 0 < r.length := by omega
      have Ht := Lib.hid htf
      clear htf hB hdl
      go_enter Try.func68, Try.ntmps68
      go_wp2_with (first | (go_at_call 81; refine Ht.out.mono ?_; rintro e w1 ⟨A1, c1, rfl, hr1, hc1, hb1⟩))
      go_ret
      exact ⟨rfl, below_next hbW hb1⟩
    · have hv : Cd.be ((bs y).take 8) = numV y := by
        unfold numV
        rw [List.take_of_length_le (by rw [bs_length]; omega)]
      have hn : (bs y).drop 8 = [] := List.eq_nil_of_length_eq_zero (by rw [hdl]; omega)
      rw [hv] at htf hlt
      rw [hn] at htf
      have Ht := Lib.hid htf
      clear htf hv hn hdl
      by_cases hbig : numV y ≤ 1099511627776
      · have hB : numB y = true := by unfold numB; rw [decide_eq_true ⟨by omega, hbig⟩]
        rw [hB]
        generalize numV y = v at *
        have hbi : ¬ 1099511627776 < (v : Int) := by omega
        clear hB
        go_enter Try.func68, Try.ntmps68
        go_wp2_with (first | (go_at_call 81; refine Ht.out.mono ?_; rintro e w1 ⟨A1, c1, rfl, hr1, hc1, hb1⟩))
        go_ret
        exact ⟨rfl, below_next hbW hb1⟩
      · have hB : numB y = false := by unfold numB; rw [decide_eq_false (fun h => hbig h.2)]
        rw [hB]
        generalize numV y = v at *
        have hbi : 1099511627776 < (v : Int) := by omega
        clear hB
        go_enter Try.func68, Try.ntmps68
        go_wp2_with (first | (go_at_call 81; refine Ht.out.mono ?_; rintro e w1 ⟨A1, c1, rfl, hr1, hc1, hb1⟩))
        go_ret
        exact ⟨rfl, below_next hbW hb1⟩
/-- Is a text a peer? -/
def peerS (x : ByteArray) : Bool := decide (x.size = 1) && withinB ((bs x).getD 0 0 : Nat) 1 15
theorem peerS_one {x : ByteArray} (h : x.size = 1) : ∃ (c : Nat) (hx : 0 < x.size), x[0].toNat = c ∧ c < 256 ∧ peerS x = withinB (c : Int) 1 15 := by
  have hx : 0 < x.size := by omega
  refine ⟨x[0].toNat, hx, rfl, x[0].toNat_lt, ?_⟩
  unfold peerS
  rw [decide_eq_true h, Bool.true_and, List.getD_eq_getElem?_getD, bs_at hx]; rfl
set_option maxRecDepth 100000 in
theorem maybe_a (x : ByteArray) (w : World) (hx : x.size ≤ 9223372036854775807) : Calls Try.prog 66 #[.string ⟨#[97]⟩, .string x] w fun e w' => e = .returned (.bool (nameB x)) ∧ w = w' := by
  have hn := fun W => name_any x W hx
  generalize nameB x = b at *
  have Hn := Lib.hid hn
  clear hn
  go_enter Try.func66, Try.ntmps66
  go_wp2_with (first | (go_at_call 22; refine (Hn.out _).mono ?_; rintro e w' ⟨rfl, rfl⟩))
  go_ret
  exact ⟨rfl, rfl⟩
set_option maxRecDepth 100000 in
theorem maybe_h (x : ByteArray) (w : World) (hx : x.size ≤ 9223372036854775807) : Calls Try.prog 66 #[.string ⟨#[104]⟩, .string x] w fun e w' => e = .returned (.bool (nameB x)) ∧ w = w' := by
  have hn := fun W => name_any x W hx
  generalize nameB x = b at *
  have Hn := Lib.hid hn
  clear hn
  go_enter Try.func66, Try.ntmps66
  go_wp2_with (first | (go_at_call 22; refine (Hn.out _).mono ?_; rintro e w' ⟨rfl, rfl⟩))
  go_ret
  exact ⟨rfl, rfl⟩
set_option maxRecDepth 100000 in
theorem maybe_n (x : ByteArray) (w : World) (hx : x.size ≤ 9223372036854775807) : Calls Try.prog 66 #[.string ⟨#[110]⟩, .string x] w fun e w' => e = .returned (.bool (peerS x)) ∧ w = w' := by
  by_cases h1 : x.size = 1
  · obtain ⟨c, h0, hc, hc2, hp⟩ := peerS_one h1
    rw [hp]
    have hi := fun W => ispeer_any (c : Int) W
    generalize withinB (c : Int) 1 15 = b at *
    have Hi := Lib.hid hi
    have h1i : ((x.size : Int) == 1) = true := by rw [beq_iff_eq]; omega
    clear hi hp h1
    go_enter Try.func66, Try.ntmps66
    go_wp2_with (first | (go_at_call 59; refine (Hi.out _).mono ?_; rintro e w' ⟨rfl, rfl⟩))
    go_ret
    exact ⟨rfl, rfl⟩
  · have hp : peerS x = false := by unfold peerS; rw [decide_eq_false h1]; rfl
    rw [hp]
    have h1i : ((x.size : Int) == 1) = false := by rw [beq_eq_false_iff_ne]; omega
    clear hp h1
    go_enter Try.func66, Try.ntmps66
    go_wp2
    go_ret
    exact ⟨rfl, rfl⟩
set_option maxRecDepth 100000 in
theorem maybe_i (x : ByteArray) (w : World) (hx : x.size ≤ 9223372036854775807) : Calls Try.prog 66 #[.string ⟨#[105]⟩, .string x] w fun e w' => e = .returned (.bool (peerS x)) ∧ w = w' := by
  by_cases h1 : x.size = 1
  · obtain ⟨c, h0, hc, hc2, hp⟩ := peerS_one h1
    rw [hp]
    have hi := fun W => ispeer_any (c : Int) W
    generalize withinB (c : Int) 1 15 = b at *
    have Hi := Lib.hid hi
    have h1i : ((x.size : Int) == 1) = true := by rw [beq_iff_eq]; omega
    clear hi hp h1
    go_enter Try.func66, Try.ntmps66
    go_wp2_with (first | (go_at_call 59; refine (Hi.out _).mono ?_; rintro e w' ⟨rfl, rfl⟩))
    go_ret
    exact ⟨rfl, rfl⟩
  · have hp : peerS x = false := by unfold peerS; rw [decide_eq_false h1]; rfl
    rw [hp]
    have h1i : ((x.size : Int) == 1) = false := by rw [beq_eq_false_iff_ne]; omega
    clear hp h1
    go_enter Try.func66, Try.ntmps66
    go_wp2
    go_ret
    exact ⟨rfl, rfl⟩
set_option maxRecDepth 100000 in
theorem maybe_o (x : ByteArray) (w : World) (hx : x.size ≤ 9223372036854775807) : Calls Try.prog 66 #[.string ⟨#[111]⟩, .string x] w fun e w' => e = .returned (.bool (peerS x)) ∧ w = w' := by
  by_cases h1 : x.size = 1
  · obtain ⟨c, h0, hc, hc2, hp⟩ := peerS_one h1
    rw [hp]
    have hi := fun W => ispeer_any (c : Int) W
    generalize withinB (c : Int) 1 15 = b at *
    have Hi := Lib.hid hi
    have h1i : ((x.size : Int) == 1) = true := by rw [beq_iff_eq]; omega
    clear hi hp h1
    go_enter Try.func66, Try.ntmps66
    go_wp2_with (first | (go_at_call 59; refine (Hi.out _).mono ?_; rintro e w' ⟨rfl, rfl⟩))
    go_ret
    exact ⟨rfl, rfl⟩
  · have hp : peerS x = false := by unfold peerS; rw [decide_eq_false h1]; rfl
    rw [hp]
    have h1i : ((x.size : Int) == 1) = false := by rw [beq_eq_false_iff_ne]; omega
    clear hp h1
    go_enter Try.func66, Try.ntmps66
    go_wp2
    go_ret
    exact ⟨rfl, rfl⟩
end Go.Proofs.Ytaoiokilnmpniaa
