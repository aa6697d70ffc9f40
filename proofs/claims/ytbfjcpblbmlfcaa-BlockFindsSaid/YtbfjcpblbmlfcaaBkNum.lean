/- Package block's reader: a number; a text. -/
import Derived.Test.YtbfjcpblbmlfcaaBkAhead
import Derived.Maps.AppendAt
namespace Go.Proofs.Ytbfjcpblbmlfcaa
open Go.RowKit
theorem grown_setCell (w : World) (p : Addr) (u : Value) : w.grownBy (w.setCell p u) (some p.block) :=
  ⟨rfl, rfl, rfl, by simp [World.setCell], fun k hk hne => Below.heap_setCell _ _ _ _ (fun e => hne (by rw [e]))⟩
theorem grown_any {w w' : World} (h : Below w.heap.size w w') (row : Option Nat) : w.grownBy w' row := ⟨h.os, h.tape, h.output, h.size, fun k hk _ => h.block k hk⟩
namespace Bk
/-- The panic of all that is no block. -/
def pan : List PanicEntry := [{ v := .iface 25 (.int .i64 120), recovered := false }]
end Bk
/-- The reader stands behind what it took. -/
def Behind (w : World) (b : Nat) (A : Option Addr) (n c p : Nat) (w' : World) : Prop := Holds w' b (rdr A n c p) ∧ w.grownBy w' (some b)
def GivesTaken (w : World) (b : Nat) (A : Option Addr) (n c p : Nat) (win : List Nat) (o : Option (Nat × List Nat)) (e : Ending) (w' : World) : Prop :=
  match o with
  | none => e = .panicked Bk.pan ∧ Below w.heap.size w w'
  | some (v, r) => e = .returned (.int .u64 (v : Int)) ∧ Behind w b A n c (p + (win.length - r.length)) w'
set_option maxRecDepth 100000 in
set_option maxHeartbeats 8000000 in
theorem readnum_any (b : Nat) (A : Option Addr) (n c p : Nat) (l win : List Nat) (w : World) (hb : Holds w b (rdr A n c p)) (hl : Rd w A n l) (hc : n ≤ c) (hn : n ≤ 1000000) (hp : p ≤ n) (hwin : (l.drop p).take 10 = win) :
    Calls Try.prog 40 #[.pointer (some ⟨b, 0, none⟩)] w (GivesTaken w b A n c p win (Cd.takeNum win)) := by
  have hah := ahead_any b A n c p 10 l w hb hl hc hn hp (by omega)
  rw [hwin] at hah
  have Ah := Lib.hid hah
  have hw10 : win.length ≤ 10 := by rw [← hwin, List.length_take]; omega
  have hw11 : win.length ≤ 1000000 := by omega
  have Hb := Lib.hid hb
  have htn := fun (B : Option Addr) (k : Nat) (w1 : World) (h1 : Rd w1 B win.length win) (h2 : win.length ≤ k) => takenum_own B win.length k win w1 h1 h2 hw11
  clear hah hl hwin hb
  rcases h : Cd.takeNum win with _ | ⟨v, r⟩
  · rw [h] at htn
    have Tn := Lib.hid htn
    clear htn h
    go_enter Try.func40, Try.ntmps40
    go_wp2_with (first | (go_at_call 45; refine (Ah.out).mono ?_; rintro e w1 ⟨B, k, rfl, hk, hr, hb1⟩) | (go_at_call 46; refine (Tn.out B k w1 (hr.below hb1) hk).mono ?_; rintro e w2 ⟨rfl, hb2⟩))
    exact ⟨rfl, rfl, below_next hb1 hb2⟩
  · rw [h] at htn
    obtain ⟨j, hj1, hj2, hj3⟩ := Cd.takeNum_form h
    have hrl : r.length ≤ win.length := by rw [hj3, List.length_drop]; omega
    obtain ⟨d, hd⟩ : ∃ d, d = win.length - r.length := ⟨_, rfl⟩
    have hdi : (win.length : Int) - (r.length : Int) = (d : Int) := by omega
    have hd10 : d ≤ 10 := by omega
    have Tn := Lib.hid htn
    have Hd := Lib.hid hd
    clear htn h hj1 hj2 hj3 hd
    go_enter Try.func40, Try.ntmps40
    go_wp2_with (first | (go_at_call 45; refine (Ah.out).mono ?_; rintro e w1 ⟨B, k, rfl, hk, hr, hb1⟩) | (go_at_call 46; refine (Tn.out B k w1 (hr.below hb1) hk).mono ?_; rintro e w2 ⟨A2, k2, rfl, ho2, hb2⟩; have hB2 := (Hb.out.below hb1).below hb2; have c1 := hB2.at_ 1 rfl; have f1 := hB2.2.2 1))
    go_ret
    refine ⟨rfl, ?_, (grown_any (below_next hb1 hb2) (some b)).trans (grown_setCell _ _ _)⟩
    have h2 := hB2.set 1 (.int .i64 ((p : Int) + (d : Int))) (by simp)
    rw [← Hd.out]
    show Holds _ b [.slice A n c, .int .i64 ((p + d : Nat) : Int)]
    rw [show ((p + d : Nat) : Int) = (p : Int) + (d : Int) by omega]
    exact h2
theorem Cd.takeText_form {l : List Nat} {most : Int} {v r : List Nat} (h : Cd.takeText l most = some (v, r)) : ∃ k, 1 ≤ k ∧ k ≤ l.length ∧ r = l.drop k := by
  unfold Cd.takeText at h
  rcases hn : Cd.takeNum l with _ | ⟨x, y⟩
  · rw [hn] at h; cases h
  · rw [hn] at h
    obtain ⟨k, h1, h2, rfl⟩ := Cd.takeNum_form hn
    by_cases hc : most < 0 ∨ most < (x : Int) ∨ (l.drop k).length < x
    · simp only [if_pos hc] at h
      cases h
    · simp only [if_neg hc] at h
      injection h with h
      injection h with ha hb
      rw [List.length_drop] at hc
      exact ⟨k + x, by omega, by omega, by rw [← hb, List.drop_drop]⟩
def GivesTakenT (w : World) (b : Nat) (A : Option Addr) (n c p : Nat) (win : List Nat) (o : Option (List Nat × List Nat)) (e : Ending) (w' : World) : Prop :=
  match o with
  | none => e = .panicked Bk.pan ∧ Below w.heap.size w w'
  | some (v, r) => e = .returned (.string (str v)) ∧ Behind w b A n c (p + (win.length - r.length)) w'
set_option maxRecDepth 100000 in
set_option maxHeartbeats 8000000 in
theorem readtext_any (b : Nat) (A : Option Addr) (n c p : Nat) (l win : List Nat) (most : Nat) (w : World) (hb : Holds w b (rdr A n c p)) (hl : Rd w A n l) (hc : n ≤ c) (hn : n ≤ 1000000) (hp : p ≤ n) (hwin : (l.drop p).take (10 + most) = win) (hm : most ≤ 1000) :
    Calls Try.prog 41 #[.pointer (some ⟨b, 0, none⟩), .int .i64 (most : Int)] w (GivesTakenT w b A n c p win (Cd.takeText win (most : Int))) := by
  have hah := ahead_any b A n c p (10 + most) l w hb hl hc hn hp (by omega)
  rw [hwin, show ((10 + most : Nat) : Int) = 10 + (most : Int) by omega] at hah
  have Ah := Lib.hid hah
  have hw10 : win.length ≤ 10 + most := by rw [← hwin, List.length_take]; omega
  have hw11 : win.length ≤ 1000000 := by omega
  have Hb := Lib.hid hb
  have htn := fun (B : Option Addr) (k : Nat) (w1 : World) (h1 : Rd w1 B win.length win) (h2 : win.length ≤ k) => taketext_any B win.length k (most : Int) win w1 h1 h2 hw11 (by omega)
  clear hah hl hwin hb
  rcases h : Cd.takeText win (most : Int) with _ | ⟨v, r⟩
  · rw [h] at htn
    have Tn := Lib.hid htn
    clear htn h
    go_enter Try.func41, Try.ntmps41
    go_wp2_with (first | (go_at_call 45; refine (Ah.out).mono ?_; rintro e w1 ⟨B, k, rfl, hk, hr, hb1⟩) | (go_at_call 47; refine (Tn.out B k w1 (hr.below hb1) hk).mono ?_; rintro e w2 ⟨rfl, hb2⟩))
    exact ⟨rfl, rfl, below_next hb1 hb2⟩
  · rw [h] at htn
    obtain ⟨j, hj1, hj2, hj3⟩ := Cd.takeText_form h
    have hrl : r.length ≤ win.length := by rw [hj3, List.length_drop]; omega
    obtain ⟨d, hd⟩ : ∃ d, d = win.length - r.length := ⟨_, rfl⟩
    have hdi : (win.length : Int) - (r.length : Int) = (d : Int) := by omega
    have hd10 : d ≤ 1010 := by omega
    have Tn := Lib.hid htn
    have Hd := Lib.hid hd
    clear htn h hj1 hj2 hj3 hd
    go_enter Try.func41, Try.ntmps41
    go_wp2_with (first | (go_at_call 45; refine (Ah.out).mono ?_; rintro e w1 ⟨B, k, rfl, hk, hr, hb1⟩) | (go_at_call 47; refine (Tn.out B k w1 (hr.below hb1) hk).mono ?_; rintro e w2 ⟨A2, k2, rfl, ho2, hb2⟩; have hB2 := (Hb.out.below hb1).below hb2; have c1 := hB2.at_ 1 rfl; have f1 := hB2.2.2 1))
    go_ret
    refine ⟨rfl, ?_, (grown_any (below_next hb1 hb2) (some b)).trans (grown_setCell _ _ _)⟩
    have h2 := hB2.set 1 (.int .i64 ((p : Int) + (d : Int))) (by simp)
    rw [← Hd.out]
    show Holds _ b [.slice A n c, .int .i64 ((p + d : Nat) : Int)]
    rw [show ((p + d : Nat) : Int) = (p : Int) + (d : Int) by omega]
    exact h2
end Go.Proofs.Ytbfjcpblbmlfcaa
