/- become, Claim, Give: what they return, and what becomes of a map. -/
import Derived.Test.YtaaodhnenaoheaaSpTurn
namespace Go.Proofs.Ytaaodhnenaoheaa
open Go.RowKit Sp
set_option linter.unusedVariables false
set_option maxRecDepth 100000 in
theorem become_no (b c : Nat) (e : Int) (w : World) (he : e = 5 ∨ e = 61 ∨ e = 62) : Calls Try.prog 31 #[.pointer (some ⟨b, 0, none⟩), .pointer (some ⟨c, 0, none⟩), .int .i64 e] w fun x w' => x = .returned (.int .i64 e) ∧ w = w' := by
  rcases he with rfl | rfl | rfl
  all_goals
    go_enter Try.func31, Try.ntmps31
    go_wp2
    go_ret
    exact ⟨rfl, rfl⟩
set_option maxRecDepth 100000 in
set_option maxHeartbeats 1000000 in
theorem become_yes (b c : Nat) (S T : List Bool) (w : World) (hb : MapAt w b S) (hc : MapAt w c T) (hne : c ≠ b) : Calls Try.prog 31 #[.pointer (some ⟨b, 0, none⟩), .pointer (some ⟨c, 0, none⟩), .int .i64 0] w (GivesMap b w (T, 0)) := by
  obtain ⟨xs, hB, hH⟩ := hc
  obtain ⟨ys, hD, hG⟩ := hb
  obtain ⟨x0, x1, x2, x3, x4, x5, x6, x7, rfl⟩ := eight hB.len
  obtain ⟨y0, y1, y2, y3, y4, y5, y6, y7, rfl⟩ := eight hD.len
  have c0 := hH.at_ 0 rfl
  have c1 := hH.at_ 1 rfl
  have c2 := hH.at_ 2 rfl
  have c3 := hH.at_ 3 rfl
  have c4 := hH.at_ 4 rfl
  have c5 := hH.at_ 5 rfl
  have c6 := hH.at_ 6 rfl
  have c7 := hH.at_ 7 rfl
  have c8 := hH.at_ 8 rfl
  have c9 := hH.at_ 9 rfl
  have d0 := hG.at_ 0 rfl
  have f0 := hG.2.2 0
  have d1 := hG.at_ 1 rfl
  have f1 := hG.2.2 1
  have d2 := hG.at_ 2 rfl
  have f2 := hG.2.2 2
  have d3 := hG.at_ 3 rfl
  have f3 := hG.2.2 3
  have d4 := hG.at_ 4 rfl
  have f4 := hG.2.2 4
  have d5 := hG.at_ 5 rfl
  have f5 := hG.2.2 5
  have d6 := hG.at_ 6 rfl
  have f6 := hG.2.2 6
  have d7 := hG.at_ 7 rfl
  have f7 := hG.2.2 7
  have d8 := hG.at_ 8 rfl
  have f8 := hG.2.2 8
  have d9 := hG.at_ 9 rfl
  have f9 := hG.2.2 9
  have HB := Lib.hid hB
  have HG := Lib.hid hG
  have HNE := Lib.hid hne
  clear hH hB hG hD hne
  go_enter Try.func31, Try.ntmps31
  go_wp2
  go_ret
  refine ⟨rfl, ?_, _, HB.out, ?_⟩
  · exact ((((((((((Ch.refl b w).trans (Ch.set b 0 _ _)).trans (Ch.set b 1 _ _)).trans (Ch.set b 2 _ _)).trans (Ch.set b 3 _ _)).trans (Ch.set b 4 _ _)).trans (Ch.set b 5 _ _)).trans (Ch.set b 6 _ _)).trans (Ch.set b 7 _ _)).trans (Ch.set b 8 _ _)).trans (Ch.set b 9 _ _)
  · have hs := (((((((((HG.out.set 0 (.bool true) (by simp [Sp.cells])).set 1 (.int .i64 (T.length : Int)) (by simp [Sp.cells])).set 2 (.int .u64 (x0 : Int)) (by simp [Sp.cells])).set 3 (.int .u64 (x1 : Int)) (by simp [Sp.cells])).set 4 (.int .u64 (x2 : Int)) (by simp [Sp.cells])).set 5 (.int .u64 (x3 : Int)) (by simp [Sp.cells])).set 6 (.int .u64 (x4 : Int)) (by simp [Sp.cells])).set 7 (.int .u64 (x5 : Int)) (by simp [Sp.cells])).set 8 (.int .u64 (x6 : Int)) (by simp [Sp.cells])).set 9 (.int .u64 (x7 : Int)) (by simp [Sp.cells])
    exact hs

set_option maxRecDepth 100000 in
set_option maxHeartbeats 1000000 in
theorem claims_any (b : Nat) (T : List Bool) (A : Option Addr) (n c : Nat) (ps : List (Int × Int)) (w : World) (h : MapAt w b T) (hr : RdC 2 w A n (iv (flat ps))) (hn : ps.length = n) (hbig : n ≤ 9223372036854775807) : Calls Try.prog 17 #[.pointer (some ⟨b, 0, none⟩), .slice A n c] w (GivesMap b w (fin T (turnAll false 61 T (flat ps)))) := by
  have HMade := Lib.hid (isMade_any b true w h.made)
  have H := Lib.hid h
  have hlt := h.lt
  obtain ⟨xs, hB, hH⟩ := h
  obtain ⟨x0, x1, x2, x3, x4, x5, x6, x7, rfl⟩ := eight hB.len
  have c0 := hH.at_ 0 rfl
  have c1 := hH.at_ 1 rfl
  have c2 := hH.at_ 2 rfl
  have c3 := hH.at_ 3 rfl
  have c4 := hH.at_ 4 rfl
  have c5 := hH.at_ 5 rfl
  have c6 := hH.at_ 6 rfl
  have c7 := hH.at_ 7 rfl
  have c8 := hH.at_ 8 rfl
  have c9 := hH.at_ 9 rfl
  have hM1 : MapAt (w.alloc (.cells #[.bool true, .int .i64 (T.length : Int), .int .u64 (x0 : Int), .int .u64 (x1 : Int), .int .u64 (x2 : Int), .int .u64 (x3 : Int), .int .u64 (x4 : Int), .int .u64 (x5 : Int), .int .u64 (x6 : Int), .int .u64 (x7 : Int)] 64)) w.heap.size T := ⟨_, hB, Holds.new w _ _⟩
  have he := each_claim w.heap.size T A n c ps _ hM1 (hr.alloc _) hn hbig (fun h0 g o e => by obtain ⟨b2, o2, he2, hb2, _⟩ := hr.2 h0; rw [e] at he2; injection he2 with he2; injection he2 with e1 _; omega)
  unfold claimV at he
  have HE := Lib.hid he
  have hw1 : Ch b w (w.alloc (.cells #[.bool true, .int .i64 (T.length : Int), .int .u64 (x0 : Int), .int .u64 (x1 : Int), .int .u64 (x2 : Int), .int .u64 (x3 : Int), .int .u64 (x4 : Int), .int .u64 (x5 : Int), .int .u64 (x6 : Int), .int .u64 (x7 : Int)] 64)) := (Ch.refl b w).alloc _
  have hmf : ∀ (fn : Fn) (first cap : Array Value) (w : World), (Instr.makeFunc fn first cap).run Try.prog w = .ok (.func fn first cap) w := fun _ _ _ _ => rfl
  have hne2 : w.heap.size ≠ b := by omega
  have hMb : ∀ v, Ch w.heap.size (w.alloc (.cells #[.bool true, .int .i64 (T.length : Int), .int .u64 (x0 : Int), .int .u64 (x1 : Int), .int .u64 (x2 : Int), .int .u64 (x3 : Int), .int .u64 (x4 : Int), .int .u64 (x5 : Int), .int .u64 (x6 : Int), .int .u64 (x7 : Int)] 64)) v → Ch b w v ∧ MapAt v b T := by
    intro v hv
    refine ⟨?_, (H.out.below ((Below.refl _ _).alloc (Nat.le_refl _) _)).ch hv (fun e => hne2 e.symm)⟩
    exact Ch.of_below (hv.below ((Below.refl _ _).alloc (Nat.le_refl _) _) (Nat.le_refl _) (by simp))
  have HMb := Lib.hid hMb
  obtain ⟨T1, hcase⟩ := turnAll_cases false 61 T (flat ps)
  clear he hMb hB hH hM1 hr
  rcases hcase with hcase | hcase | hcase
  · rw [hcase] at HE ⊢
    rw [show fin T (T1, 0) = (T1, 0) from rfl]
    go_enter Try.func17, Try.ntmps17
    go_wp2_with (first | (go_at_call 30; refine HMade.out.mono ?_; rintro e w' ⟨rfl, rfl⟩))
    refine HE.out.mono ?_
    rintro e v1 ⟨rfl, hC1, hM2⟩
    obtain ⟨hCb, hMb⟩ := HMb.out v1 hC1
    go_wp2_with fail
    refine (become_yes b w.heap.size T T1 v1 hMb hM2 hne2).mono ?_
    rintro e v2 ⟨rfl, hC2, hM3⟩
    go_wp2_with fail
    go_ret
    exact ⟨rfl, hCb.trans hC2, hM3⟩
  · rw [hcase] at HE ⊢
    rw [show fin T (T1, 5) = (T, 5) from rfl]
    go_enter Try.func17, Try.ntmps17
    go_wp2_with (first | (go_at_call 30; refine HMade.out.mono ?_; rintro e w' ⟨rfl, rfl⟩))
    refine HE.out.mono ?_
    rintro e v1 ⟨rfl, hC1, hM2⟩
    obtain ⟨hCb, hMb⟩ := HMb.out v1 hC1
    go_wp2_with fail
    refine (become_no b w.heap.size 5 v1 (by omega)).mono ?_
    rintro e v2 ⟨rfl, rfl⟩
    go_wp2_with fail
    go_ret
    exact ⟨rfl, hCb, hMb⟩
  · rw [hcase] at HE ⊢
    rw [show fin T (T1, 61) = (T, 61) from rfl]
    go_enter Try.func17, Try.ntmps17
    go_wp2_with (first | (go_at_call 30; refine HMade.out.mono ?_; rintro e w' ⟨rfl, rfl⟩))
    refine HE.out.mono ?_
    rintro e v1 ⟨rfl, hC1, hM2⟩
    obtain ⟨hCb, hMb⟩ := HMb.out v1 hC1
    go_wp2_with fail
    refine (become_no b w.heap.size 61 v1 (by omega)).mono ?_
    rintro e v2 ⟨rfl, rfl⟩
    go_wp2_with fail
    go_ret
    exact ⟨rfl, hCb, hMb⟩

set_option maxRecDepth 100000 in
set_option maxHeartbeats 1000000 in
theorem gives_any (b : Nat) (T : List Bool) (A : Option Addr) (n c : Nat) (ps : List (Int × Int)) (w : World) (h : MapAt w b T) (hr : RdC 2 w A n (iv (flat ps))) (hn : ps.length = n) (hbig : n ≤ 9223372036854775807) : Calls Try.prog 19 #[.pointer (some ⟨b, 0, none⟩), .slice A n c] w (GivesMap b w (fin T (turnAll true 62 T (flat ps)))) := by
  have HMade := Lib.hid (isMade_any b true w h.made)
  have H := Lib.hid h
  have hlt := h.lt
  obtain ⟨xs, hB, hH⟩ := h
  obtain ⟨x0, x1, x2, x3, x4, x5, x6, x7, rfl⟩ := eight hB.len
  have c0 := hH.at_ 0 rfl
  have c1 := hH.at_ 1 rfl
  have c2 := hH.at_ 2 rfl
  have c3 := hH.at_ 3 rfl
  have c4 := hH.at_ 4 rfl
  have c5 := hH.at_ 5 rfl
  have c6 := hH.at_ 6 rfl
  have c7 := hH.at_ 7 rfl
  have c8 := hH.at_ 8 rfl
  have c9 := hH.at_ 9 rfl
  have hM1 : MapAt (w.alloc (.cells #[.bool true, .int .i64 (T.length : Int), .int .u64 (x0 : Int), .int .u64 (x1 : Int), .int .u64 (x2 : Int), .int .u64 (x3 : Int), .int .u64 (x4 : Int), .int .u64 (x5 : Int), .int .u64 (x6 : Int), .int .u64 (x7 : Int)] 64)) w.heap.size T := ⟨_, hB, Holds.new w _ _⟩
  have he := each_give w.heap.size T A n c ps _ hM1 (hr.alloc _) hn hbig (fun h0 g o e => by obtain ⟨b2, o2, he2, hb2, _⟩ := hr.2 h0; rw [e] at he2; injection he2 with he2; injection he2 with e1 _; omega)
  unfold giveV at he
  have HE := Lib.hid he
  have hw1 : Ch b w (w.alloc (.cells #[.bool true, .int .i64 (T.length : Int), .int .u64 (x0 : Int), .int .u64 (x1 : Int), .int .u64 (x2 : Int), .int .u64 (x3 : Int), .int .u64 (x4 : Int), .int .u64 (x5 : Int), .int .u64 (x6 : Int), .int .u64 (x7 : Int)] 64)) := (Ch.refl b w).alloc _
  have hmf : ∀ (fn : Fn) (first cap : Array Value) (w : World), (Instr.makeFunc fn first cap).run Try.prog w = .ok (.func fn first cap) w := fun _ _ _ _ => rfl
  have hne2 : w.heap.size ≠ b := by omega
  have hMb : ∀ v, Ch w.heap.size (w.alloc (.cells #[.bool true, .int .i64 (T.length : Int), .int .u64 (x0 : Int), .int .u64 (x1 : Int), .int .u64 (x2 : Int), .int .u64 (x3 : Int), .int .u64 (x4 : Int), .int .u64 (x5 : Int), .int .u64 (x6 : Int), .int .u64 (x7 : Int)] 64)) v → Ch b w v ∧ MapAt v b T := by
    intro v hv
    refine ⟨?_, (H.out.below ((Below.refl _ _).alloc (Nat.le_refl _) _)).ch hv (fun e => hne2 e.symm)⟩
    exact Ch.of_below (hv.below ((Below.refl _ _).alloc (Nat.le_refl _) _) (Nat.le_refl _) (by simp))
  have HMb := Lib.hid hMb
  obtain ⟨T1, hcase⟩ := turnAll_cases true 62 T (flat ps)
  clear he hMb hB hH hM1 hr
  rcases hcase with hcase | hcase | hcase
  · rw [hcase] at HE ⊢
    rw [show fin T (T1, 0) = (T1, 0) from rfl]
    go_enter Try.func19, Try.ntmps19
    go_wp2_with (first | (go_at_call 30; refine HMade.out.mono ?_; rintro e w' ⟨rfl, rfl⟩))
    refine HE.out.mono ?_
    rintro e v1 ⟨rfl, hC1, hM2⟩
    obtain ⟨hCb, hMb⟩ := HMb.out v1 hC1
    go_wp2_with fail
    refine (become_yes b w.heap.size T T1 v1 hMb hM2 hne2).mono ?_
    rintro e v2 ⟨rfl, hC2, hM3⟩
    go_wp2_with fail
    go_ret
    exact ⟨rfl, hCb.trans hC2, hM3⟩
  · rw [hcase] at HE ⊢
    rw [show fin T (T1, 5) = (T, 5) from rfl]
    go_enter Try.func19, Try.ntmps19
    go_wp2_with (first | (go_at_call 30; refine HMade.out.mono ?_; rintro e w' ⟨rfl, rfl⟩))
    refine HE.out.mono ?_
    rintro e v1 ⟨rfl, hC1, hM2⟩
    obtain ⟨hCb, hMb⟩ := HMb.out v1 hC1
    go_wp2_with fail
    refine (become_no b w.heap.size 5 v1 (by omega)).mono ?_
    rintro e v2 ⟨rfl, rfl⟩
    go_wp2_with fail
    go_ret
    exact ⟨rfl, hCb, hMb⟩
  · rw [hcase] at HE ⊢
    rw [show fin T (T1, 62) = (T, 62) from rfl]
    go_enter Try.func19, Try.ntmps19
    go_wp2_with (first | (go_at_call 30; refine HMade.out.mono ?_; rintro e w' ⟨rfl, rfl⟩))
    refine HE.out.mono ?_
    rintro e v1 ⟨rfl, hC1, hM2⟩
    obtain ⟨hCb, hMb⟩ := HMb.out v1 hC1
    go_wp2_with fail
    refine (become_no b w.heap.size 62 v1 (by omega)).mono ?_
    rintro e v2 ⟨rfl, rfl⟩
    go_wp2_with fail
    go_ret
    exact ⟨rfl, hCb, hMb⟩

end Go.Proofs.Ytaaodhnenaoheaa
