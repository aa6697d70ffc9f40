/- The document's insert of a number into a row that rises; two rows of numbers compared. -/
import Derived.Test.YtpompjihmcmmaaaPkApp
import Derived.Test.YtpompjihmcmmaaaStepV
import Derived.Deep.DeepCutAuto
import Derived.Deep.CutBlock
namespace Go.Proofs.Ytpompjihmcmmaaa
open Go.RowKit
theorem rins_done {w v : World} {l : List Int} {x : Int} {k n c7 : Nat} {A7 : Option Addr} (hi : Pk.ins l x = l.take k ++ x :: l.drop k) (hl : l.length = n) (hk : k ≤ n) (hb7 : Below w.heap.size w v)
    (ho : OwnC 1 v w.heap.size 3 A7 (k + 1 + (n - k)) c7 ((Pk.iv (l.take k) ++ [.int .i64 x]) ++ Pk.iv (l.drop k))) : GivesInts w (Pk.ins l x) (.returned (.slice A7 (k + 1 + (n - k)) c7)) v := by
  have hlen : (Pk.ins l x).length = k + 1 + (n - k) := by rw [Pk.ins_len, hl]; omega
  have hfl : Pk.iv (Pk.ins l x) = (Pk.iv (l.take k) ++ [.int .i64 x]) ++ Pk.iv (l.drop k) := by rw [hi, Pk.iv_append, List.append_assoc]; rfl
  unfold GivesInts
  rw [hlen, hfl]
  exact ⟨A7, c7, rfl, ho, hb7⟩
set_option maxRecDepth 100000 in
set_option maxHeartbeats 8000000 in
theorem rins_any (A : Option Addr) (n c : Nat) (l : List Int) (x : Int) (w : World) (hr : RdI w A n l) (hn : n ≤ 100000) (hc : n ≤ c) :
    Calls Try.prog 26 #[.slice A n c, .int .i64 x] w (GivesInts w (Pk.ins l x)) := by
  have HR := Lib.hid hr
  have HL := Lib.hid hr.1
  clear hr
  go_enter Try.func26, Try.ntmps26
  go_wp2
  go_loopw [5] (fun ii wr => ∃ (k : Nat), k ≤ n ∧ ii = .int .i64 (k : Int) ∧ Hid (∀ y ∈ l.take k, y < x) ∧ wr = w) (fun ii _ => n - (intOf ii).toNat)
  case atStart => exact ⟨0, by omega, rfl, Lib.hid (fun y hy => nomatch hy), rfl⟩
  case round =>
    obtain ⟨k, hk, rfl, HP, rfl⟩ := hrel
    by_cases hlt : k < n
    · have hki : (k : Int) < (n : Int) := by omega
      obtain ⟨y, hy⟩ : ∃ y, l[k]? = some y := ⟨_, List.getElem?_eq_getElem (by rw [HL.out]; exact hlt)⟩
      obtain ⟨b, o, rfl, hbl, hcell⟩ := HR.out.at_ hy
      have e0 := hcell wr (Below.refl _ _)
      have HY := Lib.hid hy
      clear hcell hbl hy
      by_cases ha : y < x
      · have HPn := Lib.hid (show ∀ z ∈ l.take (k + 1), z < x by
          intro z hz
          rw [List.take_add_one, HY.out] at hz
          rcases List.mem_append.1 hz with hz | hz
          · exact HP.out z hz
          · rcases List.mem_singleton.1 hz with rfl
            exact ha)
        go_wp2
        go_roundw
        case rel => exact ⟨k + 1, by omega, by go_num, HPn, by first | rfl | trivial⟩
        case measure => simp [intOf]; omega
      · have HI := Lib.hid (Pk.ins_at (l := l) (x := x) (k := k) (by rw [HL.out]; exact hk) HP.out (fun z hz => by rw [HY.out] at hz; injection hz with hz; rw [← hz]; exact ha))
        go_upto_region 4 with fail
        have hto : ∀ W, (Instr.slice 29 (.slice (some ⟨b, o, none⟩) n c) none (some (.int .i64 (k : Int))) none).run Try.prog W = .ok (.slice (some ⟨b, o, none⟩) k c) W := fun W => run_toI _ n c k hk hc W
        have hfr : ∀ W, (Instr.slice 29 (.slice (some ⟨b, o, none⟩) n c) (some (.int .i64 (k : Int))) none none).run Try.prog W = .ok (.slice (behindI (some ⟨b, o, none⟩) c k) (n - k) (c - k)) W := fun W => run_fromI _ n c k hk hc W
        have HRL := Lib.hid (fun (v : World) (hv : Below wr.heap.size wr v) => ((HR.out.to hk).2.below hv))
        have HRR := Lib.hid (fun (v : World) (hv : Below wr.heap.size wr v) => ((HR.out.from_ hk hc).2.below hv))
        generalize hbe : behindI (some ⟨b, o, none⟩) c k = R at *
        clear hbe
        have eA : (wr.alloc (.cells #[] 3)).heap.size = wr.heap.size + 1 := by simp
        have eX : (wr.alloc (.cells #[.int .i64 x] 3)).heap.size = wr.heap.size + 1 := by simp
        have BL1 := (((Below.refl wr.heap.size wr).alloc (Nat.le_refl _) (.cells #[] 3))).drew
        have BL2 := (((Below.refl wr.heap.size wr).alloc (Nat.le_refl _) (.cells #[] 3)).alloc (by omega) (.cells #[.int .i64 x] 3)).drew
        have BL3 := (((Below.refl wr.heap.size wr).alloc (Nat.le_refl _) (.cells #[.int .i64 x] 3)).alloc (by omega) (.cells #[] 3)).drew
        have OC1 : OwnC 1 (wr.alloc (.cells #[] 3)).drew wr.heap.size 3 (some ⟨wr.heap.size, 0, none⟩) 0 0 [] := OwnC.empty 1 wr _ _ (Nat.le_refl _)
        have OC2 : OwnC 1 ((wr.alloc (.cells #[] 3)).alloc (.cells #[.int .i64 x] 3)).drew wr.heap.size 3 (some ⟨wr.heap.size, 0, none⟩) 0 0 [] := OwnC.alloc OC1 _
        have OC3 : OwnC 1 ((wr.alloc (.cells #[.int .i64 x] 3)).alloc (.cells #[] 3)).drew wr.heap.size 3 (some ⟨wr.heap.size + 1, 0, none⟩) 0 0 [] := by
          have h := OwnC.empty 1 (wr.alloc (.cells #[.int .i64 x] 3)) 3 wr.heap.size (by omega)
          rw [eX] at h
          exact h
        have XR2 : RdC 1 ((wr.alloc (.cells #[] 3)).alloc (.cells #[.int .i64 x] 3)).drew (some ⟨wr.heap.size + 1, 0, none⟩) 1 [.int .i64 x] := by
          have h := rdc_new 1 (wr.alloc (.cells #[] 3)) 3 [.int .i64 x] 1 rfl (0, 0)
          rw [eA] at h
          exact h
        have XR3 : RdC 1 ((wr.alloc (.cells #[.int .i64 x] 3)).alloc (.cells #[] 3)).drew (some ⟨wr.heap.size, 0, none⟩) 1 [.int .i64 x] := by
          have h := (rdc_new 1 wr 3 [.int .i64 x] 1 rfl (0, 0)).below ((Below.refl _ _).alloc (Nat.le_refl _) (.cells #[] 3))
          exact h
        have hl1 : 0 + k ≤ 1000000 := by omega
        have hl2 : k + 1 ≤ 1000000 := by omega
        have hl3 : k + 1 + (n - k) ≤ 1000000 := by omega
        have hq1 : wr.heap.size ≠ wr.heap.size + 1 := by omega
        have hq2 : wr.heap.size + 1 ≠ wr.heap.size := by omega
        have hle : wr.heap.size ≤ wr.heap.size + 1 := by omega
        clear eA eX
        go_region_law ((first
          | (refine step_appN manyI (by rfl) 24 rfl (.tmp 20) (.tmp 23) rfl rfl OC1 (some ⟨b, o, none⟩) k c (Pk.iv (l.take k)) (Pk.iv_one _) rfl (HRL.out _ BL1) hl1 BL1.size ?_; intro A3 c3 v3 hg3; obtain ⟨T1, T2, T3⟩ := first_app BL1 (Nat.le_refl _) hg3; have O4 := T2.alloc (.cells #[.int .i64 x] 3); have X4 := rdc_new 1 v3 3 [.int .i64 x] 1 rfl (0, 0); have S4 := T1.alloc T1.size (.cells #[.int .i64 x] 3); clear hg3)
          | (refine step_appN manyI (by rfl) 24 rfl (.tmp 20) (.tmp 23) rfl rfl OC2 (some ⟨b, o, none⟩) k c (Pk.iv (l.take k)) (Pk.iv_one _) rfl (HRL.out _ BL2) hl1 BL2.size ?_; intro A3 c3 v3 hg3; obtain ⟨T1, T2, T3⟩ := first_app BL2 (Nat.le_refl _) hg3; have X5 := side_row XR2 hq1 hg3; clear hg3)
          | (refine step_appN manyI (by rfl) 24 rfl (.tmp 20) (.tmp 23) rfl rfl OC3 (some ⟨b, o, none⟩) k c (Pk.iv (l.take k)) (Pk.iv_one _) rfl (HRL.out _ BL3) hl1 BL3.size ?_; intro A3 c3 v3 hg3; obtain ⟨T1, T2, T3⟩ := first_app BL3 hle hg3; have X5 := side_row XR3 hq2 hg3; clear hg3)
          | (refine step_appN manyI (by rfl) 27 rfl (.tmp 24) (.tmp 26) rfl rfl O4 (some ⟨v3.heap.size, 0, none⟩) 1 1 [.int .i64 x] (Pk.iv_one [x]) rfl X4 hl2 S4.size ?_; intro A5 c5 v5 hg5; have HF := Lib.hid (next_app S4 O4 hg5); clear hg5)
          | (refine step_appN manyI (by rfl) 27 rfl (.tmp 24) (.tmp 26) rfl rfl T2 (some ⟨wr.heap.size + 1, 0, none⟩) 1 1 [.int .i64 x] (Pk.iv_one [x]) rfl X5 hl2 T1.size ?_; intro A5 c5 v5 hg5; have HF := Lib.hid (next_app T1 T2 hg5); clear hg5)
          | (refine step_appN manyI (by rfl) 27 rfl (.tmp 24) (.tmp 26) rfl rfl T2 (some ⟨wr.heap.size, 0, none⟩) 1 1 [.int .i64 x] (Pk.iv_one [x]) rfl X5 hl2 T1.size ?_; intro A5 c5 v5 hg5; have HF := Lib.hid (next_app T1 T2 hg5); clear hg5)
          | (refine step_appN manyI (by rfl) 31 rfl (.tmp 27) (.tmp 30) rfl rfl HF.out.2 R (n - k) (c - k) (Pk.iv (l.drop k)) (Pk.iv_one _) rfl (HRR.out _ HF.out.1) hl3 HF.out.1.size ?_; intro A7 c7 v7 hg7; have HG := Lib.hid (next_app HF.out.1 HF.out.2 hg7); clear hg7)))
        all_goals
          go_wp2
          go_ret
          exact rins_done HI.out HL.out hk HG.out.1 HG.out.2
    · have hnk : ¬ (k : Int) < (n : Int) := by omega
      have HI := Lib.hid (Pk.ins_at (l := l) (x := x) (k := k) (by rw [HL.out]; exact hk) HP.out (fun z hz => by rw [List.getElem?_eq_none (by rw [HL.out]; omega)] at hz; cases hz))
      clear hlt
      go_upto_region 4 with fail
      have hto : ∀ W, (Instr.slice 29 (.slice A n c) none (some (.int .i64 (k : Int))) none).run Try.prog W = .ok (.slice A k c) W := fun W => run_toI _ n c k hk hc W
      have hfr : ∀ W, (Instr.slice 29 (.slice A n c) (some (.int .i64 (k : Int))) none none).run Try.prog W = .ok (.slice (behindI A c k) (n - k) (c - k)) W := fun W => run_fromI _ n c k hk hc W
      have HRL := Lib.hid (fun (v : World) (hv : Below wr.heap.size wr v) => ((HR.out.to hk).2.below hv))
      have HRR := Lib.hid (fun (v : World) (hv : Below wr.heap.size wr v) => ((HR.out.from_ hk hc).2.below hv))
      generalize hbe : behindI A c k = R at *
      clear hbe
      have eA : (wr.alloc (.cells #[] 3)).heap.size = wr.heap.size + 1 := by simp
      have eX : (wr.alloc (.cells #[.int .i64 x] 3)).heap.size = wr.heap.size + 1 := by simp
      have BL1 := (((Below.refl wr.heap.size wr).alloc (Nat.le_refl _) (.cells #[] 3))).drew
      have BL2 := (((Below.refl wr.heap.size wr).alloc (Nat.le_refl _) (.cells #[] 3)).alloc (by omega) (.cells #[.int .i64 x] 3)).drew
      have BL3 := (((Below.refl wr.heap.size wr).alloc (Nat.le_refl _) (.cells #[.int .i64 x] 3)).alloc (by omega) (.cells #[] 3)).drew
      have OC1 : OwnC 1 (wr.alloc (.cells #[] 3)).drew wr.heap.size 3 (some ⟨wr.heap.size, 0, none⟩) 0 0 [] := OwnC.empty 1 wr _ _ (Nat.le_refl _)
      have OC2 : OwnC 1 ((wr.alloc (.cells #[] 3)).alloc (.cells #[.int .i64 x] 3)).drew wr.heap.size 3 (some ⟨wr.heap.size, 0, none⟩) 0 0 [] := OwnC.alloc OC1 _
      have OC3 : OwnC 1 ((wr.alloc (.cells #[.int .i64 x] 3)).alloc (.cells #[] 3)).drew wr.heap.size 3 (some ⟨wr.heap.size + 1, 0, none⟩) 0 0 [] := by
        have h := OwnC.empty 1 (wr.alloc (.cells #[.int .i64 x] 3)) 3 wr.heap.size (by omega)
        rw [eX] at h
        exact h
      have XR2 : RdC 1 ((wr.alloc (.cells #[] 3)).alloc (.cells #[.int .i64 x] 3)).drew (some ⟨wr.heap.size + 1, 0, none⟩) 1 [.int .i64 x] := by
        have h := rdc_new 1 (wr.alloc (.cells #[] 3)) 3 [.int .i64 x] 1 rfl (0, 0)
        rw [eA] at h
        exact h
      have XR3 : RdC 1 ((wr.alloc (.cells #[.int .i64 x] 3)).alloc (.cells #[] 3)).drew (some ⟨wr.heap.size, 0, none⟩) 1 [.int .i64 x] := by
        have h := (rdc_new 1 wr 3 [.int .i64 x] 1 rfl (0, 0)).below ((Below.refl _ _).alloc (Nat.le_refl _) (.cells #[] 3))
        exact h
      have hl1 : 0 + k ≤ 1000000 := by omega
      have hl2 : k + 1 ≤ 1000000 := by omega
      have hl3 : k + 1 + (n - k) ≤ 1000000 := by omega
      have hq1 : wr.heap.size ≠ wr.heap.size + 1 := by omega
      have hq2 : wr.heap.size + 1 ≠ wr.heap.size := by omega
      have hle : wr.heap.size ≤ wr.heap.size + 1 := by omega
      clear eA eX
      go_region_law ((first
        | (refine step_appN manyI (by rfl) 24 rfl (.tmp 20) (.tmp 23) rfl rfl OC1 A k c (Pk.iv (l.take k)) (Pk.iv_one _) rfl (HRL.out _ BL1) hl1 BL1.size ?_; intro A3 c3 v3 hg3; obtain ⟨T1, T2, T3⟩ := first_app BL1 (Nat.le_refl _) hg3; have O4 := T2.alloc (.cells #[.int .i64 x] 3); have X4 := rdc_new 1 v3 3 [.int .i64 x] 1 rfl (0, 0); have S4 := T1.alloc T1.size (.cells #[.int .i64 x] 3); clear hg3)
        | (refine step_appN manyI (by rfl) 24 rfl (.tmp 20) (.tmp 23) rfl rfl OC2 A k c (Pk.iv (l.take k)) (Pk.iv_one _) rfl (HRL.out _ BL2) hl1 BL2.size ?_; intro A3 c3 v3 hg3; obtain ⟨T1, T2, T3⟩ := first_app BL2 (Nat.le_refl _) hg3; have X5 := side_row XR2 hq1 hg3; clear hg3)
        | (refine step_appN manyI (by rfl) 24 rfl (.tmp 20) (.tmp 23) rfl rfl OC3 A k c (Pk.iv (l.take k)) (Pk.iv_one _) rfl (HRL.out _ BL3) hl1 BL3.size ?_; intro A3 c3 v3 hg3; obtain ⟨T1, T2, T3⟩ := first_app BL3 hle hg3; have X5 := side_row XR3 hq2 hg3; clear hg3)
        | (refine step_appN manyI (by rfl) 27 rfl (.tmp 24) (.tmp 26) rfl rfl O4 (some ⟨v3.heap.size, 0, none⟩) 1 1 [.int .i64 x] (Pk.iv_one [x]) rfl X4 hl2 S4.size ?_; intro A5 c5 v5 hg5; have HF := Lib.hid (next_app S4 O4 hg5); clear hg5)
        | (refine step_appN manyI (by rfl) 27 rfl (.tmp 24) (.tmp 26) rfl rfl T2 (some ⟨wr.heap.size + 1, 0, none⟩) 1 1 [.int .i64 x] (Pk.iv_one [x]) rfl X5 hl2 T1.size ?_; intro A5 c5 v5 hg5; have HF := Lib.hid (next_app T1 T2 hg5); clear hg5)
        | (refine step_appN manyI (by rfl) 27 rfl (.tmp 24) (.tmp 26) rfl rfl T2 (some ⟨wr.heap.size, 0, none⟩) 1 1 [.int .i64 x] (Pk.iv_one [x]) rfl X5 hl2 T1.size ?_; intro A5 c5 v5 hg5; have HF := Lib.hid (next_app T1 T2 hg5); clear hg5)
        | (refine step_appN manyI (by rfl) 31 rfl (.tmp 27) (.tmp 30) rfl rfl HF.out.2 R (n - k) (c - k) (Pk.iv (l.drop k)) (Pk.iv_one _) rfl (HRR.out _ HF.out.1) hl3 HF.out.1.size ?_; intro A7 c7 v7 hg7; have HG := Lib.hid (next_app HF.out.1 HF.out.2 hg7); clear hg7)))
      all_goals
        go_wp2
        go_ret
        exact rins_done HI.out HL.out hk HG.out.1 HG.out.2
set_option maxRecDepth 100000 in
set_option maxHeartbeats 4000000 in
theorem same_any (A B : Option Addr) (n m c d : Nat) (l r : List Int) (w : World) (hr : RdI w A n l) (hs : RdI w B m r) (hn : n ≤ 1000000) :
    Calls Try.prog 9 #[.slice A n c, .slice B m d] w fun e w' => e = .returned (.bool (decide (l = r))) ∧ Below w.heap.size w w' := by
  have HR := Lib.hid hr
  have HL := Lib.hid hr.1
  have HS := Lib.hid hs
  have HM := Lib.hid hs.1
  clear hr hs
  generalize hans : decide (l = r) = ans
  by_cases hnm : n = m
  · subst hnm
    go_enter Try.func9, Try.ntmps9
    go_wp2
    go_loopw [5] (fun ii wr => ∃ (k : Nat), k ≤ n ∧ ii = .int .i64 (k : Int) ∧ Hid (l.take k = r.take k) ∧ Hid (Below w.heap.size w wr)) (fun ii _ => n - (intOf ii).toNat)
    case atStart => exact ⟨0, by omega, rfl, Lib.hid rfl, Lib.hid (Below.refl _ _)⟩
    case round =>
      obtain ⟨k, hk, rfl, HP, HB⟩ := hrel
      by_cases hlt : k < n
      · have hki : (k : Int) < (n : Int) := by omega
        obtain ⟨x, hx⟩ : ∃ x, l[k]? = some x := ⟨_, List.getElem?_eq_getElem (by rw [HL.out]; exact hlt)⟩
        obtain ⟨y, hy⟩ : ∃ y, r[k]? = some y := ⟨_, List.getElem?_eq_getElem (by rw [HM.out]; exact hlt)⟩
        obtain ⟨b, o, rfl, _, hcx⟩ := HR.out.at_ hx
        obtain ⟨b2, o2, rfl, _, hcy⟩ := HS.out.at_ hy
        have e0 := hcx wr HB.out
        have e1 := hcy wr HB.out
        have HX := Lib.hid hx
        have HY := Lib.hid hy
        clear hcx hcy hx hy
        by_cases he : x = y
        · subst he
          have g0 : (x == x) = true := by simp
          have HPn := Lib.hid (show l.take (k + 1) = r.take (k + 1) by rw [List.take_add_one, List.take_add_one, HP.out, HX.out, HY.out])
          go_wp2_with fail
          go_big_quiet (fail)
          go_wp2
          go_roundw
          case rel => exact ⟨k + 1, by omega, by go_num, HPn, Lib.hid (below_drewN HB.out _)⟩
          case measure => simp [intOf]; omega
        · have g0 : (x == y) = false := beq_eq_false_iff_ne.2 he
          have HF := Lib.hid (show false = ans by
            rw [← hans, eq_comm, decide_eq_false_iff_not]
            intro h
            apply he
            have h1 := HX.out
            rw [h, HY.out] at h1
            injection h1 with h1
            exact h1.symm)
          go_wp2_with fail
          go_big_quiet (fail)
          go_wp2
          go_ret
          exact ⟨by rw [← HF.out]; rfl, below_drewN HB.out _⟩
      · have hke : k = n := by omega
        obtain rfl : n = k := hke.symm
        have hnk : ¬ (n : Int) < (n : Int) := by omega
        have HF := Lib.hid (show true = ans by
          rw [← hans, eq_comm, decide_eq_true_iff]
          have h := HP.out
          rwa [List.take_of_length_le (Nat.le_of_eq HL.out), List.take_of_length_le (Nat.le_of_eq HM.out)] at h)
        clear hlt
        go_wp2
        go_ret
        exact ⟨by rw [← HF.out]; rfl, HB.out⟩
  · have g0 : ((n : Int) == (m : Int)) = false := beq_eq_false_iff_ne.2 (by omega)
    have HF := Lib.hid (show false = ans by
      rw [← hans, eq_comm, decide_eq_false_iff_not]
      intro h
      apply hnm
      rw [← HL.out, ← HM.out, h])
    go_enter Try.func9, Try.ntmps9
    go_wp2
    go_ret
    exact ⟨by rw [← HF.out]; rfl, Below.refl _ _⟩
end Go.Proofs.Ytpompjihmcmmaaa
