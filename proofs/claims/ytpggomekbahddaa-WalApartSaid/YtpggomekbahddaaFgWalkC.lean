/- What frag's walk does with the function of Cut. -/
import Derived.Test.YtpggomekbahddaaFgWalkN
namespace Go.Proofs.Ytpggomekbahddaa
open Go.RowKit
set_option linter.unusedVariables false
/-- What a function that is handed fragments makes of them. -/
def LaysCut (p q : Nat) (recs : List (List Nat)) (Inv : Bool → Fg.St → World → Prop) : Prop :=
  ∀ (b : Bool) (st : Fg.St) (v : World) (i f t kd : Nat) (fr : Bool) (r : List Nat), recs[i]? = some r → f ≤ t → t ≤ r.length → Fg.Fit st → (b = false → st = ([], [])) → t - f + 2 ≤ Fg.room st.2.length → kd < 256 → st.1.length ≤ 100000 → fr = decide (Fg.left b st < 3) → Inv b st v →
    Calls Try.prog 38 #[.bool fr, .int .i64 (kd : Int), .int .i64 (i : Int), .int .i64 (f : Int), .int .i64 (t : Int), .pointer (some ⟨p, 0, none⟩), .pointer (some ⟨q, 0, none⟩)] v
      fun e w' => e = .returned (.tuple #[]) ∧ Inv true (Fg.lay st kd ((r.drop f).take (t - f))) w'
set_option maxRecDepth 100000 in
set_option maxHeartbeats 8000000 in
theorem walk_cut (p q : Nat) (recs : List (List Nat)) (Inv : Bool → Fg.St → World → Prop) (hL : LaysCut p q recs Inv) (A : Option Addr) (c : Nat) (hR : ∀ b st v, Inv b st v → RdZ v A recs.length (lens recs)) (hn : recs.length ≤ 256) (hm : ∀ r ∈ recs, r.length ≤ 8192) (w : World) (h0 : Inv false ([], []) w) :
    Calls Try.prog 37 #[.slice A recs.length c, .func (.func 38) #[] #[.pointer (some ⟨p, 0, none⟩), .pointer (some ⟨q, 0, none⟩)]] w fun e w' => e = .returned (.tuple #[]) ∧ Inv (!recs.isEmpty) (Fg.cutAll recs ([], [])) w' := by
  have HL := Lib.hid hL
  have HR := Lib.hid hR
  have H0 := Lib.hid h0
  have HM := Lib.hid hm
  clear hL hR h0 hm
  go_enter Try.func37, Try.ntmps37
  go_wp2
  go_loopw [4, 12] (fun lf ii v => ∃ k : Nat, k ≤ recs.length ∧ ii = .int .i64 (k : Int) ∧ lf = .int .i64 (Fg.left (decide (0 < k)) (Fg.cutAll (recs.take k) ([], [])) : Int) ∧ Inv (decide (0 < k)) (Fg.cutAll (recs.take k) ([], [])) v) (fun _ ii _ => recs.length - (intOf ii).toNat)
  case atStart => exact ⟨0, Nat.zero_le _, rfl, rfl, H0.out⟩
  case round =>
    clear H0
    obtain ⟨k, hk, rfl, rfl, hI⟩ := hrel
    by_cases hkn : k < recs.length
    · obtain ⟨r, hr⟩ : ∃ r, recs[k]? = some r := ⟨recs[k], List.getElem?_eq_getElem hkn⟩
      have hrm := HM.out r (List.mem_of_getElem? hr)
      have hki : (k : Int) < (recs.length : Int) := by omega
      obtain ⟨g, o, rfl, hg, hcl⟩ := (HR.out _ _ _ hI).2 (by omega)
      have hcell := hcl k _ (lens_at hr)
      have hfit : Fg.Fit (Fg.cutAll (recs.take k) ([], [])) := Fg.Fit.zero.cutAll
      have hb0 : decide (0 < k) = false → Fg.cutAll (recs.take k) ([], []) = ([], []) := by
        intro e
        have : k = 0 := by simpa using e
        subst this; rfl
      have hgoal : Fg.cutAll (recs.take (k + 1)) ([], []) = Fg.cut1 (r.drop 0) false (Fg.cutAll (recs.take k) ([], [])) := by
        rw [List.take_add_one, hr, List.drop_zero]
        exact Fg.cutAll_snoc _ _ _
      generalize Fg.cutAll (recs.take k) ([], []) = st0 at *
      obtain ⟨goal, hg9⟩ : ∃ goal, goal = Fg.cutAll (recs.take (k + 1)) ([], []) := ⟨_, rfl⟩
      have HG9 := Lib.hid hg9
      rw [← hg9] at hgoal
      have hfew : goal.1.length ≤ 100000 := by rw [hg9]; exact Fg.cutAll_few _ (fun x hx => HM.out x (List.mem_of_mem_take hx)) (by rw [List.length_take]; omega)
      have HFew := Lib.hid hfew
      obtain ⟨b0, hb⟩ : ∃ b0, b0 = decide (0 < k) := ⟨_, rfl⟩
      rw [← hb] at hI hb0 ⊢
      have HI := Lib.hid hI
      have HFit := Lib.hid hfit
      have HB0 := Lib.hid hb0
      have HGoal := Lib.hid hgoal
      have Hr := Lib.hid hr
      clear hI hfit hb0 hgoal hb hr hcl hg9 hfew
      go_wp2
      obtain ⟨wo, rfl⟩ : ∃ wo : World, wo = wr := ⟨_, rfl⟩
      go_loopw [4, 7] (fun lf ff v => ∃ (f : Nat) (b : Bool) (st : Fg.St), f ≤ r.length ∧ ff = .int .i64 (f : Int) ∧ lf = .int .i64 (Fg.left b st : Int) ∧ Inv b st v ∧ Keep r goal f b st) (fun _ ff _ => r.length - (intOf ff).toNat)
      case atStart => exact ⟨0, b0, st0, Nat.zero_le _, rfl, rfl, HI.out, HFit.out, HB0.out, HGoal.out.symm, .inr rfl⟩
      case round =>
        clear HI HFit HB0 HGoal hcell hg
        obtain ⟨f, b, st, hf, rfl, rfl, hI, hK⟩ := hrel
        have hroom := Fg.room_left hK.1 hK.2.1
        have hleft := Fg.left_le b st
        have hst9 : st.1.length ≤ 100000 := Nat.le_trans (Fg.cut1_mono _ _ _) (by rw [hK.2.2.1]; exact HFew.out)
        by_cases hfr : Fg.left b st < 3
        · rw [if_pos hfr] at hroom
          by_cases hov : r.length - f ≤ 108 - 2
          · by_cases hf0 : f = 0
            · obtain ⟨fst, hfst⟩ : ∃ fst : Bool, fst = decide (f = 0) := ⟨_, rfl⟩
              have hfst2 : fst = true := by rw [hfst]; simp [hf0]
              subst hfst2
              have hko := keep_over hK (by rw [hroom]; exact hov) hf hfst
              have hcall := HL.out b st wr k f r.length (Fg.kind (!true) true) true r Hr.out hf (Nat.le_refl _) hK.1 hK.2.1 (by rw [hroom]; omega) (by decide) hst9 (by rw [decide_eq_true hfr]) hI
              rw [hko.1] at hcall
              change Calls Try.prog 38 #[.bool true, .int .i64 1, .int .i64 (k : Int), .int .i64 (f : Int), .int .i64 (r.length : Int), .pointer (some ⟨p, 0, none⟩), .pointer (some ⟨q, 0, none⟩)] wr (fun e w' => e = .returned (.tuple #[]) ∧ Inv true goal w') at hcall
              rw [hroom] at hko
              have hkl := hko.2.2
              have hf0b : ((f : Int) == 0) = true := by rw [beq_iff_eq]; omega
              have hkd : ∀ v, Calls Try.prog 50 #[.bool true, .bool true] v fun e w' => e = .returned (.int .i64 1) ∧ v = w' := fun v => kindOf_any false true v
              have hfi : (Fg.left b st : Int) < 3 := by omega
              have hov2 := hov
              have HKd := Lib.hid hkd
              have HCall := Lib.hid hcall
              have HKo := Lib.hid hko.2.1
              clear hst9 hf0 hfr hov hroom hfst hcall hkd hK hI hko
              generalize Fg.left b st = lft at *
              have hmin : (r.length : Int) ≤ (f : Int) + 108 - 2 := by omega
              obtain ⟨lg, hlg⟩ : ∃ lg, lg = Fg.left true goal := ⟨_, rfl⟩
              rw [← hlg] at hkl
              have HLg := Lib.hid hlg
              have hslot : (108 : Int) - (2 + (r.length : Int) - (f : Int)) = (lg : Int) := by omega
              clear hkl hlg hov2
              go_wp2_with fail
              refine (HKd.out _).mono ?_
              rintro e9 v9 ⟨rfl, rfl⟩
              go_wp2_with fail
              refine HCall.out.mono ?_
              rintro e9 v9 ⟨rfl, hI9⟩
              have HI9 := Lib.hid hI9
              clear hI9 HCall HKd
              go_wp2_with fail
              go_roundw
              case rel => exact ⟨k + 1, by omega, by go_num, by rw [← HG9.out, decide_eq_true (Nat.succ_pos k), ← HLg.out], by rw [← HG9.out, decide_eq_true (Nat.succ_pos k)]; exact HI9.out⟩
              case measure => simp [intOf]; omega
            · obtain ⟨fst, hfst⟩ : ∃ fst : Bool, fst = decide (f = 0) := ⟨_, rfl⟩
              have hfst2 : fst = false := by rw [hfst]; simp [hf0]
              subst hfst2
              have hko := keep_over hK (by rw [hroom]; exact hov) hf hfst
              have hcall := HL.out b st wr k f r.length (Fg.kind (!false) true) true r Hr.out hf (Nat.le_refl _) hK.1 hK.2.1 (by rw [hroom]; omega) (by decide) hst9 (by rw [decide_eq_true hfr]) hI
              rw [hko.1] at hcall
              change Calls Try.prog 38 #[.bool true, .int .i64 4, .int .i64 (k : Int), .int .i64 (f : Int), .int .i64 (r.length : Int), .pointer (some ⟨p, 0, none⟩), .pointer (some ⟨q, 0, none⟩)] wr (fun e w' => e = .returned (.tuple #[]) ∧ Inv true goal w') at hcall
              rw [hroom] at hko
              have hkl := hko.2.2
              have hf0b : ((f : Int) == 0) = false := by rw [beq_eq_false_iff_ne]; omega
              have hkd : ∀ v, Calls Try.prog 50 #[.bool false, .bool true] v fun e w' => e = .returned (.int .i64 4) ∧ v = w' := fun v => kindOf_any true true v
              have hfi : (Fg.left b st : Int) < 3 := by omega
              have hov2 := hov
              have HKd := Lib.hid hkd
              have HCall := Lib.hid hcall
              have HKo := Lib.hid hko.2.1
              clear hst9 hf0 hfr hov hroom hfst hcall hkd hK hI hko
              generalize Fg.left b st = lft at *
              have hmin : (r.length : Int) ≤ (f : Int) + 108 - 2 := by omega
              obtain ⟨lg, hlg⟩ : ∃ lg, lg = Fg.left true goal := ⟨_, rfl⟩
              rw [← hlg] at hkl
              have HLg := Lib.hid hlg
              have hslot : (108 : Int) - (2 + (r.length : Int) - (f : Int)) = (lg : Int) := by omega
              clear hkl hlg hov2
              go_wp2_with fail
              refine (HKd.out _).mono ?_
              rintro e9 v9 ⟨rfl, rfl⟩
              go_wp2_with fail
              refine HCall.out.mono ?_
              rintro e9 v9 ⟨rfl, hI9⟩
              have HI9 := Lib.hid hI9
              clear hI9 HCall HKd
              go_wp2_with fail
              go_roundw
              case rel => exact ⟨k + 1, by omega, by go_num, by rw [← HG9.out, decide_eq_true (Nat.succ_pos k), ← HLg.out], by rw [← HG9.out, decide_eq_true (Nat.succ_pos k)]; exact HI9.out⟩
              case measure => simp [intOf]; omega
          · by_cases hf0 : f = 0
            · obtain ⟨fst, hfst⟩ : ∃ fst : Bool, fst = decide (f = 0) := ⟨_, rfl⟩
              have hfst2 : fst = true := by rw [hfst]; simp [hf0]
              subst hfst2
              obtain ⟨t, ht⟩ : ∃ t, t = f + Fg.room st.2.length - 2 := ⟨_, rfl⟩
              have hko := keep_more hK (by rw [hroom]; omega) hf hfst ht
              have hcall := HL.out b st wr k f t (Fg.kind (!true) false) true r Hr.out (by rw [ht, hroom]; omega) (by rw [ht, hroom]; omega) hK.1 hK.2.1 (by rw [ht, hroom]; omega) (by decide) hst9 (by rw [decide_eq_true hfr]) hI
              rw [hroom] at ht hko
              have hkl := hko.2
              have hkk := hko.1
              generalize Fg.lay st (Fg.kind (!true) false) ((r.drop f).take (t - f)) = st2 at *
              change Calls Try.prog 38 #[.bool true, .int .i64 2, .int .i64 (k : Int), .int .i64 (f : Int), .int .i64 (t : Int), .pointer (some ⟨p, 0, none⟩), .pointer (some ⟨q, 0, none⟩)] wr (fun e w' => e = .returned (.tuple #[]) ∧ Inv true st2 w') at hcall
              have hf0b : ((f : Int) == 0) = true := by rw [beq_iff_eq]; omega
              have hkd : ∀ v, Calls Try.prog 50 #[.bool true, .bool false] v fun e w' => e = .returned (.int .i64 2) ∧ v = w' := fun v => kindOf_any false false v
              have hfi : (Fg.left b st : Int) < 3 := by omega
              have hov2 := hov
              have HKd := Lib.hid hkd
              have HCall := Lib.hid hcall
              have HKk := Lib.hid hkk
              clear hst9 hf0 hfr hov hroom hfst hcall hkd hK hI hko hkk
              generalize Fg.left b st = lft at *
              have htI : (f : Int) + 108 - 2 = (t : Int) := by omega
              have hmin : ¬ (r.length : Int) ≤ (f : Int) + 108 - 2 := by omega
              have hmin2 : ¬ (r.length : Int) ≤ (t : Int) := by omega
              have hmin3 : (t : Int) < (r.length : Int) := by omega
              have htb : ((t : Int) == (r.length : Int)) = false := by rw [beq_eq_false_iff_ne]; omega
              have htf : f < t := by omega
              obtain ⟨lg, hlg⟩ : ∃ lg, lg = Fg.left true st2 := ⟨_, rfl⟩
              rw [← hlg] at hkl
              have HLg := Lib.hid hlg
              have hslot : (108 : Int) - (2 + (t : Int) - (f : Int)) = (lg : Int) := by omega
              clear hkl hlg ht hov2
              go_wp2_with fail
              refine (HKd.out _).mono ?_
              rintro e9 v9 ⟨rfl, rfl⟩
              go_wp2_with fail
              refine HCall.out.mono ?_
              rintro e9 v9 ⟨rfl, hI9⟩
              have HI9 := Lib.hid hI9
              clear hI9 HCall HKd
              go_wp2_with fail
              go_roundw
              case rel => exact ⟨t, true, st2, by omega, rfl, by rw [← HLg.out], HI9.out, HKk.out⟩
              case measure => simp [intOf]; omega
            · obtain ⟨fst, hfst⟩ : ∃ fst : Bool, fst = decide (f = 0) := ⟨_, rfl⟩
              have hfst2 : fst = false := by rw [hfst]; simp [hf0]
              subst hfst2
              obtain ⟨t, ht⟩ : ∃ t, t = f + Fg.room st.2.length - 2 := ⟨_, rfl⟩
              have hko := keep_more hK (by rw [hroom]; omega) hf hfst ht
              have hcall := HL.out b st wr k f t (Fg.kind (!false) false) true r Hr.out (by rw [ht, hroom]; omega) (by rw [ht, hroom]; omega) hK.1 hK.2.1 (by rw [ht, hroom]; omega) (by decide) hst9 (by rw [decide_eq_true hfr]) hI
              rw [hroom] at ht hko
              have hkl := hko.2
              have hkk := hko.1
              generalize Fg.lay st (Fg.kind (!false) false) ((r.drop f).take (t - f)) = st2 at *
              change Calls Try.prog 38 #[.bool true, .int .i64 3, .int .i64 (k : Int), .int .i64 (f : Int), .int .i64 (t : Int), .pointer (some ⟨p, 0, none⟩), .pointer (some ⟨q, 0, none⟩)] wr (fun e w' => e = .returned (.tuple #[]) ∧ Inv true st2 w') at hcall
              have hf0b : ((f : Int) == 0) = false := by rw [beq_eq_false_iff_ne]; omega
              have hkd : ∀ v, Calls Try.prog 50 #[.bool false, .bool false] v fun e w' => e = .returned (.int .i64 3) ∧ v = w' := fun v => kindOf_any true false v
              have hfi : (Fg.left b st : Int) < 3 := by omega
              have hov2 := hov
              have HKd := Lib.hid hkd
              have HCall := Lib.hid hcall
              have HKk := Lib.hid hkk
              clear hst9 hf0 hfr hov hroom hfst hcall hkd hK hI hko hkk
              generalize Fg.left b st = lft at *
              have htI : (f : Int) + 108 - 2 = (t : Int) := by omega
              have hmin : ¬ (r.length : Int) ≤ (f : Int) + 108 - 2 := by omega
              have hmin2 : ¬ (r.length : Int) ≤ (t : Int) := by omega
              have hmin3 : (t : Int) < (r.length : Int) := by omega
              have htb : ((t : Int) == (r.length : Int)) = false := by rw [beq_eq_false_iff_ne]; omega
              have htf : f < t := by omega
              obtain ⟨lg, hlg⟩ : ∃ lg, lg = Fg.left true st2 := ⟨_, rfl⟩
              rw [← hlg] at hkl
              have HLg := Lib.hid hlg
              have hslot : (108 : Int) - (2 + (t : Int) - (f : Int)) = (lg : Int) := by omega
              clear hkl hlg ht hov2
              go_wp2_with fail
              refine (HKd.out _).mono ?_
              rintro e9 v9 ⟨rfl, rfl⟩
              go_wp2_with fail
              refine HCall.out.mono ?_
              rintro e9 v9 ⟨rfl, hI9⟩
              have HI9 := Lib.hid hI9
              clear hI9 HCall HKd
              go_wp2_with fail
              go_roundw
              case rel => exact ⟨t, true, st2, by omega, rfl, by rw [← HLg.out], HI9.out, HKk.out⟩
              case measure => simp [intOf]; omega
        · rw [if_neg hfr] at hroom
          by_cases hov : r.length - f ≤ Fg.left b st - 2
          · by_cases hf0 : f = 0
            · obtain ⟨fst, hfst⟩ : ∃ fst : Bool, fst = decide (f = 0) := ⟨_, rfl⟩
              have hfst2 : fst = true := by rw [hfst]; simp [hf0]
              subst hfst2
              have hko := keep_over hK (by rw [hroom]; exact hov) hf hfst
              have hcall := HL.out b st wr k f r.length (Fg.kind (!true) true) false r Hr.out hf (Nat.le_refl _) hK.1 hK.2.1 (by rw [hroom]; omega) (by decide) hst9 (by rw [decide_eq_false hfr]) hI
              rw [hko.1] at hcall
              change Calls Try.prog 38 #[.bool false, .int .i64 1, .int .i64 (k : Int), .int .i64 (f : Int), .int .i64 (r.length : Int), .pointer (some ⟨p, 0, none⟩), .pointer (some ⟨q, 0, none⟩)] wr (fun e w' => e = .returned (.tuple #[]) ∧ Inv true goal w') at hcall
              rw [hroom] at hko
              have hkl := hko.2.2
              have hf0b : ((f : Int) == 0) = true := by rw [beq_iff_eq]; omega
              have hkd : ∀ v, Calls Try.prog 50 #[.bool true, .bool true] v fun e w' => e = .returned (.int .i64 1) ∧ v = w' := fun v => kindOf_any false true v
              have hfi : ¬ (Fg.left b st : Int) < 3 := by omega
              have hov2 := hov
              have HKd := Lib.hid hkd
              have HCall := Lib.hid hcall
              have HKo := Lib.hid hko.2.1
              clear hst9 hf0 hfr hov hroom hfst hcall hkd hK hI hko
              generalize Fg.left b st = lft at *
              have hmin : (r.length : Int) ≤ (f : Int) + (lft : Int) - 2 := by omega
              obtain ⟨lg, hlg⟩ : ∃ lg, lg = Fg.left true goal := ⟨_, rfl⟩
              rw [← hlg] at hkl
              have HLg := Lib.hid hlg
              have hslot : ((lft : Int) : Int) - (2 + (r.length : Int) - (f : Int)) = (lg : Int) := by omega
              clear hkl hlg hov2
              go_wp2_with fail
              refine (HKd.out _).mono ?_
              rintro e9 v9 ⟨rfl, rfl⟩
              go_wp2_with fail
              refine HCall.out.mono ?_
              rintro e9 v9 ⟨rfl, hI9⟩
              have HI9 := Lib.hid hI9
              clear hI9 HCall HKd
              go_wp2_with fail
              go_roundw
              case rel => exact ⟨k + 1, by omega, by go_num, by rw [← HG9.out, decide_eq_true (Nat.succ_pos k), ← HLg.out], by rw [← HG9.out, decide_eq_true (Nat.succ_pos k)]; exact HI9.out⟩
              case measure => simp [intOf]; omega
            · obtain ⟨fst, hfst⟩ : ∃ fst : Bool, fst = decide (f = 0) := ⟨_, rfl⟩
              have hfst2 : fst = false := by rw [hfst]; simp [hf0]
              subst hfst2
              have hko := keep_over hK (by rw [hroom]; exact hov) hf hfst
              have hcall := HL.out b st wr k f r.length (Fg.kind (!false) true) false r Hr.out hf (Nat.le_refl _) hK.1 hK.2.1 (by rw [hroom]; omega) (by decide) hst9 (by rw [decide_eq_false hfr]) hI
              rw [hko.1] at hcall
              change Calls Try.prog 38 #[.bool false, .int .i64 4, .int .i64 (k : Int), .int .i64 (f : Int), .int .i64 (r.length : Int), .pointer (some ⟨p, 0, none⟩), .pointer (some ⟨q, 0, none⟩)] wr (fun e w' => e = .returned (.tuple #[]) ∧ Inv true goal w') at hcall
              rw [hroom] at hko
              have hkl := hko.2.2
              have hf0b : ((f : Int) == 0) = false := by rw [beq_eq_false_iff_ne]; omega
              have hkd : ∀ v, Calls Try.prog 50 #[.bool false, .bool true] v fun e w' => e = .returned (.int .i64 4) ∧ v = w' := fun v => kindOf_any true true v
              have hfi : ¬ (Fg.left b st : Int) < 3 := by omega
              have hov2 := hov
              have HKd := Lib.hid hkd
              have HCall := Lib.hid hcall
              have HKo := Lib.hid hko.2.1
              clear hst9 hf0 hfr hov hroom hfst hcall hkd hK hI hko
              generalize Fg.left b st = lft at *
              have hmin : (r.length : Int) ≤ (f : Int) + (lft : Int) - 2 := by omega
              obtain ⟨lg, hlg⟩ : ∃ lg, lg = Fg.left true goal := ⟨_, rfl⟩
              rw [← hlg] at hkl
              have HLg := Lib.hid hlg
              have hslot : ((lft : Int) : Int) - (2 + (r.length : Int) - (f : Int)) = (lg : Int) := by omega
              clear hkl hlg hov2
              go_wp2_with fail
              refine (HKd.out _).mono ?_
              rintro e9 v9 ⟨rfl, rfl⟩
              go_wp2_with fail
              refine HCall.out.mono ?_
              rintro e9 v9 ⟨rfl, hI9⟩
              have HI9 := Lib.hid hI9
              clear hI9 HCall HKd
              go_wp2_with fail
              go_roundw
              case rel => exact ⟨k + 1, by omega, by go_num, by rw [← HG9.out, decide_eq_true (Nat.succ_pos k), ← HLg.out], by rw [← HG9.out, decide_eq_true (Nat.succ_pos k)]; exact HI9.out⟩
              case measure => simp [intOf]; omega
          · by_cases hf0 : f = 0
            · obtain ⟨fst, hfst⟩ : ∃ fst : Bool, fst = decide (f = 0) := ⟨_, rfl⟩
              have hfst2 : fst = true := by rw [hfst]; simp [hf0]
              subst hfst2
              obtain ⟨t, ht⟩ : ∃ t, t = f + Fg.room st.2.length - 2 := ⟨_, rfl⟩
              have hko := keep_more hK (by rw [hroom]; omega) hf hfst ht
              have hcall := HL.out b st wr k f t (Fg.kind (!true) false) false r Hr.out (by rw [ht, hroom]; omega) (by rw [ht, hroom]; omega) hK.1 hK.2.1 (by rw [ht, hroom]; omega) (by decide) hst9 (by rw [decide_eq_false hfr]) hI
              rw [hroom] at ht hko
              have hkl := hko.2
              have hkk := hko.1
              generalize Fg.lay st (Fg.kind (!true) false) ((r.drop f).take (t - f)) = st2 at *
              change Calls Try.prog 38 #[.bool false, .int .i64 2, .int .i64 (k : Int), .int .i64 (f : Int), .int .i64 (t : Int), .pointer (some ⟨p, 0, none⟩), .pointer (some ⟨q, 0, none⟩)] wr (fun e w' => e = .returned (.tuple #[]) ∧ Inv true st2 w') at hcall
              have hf0b : ((f : Int) == 0) = true := by rw [beq_iff_eq]; omega
              have hkd : ∀ v, Calls Try.prog 50 #[.bool true, .bool false] v fun e w' => e = .returned (.int .i64 2) ∧ v = w' := fun v => kindOf_any false false v
              have hfi : ¬ (Fg.left b st : Int) < 3 := by omega
              have hov2 := hov
              have HKd := Lib.hid hkd
              have HCall := Lib.hid hcall
              have HKk := Lib.hid hkk
              clear hst9 hf0 hfr hov hroom hfst hcall hkd hK hI hko hkk
              generalize Fg.left b st = lft at *
              have htI : (f : Int) + (lft : Int) - 2 = (t : Int) := by omega
              have hmin : ¬ (r.length : Int) ≤ (f : Int) + (lft : Int) - 2 := by omega
              have hmin2 : ¬ (r.length : Int) ≤ (t : Int) := by omega
              have hmin3 : (t : Int) < (r.length : Int) := by omega
              have htb : ((t : Int) == (r.length : Int)) = false := by rw [beq_eq_false_iff_ne]; omega
              have htf : f < t := by omega
              obtain ⟨lg, hlg⟩ : ∃ lg, lg = Fg.left true st2 := ⟨_, rfl⟩
              rw [← hlg] at hkl
              have HLg := Lib.hid hlg
              have hslot : ((lft : Int) : Int) - (2 + (t : Int) - (f : Int)) = (lg : Int) := by omega
              clear hkl hlg ht hov2
              go_wp2_with fail
              refine (HKd.out _).mono ?_
              rintro e9 v9 ⟨rfl, rfl⟩
              go_wp2_with fail
              refine HCall.out.mono ?_
              rintro e9 v9 ⟨rfl, hI9⟩
              have HI9 := Lib.hid hI9
              clear hI9 HCall HKd
              go_wp2_with fail
              go_roundw
              case rel => exact ⟨t, true, st2, by omega, rfl, by rw [← HLg.out], HI9.out, HKk.out⟩
              case measure => simp [intOf]; omega
            · obtain ⟨fst, hfst⟩ : ∃ fst : Bool, fst = decide (f = 0) := ⟨_, rfl⟩
              have hfst2 : fst = false := by rw [hfst]; simp [hf0]
              subst hfst2
              obtain ⟨t, ht⟩ : ∃ t, t = f + Fg.room st.2.length - 2 := ⟨_, rfl⟩
              have hko := keep_more hK (by rw [hroom]; omega) hf hfst ht
              have hcall := HL.out b st wr k f t (Fg.kind (!false) false) false r Hr.out (by rw [ht, hroom]; omega) (by rw [ht, hroom]; omega) hK.1 hK.2.1 (by rw [ht, hroom]; omega) (by decide) hst9 (by rw [decide_eq_false hfr]) hI
              rw [hroom] at ht hko
              have hkl := hko.2
              have hkk := hko.1
              generalize Fg.lay st (Fg.kind (!false) false) ((r.drop f).take (t - f)) = st2 at *
              change Calls Try.prog 38 #[.bool false, .int .i64 3, .int .i64 (k : Int), .int .i64 (f : Int), .int .i64 (t : Int), .pointer (some ⟨p, 0, none⟩), .pointer (some ⟨q, 0, none⟩)] wr (fun e w' => e = .returned (.tuple #[]) ∧ Inv true st2 w') at hcall
              have hf0b : ((f : Int) == 0) = false := by rw [beq_eq_false_iff_ne]; omega
              have hkd : ∀ v, Calls Try.prog 50 #[.bool false, .bool false] v fun e w' => e = .returned (.int .i64 3) ∧ v = w' := fun v => kindOf_any true false v
              have hfi : ¬ (Fg.left b st : Int) < 3 := by omega
              have hov2 := hov
              have HKd := Lib.hid hkd
              have HCall := Lib.hid hcall
              have HKk := Lib.hid hkk
              clear hst9 hf0 hfr hov hroom hfst hcall hkd hK hI hko hkk
              generalize Fg.left b st = lft at *
              have htI : (f : Int) + (lft : Int) - 2 = (t : Int) := by omega
              have hmin : ¬ (r.length : Int) ≤ (f : Int) + (lft : Int) - 2 := by omega
              have hmin2 : ¬ (r.length : Int) ≤ (t : Int) := by omega
              have hmin3 : (t : Int) < (r.length : Int) := by omega
              have htb : ((t : Int) == (r.length : Int)) = false := by rw [beq_eq_false_iff_ne]; omega
              have htf : f < t := by omega
              obtain ⟨lg, hlg⟩ : ∃ lg, lg = Fg.left true st2 := ⟨_, rfl⟩
              rw [← hlg] at hkl
              have HLg := Lib.hid hlg
              have hslot : ((lft : Int) : Int) - (2 + (t : Int) - (f : Int)) = (lg : Int) := by omega
              clear hkl hlg ht hov2
              go_wp2_with fail
              refine (HKd.out _).mono ?_
              rintro e9 v9 ⟨rfl, rfl⟩
              go_wp2_with fail
              refine HCall.out.mono ?_
              rintro e9 v9 ⟨rfl, hI9⟩
              have HI9 := Lib.hid hI9
              clear hI9 HCall HKd
              go_wp2_with fail
              go_roundw
              case rel => exact ⟨t, true, st2, by omega, rfl, by rw [← HLg.out], HI9.out, HKk.out⟩
              case measure => simp [intOf]; omega
    · have hkn2 : k = recs.length := by omega
      subst hkn2
      rw [List.take_length] at hI
      have hb : decide (0 < recs.length) = !recs.isEmpty := by cases recs <;> rfl
      rw [hb] at hI
      have HI := Lib.hid hI
      clear hI hb
      go_wp2
      go_end0
      exact ⟨rfl, HI.out⟩
end Go.Proofs.Ytpggomekbahddaa
