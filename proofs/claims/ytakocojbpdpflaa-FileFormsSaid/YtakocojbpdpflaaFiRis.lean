/- The document's Is: which places may be. -/
import Derived.Test.YtakocojbpdpflaaFiCheck
import Derived.Test.YtakocojbpdpflaaDkG
import Derived.Deep.QuietTactic
import Derived.BigQuiet
import Derived.Deep.RegionHeld
namespace Go.Proofs.Ytakocojbpdpflaa
open Go.RowKit Fi
set_option linter.unusedVariables false
set_option maxRecDepth 100000 in
set_option maxHeartbeats 2000000 in
theorem rplot_any (P : Pl) (A : Option Addr) (c i : Nat) (z : Int) (w : World) (hl : P.ps.length ≤ 1000) (hr : RdC 2 w A P.ps.length (pv P.ps)) (hz : (flat P.ps)[i]? = some z) : Calls Try.prog 33 #[Fi.val P A c, .int .i64 (i : Int)] w fun e w' => e = .returned (.int .i64 z) ∧ Below w.heap.size w w' := by
  have HB0 := Lib.hid (show Below w.heap.size w (w.alloc (.cells #[.int .i64 P.i, .int .i64 P.e, .slice A P.ps.length c] 24)) from (Below.refl _ _).alloc (Nat.le_refl _) _)
  have hi : i < P.ps.length * 2 := by
    have := (List.getElem?_eq_some_iff.1 hz).1
    rw [flat_length] at this
    exact this
  have hk : i / 2 < P.ps.length := by omega
  obtain ⟨p, hp⟩ : ∃ p, P.ps[i / 2]? = some p := ⟨_, List.getElem?_eq_getElem hk⟩
  obtain ⟨f0, f1⟩ := flat_at hp
  obtain ⟨x, y⟩ := p
  obtain ⟨b, o, rfl, hb, e0, e1⟩ := hr.two2 hk (pv_at hp).1 (pv_at hp).2
  simp only at e0 e1 f0 f1
  have c0 : (w.alloc (.cells #[.int .i64 P.i, .int .i64 P.e, .slice (some ⟨b, o, none⟩) P.ps.length c] 24)).cell? ⟨b, o + i / 2 * 2, none⟩ = some (.int .i64 x) := (HB0.out.cell (p := ⟨b, o + i / 2 * 2, none⟩) hb).trans e0
  have c1 : (w.alloc (.cells #[.int .i64 P.i, .int .i64 P.e, .slice (some ⟨b, o, none⟩) P.ps.length c] 24)).cell? ⟨b, o + i / 2 * 2 + 1, none⟩ = some (.int .i64 y) := (HB0.out.cell (p := ⟨b, o + i / 2 * 2 + 1, none⟩) hb).trans e1
  have q1 : (i : Int) / 2 = ((i / 2 : Nat) : Int) := by omega
  have q3 : ((i / 2 : Nat) : Int) < (P.ps.length : Int) := by omega
  unfold Fi.val
  rcases (by omega : i % 2 = 0 ∨ i % 2 = 1) with hm | hm
  · have hzx : z = x := by rw [show i / 2 * 2 = i by omega] at f0; rw [hz] at f0; injection f0
    have q2 : (i : Int) % 2 = 0 := by omega
    subst hzx
    clear hp hz f0 f1 hr e0 e1 hb hk hi hm
    generalize i / 2 = j at *
    go_enter Try.func33, Try.ntmps33
    go_wp2_with fail
    go_ret
    exact ⟨rfl, HB0.out⟩
  · have hzx : z = y := by rw [show i / 2 * 2 + 1 = i by omega] at f1; rw [hz] at f1; injection f1
    have q2 : (i : Int) % 2 = 1 := by omega
    subst hzx
    clear hp hz f0 f1 hr e0 e1 hb hk hi hm
    generalize i / 2 = j at *
    go_enter Try.func33, Try.ntmps33
    go_wp2_with fail
    go_ret
    exact ⟨rfl, HB0.out⟩
set_option maxRecDepth 100000 in
set_option maxHeartbeats 4000000 in
theorem ris_nop (P : Pl) (sec : Int) (A : Option Addr) (c : Nat) (w : World) (hbig : P.ps.length ≤ 9223372036854775807) (hh : okH P = false) : Calls Try.prog 15 #[Fi.val P A c, .int .i64 sec] w fun e w' => e = .returned (.bool false) ∧ Below w.heap.size w w' := by
  have hB : Below w.heap.size w (w.alloc (.cells #[.int .i64 P.i, .int .i64 P.e, .slice A P.ps.length c] 24)) := (Below.refl _ _).alloc (Nat.le_refl _) _
  have HB := Lib.hid hB
  clear hB
  have hn : ¬ (1 ≤ P.i ∧ P.i ≤ 2147483647 ∧ 1 ≤ P.e ∧ P.e ≤ 2147483647 ∧ 1 ≤ P.ps.length ∧ P.ps.length ≤ 64) := fun h => by rw [okH_iff.2 h] at hh; cases hh
  clear hh
  unfold Fi.val
  generalize P.ps.length = n at *
  by_cases h1 : P.i < 1
  · go_enter Try.func15, Try.ntmps15
    go_wp2_with fail
    go_ret
    exact ⟨rfl, HB.out⟩
  by_cases h2 : 2147483647 < P.i
  · go_enter Try.func15, Try.ntmps15
    go_wp2_with fail
    go_ret
    exact ⟨rfl, HB.out⟩
  by_cases h3 : P.e < 1
  · go_enter Try.func15, Try.ntmps15
    go_wp2_with fail
    go_ret
    exact ⟨rfl, HB.out⟩
  by_cases h4 : 2147483647 < P.e
  · go_enter Try.func15, Try.ntmps15
    go_wp2_with fail
    go_ret
    exact ⟨rfl, HB.out⟩
  by_cases h5 : n = 0
  · subst h5
    go_enter Try.func15, Try.ntmps15
    go_wp2_with fail
    go_ret
    exact ⟨rfl, HB.out⟩
  have h6 : (64 : Int) < (n : Int) := by omega
  have h7 : ¬ (n : Int) < 1 := by omega
  go_enter Try.func15, Try.ntmps15
  go_wp2_with fail
  go_ret
  exact ⟨rfl, HB.out⟩
set_option maxRecDepth 100000 in
set_option maxHeartbeats 4000000 in
theorem ris_gop (P : Pl) (sec : Int) (hsec : sec ≤ 9223372036854775807) (A : Option Addr) (c : Nat) (w : World) (hr : RdC 2 w A P.ps.length (pv P.ps)) (hh : okH P = true) : Calls Try.prog 15 #[Fi.val P A c, .int .i64 sec] w fun e w' => e = .returned (.bool (ok P (Sp.plots sec))) ∧ Below w.heap.size w w' := by
  have HR := Lib.hid hr
  have HH := Lib.hid hh
  obtain ⟨x1, x2, x3, x4, x5, x6⟩ := okH_iff.1 hh
  have h1 : ¬ P.i < 1 := by omega
  have h2 : ¬ 2147483647 < P.i := by omega
  have h3 : ¬ P.e < 1 := by omega
  have h4 : ¬ 2147483647 < P.e := by omega
  have h6 : ¬ (64 : Int) < (P.ps.length : Int) := by omega
  have h7 : ¬ (P.ps.length : Int) < 1 := by omega
  have h8 : IntKind.i64.wrap (2 * (P.ps.length : Int)) = 2 * (P.ps.length : Int) := by rw [IntKind.wrap_i64]; omega
  have HL := Lib.hid (And.intro x5 x6)
  clear hr hh x1 x2 x3 x4 x5 x6
  obtain ⟨M, hM⟩ : ∃ M, M = Sp.plots sec := ⟨_, rfl⟩
  have HPl := fun v => rplots_any sec v hsec
  rw [← hM] at HPl ⊢
  clear hM
  obtain ⟨r, hr⟩ : ∃ r : Bool, r = ok P M := ⟨_, rfl⟩
  rw [← hr]
  have Hr := Lib.hid hr
  have HPl := Lib.hid HPl
  have HNO := Lib.hid (show ∀ j z, (flat P.ps)[j]? = some z → ¬ ((0 ≤ z ∧ z < (M : Int)) ∧ z ∉ (flat P.ps).take j) → r = false from fun j z hz h => by
    rw [hr, Bool.eq_false_iff]
    intro hh
    have := okP_not hz h
    rw [(ok_iff.1 hh).2] at this
    cases this)
  clear hr
  have HPt := Lib.hid (fun v (hb : Below w.heap.size w v) (i : Nat) (z : Int) (hz : (flat P.ps)[i]? = some z) => rplot_any P A c i z v (by have := HL.out; omega) (HR.out.below hb) hz)
  have hk0 := Holds.new w #[.int .i64 P.i, .int .i64 P.e, .slice A P.ps.length c] 24
  have HK0 := Lib.hid hk0
  have hB0 : Below w.heap.size w (w.alloc (.cells #[.int .i64 P.i, .int .i64 P.e, .slice A P.ps.length c] 24)) := (Below.refl _ _).alloc (Nat.le_refl _) _
  have HB0 := Lib.hid hB0
  clear hk0 hB0
  unfold Fi.val at HPt ⊢
  go_enter Try.func15, Try.ntmps15
  go_wp2_with fail
  refine (HPl.out _).mono ?_
  generalize (w.alloc (.cells #[.int .i64 P.i, .int .i64 P.e, .slice A P.ps.length c] 24)) = w0 at *
  rintro e v ⟨rfl, rfl⟩
  go_wp2_with fail
  go_loopw [6] (fun i wr => ∃ k : Nat, k ≤ P.ps.length * 2 ∧ i = .int .i64 (k : Int) ∧ Hid (okP M ((flat P.ps).take k) = true) ∧ Hid (Below w0.heap.size w0 wr)) (fun i _ => P.ps.length * 2 - (intOf i).toNat)
  case atStart => exact ⟨0, by omega, rfl, Lib.hid okP_nil, Lib.hid (Below.refl _ _)⟩
  case round =>
    obtain ⟨k, hk, rfl, HP, HB⟩ := hrel
    have HK := Lib.hid (HK0.out.below HB.out)
    have HBw := Lib.hid (HB0.out.trans (HB.out.mono HB0.out.size))
    have y0 := HK.out.at_ 0 rfl
    have y1 := HK.out.at_ 1 rfl
    have y2 := HK.out.at_ 2 rfl
    by_cases hkn : k < P.ps.length * 2
    · have hki : (k : Int) < 2 * (P.ps.length : Int) := by omega
      obtain ⟨z, hz⟩ : ∃ z, (flat P.ps)[k]? = some z := ⟨_, List.getElem?_eq_getElem (by rw [flat_length]; exact hkn)⟩
      have HZ := Lib.hid hz
      clear hz
      by_cases hz0 : z < 0
      · have HNo := Lib.hid (HNO.out _ _ HZ.out (fun h => by omega))
        go_wp2_with fail
        refine (HPt.out _ HBw.out k z HZ.out).mono ?_
        rintro e v1 ⟨rfl, hb1⟩
        have HF := Lib.hid (HBw.out.trans (hb1.mono HBw.out.size))
        clear y0 y1 y2 hb1
        go_wp2_with fail
        go_ret
        exact ⟨by rw [HNo.out]; rfl, HF.out⟩
      go_wp2_with fail
      refine (HPt.out _ HBw.out k z HZ.out).mono ?_
      rintro e v1 ⟨rfl, hb1⟩
      have HB1 := Lib.hid (HBw.out.trans (hb1.mono HBw.out.size))
      have HK1 := Lib.hid (HK.out.below hb1)
      have HBa := Lib.hid (HB.out.trans (hb1.mono HB.out.size))
      clear y0 y1 y2 hb1
      have y0 := HK1.out.at_ 0 rfl
      have y1 := HK1.out.at_ 1 rfl
      have y2 := HK1.out.at_ 2 rfl
      by_cases hzM : (M : Int) ≤ z
      · have HNo := Lib.hid (HNO.out _ _ HZ.out (fun h => by omega))
        go_wp2_with fail
        refine (HPt.out _ HB1.out k z HZ.out).mono ?_
        rintro e v2 ⟨rfl, hb2⟩
        have HF := Lib.hid (HB1.out.trans (hb2.mono HB1.out.size))
        clear y0 y1 y2 hb2
        go_wp2_with fail
        go_ret
        exact ⟨by rw [HNo.out]; rfl, HF.out⟩
      go_wp2_with fail
      refine (HPt.out _ HB1.out k z HZ.out).mono ?_
      rintro e v2 ⟨rfl, hb2⟩
      have HB2 := Lib.hid (HB1.out.trans (hb2.mono HB1.out.size))
      have HK2 := Lib.hid (HK1.out.below hb2)
      have HBb := Lib.hid (HBa.out.trans (hb2.mono HBa.out.size))
      clear y0 y1 y2 hb2 HB1 HK1 HBa
      go_wp2_with fail
      go_loopw [7] (fun i wx => ∃ j : Nat, j ≤ k ∧ i = .int .i64 (j : Int) ∧ Hid (z ∉ (flat P.ps).take j) ∧ Hid (Below v2.heap.size v2 wx)) (fun i _ => k - (intOf i).toNat)
      case atStart => exact ⟨0, by omega, rfl, Lib.hid (by simp), Lib.hid (Below.refl _ _)⟩
      case round =>
        obtain ⟨j, hj, rfl, HJ, HBj⟩ := hrel
        have HBv := Lib.hid (HB2.out.trans (HBj.out.mono HB2.out.size))
        have HBc := Lib.hid (HBb.out.trans (HBj.out.mono HBb.out.size))
        by_cases hjk : j < k
        · have hji : (j : Int) < (k : Int) := by omega
          obtain ⟨ux, hu⟩ : ∃ ux, (flat P.ps)[j]? = some ux := ⟨_, List.getElem?_eq_getElem (by rw [flat_length]; omega)⟩
          have HU := Lib.hid hu
          clear hu
          have HCl := Lib.hid (show ∀ wy, Below wr.heap.size wr wy → wy.cell? ⟨w.heap.size, 0, none⟩ = some (.int .i64 P.i) ∧ wy.cell? ⟨w.heap.size, 1, none⟩ = some (.int .i64 P.e) ∧ wy.cell? ⟨w.heap.size, 2, none⟩ = some (.slice A P.ps.length c) from fun wy hb => ⟨((HK2.out.below HBj.out).below hb).at_ 0 rfl, ((HK2.out.below HBj.out).below hb).at_ 1 rfl, ((HK2.out.below HBj.out).below hb).at_ 2 rfl⟩)
          go_upto_region 12 with fail
          refine region_class (fun w' => Below wr.heap.size wr w') (by kernel_rfl) (by kernel_rfl) ((Below.refl _ _).drew) ?_
          repeat (go_big_quiet_step ((first | (intro _; with_reducible rfl) | (intro hq; with_reducible exact calls_class hq (HPt.out _ (HBv.out.trans (hq.mono HBv.out.size)) j ux HU.out)) | (intro hq; with_reducible exact calls_class hq (HPt.out _ (HBv.out.trans (hq.mono HBv.out.size)) k z HZ.out)) | (intro hq; obtain ⟨e0, e1, e2⟩ := HCl.out _ hq; simp [e0, e1, e2, Result.andThen]; with_reducible rfl))))
          refine wpQuiet_nil ?_
          intro v9 hv9
          have HB9 := Lib.hid (HBv.out.trans (hv9.mono HBv.out.size))
          have HB9b := Lib.hid (HBj.out.trans (hv9.mono HBj.out.size))
          by_cases huz : ux = z
          · have hcm : (ux == z) = true := by simpa using huz
            have HNo := Lib.hid (HNO.out _ _ HZ.out (fun h => h.2 (by
              have := HU.out
              rw [huz] at this
              exact List.mem_of_getElem? (show ((flat P.ps).take k)[j]? = some z by rw [List.getElem?_take, if_pos hjk]; exact this))))
            clear huz HCl
            go_wp2_with fail
            go_ret
            exact ⟨by rw [HNo.out]; rfl, HB9.out⟩
          · have hcm : (ux == z) = false := by simpa using huz
            have HJ2 := Lib.hid (show z ∉ (flat P.ps).take (j + 1) from by rw [take_snocI HU.out]; intro h; rcases List.mem_append.1 h with h | h; exact HJ.out h; simp at h; exact huz h.symm)
            clear huz HCl
            go_wp2_with fail
            go_roundw
            case rel => exact ⟨j + 1, by omega, by go_num, HJ2, HB9b⟩
            case measure => simp [intOf]; omega
        · have hjk2 : j = k := by omega
          subst hjk2
          have HP2 := Lib.hid (okP_more HZ.out HP.out ⟨by omega, HJ.out⟩)
          go_wp2_with fail
          go_roundw
          case rel => exact ⟨j + 1, by omega, by go_num, HP2, HBc⟩
          case measure => simp [intOf]; omega
    · have hkl : k = P.ps.length * 2 := by omega
      have hki : (k : Int) = 2 * (P.ps.length : Int) := by omega
      have HYes := Lib.hid (show r = true from by
        rw [Hr.out]
        refine ok_iff.2 ⟨HH.out, ?_⟩
        have := HP.out
        rw [List.take_of_length_le (by rw [flat_length]; omega)] at this
        exact this)
      clear hkl
      rw [hki]
      go_wp2_with fail
      go_ret
      exact ⟨by rw [HYes.out]; rfl, HBw.out⟩
theorem risP_any (P : Pl) (sec : Int) (hsec : sec ≤ 9223372036854775807) (A : Option Addr) (c : Nat) (w : World) (hbig : P.ps.length ≤ 9223372036854775807) (hr : RdC 2 w A P.ps.length (pv P.ps)) : Calls Try.prog 15 #[Fi.val P A c, .int .i64 sec] w fun e w' => e = .returned (.bool (ok P (Sp.plots sec))) ∧ Below w.heap.size w w' := by
  cases hh : okH P with
  | true => exact ris_gop P sec hsec A c w hr hh
  | false =>
    have : ok P (Sp.plots sec) = false := by unfold ok; rw [hh]; rfl
    rw [this]
    exact ris_nop P sec A c w hbig hh
end Go.Proofs.Ytakocojbpdpflaa
