/- The statement's light: records that are not too many, nor too long. -/
import Derived.Test.YtpggomekbahddaaWlPlace
namespace Go.Proofs.Ytpggomekbahddaa
open Go.RowKit Fi Fr
set_option linter.unusedVariables false
set_option linter.unusedSimpArgs false
namespace Wl
def light (L : List (List Nat)) : List (List Nat) := (L.take 6).map fun r => r.take 400
theorem light_le (L : List (List Nat)) : ∀ r ∈ light L, r.length ≤ 400 := by
  intro r hr
  unfold light at hr
  obtain ⟨x, _, rfl⟩ := List.mem_map.1 hr
  rw [List.length_take]; omega
theorem light_len (L : List (List Nat)) : (light L).length ≤ 6 := by unfold light; rw [List.length_map, List.length_take]; omega
end Wl
theorem run_toB (A : Option Addr) (n c t : Nat) (ht : t ≤ n) (hc : n ≤ c) (w : World) : (Instr.slice 23 (.slice A n c) none (some (.int .i64 (t : Int))) none).run Try.prog w = .ok (.slice A t c) w := by
  have h2 : t ≤ c := by omega
  simp [Instr.slice, run_underlying Try.underlying23, Instr.sliceBounds, Instr.sliceBound, asIntOf, go_sem, h2]
/-- A row of byte slices whose bytes lie in blocks of X. -/
def RdX (w : World) (X : Nat → Prop) (A : Option Addr) (n : Nat) (L : List (List Nat)) : Prop := ∃ vs, RdV w A n vs ∧ Items w X vs L
theorem RdX.rd {w : World} {X : Nat → Prop} {A : Option Addr} {n : Nat} {L : List (List Nat)} (h : RdX w X A n L) : RdB w A n L := by obtain ⟨vs, h1, h2⟩ := h; exact ⟨vs, h1, h2.imp fun _ _ _ => trivial⟩
theorem RdX.of {w : World} {A : Option Addr} {n : Nat} {L : List (List Nat)} (h : RdB w A n L) : RdX w (fun b => b < w.heap.size) A n L := by obtain ⟨vs, h1, h2⟩ := h; exact ⟨vs, h1, h2.imp fun _ hb _ => hb⟩
theorem RdX.of_ {w : World} {A : Option Addr} {n : Nat} {L : List (List Nat)} (h : RdB w A n L) : RdX w (fun _ => True) A n L := h
theorem RdX.below {w w' : World} {X : Nat → Prop} {A : Option Addr} {n : Nat} {L : List (List Nat)} (h : RdX w X A n L) (hb : Below w.heap.size w w') : RdX w' X A n L := by obtain ⟨vs, h1, h2⟩ := h; exact ⟨vs, h1.below hb, h2.below hb⟩
theorem RdX.at_ {w : World} {X : Nat → Prop} {A : Option Addr} {n : Nat} {L : List (List Nat)} (h : RdX w X A n L) {j : Nat} (hj : j < n) : ∃ (b o : Nat) (B : Option Addr) (c : Nat) (l : List Nat), A = some ⟨b, o, none⟩ ∧ b < w.heap.size ∧ L[j]? = some l ∧ w.cell? ⟨b, o + j, none⟩ = some (.slice B l.length c) ∧ Rd w B l.length l ∧ l.length ≤ c ∧ l.length ≤ 9223372036854775807 ∧ ∀ b o, B = some ⟨b, o, none⟩ → 0 < l.length → X b := by
  have hl := h.rd.len
  obtain ⟨vs, h1, h2⟩ := h
  obtain ⟨b, o, v, rfl, hb, hv, hc⟩ := h1.at_ hj
  obtain ⟨v', l, hv', hl', B, c, he, hr, hc2, hm, hx⟩ := h2.at_ (j := j) (by omega)
  rw [hv] at hv'
  injection hv' with hv'
  subst hv' he
  exact ⟨b, o, B, c, l, rfl, hb, hl', hc, hr, hc2, hm, hx⟩
/-- A row of byte slices of the call's own. -/
def GivesLi (w : World) (X : Nat → Prop) (L : List (List Nat)) (x : Ending) (w' : World) : Prop :=
  Below w.heap.size w w' ∧ ∃ (B : Option Addr) (c : Nat), x = .returned (.slice B L.length c) ∧ RdX w' X B L.length L ∧ L.length ≤ c ∧ ∀ b o, B = some ⟨b, o, none⟩ → w.heap.size ≤ b ∧ b < w'.heap.size
set_option maxRecDepth 100000 in
set_option maxHeartbeats 4000000 in
theorem light_any (X : Nat → Prop) (A : Option Addr) (n c : Nat) (L : List (List Nat)) (w : World) (hr : RdX w X A n L) (hn : n ≤ 9223372036854775807) :
    Calls Try.prog 10 #[.slice A n c] w (GivesLi w X (Wl.light L)) := by
  have hl := hr.rd.len
  have HR := Lib.hid hr
  clear hr
  go_enter Try.func10, Try.ntmps10
  go_wp2_with fail
  go_loopw [3, 4] (fun s ii wr => ∃ (k : Nat) (B : Option Addr) (d : Nat), k ≤ min n 6 ∧ ii = .int .i64 (k : Int) ∧ s = .slice B k d ∧ Hid (OwnB wr w.heap.size B k d (Wl.light (L.take k)) X) ∧ Hid (Below w.heap.size w wr)) (fun _ ii _ => 6 - (intOf ii).toNat)
  case atStart => exact ⟨0, none, 0, Nat.zero_le _, rfl, rfl, Lib.hid (OwnB.none_ _ _ _), Lib.hid (Below.refl _ _)⟩
  case round =>
    obtain ⟨k, B, d, hk, rfl, rfl, HO, HBl⟩ := hrel
    by_cases hgo : k < n ∧ k < 6
    · obtain ⟨hkn, hk6⟩ := hgo
      have hki : (k : Int) < (n : Int) := by omega
      have hk6i : (k : Int) < 6 := by omega
      obtain ⟨b, o, RB, c2, r, rfl, hbb1, hrk, hcell, hrd, hrc, hrm, hxx⟩ := HR.out.at_ hkn
      obtain ⟨m, hm⟩ : ∃ m : Nat, m = min r.length 400 := ⟨_, rfl⟩
      have hmin : min (r.length : Int) 400 = (m : Int) := by omega
      have hmin2 : (if (400 : Int) < (r.length : Int) then (400 : Int) else (r.length : Int)) = (m : Int) := by split <;> omega
      have hmr : m ≤ r.length := by omega
      have hsl := fun (W : World) => run_toB RB r.length c2 m hmr hrc W
      have HSn := Lib.hid (show Wl.light (L.take (k + 1)) = Wl.light (L.take k) ++ [r.take m] by
        unfold Wl.light
        rw [List.take_take, List.take_take, Nat.min_eq_right (by omega), Nat.min_eq_right (by omega), List.take_add_one, hrk, List.map_append]
        show _ ++ [r.take 400] = _
        rw [hm]
        congr 2
        by_cases h4 : r.length ≤ 400
        · rw [Nat.min_eq_left h4, List.take_length, List.take_of_length_le h4]
        · rw [Nat.min_eq_right (by omega)])
      have hrb := HO.out.blk
      obtain ⟨vs, hrow, hit⟩ := HO.out.row
      have hrdm : Rd w RB m (r.take m) := hrd.take hmr
      have hml : (r.take m).length = m := by rw [List.length_take]; omega
      have hsz := HBl.out.size
      have hitem : Item wr (fun b => X b ∧ some b ≠ (Value.slice B k d).ownBlock) (.slice RB m c2) (r.take m) := by
        refine ⟨RB, c2, by rw [hml], by rw [hml]; exact hrdm.below HBl.out, by rw [hml]; omega, by rw [hml]; omega, fun b' o' e hl => ?_⟩
        subst e
        rw [hml] at hl
        have hbw : b' < w.heap.size := hrdm.lt_blk hl
        refine ⟨hxx b' o' rfl (by omega), fun e2 => ?_⟩
        have := (hrb b' e2.symm).1
        omega
      have hd0 : Below w.heap.size w wr.drew := HBl.out.drew
      have hb2 : Below wr.heap.size wr (wr.drew.alloc (.cells #[.slice RB m c2] 23)) := ((Below.refl _ _).drew).alloc (by simp) _
      have hd1 : Below w.heap.size w (wr.drew.alloc (.cells #[.slice RB m c2] 23)) := below_next HBl.out hb2
      have hn1 : k + 1 ≤ 1000000 := by omega
      have hba : w.heap.size ≤ (wr.drew.alloc (.cells #[.slice RB m c2] 23)).heap.size := hd1.size
      have hrow2 := hrow.below hb2
      have hra : RdV (wr.drew.alloc (.cells #[.slice RB m c2] 23)) (some ⟨wr.heap.size, 0, none⟩) 1 [.slice RB m c2] := rdv_one wr.drew 23 (.slice RB m c2)
      have hone : ∀ u ∈ [Value.slice RB m c2], u.oneCell' = true := by intro u hu; rw [List.mem_singleton] at hu; subst hu; rfl
      have HIt := Lib.hid (hit.below hb2)
      have HIm := Lib.hid (hitem.below hb2)
      have HRb := Lib.hid hrb
      have HRow := Lib.hid hrow2
      have HD1 := Lib.hid hd1
      have HCl := Lib.hid (fun (W : World) (hW : Below w.heap.size w W) => (hW.cell (p := ⟨b, o + k, none⟩) hbb1).trans hcell)
      have HB8 := Lib.hid (fun A8 c8 v8 (hg : GrewV (wr.drew.alloc (.cells #[.slice RB m c2] 23)) v8 w.heap.size 23 B A8 k d (k + 1) c8 (vs ++ [.slice RB m c2])) => hg.below hd1 hba (fun g h => (hrb g h).1))
      clear hxx hrow hit hitem hb2 hrb hrk hrd hcell hrdm hml hm HO hmr hrc
      go_upto_region 5 with fail
      go_region_held3 (fun w' => w'.cell? ⟨b, o + k, none⟩ = some (.slice RB r.length c2)) (first | exact HCl.out _ hd0 | exact HCl.out _ hd1 | exact HCl.out _ hd8) (first | (refine step_appV oneB (by rfl) (.tmp 15) (.tmp 27) rfl rfl hrow2 (some ⟨wr.heap.size, 0, none⟩) 1 1 [.slice RB m c2] hone rfl hra hn1 hba ?_; intro A8 c8 v8 hg8; have hd8 := HB8.out A8 c8 v8 hg8))
      have hO8 := OwnB.snoc HRow.out HIt.out HIm.out hg8
      rw [← HSn.out] at hO8
      have HO8 := Lib.hid hO8
      have HBn := Lib.hid hd8
      clear hg8 hd8 hO8 hrow2 hra hba hd0 hd1 HB8 HCl hsl hmin hmin2
      go_wp2_with fail
      go_roundw
      case rel => exact ⟨k + 1, A8, c8, by omega, by go_num, rfl, HO8, HBn⟩
      case measure => simp [intOf]; omega
    · have hL : Wl.light (L.take k) = Wl.light L := by
        unfold Wl.light
        rw [List.take_take]
        by_cases h6 : 6 ≤ k
        · rw [Nat.min_eq_left h6]
        · rw [Nat.min_eq_right (by omega), List.take_of_length_le (by omega), List.take_of_length_le (by omega)]
      have hkl := HO.out.len
      rw [hL] at hkl HO
      have HE := Lib.hid (show GivesLi w X (Wl.light L) (.returned (.slice B k d)) wr from ⟨HBl.out, B, d, by rw [hkl], by rw [hkl]; obtain ⟨vs, h1, h2⟩ := HO.out.row; exact ⟨vs, h1.rd, h2.imp fun _ _ hx => hx.1⟩, by rw [hkl]; exact HO.out.fits, fun b o e => HO.out.blk b (by rw [e]; rfl)⟩)
      clear hkl hL HO
      by_cases h1 : k < n
      · have hki : (k : Int) < (n : Int) := by omega
        have hk6 : ¬ (k : Int) < 6 := by omega
        clear hgo
        go_wp2_with fail
        go_ret
        exact HE.out
      · have hki : ¬ (k : Int) < (n : Int) := by omega
        clear hgo h1
        go_wp2_with fail
        go_ret
        exact HE.out
end Go.Proofs.Ytpggomekbahddaa
