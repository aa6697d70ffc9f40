/- The law's few, fit and same. -/
import Derived.Test.YtpfdacnjikdifaaBBRow
import Derived.Test.YtpfdacnjikdifaaStepV
import Derived.BigQuiet
import Derived.LoopTactic
import Derived.Deep.DeepCutAuto
namespace Go.Proofs.Ytpfdacnjikdifaa
open Go.RowKit
set_option linter.unusedVariables false
namespace Fg
/-- Records that are not more, nor longer, than are looked at. -/
def few (L : List (List Nat)) : List (List Nat) := (L.take 40).map (·.take 9000)
theorem few_snoc {L : List (List Nat)} {k : Nat} {r : List Nat} (h : L[k]? = some r) (hk : k < 40) : few (L.take (k + 1)) = few (L.take k) ++ [r.take 9000] := by
  unfold few
  rw [List.take_take, List.take_take, Nat.min_eq_right (by omega), Nat.min_eq_right (by omega), List.take_add_one, h]; simp
theorem few_all {L : List (List Nat)} {k : Nat} (h : k = L.length ∨ k = 40) : few (L.take k) = few L := by
  unfold few
  rcases h with h | h
  · rw [List.take_of_length_le (Nat.le_of_eq h.symm)]
  · subst h; rw [List.take_take]; simp
end Fg
/-- Byte slices. -/
def GivesRow (w : World) (L : List (List Nat)) (x : Ending) (w' : World) : Prop :=
  ∃ (A : Option Addr) (c : Nat), x = .returned (.slice A L.length c) ∧ RdB w' A L.length L ∧ L.length ≤ c ∧ L.length ≤ 1000000 ∧ Below w.heap.size w w'
set_option maxRecDepth 100000 in
set_option maxHeartbeats 2000000 in
theorem few_any (A : Option Addr) (n c : Nat) (L : List (List Nat)) (w : World) (hr : RdB w A n L) (hn : n ≤ 9223372036854775807) :
    Calls Try.prog 9 #[.slice A n c] w (GivesRow w (Fg.few L)) := by
  have hl := hr.len
  have HR := Lib.hid hr
  have HL := Lib.hid hl
  clear hr hl
  go_enter Try.func9, Try.ntmps9
  go_wp2
  go_loopw [3, 4] (fun s ii wr => ∃ (k : Nat) (B : Option Addr) (d : Nat), k ≤ n ∧ k ≤ 40 ∧ ii = .int .i64 (k : Int) ∧ s = .slice B k d ∧ OwnB wr w.heap.size B k d (Fg.few (L.take k)) (fun b => b < w.heap.size) ∧ Below w.heap.size w wr) (fun _ ii _ => n - (intOf ii).toNat)
  case atStart => exact ⟨0, none, 0, Nat.zero_le _, by omega, rfl, rfl, OwnB.none_ _ _ _, Below.refl _ _⟩
  case round =>
    obtain ⟨k, B, d, hk, hk4, rfl, rfl, hO, hBl⟩ := hrel
    by_cases hin : k < n ∧ k < 40
    · obtain ⟨hkn, hk40⟩ := hin
      obtain ⟨b, o, RB, c2, r, rfl, hb1, hrk, hcell, hrd, hrc, hrm⟩ := HR.out.at_ hkn
      have hcellw := (hBl.cell (p := ⟨b, o + k, none⟩) hb1).trans hcell
      have hki : (k : Int) < (n : Int) := by omega
      have hk4i : (k : Int) < 40 := by omega
      have hsn := Fg.few_snoc hrk hk40
      have hrb := hO.blk
      obtain ⟨vs, hrow, hit⟩ := hO.row
      have HSn := Lib.hid hsn
      have hlen : (r.take 9000).length = min 9000 r.length := List.length_take
      have hitem : Item wr (fun b => b < w.heap.size ∧ some b ≠ (Value.slice B k d).ownBlock) (.slice RB (r.take 9000).length c2) (r.take 9000) := by
        refine ⟨RB, c2, rfl, ?_, by omega, by omega, fun b' o' e hl => ?_⟩
        · have h1 := (hrd.take (k := min 9000 r.length) (Nat.min_le_right _ _)).below hBl
          rw [show r.take (min 9000 r.length) = r.take 9000 by rw [← List.take_take, List.take_length], ← hlen] at h1
          exact h1
        · subst e
          have hbw : b' < w.heap.size := hrd.lt_blk (by rw [hlen] at hl; omega)
          refine ⟨hbw, fun e2 => ?_⟩
          have := (hrb b' e2.symm).1
          omega
      have hsz := hBl.size
      have hn1 : k + 1 ≤ 1000000 := by omega
      have hba : w.heap.size ≤ wr.heap.size + 1 := by omega
      have HItem := Lib.hid hitem
      have HRow := Lib.hid hrow
      have HIt := Lib.hid hit
      have HBl := Lib.hid hBl
      have HRb := Lib.hid hrb
      clear hsn hO hrow hit hitem hBl hrb hrk hrd hcell
      have hfin : ∀ v, v = Value.slice RB (r.take 9000).length c2 → ∀ (A8 : Option Addr) (c8 : Nat) (v8 : World), GrewV (wr.alloc (.cells #[v] 29)) v8 w.heap.size 29 B A8 k d (k + 1) c8 (vs ++ [v]) → OwnB v8 w.heap.size A8 (k + 1) c8 (Fg.few (L.take (k + 1))) (fun b => b < w.heap.size) ∧ Below w.heap.size w v8 := by
        intro v hv A8 c8 v8 hg
        subst hv
        have hb2 : Below wr.heap.size wr (wr.alloc (.cells #[.slice RB (r.take 9000).length c2] 29)) := (Below.refl _ _).alloc (Nat.le_refl _) _
        refine ⟨?_, hg.below (HBl.out.trans (hb2.mono HBl.out.size)) (by simp; omega) (fun g h => (HRb.out g h).1)⟩
        rw [HSn.out]
        exact OwnB.snoc (HRow.out.below hb2) (HIt.out.below hb2) (HItem.out.below hb2) hg
      have HFin := Lib.hid hfin
      have hrow2 := fun v => HRow.out.alloc (.cells #[v] 29)
      by_cases hlong : 9000 < r.length
      · have hl9 : (r.take 9000).length = 9000 := by omega
        have hlo : (9000 : Int) < (r.length : Int) := by omega
        have hc9 : (9000 : Int) ≤ (c2 : Int) := by omega
        have hc9n : 9000 ≤ c2 := by omega
        have HL9 := Lib.hid hl9
        have hra := rdv_one wr 29 (.slice RB 9000 c2)
        have hone : ∀ u ∈ [Value.slice RB 9000 c2], u.oneCell' = true := by intro u hu; rw [List.mem_singleton] at hu; subst hu; rfl
        have hrow3 := hrow2 (.slice RB 9000 c2)
        have hba3 : w.heap.size ≤ (wr.alloc (.cells #[Value.slice RB 9000 c2] 29)).heap.size := by simp; omega
        clear hl9 hlen hrow2 hfin hlong
        go_wp2_with (first | (at_builtin; refine wpList_appV oneB rfl (.tmp 25) (.tmp 27) rfl rfl hrow3 (some ⟨wr.heap.size, 0, none⟩) 1 1 [.slice RB 9000 c2] hone rfl hra hn1 hba3 ?_; intro A8 c8 v8 hg8))
        obtain ⟨hO8, hB8⟩ := HFin.out _ (by rw [HL9.out]) A8 c8 v8 hg8
        clear hg8
        go_roundw
        case rel => exact ⟨k + 1, A8, c8, by omega, by omega, by go_num, rfl, hO8, hB8⟩
        case measure => simp [intOf]; omega
      · have hl9 : (r.take 9000).length = r.length := by omega
        have hlo : ¬ (9000 : Int) < (r.length : Int) := by omega
        have HL9 := Lib.hid hl9
        have hra := rdv_one wr 29 (.slice RB r.length c2)
        have hone : ∀ u ∈ [Value.slice RB r.length c2], u.oneCell' = true := by intro u hu; rw [List.mem_singleton] at hu; subst hu; rfl
        have hrow3 := hrow2 (.slice RB r.length c2)
        have hba3 : w.heap.size ≤ (wr.alloc (.cells #[Value.slice RB r.length c2] 29)).heap.size := by simp; omega
        clear hl9 hlen hrow2 hfin hlong
        go_wp2_with (first | (at_builtin; refine wpList_appV oneB rfl (.tmp 25) (.tmp 27) rfl rfl hrow3 (some ⟨wr.heap.size, 0, none⟩) 1 1 [.slice RB r.length c2] hone rfl hra hn1 hba3 ?_; intro A8 c8 v8 hg8))
        obtain ⟨hO8, hB8⟩ := HFin.out _ (by rw [HL9.out]) A8 c8 v8 hg8
        clear hg8
        go_roundw
        case rel => exact ⟨k + 1, A8, c8, by omega, by omega, by go_num, rfl, hO8, hB8⟩
        case measure => simp [intOf]; omega
    · have hall := Fg.few_all (L := L) (k := k) (by rw [HL.out]; omega)
      rw [hall] at hO
      have hlen := hO.len
      have HO := Lib.hid hO
      have HBl := Lib.hid hBl
      have HLen := Lib.hid hlen
      clear hO hBl hall hlen
      have hways : ((k : Int) < (n : Int) ∧ ¬ (k : Int) < 40) ∨ ¬ (k : Int) < (n : Int) := by omega
      rcases hways with ⟨h1, h2⟩ | h1
      · clear hin
        go_wp2
        go_ret
        exact ⟨B, d, by rw [HLen.out]; rfl, by rw [HLen.out]; exact HO.out.rd, by rw [HLen.out]; exact HO.out.fits, by rw [HLen.out]; omega, HBl.out⟩
      · clear hin
        go_wp2
        go_ret
        exact ⟨B, d, by rw [HLen.out]; rfl, by rw [HLen.out]; exact HO.out.rd, by rw [HLen.out]; exact HO.out.fits, by rw [HLen.out]; omega, HBl.out⟩
set_option maxRecDepth 100000 in
set_option maxHeartbeats 4000000 in
theorem same_any (A B : Option Addr) (n m c d : Nat) (L M : List (List Nat)) (w : World) (ha : RdB w A n L) (hb : RdB w B m M) (hn : n ≤ 1000000) (hm : m ≤ 1000000) :
    Calls Try.prog 13 #[.slice A n c, .slice B m d] w fun e w' => e = .returned (.bool (decide (L = M))) ∧ Below w.heap.size w w' := by
  have hl := ha.len
  have hl2 := hb.len
  by_cases hnm : n = m
  · subst hnm
    have hnb : ((n : Int) != (n : Int)) = false := by simp
    have HA := Lib.hid ha
    have HB := Lib.hid hb
    have HL := Lib.hid hl
    have HL2 := Lib.hid hl2
    clear ha hb hl hl2
    go_enter Try.func13, Try.ntmps13
    go_wp2
    go_loopw [5] (fun ii wr => ∃ k : Nat, k ≤ n ∧ ii = .int .i64 (k : Int) ∧ Hid (L.take k = M.take k) ∧ Below w.heap.size w wr) (fun ii _ => n - (intOf ii).toNat)
    case atStart => exact ⟨0, Nat.zero_le _, rfl, Lib.hid rfl, Below.refl _ _⟩
    case round =>
      obtain ⟨k, hk, rfl, heq, hBl⟩ := hrel
      by_cases hkn : k < n
      · obtain ⟨b, o, RB, c2, r, rfl, hb1, hrk, hcell, hrd, hrc, hrm⟩ := (HA.out.below hBl).at_ hkn
        obtain ⟨b', o', RB', c2', r', rfl, hb1', hrk', hcell', hrd', hrc', hrm'⟩ := (HB.out.below hBl).at_ hkn
        have hki : (k : Int) < (n : Int) := by omega
        have hki0 : (0 : Int) ≤ (k : Int) := by omega
        have hca : ∀ v, Below wr.heap.size wr v → v.cell? ⟨b, o + k, none⟩ = some (.slice RB r.length c2) := fun v hv => (hv.cell (p := ⟨b, o + k, none⟩) hb1).trans hcell
        have hca' : ∀ v, Below wr.heap.size wr v → v.cell? ⟨b', o' + k, none⟩ = some (.slice RB' r'.length c2') := fun v hv => (hv.cell (p := ⟨b', o' + k, none⟩) hb1').trans hcell'
        have hs1 : ∀ v : World, Below wr.heap.size wr v → _ := fun v hv => run_str (cap := c2) (hrd.below hv)
        have hs2 : ∀ v : World, Below wr.heap.size wr v → _ := fun v hv => run_str (cap := c2') (hrd'.below hv)
        have h256 := hrd.2.1
        have h256' := hrd'.2.1
        have HCa := Lib.hid hca
        have HCa' := Lib.hid hca'
        have HS1 := Lib.hid hs1
        have HS2 := Lib.hid hs2
        have HBl := Lib.hid hBl
        have Hrk := Lib.hid hrk
        have Hrk' := Lib.hid hrk'
        clear hca hca' hs1 hs2 hBl hrk hrk' hcell hcell' hrd hrd' hb1 hb1'
        go_upto_region 6 with fail
        go_cut [27] from 11 to 27 (fun s27 wx => s27 = .bool (decide (¬ r = r')) ∧ Below w.heap.size w wx)
        case first =>
          by_cases hrr : r = r'
          · subst hrr
            refine region_class (fun w' => Below wr.heap.size wr w') (by kernel_rfl) (by kernel_rfl) ((Below.refl _ _).drew) ?_
            repeat (go_big_quiet_step ((first | (intro _; with_reducible rfl) | (intro hq; simp [HCa.out _ hq, Result.andThen]; with_reducible rfl) | (intro hq; simp [HCa'.out _ hq, Result.andThen]; with_reducible rfl) | (intro hq; simp [HS1.out _ hq, Result.andThen]; with_reducible rfl) | (intro hq; simp [HS2.out _ hq, Result.andThen]; with_reducible rfl))))
            refine wpQuiet_nil ?_
            intro v9 hv9
            go_wp2_with fail
            go_meet
            case rel => exact ⟨by simp, below_next HBl.out hv9⟩
          · have hso := str_other h256 h256' hrr
            have hso2 : (!((str r).toList == (str r').toList)) = true := by rw [hso]; rfl
            refine region_class (fun w' => Below wr.heap.size wr w') (by kernel_rfl) (by kernel_rfl) ((Below.refl _ _).drew) ?_
            repeat (go_big_quiet_step ((first | (intro _; with_reducible rfl) | (intro hq; simp [HCa.out _ hq, Result.andThen]; with_reducible rfl) | (intro hq; simp [HCa'.out _ hq, Result.andThen]; with_reducible rfl) | (intro hq; simp [HS1.out _ hq, Result.andThen]; with_reducible rfl) | (intro hq; simp [HS2.out _ hq, Result.andThen]; with_reducible rfl))))
            refine wpQuiet_nil ?_
            intro v9 hv9
            go_wp2_with fail
            go_meet
            case rel => exact ⟨by simp [hrr], below_next HBl.out hv9⟩
        case rest =>
          obtain ⟨rfl, hB9⟩ := hcut
          by_cases hrr : r = r'
          · have hd : decide (¬ r = r') = false := by simp [hrr]
            rw [hd]
            have hnext : L.take (k + 1) = M.take (k + 1) := by rw [List.take_add_one, List.take_add_one, heq.out, Hrk.out, Hrk'.out, hrr]
            have HNext := Lib.hid hnext
            clear hrr hd hnext
            go_wp2_with fail
            go_roundw
            case rel => exact ⟨k + 1, by omega, by go_num, HNext, hB9⟩
            case measure => simp [intOf]; omega
          · have hd : decide (¬ r = r') = true := by simp [hrr]
            rw [hd]
            have hne : decide (L = M) = false := by
              rw [decide_eq_false_iff_not]
              intro e
              have h1 := Hrk.out
              have h2 := Hrk'.out
              rw [e, h2] at h1
              injection h1 with h1
              exact hrr h1.symm
            have HNe := Lib.hid hne
            clear hrr hd hne
            go_wp2_with fail
            go_ret
            rw [HNe.out]
            exact ⟨rfl, hB9⟩
      · have hkn2 : k = n := by omega
        subst hkn2
        have heq2 := heq.out
        rw [List.take_of_length_le (Nat.le_of_eq HL.out), List.take_of_length_le (Nat.le_of_eq HL2.out)] at heq2
        have hd : decide (L = M) = true := by simp [heq2]
        have HD := Lib.hid hd
        have HBl := Lib.hid hBl
        clear heq2 hd hBl heq
        go_wp2
        go_ret
        rw [HD.out]
        exact ⟨rfl, HBl.out⟩
  · have hnb : ((n : Int) != (m : Int)) = true := by rw [bne_iff_ne]; omega
    have hd : decide (L = M) = false := by
      rw [decide_eq_false_iff_not]; intro e; rw [e] at hl; omega
    rw [hd]
    clear ha hb hl hl2 hd hnm
    go_enter Try.func13, Try.ntmps13
    go_wp2
    go_ret
    exact ⟨rfl, Below.refl _ _⟩
end Go.Proofs.Ytpfdacnjikdifaa
