/- What there is of each key, by keys: the method totals of a book. -/
import Derived.Test.YtcoekdfmfjglpaaBoPut
namespace Go.Proofs.Ytcoekdfmfjglpaa
open Go.RowKit Go.Maps Go.Sort
def GivesTots (w : World) (T : List Bo.Tt) (e : Ending) (w' : World) : Prop :=
  ∃ B c, e = .returned (.slice B T.length c) ∧ OwnC 4 w' w.heap.size 46 B T.length c (Bo.tflat T) ∧ Below w.heap.size w w'
theorem enc_kb (s : ByteArray) : encStr (Bo.kb s) = .string s := by cases s; simp [encStr, Bo.kb]
/-- The sorted keys, in a row of the call's own. -/
theorem sorted_any {w : World} {b n : Nat} {T : List Bo.Tt} (h : Bk w b n T) (hs : Bo.Srt T) (hn : n ≤ 100000) :
    Calls Try.prog 28 #[.func (.func 32) #[] #[.pointer (some ⟨w.heap.size, 0, none⟩)]] (w.alloc (.cells #[.map (some b)] 52)) fun e w' =>
      ∃ A c, e = .returned (.slice A T.length c) ∧ RdC 1 w' A T.length (T.map (fun x => .string x.key)) ∧ Below w.heap.size w w' := by
  obtain ⟨D, hD, hR⟩ := h
  have hsz : Maps.size D ≤ n := hD.size_le
  refine ((callsIn_wide (n := 5)).1 (bo_sorted b n D Bo.stR w hD (by unfold maxLen; omega) (by omega))).mono ?_
  rintro e w' ⟨v, ss, rfl, hp, hrow, _, hb⟩
  obtain ⟨hk, hl⟩ := bk_keys hs hD hR hp
  rw [hk, hl] at hrow
  have he : (T.map (fun x => Bo.kb x.key)).map encStr = T.map (fun x => Value.string x.key) := by
    rw [List.map_map]
    exact List.map_congr_left (fun x _ => enc_kb x.key)
  rw [he] at hrow
  have hbb : Below w.heap.size w w' := ((Below.refl _ w).alloc (Nat.le_refl _) _).trans (hb.mono (by simp))
  rcases hrow.2 with ⟨hv, h0⟩ | ⟨g, c, cur, hv, _⟩
  · subst hv
    have hT : T = [] := List.eq_nil_of_length_eq_zero h0
    subst hT
    exact ⟨none, 0, rfl, RdC.nil _ _ _, hbb⟩
  · subst hv
    exact ⟨some ⟨g, 0, none⟩, c, rfl, OwnC.rd (s := 1) hrow, hbb⟩
set_option maxRecDepth 100000 in
set_option maxHeartbeats 8000000 in
theorem totals_any (b m : Nat) (T : List Bo.Tt) (w : World) (h : Bk w b m T) (hs : Bo.Srt T) (hi : Bo.InT T) (hm : m ≤ 100000) (hT : T.length ≤ 100000) :
    Calls Try.prog 21 #[.map (some b)] w (GivesTots w T) := by
  have HBk := Lib.hid h
  have HS := Lib.hid hs
  have HI := Lib.hid hi
  have hlb := Lib.hid h.lt
  clear h hs hi
  go_enter Try.func21, Try.ntmps21
  go_wp2_with fail
  refine ((callsIn_wide (n := 5)).1 (bo_keys (some b) w)).mono ?_
  rintro e w1 ⟨rfl, rfl⟩
  go_wp2_with fail
  refine (sorted_any HBk.out HS.out hm).mono ?_
  rintro e w2 ⟨A, c, rfl, hrd, hb2⟩
  have HRd := Lib.hid hrd
  have HB2 := Lib.hid hb2
  have HBk2 := Lib.hid (HBk.out.below hlb.out hb2)
  have HLb := Lib.hid HBk2.out.lt
  clear hrd hb2
  generalize hN : T.length = N at *
  have HN := Lib.hid hN
  clear hN
  go_wp2
  go_loopw [3, 11] (fun s ii wr => ∃ (k : Nat) (B : Option Addr) (d : Nat), k ≤ N ∧ ii = .int .i64 (k : Int) ∧ s = .slice B k d ∧ Hid (OwnC 4 wr w2.heap.size 46 B k d (Bo.tflat (T.take k))) ∧ Hid (Below w2.heap.size w2 wr)) (fun _ ii _ => N - (intOf ii).toNat)
  case atStart => exact ⟨0, none, 0, by omega, rfl, rfl, Lib.hid (OwnC.none_ _ _ _ _), Lib.hid (Below.refl _ _)⟩
  case round =>
    rename_i wr hrel
    obtain ⟨k, B, d, hk, rfl, rfl, HO, HB⟩ := hrel
    by_cases hlt : k < N
    · have hki : (k : Int) < (N : Int) := by omega
      obtain ⟨x, hx⟩ : ∃ x, T[k]? = some x := ⟨_, List.getElem?_eq_getElem (by rw [HN.out]; exact hlt)⟩
      obtain ⟨g, o, rfl, hg, hc⟩ := HRd.out.2 (by omega)
      have hxm := List.mem_of_getElem? hx
      have HTk := Lib.hid (show T.take (k + 1) = T.take k ++ [x] by rw [List.take_add_one, hx]; rfl)
      have hin := (HI.out x hxm).1
      have hks := Bo.nm_le (HI.out x hxm).2
      have e0 : wr.cell? ⟨g, o + k, none⟩ = some (.string x.key) := (HB.out.cell hg).trans (hc k _ (by rw [List.getElem?_map, hx]; rfl))
      have hl := (HBk2.out.below HLb.out HB.out).look (s := x.key) (by omega)
      rw [Bo.get_mem HS.out hxm] at hl
      clear hx hxm hc hg
      obtain ⟨key, fr, he, ou⟩ := x
      unfold Bo.InX at hin
      dsimp only at hin hks e0
      replace hl : (Instr.lookup 52 (.map (some b)) (.string key) false).run Try.prog wr = .ok (.agg #[.complex .f64 (Bo.fl fr) (Bo.fl he), .int .i64 ou]) wr := hl
      have hst := store_complex Try.prog
      have hcf : ∀ u : World, (convert 54 3 (.float .f64 (Bo.fl fr))).run Try.prog u = .ok (.int .i64 fr) u := fun u => run_convert_float_int u _ _ .f64 .i64 _ _ (by rw [Try.underlying54]; rfl) Try.underlying3 (Bo.int_fl (by omega))
      have hch : ∀ u : World, (convert 54 3 (.float .f64 (Bo.fl he))).run Try.prog u = .ok (.int .i64 he) u := fun u => run_convert_float_int u _ _ .f64 .i64 _ _ (by rw [Try.underlying54]; rfl) Try.underlying3 (Bo.int_fl (by omega))
      have hsz := HB.out.size
      have hal : w2.heap.size ≤ ((wr.alloc (.cells #[.complex .f64 (Bo.fl fr) (Bo.fl he), .int .i64 ou] 56)).alloc (.cells #[Value.string key, .int .i64 fr, .int .i64 he, .int .i64 ou] 46)).heap.size := by simp; omega
      have HRc := Lib.hid (show RdC 4 ((wr.alloc (.cells #[.complex .f64 (Bo.fl fr) (Bo.fl he), .int .i64 ou] 56)).alloc (.cells #[Value.string key, .int .i64 fr, .int .i64 he, .int .i64 ou] 46)) (some ⟨wr.heap.size + 1, 0, none⟩) 1 (Bo.Tt.cells ⟨key, fr, he, ou⟩) by
        have h := rdc_new 4 (wr.alloc (.cells #[.complex .f64 (Bo.fl fr) (Bo.fl he), .int .i64 ou] 56)) 46 (Bo.Tt.cells ⟨key, fr, he, ou⟩) 1 rfl (0, 0)
        rw [World.size_alloc] at h
        exact h)
      clear hin
      go_wp2_with (at_builtin; refine wpList_appC manyT rfl (.tmp 18) (.tmp 31) rfl rfl ((HO.out.alloc _).alloc _) ⟨wr.heap.size + 1, 0, none⟩ 1 1 (Bo.Tt.cells ⟨key, fr, he, ou⟩) (Bo.tcells_one _) rfl HRc.out (by omega) hal ?_; intro B6 cap6 w6 hg6)
      have HF := Lib.hid (show OwnC 4 w6 w2.heap.size 46 B6 (k + 1) cap6 (Bo.tflat (T.take (k + 1))) ∧ Below w2.heap.size w2 w6 by
        have hfl : Bo.tflat (T.take (k + 1)) = Bo.tflat (T.take k) ++ Bo.Tt.cells ⟨key, fr, he, ou⟩ := by rw [HTk.out, Bo.tflat_append]; simp [Bo.tflat]
        refine ⟨by rw [hfl]; exact hg6.own, hg6.below ((HB.out.alloc HB.out.size _).alloc (by have := HB.out.size; simp; omega) _) hal fun g hg => (HO.out.blk g hg).1⟩)
      clear hg6
      go_roundw
      case rel => exact ⟨k + 1, B6, cap6, by omega, by go_num, rfl, Lib.hid HF.out.1, Lib.hid HF.out.2⟩
      case measure => simp [intOf]; omega
    · have hke : k = N := by omega
      obtain rfl : N = k := hke.symm
      have hnk : ¬ (N : Int) < (N : Int) := by omega
      clear hlt
      have HF := Lib.hid (show GivesTots w T (.returned (.slice B N d)) wr by
        have hO := HO.out
        rw [List.take_of_length_le (Nat.le_of_eq HN.out), ← HN.out] at hO
        exact ⟨B, d, by rw [HN.out], hO.base_ HB2.out.size, below_next HB2.out HB.out⟩)
      clear HO
      go_wp2
      go_ret
      exact HF.out
end Go.Proofs.Ytcoekdfmfjglpaa
