/- The document's disk: New. -/
import Derived.Test.YtamdihodconjiaaRkRot
namespace Go.Proofs.Ytamdihodconjiaa
open Go.RowKit
set_option linter.unusedVariables false
def nilV : Value := .slice none 0 0
theorem made_nil (k : Nat) : (madeCells #[nilV, nilV] (k * 2)).toList = flatR (List.replicate k ⟨nilV, nilV⟩) := by
  have h1 : flatR (List.replicate k ⟨nilV, nilV⟩) = List.replicate (k * 2) nilV := by
    induction k with
    | zero => rfl
    | succ k ih =>
      rw [List.replicate_succ]
      show nilV :: nilV :: flatR (List.replicate k ⟨nilV, nilV⟩) = _
      rw [ih, show (k + 1) * 2 = k * 2 + 1 + 1 by omega, List.replicate_succ, List.replicate_succ]
  rw [h1]
  apply List.ext_getElem?
  intro i
  rw [List.getElem?_replicate]
  unfold madeCells
  rw [Array.toList_map, List.getElem?_map, Array.toList_range]
  by_cases hi : i < k * 2
  · rw [if_pos hi, List.getElem?_range hi]
    have h2 : i % 2 = 0 ∨ i % 2 = 1 := by omega
    show some (#[nilV, nilV][i % 2]!) = some nilV
    rcases h2 with h2 | h2 <;> rw [h2] <;> rfl
  · rw [if_neg hi, List.getElem?_eq_none (by simpa using Nat.le_of_not_lt hi)]
    rfl
set_option maxRecDepth 100000 in
theorem info_one : (Try.prog.info? 61).map (fun i => (i.zero, i.size, i.bytes)) = some (some (.agg #[.slice none 0 0, .slice none 0 0]), 2, 48) := by kernel_rfl
set_option maxRecDepth 100000 in
theorem make_ones (n : Nat) (hn : n ≤ 4096) (w : World) : (Instr.makeSlice 62 (.int .i64 (n : Int)) (.int .i64 (n : Int))).run Try.prog w = .ok (.slice (some ⟨w.heap.size, 0, none⟩) n n) (w.alloc (.cells (madeCells #[nilV, nilV] (n * 2)) 61)) := by
  obtain ⟨i0, hi, hz0, hz1, hz2⟩ := info_parts info_one
  have hb : (i0.bytes : Int) * n ≤ 281474976710656 := by rw [hz2]; omega
  have hr := run_make (P := Try.prog) w 62 61 i0 _ Try.underlying62 hi hz0 .i64 .i64 n n (by omega) (by omega) hb (by omega)
  rw [hz1] at hr
  rw [Int.toNat_natCast] at hr
  exact hr
/-- Zeros in a block of the call's own. -/
def Nw (w wr : World) (k : Nat) (C : List Ce) : Prop := ∀ (j : Nat) (c : Ce), C[j]? = some c → c.l = nilV ∧ (j < k → ∃ q, c.f = .slice (some ⟨q, 0, none⟩) 128 128 ∧ w.heap.size + 2 ≤ q ∧ Buf wr q Dk.zeros)
def labW2 (w w' : World) : Nat → Tag := fun k => if k = w.heap.size then .buf else if k = w.heap.size + 1 then .box else if w.heap.size ≤ k ∧ k < w'.heap.size then .leaf else .no
theorem ref_new {w wr : World} {k : Nat} {C : List Ce} (hk1 : 1 ≤ k) (hk2 : k ≤ 4096) (hbox : Holds wr (w.heap.size + 1) [.slice (some ⟨w.heap.size, 0, none⟩) k k, .bool false, .int .i64 0, .int .i64 0]) (hrow : Holds wr w.heap.size (flatR C)) (hlen : C.length = k) (hn : Nw w wr k C) :
    IsRef wr (w.heap.size + 1) (labW2 w wr) (Dk.St.new k) := by
  have hsl : (Dk.St.new k).s.length = k := by unfold Dk.St.new; simp
  refine ⟨w.heap.size, C, ⟨by rw [hsl]; exact hbox, hrow, hlen.trans hsl.symm, fun i c s h1 h2 => ?_, ⟨by unfold labW2; rw [if_neg (by omega), if_pos rfl], by unfold labW2; rw [if_pos rfl]⟩, fun j hj => ?_, ⟨fun s hs => ?_, by rw [hsl]; exact hk1, by rw [hsl]; exact hk2⟩⟩⟩
  · have hs : s = ⟨Dk.zeros, []⟩ := List.eq_of_mem_replicate (List.mem_of_getElem? (show (List.replicate k (⟨Dk.zeros, []⟩ : Dk.Sec))[i]? = some s from h2))
    subst hs
    have hi : i < k := by have := (List.getElem?_eq_some_iff.1 h1).1; omega
    obtain ⟨e1, e2⟩ := hn i c h1
    obtain ⟨q, e3, h4, h5⟩ := e2 hi
    have hr := h5.all
    rw [show Dk.zeros.length = 128 from by unfold Dk.zeros; simp] at hr
    have hq := h5.lt
    exact ⟨⟨q, 128, e3, hr, by unfold labW2; rw [if_neg (by omega), if_neg (by omega), if_pos ⟨by omega, hq⟩]⟩, by simp, none, 0, [], e1, RdV.nil _ _, by simp, by simp⟩
  · unfold labW2 at hj
    split at hj
    · rename_i e; subst e; exact hrow.1
    · split at hj
      · rename_i e; subst e; exact hbox.1
      · split at hj
        · rename_i e; exact e.2
        · exact absurd rfl hj
  · have hs : s = ⟨Dk.zeros, []⟩ := List.eq_of_mem_replicate hs
    subst hs
    exact ⟨by unfold Dk.zeros; simp, fun x hx => by rw [List.eq_of_mem_replicate hx]; omega, by simp⟩
theorem labW2_new {w w' : World} {k : Nat} (h : labW2 w w' k ≠ .no) : w.heap.size ≤ k := by
  unfold labW2 at h
  split at h
  · omega
  · split at h
    · omega
    · split at h
      · omega
      · exact absurd rfl h
def GivesRNew (n : Int) (w : World) (e : Ending) (w' : World) : Prop :=
  (1 ≤ n ∧ n ≤ 4096 ∧ ∃ g lab, e = .returned (.tuple #[.pointer (some ⟨g, 0, none⟩), .int .i64 0]) ∧ IsRef w' g lab (Dk.St.new n.toNat) ∧ Below w.heap.size w w' ∧ (∀ k, lab k ≠ .no → w.heap.size ≤ k)) ∨
  (¬ (1 ≤ n ∧ n ≤ 4096) ∧ e = .returned (.tuple #[.pointer none, .int .i64 1]) ∧ w = w')
set_option maxRecDepth 100000 in
set_option maxHeartbeats 4000000 in
theorem rnew_any (n : Int) (w : World) : Calls Try.prog 12 #[.int .i64 n] w (GivesRNew n w) := by
  by_cases hn : 1 ≤ n ∧ n ≤ 4096
  · obtain ⟨k, rfl⟩ : ∃ k : Nat, n = (k : Int) := ⟨n.toNat, by omega⟩
    have q1 : ¬ (k : Int) < 1 := by omega
    have q2 : ¬ (4096 : Int) < (k : Int) := by omega
    have HN := Lib.hid hn
    have hmk := make_ones k (by omega) w
    have hrow := Holds.new w (madeCells #[nilV, nilV] (k * 2)) 61
    rw [made_nil] at hrow
    have hb1 := (Below.refl w.heap.size w).alloc (Nat.le_refl _) (.cells (madeCells #[nilV, nilV] (k * 2)) 61)
    have hs1 : (w.alloc (.cells (madeCells #[nilV, nilV] (k * 2)) 61)).heap.size = w.heap.size + 1 := by simp
    have Hrow := Lib.hid hrow
    have HB1 := Lib.hid hb1
    have Hs1 := Lib.hid hs1
    clear hrow hb1 hs1 hn
    go_enter Try.func12, Try.ntmps12
    go_upto_region 3 with fail
    generalize (w.alloc (.cells (madeCells #[nilV, nilV] (k * 2)) 61)) = w1 at *
    have hbox := Holds.new w1 #[.slice (some ⟨w.heap.size, 0, none⟩) k k, .bool false, .int .i64 0, .int .i64 0] 64
    rw [Hs1.out] at hbox
    have hb2 := HB1.out.alloc HB1.out.size (.cells #[.slice (some ⟨w.heap.size, 0, none⟩) k k, .bool false, .int .i64 0, .int .i64 0] 64)
    have hrow2 := Hrow.out.alloc (.cells #[.slice (some ⟨w.heap.size, 0, none⟩) k k, .bool false, .int .i64 0, .int .i64 0] 64)
    have hs2 : (w1.alloc (.cells #[.slice (some ⟨w.heap.size, 0, none⟩) k k, .bool false, .int .i64 0, .int .i64 0] 64)).heap.size = w.heap.size + 2 := by simp [Hs1.out]
    have Hbox := Lib.hid hbox
    have HB2 := Lib.hid hb2
    have Hrow2 := Lib.hid hrow2
    have Hs2 := Lib.hid hs2
    clear hbox hb2 hrow2 hs2
    go_upto_region 4 with fail
    clear hmk
    have ebx : (w1.heap.size) = w.heap.size + 1 := Hs1.out
    rw [ebx]
    generalize (w1.alloc (.cells #[.slice (some ⟨w.heap.size, 0, none⟩) k k, .bool false, .int .i64 0, .int .i64 0] 64)) = w2 at *
    clear ebx Hrow HB1 Hs1
    have hmk1 : ∀ w : World, (Instr.makeSlice 35 (.int .i64 128) (.int .i64 128)).run Try.prog w = .ok (.slice (some ⟨w.heap.size, 0, none⟩) 128 128) (w.alloc (.cells (madeCells #[.int .u8 0] 128) 5)) := make_all 128 (by omega)
    go_wp2_with fail
    go_loopw [5] (fun i wr => ∃ (j : Nat) (C : List Ce), j ≤ k ∧ i = .int .i64 (j : Int) ∧ Hid (Holds wr (w.heap.size + 1) [.slice (some ⟨w.heap.size, 0, none⟩) k k, .bool false, .int .i64 0, .int .i64 0]) ∧ Hid (Holds wr w.heap.size (flatR C)) ∧ Hid (C.length = k) ∧ Hid (Nw w wr j C) ∧ Hid (Below w.heap.size w wr) ∧ Hid (w.heap.size + 2 ≤ wr.heap.size)) (fun i _ => k - (intOf i).toNat)
    case atStart => exact ⟨0, _, by omega, rfl, Hbox, Hrow2, Lib.hid (by simp), Lib.hid (fun j c hj => ⟨by rw [List.eq_of_mem_replicate (List.mem_of_getElem? hj)], fun h => absurd h (by omega)⟩), HB2, Lib.hid (by rw [Hs2.out]; omega)⟩
    case round =>
      obtain ⟨j, C, hj, rfl, HX, HR, HC, HW, HB, HZ⟩ := hrel
      by_cases hjk : j < k
      · have hji : (j : Int) < (k : Int) := by omega
        have c0 := HX.out.at_ 0 rfl
        have hwl := HX.out.1
        have frz := HR.out.2.2 (j * 2)
        obtain ⟨c, hc⟩ : ∃ c, C[j]? = some c := ⟨_, List.getElem?_eq_getElem (by rw [HC.out]; exact hjk)⟩
        have k0 := HR.out.at_ _ (flatR_at hc).1
        have Hc := Lib.hid hc
        have hsl := HR.out.1
        clear hc
        go_upto_region 7 with fail
        go_region
        all_goals
          go_wp2_with fail
          go_roundw
          case rel =>
            have hz1 : (wr.setCell ⟨w.heap.size, j * 2, none⟩ (.slice (some ⟨wr.heap.size, 0, none⟩) 128 128)).heap.size = wr.heap.size := by simp [World.setCell]
            have hx1 := (HX.out.other (b := w.heap.size) (i := j * 2) (v := .slice (some ⟨wr.heap.size, 0, none⟩) 128 128) (by omega)).alloc (.cells (madeCells #[.int .u8 0] 128) 5)
            have hr1 := (HR.out.set (j * 2) (.slice (some ⟨wr.heap.size, 0, none⟩) 128 128) (by rw [flatR_length, HC.out]; omega)).alloc (.cells (madeCells #[.int .u8 0] 128) 5)
            rw [← flatR_set_f _ Hc.out] at hr1
            have hb1 := (HB.out.setCell (p := ⟨w.heap.size, j * 2, none⟩) (Nat.le_refl _) (.slice (some ⟨wr.heap.size, 0, none⟩) 128 128)).alloc (by rw [hz1]; omega) (.cells (madeCells #[.int .u8 0] 128) 5)
            have hbz := buf_zeros (wr.setCell ⟨w.heap.size, j * 2, none⟩ (.slice (some ⟨wr.heap.size, 0, none⟩) 128 128)) 128
            rw [hz1] at hbz
            have hz2 := HZ.out
            refine ⟨j + 1, C.set j ⟨.slice (some ⟨wr.heap.size, 0, none⟩) 128 128, c.l⟩, by omega, by go_num, Lib.hid hx1, Lib.hid hr1, Lib.hid (by rw [List.length_set]; exact HC.out), Lib.hid (fun i ci hi => ?_), Lib.hid hb1.drew, Lib.hid (Nat.le_trans hz2 (by have := size_alloc_le (wr.setCell ⟨w.heap.size, j * 2, none⟩ (.slice (some ⟨wr.heap.size, 0, none⟩) 128 128)) (.cells (madeCells #[.int .u8 0] 128) 5); rw [hz1] at this; exact this))⟩
            by_cases e : i = j
            · subst e
              rw [List.getElem?_set_self (by rw [HC.out]; exact hjk)] at hi
              injection hi with hi
              subst hi
              exact ⟨(HW.out i c Hc.out).1, fun _ => ⟨wr.heap.size, rfl, hz2, hbz⟩⟩
            · rw [List.getElem?_set_ne (fun e2 => e e2.symm)] at hi
              obtain ⟨g1, g2⟩ := HW.out i ci hi
              refine ⟨g1, fun hlt => ?_⟩
              obtain ⟨q, e1, e2, e3⟩ := g2 (by omega)
              refine ⟨q, e1, e2, ?_⟩
              have hq := e3.lt
              have h1 : Buf (wr.setCell ⟨w.heap.size, j * 2, none⟩ (.slice (some ⟨wr.heap.size, 0, none⟩) 128 128)) q Dk.zeros := e3.block (Below.heap_setCell _ _ _ _ (by show q ≠ w.heap.size; omega))
              exact h1.below (((Below.refl _ _).alloc (Nat.le_refl _) _).drew)
          case measure => simp [intOf]; omega
      · have hji : ¬ (j : Int) < (k : Int) := by omega
        obtain rfl : j = k := by omega
        go_wp2
        go_ret2
        exact .inl ⟨HN.out.1, HN.out.2, w.heap.size + 1, _, rfl, by rw [Int.toNat_natCast]; exact ref_new (by have := HN.out; omega) (by have := HN.out; omega) HX.out HR.out HC.out HW.out, HB.out, fun x hx => labW2_new hx⟩
  · have HN := Lib.hid hn
    have key : n < 1 ∨ (¬ n < 1 ∧ 4096 < n) := by omega
    clear hn
    rcases key with k1 | ⟨k1, k2⟩
    all_goals
      go_enter Try.func12, Try.ntmps12
      go_wp2
      go_ret2
      exact .inr ⟨HN.out, rfl, rfl⟩
end Go.Proofs.Ytamdihodconjiaa
