/- The laws' less: totals, not more of them than are looked at. -/
import Derived.Test.YtcoekdfmfjglpaaBoFew
namespace Go.Proofs.Ytcoekdfmfjglpaa
open Go.RowKit
namespace Bo
def Tt.cut (x : Tt) : Tt := ⟨cutK x.key, x.free, x.held, x.out⟩
def less (l : List Tt) : List Tt := (l.take 30).map Tt.cut
theorem less_snoc {l : List Tt} {k : Nat} {x : Tt} (h : l[k]? = some x) (hk : k < 30) : less (l.take (k + 1)) = less (l.take k) ++ [x.cut] := by
  unfold less
  rw [List.take_take, List.take_take, Nat.min_eq_right (by omega), Nat.min_eq_right (by omega), List.take_add_one, h]
  simp
theorem less_all {l : List Tt} {k : Nat} (h : k = l.length ∨ k = 30) : less (l.take k) = less l := by
  unfold less
  rcases h with h | h
  · rw [List.take_of_length_le (Nat.le_of_eq h.symm)]
  · subst h; rw [List.take_take]; simp
theorem less_len (l : List Tt) (k : Nat) : (less (l.take k)).length ≤ k := by
  unfold less
  rw [List.length_map, List.length_take, List.length_take]
  omega
theorem tflat_append (a b : List Tt) : tflat (a ++ b) = tflat a ++ tflat b := by unfold tflat; rw [List.flatMap_append]
theorem tcells_one (x : Tt) : ∀ u ∈ Tt.cells x, u.oneCell' = true := by
  intro u hu
  simp only [Tt.cells, List.mem_cons, List.not_mem_nil, or_false] at hu
  rcases hu with rfl | rfl | rfl | rfl <;> rfl
theorem less_small {l : List Tt} {x : Tt} (h : x ∈ less l) : x.key.size ≤ 20 := by
  unfold less at h
  obtain ⟨y, _, rfl⟩ := List.mem_map.1 h
  exact cutK_size _
end Bo
theorem manyT : Many 4 22 46 (.agg #[.string ⟨#[]⟩, .int .i64 0, .int .i64 0, .int .i64 0]) 40 := ⟨by kernel_rfl, Try.underlying22, by kernel_rfl, by decide, by decide⟩
/-- What the laws look at, in a row of the call's own. -/
def GivesLessT (w : World) (l : List Bo.Tt) (e : Ending) (w' : World) : Prop :=
  ∃ B c, e = .returned (.slice B (Bo.less l).length c) ∧ (Bo.less l).length ≤ c ∧ RdT w' B (Bo.less l).length (Bo.less l) ∧ Below w.heap.size w w'
set_option maxRecDepth 100000 in
set_option maxHeartbeats 4000000 in
theorem less_any (A : Option Addr) (n c : Nat) (l : List Bo.Tt) (w : World) (hr : RdT w A n l) (hn : n ≤ 9223372036854775807) :
    Calls Try.prog 7 #[.slice A n c] w (GivesLessT w l) := by
  have HR := Lib.hid hr
  have HL := Lib.hid hr.1
  clear hr
  go_enter Try.func7, Try.ntmps7
  go_wp2
  go_loopw [3, 4] (fun s ii wr => ∃ (k : Nat) (B : Option Addr) (d : Nat), k ≤ n ∧ k ≤ 30 ∧ ii = .int .i64 (k : Int) ∧ s = .slice B k d ∧ Hid (k = (Bo.less (l.take k)).length) ∧ Hid (OwnC 4 wr w.heap.size 46 B k d (Bo.tflat (Bo.less (l.take k)))) ∧ Hid (Below w.heap.size w wr)) (fun _ ii _ => n - (intOf ii).toNat)
  case atStart => exact ⟨0, none, 0, by omega, by omega, rfl, rfl, Lib.hid rfl, Lib.hid (OwnC.none_ _ _ _ _), Lib.hid (Below.refl _ _)⟩
  case round =>
    rename_i wr hrel
    obtain ⟨k, B, d, hk, hk7, rfl, rfl, HM, HO, HB⟩ := hrel
    by_cases hin : k < n ∧ k < 30
    · obtain ⟨hkn, hk30⟩ := hin
      have hki : (k : Int) < (n : Int) := by omega
      have hk3i : (k : Int) < 30 := by omega
      obtain ⟨x, hx⟩ : ∃ x, l[k]? = some x := ⟨_, List.getElem?_eq_getElem (by rw [HL.out]; omega)⟩
      obtain ⟨b, o, rfl, hbl, hcell⟩ := HR.out.at_ hx
      have HS := Lib.hid (Bo.less_snoc hx hk30)
      have hks := HR.out.2.2 x (List.mem_of_getElem? hx)
      obtain ⟨key, fr, he, ou⟩ := x
      have hks : key.size ≤ 9223372036854775807 := hks
      have e0 : wr.cell? ⟨b, o + k * 4, none⟩ = some (.string key) := (HB.out.cell hbl).trans (hcell 0 _ rfl)
      have e1 : wr.cell? ⟨b, o + k * 4 + 1, none⟩ = some (.int .i64 fr) := (HB.out.cell hbl).trans (hcell 1 _ rfl)
      have e2 : wr.cell? ⟨b, o + k * 4 + 2, none⟩ = some (.int .i64 he) := (HB.out.cell hbl).trans (hcell 2 _ rfl)
      have e3 : wr.cell? ⟨b, o + k * 4 + 3, none⟩ = some (.int .i64 ou) := (HB.out.cell hbl).trans (hcell 3 _ rfl)
      clear hx hcell hbl
      by_cases h20 : key.size ≤ 20
      · have h20i : ¬ (20 : Int) < (key.size : Int) := by omega
        have HS2 := Lib.hid (show Bo.less (l.take (k + 1)) = Bo.less (l.take k) ++ [⟨key, fr, he, ou⟩] by rw [HS.out]; unfold Bo.Tt.cut; rw [show Bo.cutK key = key from Bo.cutK_low h20])
        have hal : w.heap.size ≤ ((wr.alloc (.cells #[Value.string (key), .int .i64 fr, .int .i64 he, .int .i64 ou] 46)).alloc (.cells #[Value.string (key), .int .i64 fr, .int .i64 he, .int .i64 ou] 46)).heap.size := by have := HB.out.size; simp; omega
        have HRc := Lib.hid (show RdC 4 ((wr.alloc (.cells #[Value.string (key), .int .i64 fr, .int .i64 he, .int .i64 ou] 46)).alloc (.cells #[Value.string (key), .int .i64 fr, .int .i64 he, .int .i64 ou] 46)) (some ⟨wr.heap.size + 1, 0, none⟩) 1 (Bo.Tt.cells ⟨key, fr, he, ou⟩) by
          have h := rdc_new 4 (wr.alloc (.cells #[Value.string (key), .int .i64 fr, .int .i64 he, .int .i64 ou] 46)) 46 (Bo.Tt.cells ⟨key, fr, he, ou⟩) 1 rfl (0, 0)
          rw [World.size_alloc] at h
          exact h)
        clear HS
        go_wp2_with (at_builtin; refine wpList_appC manyT rfl (.tmp 28) (.tmp 30) rfl rfl ((HO.out.alloc _).alloc _) ⟨wr.heap.size + 1, 0, none⟩ 1 1 (Bo.Tt.cells ⟨key, fr, he, ou⟩) (Bo.tcells_one _) rfl HRc.out (by omega) hal ?_; intro B6 cap6 w6 hg6)
        have HF := Lib.hid (show OwnC 4 w6 w.heap.size 46 B6 (k + 1) cap6 (Bo.tflat (Bo.less (l.take (k + 1)))) ∧ k + 1 = (Bo.less (l.take (k + 1))).length ∧ Below w.heap.size w w6 by
          have hfl : Bo.tflat (Bo.less (l.take (k + 1))) = Bo.tflat (Bo.less (l.take k)) ++ Bo.Tt.cells ⟨key, fr, he, ou⟩ := by rw [HS2.out, Bo.tflat_append]; simp [Bo.tflat]
          refine ⟨by rw [hfl]; exact hg6.own, by rw [HS2.out, List.length_append, ← HM.out]; rfl, hg6.below ((HB.out.alloc HB.out.size _).alloc (by have := HB.out.size; simp; omega) _) hal fun g hg => (HO.out.blk g hg).1⟩)
        clear hg6
        go_roundw
        case rel => exact ⟨k + 1, B6, cap6, by omega, by omega, by go_num, rfl, Lib.hid HF.out.2.1, Lib.hid HF.out.1, Lib.hid HF.out.2.2⟩
        case measure => simp [intOf]; omega
      · have h20i : (20 : Int) < (key.size : Int) := by omega
        have h20j : (20 : Int) ≤ (key.size : Int) := by omega
        have HS2 := Lib.hid (show Bo.less (l.take (k + 1)) = Bo.less (l.take k) ++ [⟨key.extract 0 20, fr, he, ou⟩] by rw [HS.out]; unfold Bo.Tt.cut; rw [show Bo.cutK key = key.extract 0 20 from Bo.cutK_high h20])
        have hal : w.heap.size ≤ ((wr.alloc (.cells #[Value.string (key.extract 0 20), .int .i64 fr, .int .i64 he, .int .i64 ou] 46)).alloc (.cells #[Value.string (key.extract 0 20), .int .i64 fr, .int .i64 he, .int .i64 ou] 46)).heap.size := by have := HB.out.size; simp; omega
        have HRc := Lib.hid (show RdC 4 ((wr.alloc (.cells #[Value.string (key.extract 0 20), .int .i64 fr, .int .i64 he, .int .i64 ou] 46)).alloc (.cells #[Value.string (key.extract 0 20), .int .i64 fr, .int .i64 he, .int .i64 ou] 46)) (some ⟨wr.heap.size + 1, 0, none⟩) 1 (Bo.Tt.cells ⟨key.extract 0 20, fr, he, ou⟩) by
          have h := rdc_new 4 (wr.alloc (.cells #[Value.string (key.extract 0 20), .int .i64 fr, .int .i64 he, .int .i64 ou] 46)) 46 (Bo.Tt.cells ⟨key.extract 0 20, fr, he, ou⟩) 1 rfl (0, 0)
          rw [World.size_alloc] at h
          exact h)
        clear HS
        go_wp2_with (at_builtin; refine wpList_appC manyT rfl (.tmp 28) (.tmp 30) rfl rfl ((HO.out.alloc _).alloc _) ⟨wr.heap.size + 1, 0, none⟩ 1 1 (Bo.Tt.cells ⟨key.extract 0 20, fr, he, ou⟩) (Bo.tcells_one _) rfl HRc.out (by omega) hal ?_; intro B6 cap6 w6 hg6)
        have HF := Lib.hid (show OwnC 4 w6 w.heap.size 46 B6 (k + 1) cap6 (Bo.tflat (Bo.less (l.take (k + 1)))) ∧ k + 1 = (Bo.less (l.take (k + 1))).length ∧ Below w.heap.size w w6 by
          have hfl : Bo.tflat (Bo.less (l.take (k + 1))) = Bo.tflat (Bo.less (l.take k)) ++ Bo.Tt.cells ⟨key.extract 0 20, fr, he, ou⟩ := by rw [HS2.out, Bo.tflat_append]; simp [Bo.tflat]
          refine ⟨by rw [hfl]; exact hg6.own, by rw [HS2.out, List.length_append, ← HM.out]; rfl, hg6.below ((HB.out.alloc HB.out.size _).alloc (by have := HB.out.size; simp; omega) _) hal fun g hg => (HO.out.blk g hg).1⟩)
        clear hg6
        go_roundw
        case rel => exact ⟨k + 1, B6, cap6, by omega, by omega, by go_num, rfl, Lib.hid HF.out.2.1, Lib.hid HF.out.1, Lib.hid HF.out.2.2⟩
        case measure => simp [intOf]; omega
    · have HF := Lib.hid (show GivesLessT w l (.returned (.slice B k d)) wr by
        have hall := Bo.less_all (l := l) (k := k) (by rw [HL.out]; omega)
        have hO := HO.out
        have hM := HM.out
        rw [hall] at hO hM
        subst hM
        exact ⟨B, d, rfl, hO.fits, ⟨rfl, hO.rd, fun x hx => by have := Bo.less_small hx; omega⟩, HB.out⟩)
      clear HO HM
      have hways : ((k : Int) < (n : Int) ∧ ¬ (k : Int) < 30) ∨ ¬ (k : Int) < (n : Int) := by omega
      rcases hways with ⟨h1, h2⟩ | h1
      · clear hin
        go_wp2
        go_ret
        exact HF.out
      · clear hin
        go_wp2
        go_ret
        exact HF.out
end Go.Proofs.Ytcoekdfmfjglpaa
