/- The laws' few: lines, not more of them than are looked at. -/
import Derived.Test.YtcoekdfmfjglpaaBoCheck
namespace Go.Proofs.Ytcoekdfmfjglpaa
open Go.RowKit
namespace Bo
/-- A key, cut to what is looked at. -/
def cutK (s : ByteArray) : ByteArray := s.extract 0 (min s.size 20)
theorem cutK_size (s : ByteArray) : (cutK s).size ≤ 20 := by unfold cutK; rw [ByteArray.size_extract]; omega
theorem cutK_low {s : ByteArray} (h : s.size ≤ 20) : cutK s = s := by
  unfold cutK
  rw [Nat.min_eq_left (by omega)]
  exact ByteArray.extract_zero_size
theorem cutK_high {s : ByteArray} (h : ¬ s.size ≤ 20) : cutK s = s.extract 0 20 := by
  unfold cutK
  rw [Nat.min_eq_right (by omega)]
def Ln.cut (x : Ln) : Ln := ⟨x.kind, cutK x.key, x.n⟩
def few (l : List Ln) : List Ln := (l.take 60).map Ln.cut
theorem few_snoc {l : List Ln} {k : Nat} {x : Ln} (h : l[k]? = some x) (hk : k < 60) : few (l.take (k + 1)) = few (l.take k) ++ [x.cut] := by
  unfold few
  rw [List.take_take, List.take_take, Nat.min_eq_right (by omega), Nat.min_eq_right (by omega), List.take_add_one, h]
  simp
theorem few_all {l : List Ln} {k : Nat} (h : k = l.length ∨ k = 60) : few (l.take k) = few l := by
  unfold few
  rcases h with h | h
  · rw [List.take_of_length_le (Nat.le_of_eq h.symm)]
  · subst h; rw [List.take_take]; simp
theorem few_len (l : List Ln) (k : Nat) : (few (l.take k)).length ≤ k := by
  unfold few
  rw [List.length_map, List.length_take, List.length_take]
  omega
theorem lflat_append (a b : List Ln) : lflat (a ++ b) = lflat a ++ lflat b := by unfold lflat; rw [List.flatMap_append]
theorem lcells_one (x : Ln) : ∀ u ∈ Ln.cells x, u.oneCell' = true := by
  intro u hu
  simp only [Ln.cells, List.mem_cons, List.not_mem_nil, or_false] at hu
  rcases hu with rfl | rfl | rfl <;> rfl
theorem few_small {l : List Ln} {x : Ln} (h : x ∈ few l) : x.key.size ≤ 20 := by
  unfold few at h
  obtain ⟨y, _, rfl⟩ := List.mem_map.1 h
  exact cutK_size _
end Bo
theorem manyL : Many 3 27 25 (.agg #[.int .i64 0, .string ⟨#[]⟩, .int .i64 0]) 32 := ⟨by kernel_rfl, Try.underlying27, by kernel_rfl, by decide, by decide⟩
/-- What the laws look at, in a row of the call's own. -/
def GivesFewL (w : World) (l : List Bo.Ln) (e : Ending) (w' : World) : Prop :=
  ∃ B c, e = .returned (.slice B (Bo.few l).length c) ∧ (Bo.few l).length ≤ c ∧ RdL w' B (Bo.few l).length (Bo.few l) ∧ Below w.heap.size w w'
set_option maxRecDepth 100000 in
set_option maxHeartbeats 4000000 in
theorem few_any (A : Option Addr) (n c : Nat) (l : List Bo.Ln) (w : World) (hr : RdL w A n l) (hn : n ≤ 9223372036854775807) :
    Calls Try.prog 8 #[.slice A n c] w (GivesFewL w l) := by
  have HR := Lib.hid hr
  have HL := Lib.hid hr.1
  clear hr
  go_enter Try.func8, Try.ntmps8
  go_wp2
  go_loopw [3, 4] (fun s ii wr => ∃ (k : Nat) (B : Option Addr) (d : Nat), k ≤ n ∧ k ≤ 60 ∧ ii = .int .i64 (k : Int) ∧ s = .slice B k d ∧ Hid (k = (Bo.few (l.take k)).length) ∧ Hid (OwnC 3 wr w.heap.size 25 B k d (Bo.lflat (Bo.few (l.take k)))) ∧ Hid (Below w.heap.size w wr)) (fun _ ii _ => n - (intOf ii).toNat)
  case atStart => exact ⟨0, none, 0, by omega, by omega, rfl, rfl, Lib.hid rfl, Lib.hid (OwnC.none_ _ _ _ _), Lib.hid (Below.refl _ _)⟩
  case round =>
    rename_i wr hrel
    obtain ⟨k, B, d, hk, hk7, rfl, rfl, HM, HO, HB⟩ := hrel
    by_cases hin : k < n ∧ k < 60
    · obtain ⟨hkn, hk60⟩ := hin
      have hki : (k : Int) < (n : Int) := by omega
      have hk6i : (k : Int) < 60 := by omega
      obtain ⟨x, hx⟩ : ∃ x, l[k]? = some x := ⟨_, List.getElem?_eq_getElem (by rw [HL.out]; omega)⟩
      obtain ⟨b, o, rfl, hbl, hcell⟩ := HR.out.at_ hx
      have HS := Lib.hid (Bo.few_snoc hx hk60)
      have hks := (HR.out.2.2 x (List.mem_of_getElem? hx)).1
      obtain ⟨kind, key, m⟩ := x
      have hks : key.size ≤ 9223372036854775807 := hks
      have e0 : wr.cell? ⟨b, o + k * 3, none⟩ = some (.int .i64 kind) := (HB.out.cell hbl).trans (hcell 0 _ rfl)
      have e1 : wr.cell? ⟨b, o + k * 3 + 1, none⟩ = some (.string key) := (HB.out.cell hbl).trans (hcell 1 _ rfl)
      have e2 : wr.cell? ⟨b, o + k * 3 + 2, none⟩ = some (.int .i64 m) := (HB.out.cell hbl).trans (hcell 2 _ rfl)
      clear hx hcell hbl
      by_cases h20 : key.size ≤ 20
      · have h20i : ¬ (20 : Int) < (key.size : Int) := by omega
        have HS2 := Lib.hid (show Bo.few (l.take (k + 1)) = Bo.few (l.take k) ++ [⟨kind, key, m⟩] by rw [HS.out]; unfold Bo.Ln.cut; rw [show Bo.cutK key = key from Bo.cutK_low h20])
        have hal : w.heap.size ≤ ((wr.alloc (.cells #[Value.int .i64 kind, .string (key), .int .i64 m] 25)).alloc (.cells #[Value.int .i64 kind, .string (key), .int .i64 m] 25)).heap.size := by have := HB.out.size; simp; omega
        have HRc := Lib.hid (show RdC 3 ((wr.alloc (.cells #[Value.int .i64 kind, .string (key), .int .i64 m] 25)).alloc (.cells #[Value.int .i64 kind, .string (key), .int .i64 m] 25)) (some ⟨wr.heap.size + 1, 0, none⟩) 1 (Bo.Ln.cells ⟨kind, key, m⟩) by
          have h := rdc_new 3 (wr.alloc (.cells #[Value.int .i64 kind, .string (key), .int .i64 m] 25)) 25 (Bo.Ln.cells ⟨kind, key, m⟩) 1 rfl (0, 0)
          rw [World.size_alloc] at h
          exact h)
        clear HS
        go_wp2_with (at_builtin; refine wpList_appC manyL rfl (.tmp 28) (.tmp 30) rfl rfl ((HO.out.alloc _).alloc _) ⟨wr.heap.size + 1, 0, none⟩ 1 1 (Bo.Ln.cells ⟨kind, key, m⟩) (Bo.lcells_one _) rfl HRc.out (by omega) hal ?_; intro B6 cap6 w6 hg6)
        have HF := Lib.hid (show OwnC 3 w6 w.heap.size 25 B6 (k + 1) cap6 (Bo.lflat (Bo.few (l.take (k + 1)))) ∧ k + 1 = (Bo.few (l.take (k + 1))).length ∧ Below w.heap.size w w6 by
          have hfl : Bo.lflat (Bo.few (l.take (k + 1))) = Bo.lflat (Bo.few (l.take k)) ++ Bo.Ln.cells ⟨kind, key, m⟩ := by rw [HS2.out, Bo.lflat_append]; simp [Bo.lflat]
          refine ⟨by rw [hfl]; exact hg6.own, by rw [HS2.out, List.length_append, ← HM.out]; rfl, hg6.below ((HB.out.alloc HB.out.size _).alloc (by have := HB.out.size; simp; omega) _) hal fun g hg => (HO.out.blk g hg).1⟩)
        clear hg6
        go_roundw
        case rel => exact ⟨k + 1, B6, cap6, by omega, by omega, by go_num, rfl, Lib.hid HF.out.2.1, Lib.hid HF.out.1, Lib.hid HF.out.2.2⟩
        case measure => simp [intOf]; omega
      · have h20i : (20 : Int) < (key.size : Int) := by omega
        have h20j : (20 : Int) ≤ (key.size : Int) := by omega
        have HS2 := Lib.hid (show Bo.few (l.take (k + 1)) = Bo.few (l.take k) ++ [⟨kind, key.extract 0 20, m⟩] by rw [HS.out]; unfold Bo.Ln.cut; rw [show Bo.cutK key = key.extract 0 20 from Bo.cutK_high h20])
        have hal : w.heap.size ≤ ((wr.alloc (.cells #[Value.int .i64 kind, .string (key.extract 0 20), .int .i64 m] 25)).alloc (.cells #[Value.int .i64 kind, .string (key.extract 0 20), .int .i64 m] 25)).heap.size := by have := HB.out.size; simp; omega
        have HRc := Lib.hid (show RdC 3 ((wr.alloc (.cells #[Value.int .i64 kind, .string (key.extract 0 20), .int .i64 m] 25)).alloc (.cells #[Value.int .i64 kind, .string (key.extract 0 20), .int .i64 m] 25)) (some ⟨wr.heap.size + 1, 0, none⟩) 1 (Bo.Ln.cells ⟨kind, key.extract 0 20, m⟩) by
          have h := rdc_new 3 (wr.alloc (.cells #[Value.int .i64 kind, .string (key.extract 0 20), .int .i64 m] 25)) 25 (Bo.Ln.cells ⟨kind, key.extract 0 20, m⟩) 1 rfl (0, 0)
          rw [World.size_alloc] at h
          exact h)
        clear HS
        go_wp2_with (at_builtin; refine wpList_appC manyL rfl (.tmp 28) (.tmp 30) rfl rfl ((HO.out.alloc _).alloc _) ⟨wr.heap.size + 1, 0, none⟩ 1 1 (Bo.Ln.cells ⟨kind, key.extract 0 20, m⟩) (Bo.lcells_one _) rfl HRc.out (by omega) hal ?_; intro B6 cap6 w6 hg6)
        have HF := Lib.hid (show OwnC 3 w6 w.heap.size 25 B6 (k + 1) cap6 (Bo.lflat (Bo.few (l.take (k + 1)))) ∧ k + 1 = (Bo.few (l.take (k + 1))).length ∧ Below w.heap.size w w6 by
          have hfl : Bo.lflat (Bo.few (l.take (k + 1))) = Bo.lflat (Bo.few (l.take k)) ++ Bo.Ln.cells ⟨kind, key.extract 0 20, m⟩ := by rw [HS2.out, Bo.lflat_append]; simp [Bo.lflat]
          refine ⟨by rw [hfl]; exact hg6.own, by rw [HS2.out, List.length_append, ← HM.out]; rfl, hg6.below ((HB.out.alloc HB.out.size _).alloc (by have := HB.out.size; simp; omega) _) hal fun g hg => (HO.out.blk g hg).1⟩)
        clear hg6
        go_roundw
        case rel => exact ⟨k + 1, B6, cap6, by omega, by omega, by go_num, rfl, Lib.hid HF.out.2.1, Lib.hid HF.out.1, Lib.hid HF.out.2.2⟩
        case measure => simp [intOf]; omega
    · have HF := Lib.hid (show GivesFewL w l (.returned (.slice B k d)) wr by
        have hall := Bo.few_all (l := l) (k := k) (by rw [HL.out]; omega)
        have hO := HO.out
        have hM := HM.out
        rw [hall] at hO hM
        subst hM
        exact ⟨B, d, rfl, hO.fits, ⟨rfl, hO.rd, fun x hx => ⟨by have := Bo.few_small hx; omega, by
          unfold Bo.few at hx
          obtain ⟨y, hy, rfl⟩ := List.mem_map.1 hx
          exact (HR.out.2.2 y (List.mem_of_mem_take hy)).2⟩⟩, HB.out⟩)
      clear HO HM
      have hways : ((k : Int) < (n : Int) ∧ ¬ (k : Int) < 60) ∨ ¬ (k : Int) < (n : Int) := by omega
      rcases hways with ⟨h1, h2⟩ | h1
      · clear hin
        go_wp2
        go_ret
        exact HF.out
      · clear hin
        go_wp2
        go_ret
        exact HF.out
end Go.Proofs.Ytcoekdfmfjglpaa
