/- Totals that are not of nothing: books.some. -/
import Derived.Test.YtcoekdfmfjglpaaBoEqual
namespace Go.Proofs.Ytcoekdfmfjglpaa
open Go.RowKit
namespace Bo
/-- Is a total of nothing? -/
def nil (x : Tt) : Bool := (x.free == 0) && (x.held == 0) && (x.out == 0)
def some_ (l : List Tt) : List Tt := l.filter (fun x => !nil x)
theorem some_snoc {l : List Tt} {k : Nat} {x : Tt} (h : l[k]? = some x) : some_ (l.take (k + 1)) = some_ (l.take k) ++ (if nil x then [] else [x]) := by
  unfold some_
  rw [List.take_add_one, h, List.filter_append]
  cases hs : nil x <;> simp [hs]
theorem some_len (l : List Tt) (k : Nat) : (some_ (l.take k)).length ≤ k := by
  unfold some_
  refine Nat.le_trans (List.length_filter_le _ _) ?_
  rw [List.length_take]
  omega
end Bo
def GivesSomeT (w : World) (l : List Bo.Tt) (e : Ending) (w' : World) : Prop :=
  ∃ B c, e = .returned (.slice B (Bo.some_ l).length c) ∧ (Bo.some_ l).length ≤ c ∧ RdT w' B (Bo.some_ l).length (Bo.some_ l) ∧ Below w.heap.size w w'
set_option maxRecDepth 100000 in
set_option maxHeartbeats 4000000 in
theorem some_any (A : Option Addr) (n c : Nat) (l : List Bo.Tt) (w : World) (hr : RdT w A n l) (hn : n ≤ 100000) :
    Calls Try.prog 26 #[.slice A n c] w (GivesSomeT w l) := by
  have HR := Lib.hid hr
  have HL := Lib.hid hr.1
  clear hr
  go_enter Try.func26, Try.ntmps26
  go_wp2
  go_loopw [3, 8] (fun s ii wr => ∃ (k m : Nat) (B : Option Addr) (d : Nat), k ≤ n ∧ m ≤ k ∧ ii = .int .i64 (k : Int) ∧ s = .slice B m d ∧ Hid (m = (Bo.some_ (l.take k)).length) ∧ Hid (OwnC 4 wr w.heap.size 46 B m d (Bo.tflat (Bo.some_ (l.take k)))) ∧ Hid (Below w.heap.size w wr)) (fun _ ii _ => n - (intOf ii).toNat)
  case atStart => exact ⟨0, 0, none, 0, by omega, by omega, rfl, rfl, Lib.hid rfl, Lib.hid (OwnC.none_ _ _ _ _), Lib.hid (Below.refl _ _)⟩
  case round =>
    rename_i wr hrel
    obtain ⟨k, m, B, d, hk, hmk, rfl, rfl, HM, HO, HB⟩ := hrel
    by_cases hkn : k < n
    · have hki : (k : Int) < (n : Int) := by omega
      obtain ⟨x, hx⟩ : ∃ x, l[k]? = some x := ⟨_, List.getElem?_eq_getElem (by rw [HL.out]; omega)⟩
      obtain ⟨b, o, rfl, hbl, hcell⟩ := HR.out.at_ hx
      have HS := Lib.hid (Bo.some_snoc hx)
      obtain ⟨key, fr, he, ou⟩ := x
      have e0 : wr.cell? ⟨b, o + k * 4, none⟩ = some (.string key) := (HB.out.cell hbl).trans (hcell 0 _ rfl)
      have e1 : wr.cell? ⟨b, o + k * 4 + 1, none⟩ = some (.int .i64 fr) := (HB.out.cell hbl).trans (hcell 1 _ rfl)
      have e2 : wr.cell? ⟨b, o + k * 4 + 2, none⟩ = some (.int .i64 he) := (HB.out.cell hbl).trans (hcell 2 _ rfl)
      have e3 : wr.cell? ⟨b, o + k * 4 + 3, none⟩ = some (.int .i64 ou) := (HB.out.cell hbl).trans (hcell 3 _ rfl)
      clear hx hcell hbl
      have g0 := Bo.byt_same key
      have hways : (fr = 0 ∧ he = 0 ∧ ou = 0) ∨ ¬ (fr = 0 ∧ he = 0 ∧ ou = 0) := Classical.em _
      rcases hways with ⟨rfl, rfl, rfl⟩ | hne
      · have HS2 := Lib.hid (show Bo.some_ (l.take (k + 1)) = Bo.some_ (l.take k) by rw [HS.out]; simp [Bo.nil])
        clear HS
        go_wp2
        have hB2 := HB.out.alloc HB.out.size (.cells #[Value.string key, .int .i64 0, .int .i64 0, .int .i64 0] 46)
        go_roundw
        case rel => exact ⟨k + 1, m, B, d, by omega, by omega, by go_num, rfl, Lib.hid (by rw [HS2.out]; exact HM.out), Lib.hid (by rw [HS2.out]; exact HO.out.alloc _), Lib.hid hB2⟩
        case measure => simp [intOf]; omega
      · have hnil : Bo.nil ⟨key, fr, he, ou⟩ = false := by
          cases h : Bo.nil ⟨key, fr, he, ou⟩ with
          | false => rfl
          | true =>
            unfold Bo.nil at h
            simp only [Bool.and_eq_true, beq_iff_eq] at h
            exact absurd ⟨h.1.1, h.1.2, h.2⟩ hne
        have HS2 := Lib.hid (show Bo.some_ (l.take (k + 1)) = Bo.some_ (l.take k) ++ [⟨key, fr, he, ou⟩] by rw [HS.out, hnil]; rfl)
        have hal : w.heap.size ≤ ((wr.alloc (.cells #[Value.string key, .int .i64 fr, .int .i64 he, .int .i64 ou] 46)).alloc (.cells #[Value.string key, .int .i64 fr, .int .i64 he, .int .i64 ou] 46)).heap.size := by have := HB.out.size; simp; omega
        have HRc := Lib.hid (show RdC 4 ((wr.alloc (.cells #[Value.string key, .int .i64 fr, .int .i64 he, .int .i64 ou] 46)).alloc (.cells #[Value.string key, .int .i64 fr, .int .i64 he, .int .i64 ou] 46)) (some ⟨wr.heap.size + 1, 0, none⟩) 1 (Bo.Tt.cells ⟨key, fr, he, ou⟩) by
          have h := rdc_new 4 (wr.alloc (.cells #[Value.string key, .int .i64 fr, .int .i64 he, .int .i64 ou] 46)) 46 (Bo.Tt.cells ⟨key, fr, he, ou⟩) 1 rfl (0, 0)
          rw [World.size_alloc] at h
          exact h)
        clear HS hnil
        have hcases : (fr == 0) = false ∨ ((fr == 0) = true ∧ (he == 0) = false) ∨ ((fr == 0) = true ∧ (he == 0) = true ∧ (ou == 0) = false) := by
          by_cases h1 : fr = 0
          · by_cases h2 : he = 0
            · exact .inr (.inr ⟨by simp [h1], by simp [h2], beq_eq_false_iff_ne.2 (fun h3 => hne ⟨h1, h2, h3⟩)⟩)
            · exact .inr (.inl ⟨by simp [h1], beq_eq_false_iff_ne.2 h2⟩)
          · exact .inl (beq_eq_false_iff_ne.2 h1)
        clear hne
        rcases hcases with g1 | ⟨g1, g2⟩ | ⟨g1, g2, g3⟩
        all_goals
          go_wp2_with (at_builtin; refine wpList_appC manyT rfl (.tmp 17) (.tmp 19) rfl rfl ((HO.out.alloc _).alloc _) ⟨wr.heap.size + 1, 0, none⟩ 1 1 (Bo.Tt.cells ⟨key, fr, he, ou⟩) (Bo.tcells_one _) rfl HRc.out (by omega) hal ?_; intro B6 cap6 w6 hg6)
          have HF := Lib.hid (show OwnC 4 w6 w.heap.size 46 B6 (m + 1) cap6 (Bo.tflat (Bo.some_ (l.take (k + 1)))) ∧ m + 1 = (Bo.some_ (l.take (k + 1))).length ∧ Below w.heap.size w w6 by
            have hfl : Bo.tflat (Bo.some_ (l.take (k + 1))) = Bo.tflat (Bo.some_ (l.take k)) ++ Bo.Tt.cells ⟨key, fr, he, ou⟩ := by rw [HS2.out, Bo.tflat_append]; simp [Bo.tflat]
            refine ⟨by rw [hfl]; exact hg6.own, by rw [HS2.out, List.length_append, ← HM.out]; rfl, hg6.below ((HB.out.alloc HB.out.size _).alloc (by have := HB.out.size; simp; omega) _) hal fun g hg => (HO.out.blk g hg).1⟩)
          clear hg6
          go_roundw
          case rel => exact ⟨k + 1, m + 1, B6, cap6, by omega, by omega, by go_num, rfl, Lib.hid HF.out.2.1, Lib.hid HF.out.1, Lib.hid HF.out.2.2⟩
          case measure => simp [intOf]; omega
    · have hke : k = n := by omega
      obtain rfl : n = k := hke.symm
      have hnk : ¬ (n : Int) < (n : Int) := by omega
      clear hkn
      have HF := Lib.hid (show GivesSomeT w l (.returned (.slice B m d)) wr by
        have hO := HO.out
        have hM := HM.out
        rw [List.take_of_length_le (Nat.le_of_eq HL.out)] at hO hM
        subst hM
        exact ⟨B, d, rfl, hO.fits, ⟨rfl, hO.rd, fun x hx => HR.out.2.2 x (List.mem_filter.1 hx).1⟩, HB.out⟩)
      clear HO HM
      go_wp2
      go_ret
      exact HF.out
end Go.Proofs.Ytcoekdfmfjglpaa
