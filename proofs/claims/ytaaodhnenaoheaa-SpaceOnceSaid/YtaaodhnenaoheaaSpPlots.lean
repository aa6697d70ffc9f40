/- The document's plots: those of pairs, in order. -/
import Derived.Test.YtaaodhnenaoheaaSpTurn
namespace Go.Proofs.Ytaaodhnenaoheaa
open Go.RowKit Sp
set_option linter.unusedVariables false
theorem manyI : Many 1 57 3 (.int .i64 0) 8 := ⟨by kernel_rfl, Try.underlying57, rfl, by omega, by omega⟩
theorem flat_take {ps : List (Int × Int)} {k : Nat} {q : Int × Int} (h : ps[k]? = some q) : flat (ps.take (k + 1)) = flat (ps.take k) ++ [q.1, q.2] := by
  induction ps generalizing k with
  | nil => cases h
  | cons p ps ih =>
    match k, h with
    | 0, h => simp at h; subst h; rfl
    | k + 1, h =>
      rw [List.getElem?_cons_succ] at h
      simp only [List.take_succ_cons, flat, ih h, List.cons_append]
set_option maxRecDepth 100000 in
set_option maxHeartbeats 1000000 in
theorem plotsof_any (A : Option Addr) (n cap : Nat) (ps : List (Int × Int)) (w : World) (hr : RdC 2 w A n (iv (flat ps))) (hn : ps.length = n) (hbig : n ≤ 1000) : Calls Try.prog 38 #[.slice A n cap] w (GivesInts w (flat ps)) := by
  subst hn
  have HR := Lib.hid hr
  clear hr
  go_enter Try.func38, Try.ntmps38
  go_wp2
  go_loopw [3, 4] (fun l i wr => ∃ (k c : Nat) (B : Option Addr), k ≤ ps.length ∧ i = .int .i64 (k : Int) ∧ l = .slice B (2 * k) c ∧ OwnC 1 wr w.heap.size 3 B (2 * k) c (iv (flat (ps.take k))) ∧ Below w.heap.size w wr) (fun _ i _ => ps.length - (intOf i).toNat)
  case atStart => exact ⟨0, 0, none, by omega, rfl, rfl, OwnC.none_ _ _ _ _, Below.refl _ _⟩
  case round =>
    obtain ⟨k, c, B, hk, rfl, rfl, hO, hb⟩ := hrel
    by_cases hkn : k < ps.length
    · have hki : (k : Int) < (ps.length : Int) := by omega
      have hq : ps[k]? = some ps[k] := List.getElem?_eq_getElem hkn
      generalize ps[k] = q at hq
      obtain ⟨x, y⟩ := q
      have hsnoc := flat_take hq
      obtain ⟨g, o, rfl, hg, hcells⟩ := HR.out.2 (by omega)
      have cx : wr.cell? ⟨g, o + k * 2, none⟩ = some (.int .i64 x) := (hb.cell (p := ⟨g, o + k * 2, none⟩) hg).trans (hcells _ _ (flat_get hq).1)
      have cy : wr.cell? ⟨g, o + (k * 2 + 1), none⟩ = some (.int .i64 y) := (hb.cell (p := ⟨g, o + (k * 2 + 1), none⟩) hg).trans (hcells _ _ (flat_get hq).2)
      rw [← Nat.add_assoc] at cy
      have hOa : OwnC 1 (wr.alloc (.cells #[.int .i64 x, .int .i64 y] 3)).drew w.heap.size 3 B (2 * k) c (iv (flat (ps.take k))) := (hO.alloc _).drew
      have hra : RdC 1 (wr.alloc (.cells #[.int .i64 x, .int .i64 y] 3)).drew (some ⟨wr.heap.size, 0, none⟩) 2 (iv [x, y]) := rdc_new 1 wr 3 (iv [x, y]) 2 rfl (0, 0)
      have hbs := hb.size
      have hkl : 2 * k + 2 ≤ 1000000 := by omega
      have hba : w.heap.size ≤ (wr.alloc (.cells #[.int .i64 x, .int .i64 y] 3)).drew.heap.size := by simp; omega
      have hlt : g < wr.heap.size := by omega
      have hkeep : ∀ A3 c3 v3, GrewC 1 (wr.alloc (.cells #[.int .i64 x, .int .i64 y] 3)).drew v3 w.heap.size 3 B A3 (2 * k) c (2 * k + 2) c3 (iv (flat (ps.take k)) ++ iv [x, y]) → v3.cell? ⟨g, o + k * 2, none⟩ = some (.int .i64 x) ∧ v3.cell? ⟨g, o + k * 2 + 1, none⟩ = some (.int .i64 y) := by
        intro A3 c3 v3 hgr
        have hne : ∀ i, some (⟨g, i, none⟩ : Addr).block ≠ (Value.slice B (2 * k) c).ownBlock := fun i e => by have := (hO.blk g e.symm).1; omega
        have hal : ∀ i, (wr.alloc (.cells #[.int .i64 x, .int .i64 y] 3)).drew.cell? ⟨g, i, none⟩ = wr.cell? ⟨g, i, none⟩ := fun i => ((Below.refl wr.heap.size wr).alloc (Nat.le_refl _) _).cell (p := ⟨g, i, none⟩) hlt
        exact ⟨(hgr.grew.cell_far ⟨g, _, none⟩ (by simp; omega) (hne _)).trans ((hal _).trans cx), (hgr.grew.cell_far ⟨g, _, none⟩ (by simp; omega) (hne _)).trans ((hal _).trans cy)⟩
      have HK := Lib.hid hkeep
      have HO := Lib.hid hO
      have Hsnoc := Lib.hid hsnoc
      clear hO hkeep hsnoc hq hcells
      go_wp2_with fail
      go_region_held3 (fun w' => w'.cell? ⟨g, o + k * 2, none⟩ = some (.int .i64 x) ∧ w'.cell? ⟨g, o + k * 2 + 1, none⟩ = some (.int .i64 y)) (first | go_keep | exact HK.out _ _ _ hg3) ((refine step_appC manyI (by rfl) 23 rfl (.tmp 11) (.tmp 22) rfl rfl hOa ⟨wr.heap.size, 0, none⟩ 2 2 (iv [x, y]) (iv_one _) rfl hra hkl hba ?_; intro A3 c3 v3 hg3))
      have hbn : Below w.heap.size w v3 := hg3.below ((hb.alloc hb.size (.cells #[.int .i64 x, .int .i64 y] 3)).drew) hba (fun g h => (HO.out.blk g h).1)
      have hOn := hg3.own
      rw [← iv_append, ← Hsnoc.out, show 2 * k + 2 = 2 * (k + 1) by omega] at hOn
      clear hOa hra hba cx cy hg3 HK
      go_wp2_with fail
      go_roundw
      case rel => exact ⟨k + 1, c3, A3, by omega, by go_num, by rw [show 2 * (k + 1) = 2 * k + 2 by omega], hOn, hbn⟩
      case measure => simp [intOf]; omega
    · have hkn2 : k = ps.length := by omega
      subst hkn2
      rw [List.take_length] at hO
      go_wp2
      go_ret
      exact ⟨B, 2 * ps.length, c, rfl, ⟨by rw [flat_length]; omega, hO⟩, hb⟩
end Go.Proofs.Ytaaodhnenaoheaa
