/- The statement's place. -/
import Derived.Test.YtpggomekbahddaaM10
namespace Go.Proofs.Ytpggomekbahddaa
open Go.RowKit Fi Fr
set_option linter.unusedVariables false
set_option linter.unusedSimpArgs false
theorem Wl.pairs_succ {k : Nat} (h : k < 3) : pv (Wl.pairs (k + 1)) = pv (Wl.pairs k) ++ [.int .i64 (2 * (k : Int) + 1), .int .i64 (2 * (k : Int))] := by
  have : k = 0 ∨ k = 1 ∨ k = 2 := by omega
  rcases this with rfl | rfl | rfl <;> rfl
set_option maxRecDepth 100000 in
set_option maxHeartbeats 4000000 in
theorem place_any (n : Nat) (e : Int) (w : World) (h1 : 1 ≤ n) (hn : n ≤ 3) :
    Calls Try.prog 6 #[.int .i64 (n : Int), .int .i64 e] w fun x w' => Below w.heap.size w w' ∧ ∃ (b o cp : Nat), x = .returned (.agg #[.int .i64 7, .int .i64 e, .slice (some ⟨b, o, none⟩) n cp]) ∧ RdC 2 w' (some ⟨b, o, none⟩) n (pv (Wl.pairs n)) ∧ w.heap.size ≤ b ∧ b < w'.heap.size := by
  have HZ := Lib.hid ((Holds.new w #[.int .i64 0, .int .i64 0, .slice none 0 0] 31).alloc (.cells #[.int .i64 7, .int .i64 e, .slice none 0 0] 31))
  have HX := Lib.hid (show Holds ((w.alloc (.cells #[.int .i64 0, .int .i64 0, .slice none 0 0] 31)).alloc (.cells #[.int .i64 7, .int .i64 e, .slice none 0 0] 31)) (w.heap.size + 1) [.int .i64 7, .int .i64 e, .slice none 0 0] by have := Holds.new (w.alloc (.cells #[.int .i64 0, .int .i64 0, .slice none 0 0] 31)) #[.int .i64 7, .int .i64 e, .slice none 0 0] 31; simpa using this)
  have HB := Lib.hid (show Below w.heap.size w ((w.alloc (.cells #[.int .i64 0, .int .i64 0, .slice none 0 0] 31)).alloc (.cells #[.int .i64 7, .int .i64 e, .slice none 0 0] 31)) by repeat (first | exact Below.refl _ _ | refine Below.alloc ?_ (by simp <;> omega) _))
  have HS := Lib.hid (show w.heap.size + 2 ≤ ((w.alloc (.cells #[.int .i64 0, .int .i64 0, .slice none 0 0] 31)).alloc (.cells #[.int .i64 7, .int .i64 e, .slice none 0 0] 31)).heap.size by simp)
  go_enter Try.func6, Try.ntmps6
  go_wp2_with fail
  generalize ((w.alloc (.cells #[.int .i64 0, .int .i64 0, .slice none 0 0] 31)).alloc (.cells #[.int .i64 7, .int .i64 e, .slice none 0 0] 31)) = u at *
  go_loopw [6] (fun ii wr => ∃ (k : Nat) (R : Option Addr) (rc : Nat), k ≤ n ∧ ii = .int .i64 (k : Int) ∧ Hid (OwnC 2 wr (w.heap.size + 2) 52 R k rc (pv (Wl.pairs k))) ∧ Hid (Holds wr (w.heap.size + 1) [.int .i64 7, .int .i64 e, .slice R k rc]) ∧ Hid (Holds wr w.heap.size [.int .i64 0, .int .i64 0, .slice none 0 0]) ∧ Hid (Below w.heap.size w wr) ∧ Hid (w.heap.size + 2 ≤ wr.heap.size)) (fun ii _ => n - (intOf ii).toNat)
  case atStart => exact ⟨0, none, 0, Nat.zero_le _, rfl, Lib.hid (OwnC.none_ _ _ _ _), HX, HZ, HB, HS⟩
  case round =>
    obtain ⟨k, R, rc, hk, rfl, HO, HXr, HZr, HBr, HSr⟩ := hrel
    by_cases hkn : k < n
    · have hki : (k : Int) < (n : Int) := by omega
      have hk3 : (k : Int) < 3 := by omega
      have hk0 : (0 : Int) ≤ (k : Int) := by omega
      have HPs := Lib.hid (Wl.pairs_succ (show k < 3 by omega))
      have x2 := HXr.out.at_ 2 rfl
      have ha : Below wr.heap.size wr (wr.alloc (.cells #[.int .i64 (2 * (k : Int) + 1), .int .i64 (2 * (k : Int))] 52)) := (Below.refl _ _).alloc (Nat.le_refl _) _
      have hO := HO.out.below ha
      have HXa := Lib.hid (HXr.out.below ha)
      have HZa := Lib.hid (HZr.out.below ha)
      have HBa := Lib.hid (below_next HBr.out ha)
      have hSa : w.heap.size + 2 ≤ (wr.alloc (.cells #[.int .i64 (2 * (k : Int) + 1), .int .i64 (2 * (k : Int))] 52)).heap.size := Nat.le_trans HSr.out ha.size
      have hrd : RdC 2 (wr.alloc (.cells #[.int .i64 (2 * (k : Int) + 1), .int .i64 (2 * (k : Int))] 52)) (some ⟨wr.heap.size, 0, none⟩) 1 [.int .i64 (2 * (k : Int) + 1), .int .i64 (2 * (k : Int))] := by
        have h := Holds.new wr #[.int .i64 (2 * (k : Int) + 1), .int .i64 (2 * (k : Int))] 52
        refine ⟨rfl, fun _ => ⟨_, 0, rfl, by simp, fun j q hq => ?_⟩⟩
        rw [Nat.zero_add]
        exact h.at_ j hq
      have hone : ∀ u ∈ [Value.int .i64 (2 * (k : Int) + 1), .int .i64 (2 * (k : Int))], u.oneCell' = true := by intro u hu; simp at hu; rcases hu with rfl | rfl <;> rfl
      have hk6 : k + 1 ≤ 1000000 := by omega
      have HBk := Lib.hid (fun g (hg : (Value.slice R k rc).ownBlock = some g) => hO.blk g hg)
      clear ha HO HXr HZr HBr
      go_wp2_with (first | (at_builtin; refine wpList_appC manyP rfl (.tmp 19) (.tmp 26) rfl rfl hO ⟨wr.heap.size, 0, none⟩ 1 1 [.int .i64 (2 * (k : Int) + 1), .int .i64 (2 * (k : Int))] hone rfl hrd hk6 hSa ?_; intro A8 c8 v8 hg8; have HX8 := Lib.hid (HXa.out.grown hg8.grew (fun e => by have := (HBk.out _ e.symm).1; omega)); have x28 := HX8.out.at_ 2 rfl; have f28 := HX8.out.2.2 2))
      have HZ8 := Lib.hid (HZa.out.grown hg8.grew (fun e => by have := (HBk.out _ e.symm).1; omega))
      have hB8 := hg8.below HBa.out (Nat.le_trans (by omega) hSa) (fun g h => by have := (HBk.out g h).1; omega)
      have HBn := Lib.hid (show Below w.heap.size w (v8.setCell ⟨w.heap.size + 1, 2, none⟩ (.slice A8 (k + 1) c8)) from below_set hB8 ⟨w.heap.size + 1, 2, none⟩ _ (by show w.heap.size ≤ w.heap.size + 1; omega))
      have ho8 := hg8.own
      rw [← HPs.out] at ho8
      have HOn := Lib.hid (ho8.grown (grown_cell v8 (w.heap.size + 1) 2 (.slice A8 (k + 1) c8)) (.inr fun g e1 e2 => by injection e1 with e1; have := (ho8.blk g e2).1; omega))
      have HXn := Lib.hid (show Holds (v8.setCell ⟨w.heap.size + 1, 2, none⟩ (.slice A8 (k + 1) c8)) (w.heap.size + 1) [.int .i64 7, .int .i64 e, .slice A8 (k + 1) c8] from HX8.out.set 2 _ (by simp))
      have HZn := Lib.hid (HZ8.out.other (b := w.heap.size + 1) (i := 2) (v := .slice A8 (k + 1) c8) (by omega))
      have HSn := Lib.hid (show w.heap.size + 2 ≤ (v8.setCell ⟨w.heap.size + 1, 2, none⟩ (.slice A8 (k + 1) c8)).heap.size from by have h1 := hg8.grew.size; simp only [World.setCell, Array.size_setIfInBounds, Array.size_modify]; omega)
      clear hg8 hB8 ho8 x28 f28 hO hrd hSa x2
      go_roundw
      case rel => exact ⟨k + 1, A8, c8, by omega, by go_num, HOn, HXn, HZn, HBn, HSn⟩
      case measure => simp [intOf]; omega
    · have hkn2 : k = n := by omega
      subst hkn2
      have hki : ¬ (k : Int) < (k : Int) := by omega
      obtain ⟨b, o, rfl, hb, hc⟩ := HO.out.rd.2 (by omega)
      have hblk := (HO.out.blk b rfl).1
      have x0 := HXr.out.at_ 0 rfl
      have x1 := HXr.out.at_ 1 rfl
      have x2 := HXr.out.at_ 2 rfl
      have z0 := HZr.out.at_ 0 rfl
      have z1 := HZr.out.at_ 1 rfl
      have z2 := HZr.out.at_ 2 rfl
      have f0 := HZr.out.2.2 0
      have f1 := HZr.out.2.2 1
      have f2 := HZr.out.2.2 2
      have HZf := Lib.hid (((HZr.out.set 0 (.int .i64 7) (by simp)).set 1 (.int .i64 e) (by simp)).set 2 (.slice (some ⟨b, o, none⟩) k rc) (by simp))
      have HBf := Lib.hid (below_set (below_set (below_set HBr.out ⟨w.heap.size, 0, none⟩ (.int .i64 7) (Nat.le_refl _)) ⟨w.heap.size, 1, none⟩ (.int .i64 e) (Nat.le_refl _)) ⟨w.heap.size, 2, none⟩ (.slice (some ⟨b, o, none⟩) k rc) (Nat.le_refl _))
      have HOf := Lib.hid (((HO.out.rd.grownC (grown_cell wr w.heap.size 0 (.int .i64 7)) (fun b' o' e1 e2 => by injection e1 with e1; injection e1 with e1; injection e2 with e2; omega)).grownC (grown_cell _ w.heap.size 1 (.int .i64 e)) (fun b' o' e1 e2 => by injection e1 with e1; injection e1 with e1; injection e2 with e2; omega)).grownC (grown_cell _ w.heap.size 2 (.slice (some ⟨b, o, none⟩) k rc)) (fun b' o' e1 e2 => by injection e1 with e1; injection e1 with e1; injection e2 with e2; omega))
      have HBl := Lib.hid (And.intro hblk hb)
      clear hc hb hblk HO HXr HZr HBr HSr
      go_wp2_with fail
      clear x0 x1 x2 z0 z1 z2 f0 f1 f2
      have hsz : (((wr.setCell ⟨w.heap.size, 0, none⟩ (.int .i64 7)).setCell ⟨w.heap.size, 1, none⟩ (.int .i64 e)).setCell ⟨w.heap.size, 2, none⟩ (.slice (some ⟨b, o, none⟩) k rc)).heap.size = wr.heap.size := by simp [World.setCell]
      generalize ((wr.setCell ⟨w.heap.size, 0, none⟩ (.int .i64 7)).setCell ⟨w.heap.size, 1, none⟩ (.int .i64 e)).setCell ⟨w.heap.size, 2, none⟩ (.slice (some ⟨b, o, none⟩) k rc) = zz at *
      have y0 := HZf.out.at_ 0 rfl
      have y1 := HZf.out.at_ 1 rfl
      have y2 := HZf.out.at_ 2 rfl
      refine bodyPost_ret (v := .agg #[.int .i64 7, .int .i64 e, .slice (some ⟨b, o, none⟩) k rc]) ?_ rfl ⟨HBf.out, b, o, ⟨rc, rfl⟩, HOf.out, by have := HBl.out.1; omega, by have := HBl.out.2; omega⟩
      simp [results, Try.results6, go_sem, y0, y1, y2]
end Go.Proofs.Ytpggomekbahddaa
