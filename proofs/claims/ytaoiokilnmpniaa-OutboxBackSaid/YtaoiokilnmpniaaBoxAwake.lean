/- What Split of any text returns; what awake of the laws of layer 21 returns: true. -/
import Derived.Test.YtaoiokilnmpniaaBoxRSplit
import Derived.Test.YtaoiokilnmpniaaStep
namespace Go.Proofs.Ytaoiokilnmpniaa
open Go.RowKit
theorem parts_len {l : List Nat} {ps : List ByteArray} (h : Cd.parts l = some ps) : ps.length ≤ 8 := by
  have := partsL_length l
  rw [h] at this
  exact this
/-- What a text is of. -/
def splitO (s : ByteArray) : Option (ByteArray × ByteArray × Int) := (Cd.parts (bs s)).bind splitL
theorem split_any (s : ByteArray) (w : World) (hs : s.size ≤ 100000) : Calls Try.prog 38 #[.string s] w (GivesSplit w (splitO s)) :=
  split_with s _ w (fun W => parts_any s hs W) (fun _ h => parts_size h hs) (fun _ h => parts_len h)
theorem rsplit_any (s : ByteArray) (w : World) (hs : s.size ≤ 100000) : Calls Try.prog 39 #[.string s] w (GivesSplit w (splitO s)) :=
  rsplit_with s _ w (fun W => rparts_any s hs W) (fun _ h => parts_size h hs) (fun _ h => parts_len h)
def awK : ByteArray := ⟨#[104, 0, 1, 120, 0, 1, 0, 255, 0, 255, 0, 255, 0, 255, 0, 255, 0, 255, 0, 255, 7, 0, 1]⟩
theorem aw_key (w : World) : Calls Try.prog 26 #[.string ⟨#[120]⟩, .int .i64 7] w fun e w' => e = .returned (.tuple #[.string awK, .int .i64 0]) ∧ Below w.heap.size w w' := by
  have h := kholdkey ⟨#[120]⟩ 7 w (by decide)
  unfold GivesKey at h
  rw [show mkS (nameB ⟨#[120]⟩ && withinB 7 0 1099511627776) [⟨#[104]⟩, ⟨#[120]⟩, numS 7 8] = awK by decide +kernel, show mkE (nameB ⟨#[120]⟩ && withinB 7 0 1099511627776) = 0 by decide +kernel] at h
  exact h
theorem aw_split (w : World) : Calls Try.prog 38 #[.string awK] w fun e w' => e = .returned (.tuple #[.string ⟨#[104]⟩, .string ⟨#[120]⟩, .int .i64 7, .int .i64 0]) ∧ Below w.heap.size w w' := by
  have h := split_any awK w (by decide)
  unfold GivesSplit at h
  rw [show splitO awK = some (⟨#[104]⟩, ⟨#[120]⟩, 7) by decide +kernel] at h
  exact h
theorem aw_take1 (w : World) : Calls Try.prog 10 #[.agg #[.int .i64 2, .int .u64 4], .int .i64 3] w fun e w' => e = .returned (.tuple #[.agg #[.int .i64 2, .int .u64 6], .int .i64 0]) ∧ Below w.heap.size w w' := by
  have h := take_any 2 4 3 w (by decide)
  unfold GivesBox at h
  rw [show Ob.takeB 2 4 3 = (2, 6, 0) by decide +kernel] at h
  exact h
theorem aw_take2 (w : World) : Calls Try.prog 10 #[.agg #[.int .i64 2, .int .u64 6], .int .i64 2] w fun e w' => e = .returned (.tuple #[.agg #[.int .i64 5, .int .u64 0], .int .i64 0]) ∧ Below w.heap.size w w' := by
  have h := take_any 2 6 2 w (by decide)
  unfold GivesBox at h
  rw [show Ob.takeB 2 6 2 = (5, 0, 0) by decide +kernel] at h
  exact h
set_option maxRecDepth 100000 in
theorem awake_any (w : World) : Calls Try.prog 18 #[] w fun e w' => e = .returned (.bool true) ∧ Below w.heap.size w w' := by
  go_enter Try.func18, Try.ntmps18
  go_wp2_with fail
  refine (aw_take1 _).mono ?_
  rintro e w1 ⟨rfl, hb1⟩
  go_wp2_with fail
  refine (aw_take2 _).mono ?_
  rintro e w2 ⟨rfl, hb2⟩
  have k1 := (Holds.new w1 #[.int .i64 2, .int .u64 6] 24).below hb2
  have hx2 := below_after _ hb2
  have hsz2 : w1.heap.size < w2.heap.size := k1.1
  go_wp2_with fail
  refine (aw_key _).mono ?_
  rintro e w3 ⟨rfl, hb3⟩
  have k1' := (k1.alloc (.cells #[.int .i64 5, .int .u64 0] 24)).below hb3
  have k2 := (Holds.new w2 #[.int .i64 5, .int .u64 0] 24).below hb3
  have hx3 := below_after _ hb3
  go_wp2_with fail
  refine (aw_split _).mono ?_
  rintro e w4 ⟨rfl, hb4⟩
  have k1'' := k1'.below hb4
  have k2' := k2.below hb4
  have a0 := k1''.at_ 0 rfl
  have a1 := k1''.at_ 1 rfl
  have b0 := k2'.at_ 0 rfl
  have b1 := k2'.at_ 1 rfl
  have hxx := below_next (below_next (below_next hb1 hx2) hx3) hb4
  go_wp2_with fail
  go_ret
  exact ⟨rfl, hxx⟩
end Go.Proofs.Ytaoiokilnmpniaa
