/- What awake of the laws of layer 11 returns: true. -/
import Derived.Test.YtpoogjdkjolkhaaBloomMake
import Derived.Test.YtpoogjdkjolkhaaBloomHas
import Derived.Test.YtpoogjdkjolkhaaBloomCount
namespace Go.Proofs.Ytpoogjdkjolkhaa
open Go.RowKit
def awF : List Nat := [7, 0, 0, 0, 0, 0, 0, 0, 0]
def awG : List Nat := [7, 0, 0, 2, 129, 64, 32, 16, 8]
theorem awF_eq : makeF [] 10 = (awF, 0) := by decide +kernel
theorem awG_eq : makeF [⟨#[97]⟩] 10 = (awG, 0) := by decide +kernel
theorem awG_has : hasF awG ⟨#[97]⟩ = true := by decide +kernel
theorem awG_is : isF awG = true := by decide +kernel
theorem awG_cnt : cntI (awG.drop 1) = 7 := by decide +kernel
theorem awG_bits : bitsI awG.length = 64 := by decide +kernel
theorem rds_lit (w : World) (s : ByteArray) : RdS (w.alloc (.cells #[.string s] 9)) (some ⟨w.heap.size, 0, none⟩) 1 [s] := by
  refine ⟨rfl, fun _ => ⟨w.heap.size, 0, rfl, by simp, fun j x hx => ?_⟩⟩
  rw [Nat.zero_add, World.cell?_alloc_mark]
  match j, hx with
  | 0, hx => simp at hx; subst hx; rfl
  | j + 1, hx => simp at hx
def GivesNine (w : World) (l : List Nat) (e : Ending) (w' : World) : Prop :=
  ∃ A cap, e = .returned (.tuple #[.slice A 9 cap, .int .i64 0]) ∧ Own w' w.heap.size A 9 cap l ∧ Below w.heap.size w w'
theorem aw_make1 (w : World) : Calls Try.prog 10 #[.slice none 0 0, .int .i64 10] w (GivesNine w awF) := by
  have h := make_any none 0 0 10 [] w ⟨rfl, by simp⟩ (by simp)
  rw [awF_eq] at h
  exact h
theorem aw_make2 (w : World) (A : Option Addr) (hA : RdS w A 1 [⟨#[97]⟩]) : Calls Try.prog 10 #[.slice A 1 1, .int .i64 10] w (GivesNine w awG) := by
  have h := make_any A 1 1 10 [⟨#[97]⟩] w hA (by intro s hs; rw [List.mem_singleton.1 hs]; decide)
  rw [awG_eq] at h
  exact h
theorem aw_count (w : World) (A : Option Addr) (cap : Nat) (h : Rd w A 9 awG) (hc : 9 ≤ cap) : Calls Try.prog 15 #[.slice A 9 cap] w fun e w' => e = .returned (.tuple #[.int .i64 7, .int .i64 64, .int .i64 0]) ∧ w = w' := by
  have h3 := count_any A 9 cap awG w h hc (by omega)
  unfold GivesCount at h3
  rw [awG_is, if_pos rfl, awG_cnt, awG_bits] at h3
  exact h3
theorem aw_has (w : World) (A : Option Addr) (cap : Nat) (h : Rd w A 9 awG) : Calls Try.prog 17 #[.slice A 9 cap, .string ⟨#[97]⟩] w fun e w' => e = .returned (.bool true) ∧ Below w.heap.size w w' := by
  have h4 := has_any A 9 cap awG ⟨#[97]⟩ w h (by omega) (by decide)
  rw [awG_has] at h4
  exact h4
theorem aw_check (w : World) : Calls Try.prog 19 #[.slice none 0 0] w fun e w' => e = .returned (.int .i64 110) ∧ w = w' := by
  have h5 := check_any none 0 0 [] w (Rd.nil w none) (by omega)
  rw [show errOf (isF []) = 110 by decide +kernel] at h5
  exact h5
set_option maxRecDepth 100000 in
theorem awake_any (w : World) : Calls Try.prog 14 #[] w fun e w' => e = .returned (.bool true) ∧ Below w.heap.size w w' := by
  go_enter Try.func14, Try.ntmps14
  go_wp2_with fail
  refine (aw_make1 _).mono ?_
  rintro e w1 ⟨A1, c1, rfl, ho1, hb1⟩
  obtain ⟨g1, rfl, hg1, hg1'⟩ := ho1.form (by decide)
  have hf0 := ho1.cell (j := 0) (x := 7) rfl
  have hf1 := ho1.cell (j := 1) (x := 0) rfl
  go_wp2_with fail
  refine (aw_make2 _ _ (rds_lit w1 ⟨#[97]⟩)).mono ?_
  rintro e w2 ⟨A2, c2, rfl, ho2, hb2⟩
  have hrd2 := ho2.rd
  have hcp2 := ho2.cap
  have hx : Below w1.heap.size w1 w2 := ((Below.refl _ _).alloc (Nat.le_refl _) _).trans (hb2.mono (size_alloc_le _ _))
  have hf0' := (hx.cell (p := ⟨g1, 0, none⟩) hg1').trans hf0
  have hf1' := (hx.cell (p := ⟨g1, 1, none⟩) hg1').trans hf1
  have hxx := below_next hb1 hx
  clear hb1 hb2 hx hf0 hf1 ho1 ho2 hg1
  go_wp2_with fail
  refine (aw_count _ _ _ hrd2 hcp2).mono ?_
  rintro e w3 ⟨rfl, rfl⟩
  go_wp2_with (first | (go_at_call 17; refine (aw_has _ _ _ hrd2).mono ?_; rintro e w4 ⟨rfl, hb4⟩) | (go_at_call 19; refine (aw_check _).mono ?_; rintro e w5 ⟨rfl, rfl⟩))
  go_ret
  exact ⟨rfl, below_next hxx hb4⟩
end Go.Proofs.Ytpoogjdkjolkhaa
