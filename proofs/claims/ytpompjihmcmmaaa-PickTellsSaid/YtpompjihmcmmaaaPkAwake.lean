/- The page's example. -/
import Derived.Test.YtpompjihmcmmaaaPkPick
import Derived.Test.YtpompjihmcmmaaaPkBot
namespace Go.Proofs.Ytpompjihmcmmaaa
open Go.RowKit
namespace Pk
def sm (id : Int) (lo hi : ByteArray) : Tb := ⟨id, 0, none, 0, 0, 0, 0, 2, lo, hi, 0⟩
def four : List Tb := [sm 1 ⟨#[97]⟩ ⟨#[99]⟩, sm 4 ⟨#[98]⟩ ⟨#[100]⟩, sm 2 ⟨#[120]⟩ ⟨#[122]⟩, sm 3 ⟨#[97]⟩ ⟨#[97]⟩]
theorem sm_fits {id : Int} {a b : UInt8} (h : 0 ≤ id ∧ id ≤ 9) : (sm id ⟨#[a]⟩ ⟨#[b]⟩).fits := by
  refine ⟨by show 1 ≤ _; decide, by show 1 ≤ _; decide, by show _ ≤ (0 : Int) ∧ (0 : Int) ≤ _; decide, by show _ ≤ (2 : Int) ∧ (2 : Int) ≤ _; decide, ?_⟩
  show _ ≤ id ∧ id ≤ _
  omega
theorem four_fits : ∀ x ∈ four, x.fits := by
  intro x hx
  simp only [four, List.mem_cons, List.not_mem_nil, or_false] at hx
  rcases hx with rfl | rfl | rfl | rfl <;> exact sm_fits (by decide)
theorem four_zero : ∀ x ∈ four, x.lv = 0 ∧ x.ct = 2 := by
  intro x hx
  simp only [four, List.mem_cons, List.not_mem_nil, or_false] at hx
  rcases hx with rfl | rfl | rfl | rfl <;> exact ⟨rfl, rfl⟩
theorem four_full : full four = [0] := by decide
theorem three_full : full (four.drop 1) = [] := by decide
theorem four_ids : insAll (idl four) = [1, 2, 3, 4] := by decide
end Pk
theorem same_self (A B : Option Addr) (n m c d : Nat) (l : List Int) (w : World) (hr : RdI w A n l) (hs : RdI w B m l) (hn : n ≤ 1000000) :
    Calls Try.prog 9 #[.slice A n c, .slice B m d] w fun e w' => e = .returned (.bool true) ∧ Below w.heap.size w w' := by
  have h := same_any A B n m c d l l w hr hs hn
  rw [decide_eq_true (rfl : l = l)] at h
  exact h
theorem limit_two (w : World) : Calls Try.prog 7 #[.int .i64 2] w fun e w' => e = .returned (.int .i64 8) ∧ w' = w := limit_any 2 w
set_option maxRecDepth 100000 in
set_option maxHeartbeats 4000000 in
theorem small_any (id : Int) (lo hi : ByteArray) (w : World) :
    Calls Try.prog 27 #[.int .i64 id, .string lo, .string hi] w fun e w' => e = .returned (.agg #[.int .i64 id, .int .i64 0, .slice none 0 0, .int .i64 0, .int .i64 0, .int .i64 2, .string lo, .string hi, .int .i64 0]) ∧ Below w.heap.size w w' := by
  go_enter Try.func27, Try.ntmps27
  go_wp2
  refine ⟨rfl, _, ?_, rfl, (by repeat (first | exact Below.refl _ _ | refine Below.setCell ?_ (by simp) _ | refine Below.alloc ?_ (by simp) _))⟩
  simp [results, Try.results27, go_sem]
set_option maxRecDepth 100000 in
theorem run_from1 (g : Nat) (w : World) : (Instr.slice 23 (.slice (some ⟨g, 0, none⟩) 4 4) (some (.int .i64 1)) none none).run Try.prog w = .ok (.slice (some ⟨g, 9, none⟩) 3 3) w := by
  obtain ⟨i0, hi, hz0, hz1, hz2⟩ := info_parts manyAT.info
  simp [Instr.slice, run_underlying Try.underlying23, Instr.sliceBounds, Instr.sliceBound, asIntOf, go_sem, sizeOf, typeInfo, hi, hz1, Addr.add]
theorem RdTb.from1 {w : World} {g : Nat} (h : RdTb w (some ⟨g, 0, none⟩) 4 Pk.four) : RdTb w (some ⟨g, 9, none⟩) 3 (Pk.four.drop 1) := by
  refine ⟨rfl, ⟨rfl, fun _ => ?_⟩, fun x hx => h.2.2 x (List.mem_of_mem_drop hx)⟩
  obtain ⟨b, o, e, hb, hc⟩ := h.2.1.2 (by decide)
  injection e with e
  injection e with e1 e2
  subst e1 e2
  refine ⟨g, 9, rfl, hb, fun j u hu => ?_⟩
  have h2 : (Pk.flat Pk.four)[9 + j]? = some u := by
    rw [← List.getElem?_drop]
    exact hu
  have := hc _ u h2
  rwa [Nat.zero_add] at this
set_option maxRecDepth 100000 in
set_option maxHeartbeats 8000000 in
theorem awake_any (w : World) : Calls Try.prog 14 #[] w fun e w' => e = .returned (.bool true) ∧ Below w.heap.size w w' := by
  go_enter Try.func14, Try.ntmps14
  go_wp2_with fail
  refine (small_any 1 ⟨#[97]⟩ ⟨#[99]⟩ _).mono ?_
  rintro e w1 ⟨rfl, hb1⟩
  go_wp2_with fail
  refine (small_any 4 ⟨#[98]⟩ ⟨#[100]⟩ _).mono ?_
  rintro e w2 ⟨rfl, hb2⟩
  go_wp2_with fail
  refine (small_any 2 ⟨#[120]⟩ ⟨#[122]⟩ _).mono ?_
  rintro e w3 ⟨rfl, hb3⟩
  go_wp2_with fail
  refine (small_any 3 ⟨#[97]⟩ ⟨#[97]⟩ _).mono ?_
  rintro e w4 ⟨rfl, hb4⟩
  have HB4 := Lib.hid (below_next (below_next (below_next hb1 hb2) hb3) hb4)
  clear hb1 hb2 hb3 hb4
  have HRw : Hid (RdTb (w4.alloc (.cells #[.int .i64 1, .int .i64 0, .slice none 0 0, .int .i64 0, .int .i64 0, .int .i64 2, .string ⟨#[97]⟩, .string ⟨#[99]⟩, .int .i64 0, .int .i64 4, .int .i64 0, .slice none 0 0, .int .i64 0, .int .i64 0, .int .i64 2, .string ⟨#[98]⟩, .string ⟨#[100]⟩, .int .i64 0, .int .i64 2, .int .i64 0, .slice none 0 0, .int .i64 0, .int .i64 0, .int .i64 2, .string ⟨#[120]⟩, .string ⟨#[122]⟩, .int .i64 0, .int .i64 3, .int .i64 0, .slice none 0 0, .int .i64 0, .int .i64 0, .int .i64 2, .string ⟨#[97]⟩, .string ⟨#[97]⟩, .int .i64 0] 51)) (some ⟨w4.heap.size, 0, none⟩) 4 Pk.four) := Lib.hid ⟨rfl, rdc_new 9 w4 51 (Pk.flat Pk.four) 4 rfl (0, 0), Pk.four_fits⟩
  have HB5 : Hid (Below w.heap.size w (w4.alloc (.cells #[.int .i64 1, .int .i64 0, .slice none 0 0, .int .i64 0, .int .i64 0, .int .i64 2, .string ⟨#[97]⟩, .string ⟨#[99]⟩, .int .i64 0, .int .i64 4, .int .i64 0, .slice none 0 0, .int .i64 0, .int .i64 0, .int .i64 2, .string ⟨#[98]⟩, .string ⟨#[100]⟩, .int .i64 0, .int .i64 2, .int .i64 0, .slice none 0 0, .int .i64 0, .int .i64 0, .int .i64 2, .string ⟨#[120]⟩, .string ⟨#[122]⟩, .int .i64 0, .int .i64 3, .int .i64 0, .slice none 0 0, .int .i64 0, .int .i64 0, .int .i64 2, .string ⟨#[97]⟩, .string ⟨#[97]⟩, .int .i64 0] 51))) := Lib.hid (HB4.out.alloc HB4.out.size _)
  have HSz : Hid ((w4.alloc (.cells #[.int .i64 1, .int .i64 0, .slice none 0 0, .int .i64 0, .int .i64 0, .int .i64 2, .string ⟨#[97]⟩, .string ⟨#[99]⟩, .int .i64 0, .int .i64 4, .int .i64 0, .slice none 0 0, .int .i64 0, .int .i64 0, .int .i64 2, .string ⟨#[98]⟩, .string ⟨#[100]⟩, .int .i64 0, .int .i64 2, .int .i64 0, .slice none 0 0, .int .i64 0, .int .i64 0, .int .i64 2, .string ⟨#[120]⟩, .string ⟨#[122]⟩, .int .i64 0, .int .i64 3, .int .i64 0, .slice none 0 0, .int .i64 0, .int .i64 0, .int .i64 2, .string ⟨#[97]⟩, .string ⟨#[97]⟩, .int .i64 0] 51)).heap.size = w4.heap.size + 1) := Lib.hid (by rw [World.size_alloc])
  go_upto_region 2 with fail
  generalize (w4.alloc (.cells #[.int .i64 1, .int .i64 0, .slice none 0 0, .int .i64 0, .int .i64 0, .int .i64 2, .string ⟨#[97]⟩, .string ⟨#[99]⟩, .int .i64 0, .int .i64 4, .int .i64 0, .slice none 0 0, .int .i64 0, .int .i64 0, .int .i64 2, .string ⟨#[98]⟩, .string ⟨#[100]⟩, .int .i64 0, .int .i64 2, .int .i64 0, .slice none 0 0, .int .i64 0, .int .i64 0, .int .i64 2, .string ⟨#[120]⟩, .string ⟨#[122]⟩, .int .i64 0, .int .i64 3, .int .i64 0, .slice none 0 0, .int .i64 0, .int .i64 0, .int .i64 2, .string ⟨#[97]⟩, .string ⟨#[97]⟩, .int .i64 0] 51)) = w5 at *
  have HBx := Lib.hid (Holds.new w5 #[.int .i64 0, .int .i64 0, .slice none 0 0, .slice (some ⟨w4.heap.size, 0, none⟩) 4 4] 25)
  rw [HSz.out] at HBx
  have hal : Below w5.heap.size w5 (w5.alloc (.cells #[.int .i64 0, .int .i64 0, .slice none 0 0, .slice (some ⟨w4.heap.size, 0, none⟩) 4 4] 25)) := (Below.refl _ _).alloc (Nat.le_refl _) _
  have HR6 := Lib.hid (HRw.out.below hal)
  have HB6 := Lib.hid (below_next HB5.out hal)
  generalize (w5.alloc (.cells #[.int .i64 0, .int .i64 0, .slice none 0 0, .slice (some ⟨w4.heap.size, 0, none⟩) 4 4] 25)) = w6 at *
  replace HBx : Hid (Holds w6 (w4.heap.size + 1) [.int .i64 0, .int .i64 0, .slice none 0 0, .slice (some ⟨w4.heap.size, 0, none⟩) 4 4]) := HBx
  clear hal HRw HB5 HSz HB4
  generalize w4.heap.size = q at *
  have HPz := Lib.hid (pick_zero 0 0 none 0 0 (some ⟨q, 0, none⟩) 4 4 Pk.four [] w6 HR6.out (by decide) Pk.four_full (fun x hx => (Pk.four_zero x hx).1))
  rw [Pk.four_ids] at HPz
  replace HPz : Hid (Calls Try.prog 17 #[.agg #[.int .i64 0, .int .i64 0, .slice none 0 0, .slice (some ⟨q, 0, none⟩) 4 4]] w6 (GivesJob w6 4 [1, 2, 3, 4])) := HPz
  have b0 := HBx.out.at_ 0 rfl
  have b1 := HBx.out.at_ 1 rfl
  have b2 := HBx.out.at_ 2 rfl
  have b3 := HBx.out.at_ 3 rfl
  go_wp2_with fail
  refine HPz.out.mono ?_
  rintro e w7 ⟨I, ci, O, co, rfl, hI, hb7⟩
  have hal : Below w7.heap.size w7 (w7.alloc (.cells #[.int .i64 0, .slice I 4 ci, .slice O 0 co] 39)) := (Below.refl _ _).alloc (Nat.le_refl _) _
  have HJ8 := Lib.hid (show Holds (w7.alloc (.cells #[.int .i64 0, .slice I 4 ci, .slice O 0 co] 39)) w7.heap.size [.int .i64 0, .slice I 4 ci, .slice O 0 co] from Holds.new w7 #[.int .i64 0, .slice I 4 ci, .slice O 0 co] 39)
  have HI8 := Lib.hid (hI.below hal)
  have HR8 := Lib.hid ((HR6.out.below hb7).below hal)
  have HBx8 := Lib.hid ((HBx.out.below hb7).below hal)
  have HB8 := Lib.hid (below_next (below_next HB6.out hb7) hal)
  clear hb7 hal hI HPz b0 b1 b2 b3 HBx HR6 HB6
  go_upto_region 3 with fail
  generalize (w7.alloc (.cells #[.int .i64 0, .slice I 4 ci, .slice O 0 co] 39)) = w8 at *
  generalize w7.heap.size = bj at *
  have b0 := HBx8.out.at_ 0 rfl
  have b1 := HBx8.out.at_ 1 rfl
  have b2 := HBx8.out.at_ 2 rfl
  have b3 := HBx8.out.at_ 3 rfl
  have hfr := run_from1 q w8
  have HPn := Lib.hid (pick_none 0 0 none 0 0 (some ⟨q, 9, none⟩) 3 3 (Pk.four.drop 1) w8 HR8.out.from1 (by decide) Pk.three_full)
  replace HPn : Hid (Calls Try.prog 17 #[.agg #[.int .i64 0, .int .i64 0, .slice none 0 0, .slice (some ⟨q, 9, none⟩) 3 3]] w8 fun e w' => e = .returned (.tuple #[.agg #[.int .i64 0, .slice none 0 0, .slice none 0 0], .bool false]) ∧ Below w8.heap.size w8 w') := HPn
  go_wp2_with fail
  refine HPn.out.mono ?_
  rintro e w9 ⟨rfl, hb9⟩
  have hal : Below w9.heap.size w9 (w9.alloc (.cells #[.int .i64 0, .slice none 0 0, .slice none 0 0] 39)) := (Below.refl _ _).alloc (Nat.le_refl _) _
  have HJ10 := Lib.hid ((HJ8.out.below hb9).below hal)
  have HI10 := Lib.hid ((HI8.out.below hb9).below hal)
  have HR10 := Lib.hid ((HR8.out.below hb9).below hal)
  have HBx10 := Lib.hid ((HBx8.out.below hb9).below hal)
  have HB10 := Lib.hid (below_next (below_next HB8.out hb9) hal)
  clear hb9 hal HPn b0 b1 b2 b3 hfr HJ8 HI8 HR8 HBx8 HB8
  go_upto_region 4 with fail
  generalize (w9.alloc (.cells #[.int .i64 0, .slice none 0 0, .slice none 0 0] 39)) = w10 at *
  have j1 := HJ10.out.at_ 1 rfl
  have hal : Below w10.heap.size w10 (w10.alloc (.cells #[.int .i64 1, .int .i64 2, .int .i64 3, .int .i64 4] 3)) := (Below.refl _ _).alloc (Nat.le_refl _) _
  have HN := Lib.hid (show RdI (w10.alloc (.cells #[.int .i64 1, .int .i64 2, .int .i64 3, .int .i64 4] 3)) (some ⟨w10.heap.size, 0, none⟩) 4 [1, 2, 3, 4] from ⟨rfl, rdc_new 1 w10 3 (Pk.iv [1, 2, 3, 4]) 4 rfl (0, 0)⟩)
  have HJ11 := Lib.hid (HJ10.out.below hal)
  have HI11 := Lib.hid (HI10.out.below hal)
  have HR11 := Lib.hid (HR10.out.below hal)
  have HBx11 := Lib.hid (HBx10.out.below hal)
  have HB11 := Lib.hid (below_next HB10.out hal)
  go_wp2_with fail
  generalize (w10.alloc (.cells #[.int .i64 1, .int .i64 2, .int .i64 3, .int .i64 4] 3)) = w11 at *
  clear hal j1
  refine (same_self I (some ⟨w10.heap.size, 0, none⟩) 4 4 ci 4 [1, 2, 3, 4] w11 HI11.out HN.out (by decide)).mono ?_
  rintro e w12 ⟨rfl, hb12⟩
  have j2 := (HJ11.out.below hb12).at_ 2 rfl
  have HB12 := Lib.hid (below_next HB11.out hb12)
  have HJ12 := Lib.hid (HJ11.out.below hb12)
  have HI12 := Lib.hid (HI11.out.below hb12)
  have HR12 := Lib.hid (HR11.out.below hb12)
  have HBx12 := Lib.hid (HBx11.out.below hb12)
  clear hb12
  go_wp2_with fail
  refine (limit_two w12).mono ?_
  rintro e w13 ⟨rfl, rfl⟩
  clear j2
  have b0 := HBx12.out.at_ 0 rfl
  have b1 := HBx12.out.at_ 1 rfl
  have b2 := HBx12.out.at_ 2 rfl
  have b3 := HBx12.out.at_ 3 rfl
  have HBo := Lib.hid (bound_any 0 0 none 0 0 (some ⟨q, 0, none⟩) 4 4 Pk.four w13 HR12.out (by decide) Pk.four_zero)
  replace HBo : Hid (Calls Try.prog 16 #[.agg #[.int .i64 0, .int .i64 0, .slice none 0 0, .slice (some ⟨q, 0, none⟩) 4 4]] w13 fun e w' => e = .returned (.int .i64 25) ∧ Below w13.heap.size w13 w') := HBo
  go_wp2_with fail
  refine HBo.out.mono ?_
  rintro e w14 ⟨rfl, hb14⟩
  have HB14 := Lib.hid (below_next HB12.out hb14)
  have HJ14 := Lib.hid (HJ12.out.below hb14)
  have HI14 := Lib.hid (HI12.out.below hb14)
  have HR14 := Lib.hid (HR12.out.below hb14)
  have HBx14 := Lib.hid (HBx12.out.below hb14)
  clear b0 b1 b2 b3 hb14 HBo
  have b0 := HBx14.out.at_ 0 rfl
  have b1 := HBx14.out.at_ 1 rfl
  have b2 := HBx14.out.at_ 2 rfl
  have b3 := HBx14.out.at_ 3 rfl
  have j0 := HJ14.out.at_ 0 rfl
  have j1 := HJ14.out.at_ 1 rfl
  have j2 := HJ14.out.at_ 2 rfl
  have HBt := Lib.hid (bottom_any 0 0 none 0 0 (some ⟨q, 0, none⟩) 4 4 Pk.four I O 4 ci 0 co [1, 2, 3, 4] [] w14 HR14.out (by decide) (fun x hx => (Pk.four_zero x hx).1) HI14.out ⟨rfl, RdC.nil _ _ _⟩ (by decide) (by decide) (fun z hz => by
    simp only [List.append_nil, List.mem_cons, List.not_mem_nil, or_false] at hz
    rcases hz with rfl | rfl | rfl | rfl <;> exact ⟨by decide, by decide⟩))
  replace HBt : Hid (Calls Try.prog 28 #[.agg #[.int .i64 0, .int .i64 0, .slice none 0 0, .slice (some ⟨q, 0, none⟩) 4 4], .agg #[.int .i64 0, .slice I 4 ci, .slice O 0 co]] w14 fun e w' => e = .returned (.bool true) ∧ Below w14.heap.size w14 w') := HBt
  go_wp2_with fail
  refine HBt.out.mono ?_
  rintro e w15 ⟨rfl, hb15⟩
  have HB15 := Lib.hid (below_next HB14.out hb15)
  clear hb15
  go_wp2
  go_ret
  exact ⟨rfl, HB15.out⟩
end Go.Proofs.Ytpompjihmcmmaaa
