/- The law's few: a version's tables, not more of them than are looked at, their keys cut. -/
import Derived.Test.YtpompjihmcmmaaaPkThose
import Derived.Deep.DeepCutAuto
import Derived.Deep.CutBlock
namespace Go.Proofs.Ytpompjihmcmmaaa
open Go.RowKit
theorem Holds.grown {w w' : World} {b : Nat} {cs : List Value} (k : Holds w b cs) {row : Option Nat} (hg : w.grownBy w' row) (hne : row ≠ some b) : Holds w' b cs :=
  ⟨Nat.lt_of_lt_of_le k.1 hg.size, fun i v h => (World.grownBy.cell_far hg ⟨b, i, none⟩ k.1 (fun e => hne e.symm)).trans (k.2.1 i v h), fun i => (World.frozen?_of_block (a := ⟨b, i, none⟩) (hg.block b k.1 (fun e => hne e.symm))).trans (k.2.2 i)⟩
theorem OwnC.other {s : Nat} {w : World} {base n cap : Nat} {A : Option Addr} {vs : List Value} {E : TypeId} (h : OwnC s w base E A n cap vs) {b : Nat} (hb : ∀ g, (Value.slice A n cap).ownBlock = some g → g ≠ b) (j : Nat) (u : Value) : OwnC s (w.setCell ⟨b, j, none⟩ u) base E A n cap vs := by
  refine h.grown (row := some b) ⟨rfl, rfl, rfl, by simp [World.setCell], fun k hk hne => Below.heap_setCell _ _ _ _ (fun e => hne (by rw [e]))⟩ (.inr fun g' hg' e => ?_)
  injection hg' with hg'
  exact hb _ e hg'.symm
namespace Pk
/-- A key, cut to what is looked at. -/
def cutK (s : ByteArray) : ByteArray := s.extract 0 (min s.size 70)
theorem cutK_size (s : ByteArray) : (cutK s).size ≤ 70 := by unfold cutK; rw [ByteArray.size_extract]; omega
theorem cutK_low {s : ByteArray} (h : s.size ≤ 70) : cutK s = s := by
  unfold cutK
  rw [Nat.min_eq_left (by omega)]
  exact ByteArray.extract_zero_size
theorem cutK_high {s : ByteArray} (h : ¬ s.size ≤ 70) : cutK s = s.extract 0 70 := by
  unfold cutK
  rw [Nat.min_eq_right (by omega)]
def Tb.cut (x : Tb) : Tb := ⟨x.id, x.ep, x.P, x.pn, x.pc, x.sz, x.lv, x.ct, cutK x.lo, cutK x.hi, x.tp⟩
def few (l : List Tb) : List Tb := (l.take 130).map Tb.cut
theorem few_snoc {l : List Tb} {k : Nat} {x : Tb} (h : l[k]? = some x) (hk : k < 130) : few (l.take (k + 1)) = few (l.take k) ++ [x.cut] := by
  unfold few
  rw [List.take_take, List.take_take, Nat.min_eq_right (by omega), Nat.min_eq_right (by omega), List.take_add_one, h]
  simp
theorem few_all {l : List Tb} {k : Nat} (h : k = l.length ∨ k = 130) : few (l.take k) = few l := by
  unfold few
  rcases h with h | h
  · rw [List.take_of_length_le (Nat.le_of_eq h.symm)]
  · subst h; rw [List.take_take]; simp
theorem few_len (l : List Tb) : (few l).length ≤ 130 := by
  unfold few
  rw [List.length_map, List.length_take]
  omega
theorem few_fits {l : List Tb} (h : ∀ x ∈ l, x.fits) {x : Tb} (hx : x ∈ few l) : x.fits := by
  unfold few at hx
  obtain ⟨y, hy, rfl⟩ := List.mem_map.1 hx
  have h1 := h y (List.mem_of_mem_take hy)
  exact ⟨by have := cutK_size y.lo; show (cutK y.lo).size ≤ _; omega, by have := cutK_size y.hi; show (cutK y.hi).size ≤ _; omega, h1.2.2⟩
end Pk
/-- What the laws look at: a version of its own. -/
def GivesFew (w : World) (l : List Pk.Tb) (e : Ending) (w' : World) : Prop :=
  ∃ B n c, e = .returned (.agg (Pk.ver 0 0 none 0 0 B n c)) ∧ n ≤ c ∧ RdTb w' B n (Pk.few l) ∧ OwnC 9 w' w.heap.size 51 B n c (Pk.flat (Pk.few l)) ∧ Below w.heap.size w w'
set_option maxRecDepth 100000 in
set_option maxHeartbeats 8000000 in
theorem few_any (a b : Int) (L : Option Addr) (ln lc : Nat) (A : Option Addr) (n c : Nat) (l : List Pk.Tb) (w : World) (hr : RdTb w A n l) (hn : n ≤ 9223372036854775807) :
    Calls Try.prog 6 #[.agg (Pk.ver a b L ln lc A n c)] w (GivesFew w l) := by
  have HR := Lib.hid hr
  have HL := Lib.hid hr.1
  clear hr
  have HV := Lib.hid ((Holds.new w #[.int .i64 a, .int .i64 b, .slice L ln lc, .slice A n c] 25).alloc (.cells #[.int .i64 0, .int .i64 0, .slice none 0 0, .slice none 0 0] 25) |>.alloc (.cells #[.int .i64 0, .int .i64 0, .slice none 0 0, .slice none 0 0] 25))
  have HO2 := Lib.hid ((Holds.new (w.alloc (.cells #[.int .i64 a, .int .i64 b, .slice L ln lc, .slice A n c] 25)) #[.int .i64 0, .int .i64 0, .slice none 0 0, .slice none 0 0] 25).alloc (.cells #[.int .i64 0, .int .i64 0, .slice none 0 0, .slice none 0 0] 25))
  have HO3 := Lib.hid (Holds.new ((w.alloc (.cells #[.int .i64 a, .int .i64 b, .slice L ln lc, .slice A n c] 25)).alloc (.cells #[.int .i64 0, .int .i64 0, .slice none 0 0, .slice none 0 0] 25)) #[.int .i64 0, .int .i64 0, .slice none 0 0, .slice none 0 0] 25)
  simp only [World.size_alloc] at HO2 HO3
  have HB0 := Lib.hid (show Below w.heap.size w (((w.alloc (.cells #[.int .i64 a, .int .i64 b, .slice L ln lc, .slice A n c] 25)).alloc (.cells #[.int .i64 0, .int .i64 0, .slice none 0 0, .slice none 0 0] 25)).alloc (.cells #[.int .i64 0, .int .i64 0, .slice none 0 0, .slice none 0 0] 25)) from (((Below.refl _ _).alloc (Nat.le_refl _) _).alloc (by simp) _).alloc (by simp; omega) _)
  have HSz := Lib.hid (show (((w.alloc (.cells #[.int .i64 a, .int .i64 b, .slice L ln lc, .slice A n c] 25)).alloc (.cells #[.int .i64 0, .int .i64 0, .slice none 0 0, .slice none 0 0] 25)).alloc (.cells #[.int .i64 0, .int .i64 0, .slice none 0 0, .slice none 0 0] 25)).heap.size = w.heap.size + 3 by simp)
  show Calls _ _ #[.agg #[.int .i64 a, .int .i64 b, .slice L ln lc, .slice A n c]] _ _
  go_enter Try.func6, Try.ntmps6
  go_wp2
  generalize (((w.alloc (.cells #[.int .i64 a, .int .i64 b, .slice L ln lc, .slice A n c] 25)).alloc (.cells #[.int .i64 0, .int .i64 0, .slice none 0 0, .slice none 0 0] 25)).alloc (.cells #[.int .i64 0, .int .i64 0, .slice none 0 0, .slice none 0 0] 25)) = u at *
  replace HV : Hid (Holds u w.heap.size [.int .i64 a, .int .i64 b, .slice L ln lc, .slice A n c]) := HV
  replace HO2 : Hid (Holds u (w.heap.size + 1) [.int .i64 0, .int .i64 0, .slice none 0 0, .slice none 0 0]) := HO2
  replace HO3 : Hid (Holds u (w.heap.size + 1 + 1) [.int .i64 0, .int .i64 0, .slice none 0 0, .slice none 0 0]) := HO3
  generalize hb3 : w.heap.size + 1 + 1 = b3 at *
  have hb3a : b3 < w.heap.size + 3 := by omega
  have hb3b : w.heap.size + 1 < b3 := by omega
  clear hb3
  go_loopw [4] (fun ii wr => ∃ (k : Nat) (B : Option Addr) (d : Nat), k ≤ n ∧ k ≤ 130 ∧ ii = .int .i64 (k : Int) ∧ Hid (k = (Pk.few (l.take k)).length) ∧ Hid (OwnC 9 wr (w.heap.size + 3) 51 B k d (Pk.flat (Pk.few (l.take k)))) ∧ Hid (Holds wr w.heap.size [.int .i64 a, .int .i64 b, .slice L ln lc, .slice A n c]) ∧ Hid (Holds wr (w.heap.size + 1) [.int .i64 0, .int .i64 0, .slice none 0 0, .slice none 0 0]) ∧ Hid (Holds wr (b3) [.int .i64 0, .int .i64 0, .slice none 0 0, .slice B k d]) ∧ Hid (Below w.heap.size w wr) ∧ Hid (w.heap.size + 3 ≤ wr.heap.size)) (fun ii _ => n - (intOf ii).toNat)
  case atStart => exact ⟨0, none, 0, by omega, by omega, rfl, Lib.hid rfl, Lib.hid (OwnC.none_ _ _ _ _), HV, HO2, HO3, HB0, Lib.hid (Nat.le_of_eq HSz.out.symm)⟩
  case round =>
    obtain ⟨k, B, d, hk, hk130, rfl, HM, HO, HVr, H2r, H3r, HB, HSr⟩ := hrel
    have v3 := HVr.out.at_ 3 rfl
    by_cases hin : k < n ∧ k < 130
    · obtain ⟨hkn, hk13⟩ := hin
      have hki : (k : Int) < (n : Int) := by omega
      have hk1i : (k : Int) < 130 := by omega
      obtain ⟨x, hx⟩ : ∃ x, l[k]? = some x := ⟨_, List.getElem?_eq_getElem (by rw [HL.out]; omega)⟩
      have HS := Lib.hid (Pk.few_snoc hx hk13)
      have HXf := Lib.hid (HR.out.2.2 x (List.mem_of_getElem? hx))
      obtain ⟨g, o, rfl, hgl, h9⟩ := HR.out.nine hx
      obtain ⟨q0, q1, q2, q3, q4, q5, q6, q7, q8⟩ := h9 wr HB.out
      clear hx h9 hgl
      obtain ⟨id, ep, P, pn, pc, sz, lv, ct, lo, hi, tp⟩ := x
      dsimp only at q0 q1 q2 q3 q4 q5 q6 q7 q8
      have hls : lo.size ≤ 9223372036854775807 := HXf.out.1
      have hhs : hi.size ≤ 9223372036854775807 := HXf.out.2.1
      replace HS : Hid (Pk.few (l.take (k + 1)) = Pk.few (l.take k) ++ [⟨id, ep, P, pn, pc, sz, lv, ct, Pk.cutK lo, Pk.cutK hi, tp⟩]) := HS
      have HT := Lib.hid (show Holds (wr.alloc (.cells #[.int .i64 id, .int .i64 ep, .slice P pn pc, .int .i64 sz, .int .i64 lv, .int .i64 ct, .string lo, .string hi, .int .i64 tp] 51)) wr.heap.size [.int .i64 id, .int .i64 ep, .slice P pn pc, .int .i64 sz, .int .i64 lv, .int .i64 ct, .string lo, .string hi, .int .i64 tp] from Holds.new wr #[.int .i64 id, .int .i64 ep, .slice P pn pc, .int .i64 sz, .int .i64 lv, .int .i64 ct, .string lo, .string hi, .int .i64 tp] 51)
      have HOa := Lib.hid (HO.out.alloc (.cells #[.int .i64 id, .int .i64 ep, .slice P pn pc, .int .i64 sz, .int .i64 lv, .int .i64 ct, .string lo, .string hi, .int .i64 tp] 51))
      have HOn := Lib.hid (show ∀ g, (Value.slice B k d).ownBlock = some g → g ≠ wr.heap.size from fun g hg => by have := (HO.out.blk g hg).2; omega)
      have HVa := Lib.hid (HVr.out.alloc (.cells #[.int .i64 id, .int .i64 ep, .slice P pn pc, .int .i64 sz, .int .i64 lv, .int .i64 ct, .string lo, .string hi, .int .i64 tp] 51))
      have H2a := Lib.hid (H2r.out.alloc (.cells #[.int .i64 id, .int .i64 ep, .slice P pn pc, .int .i64 sz, .int .i64 lv, .int .i64 ct, .string lo, .string hi, .int .i64 tp] 51))
      have H3a := Lib.hid (H3r.out.alloc (.cells #[.int .i64 id, .int .i64 ep, .slice P pn pc, .int .i64 sz, .int .i64 lv, .int .i64 ct, .string lo, .string hi, .int .i64 tp] 51))
      have HBa := Lib.hid (HB.out.alloc HB.out.size (.cells #[.int .i64 id, .int .i64 ep, .slice P pn pc, .int .i64 sz, .int .i64 lv, .int .i64 ct, .string lo, .string hi, .int .i64 tp] 51))
      have HSa := Lib.hid (show w.heap.size + 3 ≤ (wr.alloc (.cells #[.int .i64 id, .int .i64 ep, .slice P pn pc, .int .i64 sz, .int .i64 lv, .int .i64 ct, .string lo, .string hi, .int .i64 tp] 51)).heap.size by have := HSr.out; simp; omega)
      have HSb := HSr
      go_upto_region 6 with fail
      clear q0 q1 q2 q3 q4 q5 q6 q7 q8 v3
      clear HVr H2r H3r HO HSr
      generalize (wr.alloc (.cells #[.int .i64 id, .int .i64 ep, .slice P pn pc, .int .i64 sz, .int .i64 lv, .int .i64 ct, .string lo, .string hi, .int .i64 tp] 51)) = u2 at *
      have HTb := Lib.hid (show w.heap.size ≤ wr.heap.size from HB.out.size)
      clear HB
      generalize wr.heap.size = tb at *
      clear HXf
      go_cut [5] from 23 to 39 (fun s5 W => s5 = .pointer (some ⟨tb, 0, none⟩) ∧ Hid (Holds W tb [.int .i64 id, .int .i64 ep, .slice P pn pc, .int .i64 sz, .int .i64 lv, .int .i64 ct, .string (Pk.cutK lo), .string (Pk.cutK hi), .int .i64 tp]) ∧ Hid (OwnC 9 W (w.heap.size + 3) 51 B k d (Pk.flat (Pk.few (l.take k)))) ∧ Hid (Holds W w.heap.size [.int .i64 a, .int .i64 b, .slice L ln lc, .slice (some ⟨g, o, none⟩) n c]) ∧ Hid (Holds W (w.heap.size + 1) [.int .i64 0, .int .i64 0, .slice none 0 0, .slice none 0 0]) ∧ Hid (Holds W (b3) [.int .i64 0, .int .i64 0, .slice none 0 0, .slice B k d]) ∧ Hid (Below w.heap.size w W) ∧ Hid (w.heap.size + 3 ≤ W.heap.size))
      case first =>
        have t4 := HT.out.at_ 6 rfl
        have t5 := HT.out.at_ 7 rfl
        have f4 := HT.out.2.2 6
        have f5 := HT.out.2.2 7
        by_cases h70 : lo.size ≤ 70
        · have h70i : ¬ (70 : Int) < (lo.size : Int) := by omega
          by_cases h71 : hi.size ≤ 70
          · have h71i : ¬ (70 : Int) < (hi.size : Int) := by omega
            go_wp2_with fail
            go_region
            go_wp2
            go_meet
            case rel => exact ⟨rfl, Lib.hid (by rw [Pk.cutK_low h70, Pk.cutK_low h71]; exact (HT.out.set 6 (.string lo) (by simp)).set 7 (.string hi) (by simp)), Lib.hid (((HOa.out.other HOn.out 6 (.string lo)).other HOn.out 7 (.string hi))), Lib.hid ((HVa.out.other (i := 6) (v := .string lo) (show w.heap.size ≠ tb by have := HSb.out; omega)).other (i := 7) (v := .string hi) (show w.heap.size ≠ tb by have := HSb.out; omega)), Lib.hid ((H2a.out.other (i := 6) (v := .string lo) (show w.heap.size + 1 ≠ tb by have := HSb.out; omega)).other (i := 7) (v := .string hi) (show w.heap.size + 1 ≠ tb by have := HSb.out; omega)), Lib.hid ((H3a.out.other (i := 6) (v := .string lo) (show b3 ≠ tb by have := HSb.out; omega)).other (i := 7) (v := .string hi) (show b3 ≠ tb by have := HSb.out; omega)), Lib.hid ((HBa.out.setCell (p := ⟨tb, 6, none⟩) HTb.out (.string lo)).setCell (p := ⟨tb, 7, none⟩) HTb.out (.string hi)).drew, Lib.hid (by simpa [World.setCell] using HSa.out)⟩
          · have h71i : (70 : Int) < (hi.size : Int) := by omega
            have h71j : (70 : Int) ≤ (hi.size : Int) := by omega
            go_wp2_with fail
            go_region
            go_wp2
            go_meet
            case rel => exact ⟨rfl, Lib.hid (by rw [Pk.cutK_low h70, Pk.cutK_high h71]; exact (HT.out.set 6 (.string lo) (by simp)).set 7 (.string (hi.extract 0 70)) (by simp)), Lib.hid (((HOa.out.other HOn.out 6 (.string lo)).other HOn.out 7 (.string (hi.extract 0 70)))), Lib.hid ((HVa.out.other (i := 6) (v := .string lo) (show w.heap.size ≠ tb by have := HSb.out; omega)).other (i := 7) (v := .string (hi.extract 0 70)) (show w.heap.size ≠ tb by have := HSb.out; omega)), Lib.hid ((H2a.out.other (i := 6) (v := .string lo) (show w.heap.size + 1 ≠ tb by have := HSb.out; omega)).other (i := 7) (v := .string (hi.extract 0 70)) (show w.heap.size + 1 ≠ tb by have := HSb.out; omega)), Lib.hid ((H3a.out.other (i := 6) (v := .string lo) (show b3 ≠ tb by have := HSb.out; omega)).other (i := 7) (v := .string (hi.extract 0 70)) (show b3 ≠ tb by have := HSb.out; omega)), Lib.hid ((HBa.out.setCell (p := ⟨tb, 6, none⟩) HTb.out (.string lo)).setCell (p := ⟨tb, 7, none⟩) HTb.out (.string (hi.extract 0 70))).drew, Lib.hid (by simpa [World.setCell] using HSa.out)⟩
        · have h70i : (70 : Int) < (lo.size : Int) := by omega
          have h70j : (70 : Int) ≤ (lo.size : Int) := by omega
          by_cases h71 : hi.size ≤ 70
          · have h71i : ¬ (70 : Int) < (hi.size : Int) := by omega
            go_wp2_with fail
            go_region
            go_wp2
            go_meet
            case rel => exact ⟨rfl, Lib.hid (by rw [Pk.cutK_high h70, Pk.cutK_low h71]; exact (HT.out.set 6 (.string (lo.extract 0 70)) (by simp)).set 7 (.string hi) (by simp)), Lib.hid (((HOa.out.other HOn.out 6 (.string (lo.extract 0 70))).other HOn.out 7 (.string hi))), Lib.hid ((HVa.out.other (i := 6) (v := .string (lo.extract 0 70)) (show w.heap.size ≠ tb by have := HSb.out; omega)).other (i := 7) (v := .string hi) (show w.heap.size ≠ tb by have := HSb.out; omega)), Lib.hid ((H2a.out.other (i := 6) (v := .string (lo.extract 0 70)) (show w.heap.size + 1 ≠ tb by have := HSb.out; omega)).other (i := 7) (v := .string hi) (show w.heap.size + 1 ≠ tb by have := HSb.out; omega)), Lib.hid ((H3a.out.other (i := 6) (v := .string (lo.extract 0 70)) (show b3 ≠ tb by have := HSb.out; omega)).other (i := 7) (v := .string hi) (show b3 ≠ tb by have := HSb.out; omega)), Lib.hid ((HBa.out.setCell (p := ⟨tb, 6, none⟩) HTb.out (.string (lo.extract 0 70))).setCell (p := ⟨tb, 7, none⟩) HTb.out (.string hi)).drew, Lib.hid (by simpa [World.setCell] using HSa.out)⟩
          · have h71i : (70 : Int) < (hi.size : Int) := by omega
            have h71j : (70 : Int) ≤ (hi.size : Int) := by omega
            go_wp2_with fail
            go_region
            go_wp2
            go_meet
            case rel => exact ⟨rfl, Lib.hid (by rw [Pk.cutK_high h70, Pk.cutK_high h71]; exact (HT.out.set 6 (.string (lo.extract 0 70)) (by simp)).set 7 (.string (hi.extract 0 70)) (by simp)), Lib.hid (((HOa.out.other HOn.out 6 (.string (lo.extract 0 70))).other HOn.out 7 (.string (hi.extract 0 70)))), Lib.hid ((HVa.out.other (i := 6) (v := .string (lo.extract 0 70)) (show w.heap.size ≠ tb by have := HSb.out; omega)).other (i := 7) (v := .string (hi.extract 0 70)) (show w.heap.size ≠ tb by have := HSb.out; omega)), Lib.hid ((H2a.out.other (i := 6) (v := .string (lo.extract 0 70)) (show w.heap.size + 1 ≠ tb by have := HSb.out; omega)).other (i := 7) (v := .string (hi.extract 0 70)) (show w.heap.size + 1 ≠ tb by have := HSb.out; omega)), Lib.hid ((H3a.out.other (i := 6) (v := .string (lo.extract 0 70)) (show b3 ≠ tb by have := HSb.out; omega)).other (i := 7) (v := .string (hi.extract 0 70)) (show b3 ≠ tb by have := HSb.out; omega)), Lib.hid ((HBa.out.setCell (p := ⟨tb, 6, none⟩) HTb.out (.string (lo.extract 0 70))).setCell (p := ⟨tb, 7, none⟩) HTb.out (.string (hi.extract 0 70))).drew, Lib.hid (by simpa [World.setCell] using HSa.out)⟩
      case rest =>
        obtain ⟨rfl, HT2, HO4, HV4, H24, H34, HB4, HS4⟩ := hcut
        have hx0 := H34.out.at_ 3 rfl
        have q0 := HT2.out.at_ 0 rfl
        have q1 := HT2.out.at_ 1 rfl
        have q2 := HT2.out.at_ 2 rfl
        have q3 := HT2.out.at_ 3 rfl
        have q4 := HT2.out.at_ 4 rfl
        have q5 := HT2.out.at_ 5 rfl
        have q6 := HT2.out.at_ 6 rfl
        have q7 := HT2.out.at_ 7 rfl
        have q8 := HT2.out.at_ 8 rfl
        generalize Pk.cutK lo = lo2 at *
        generalize Pk.cutK hi = hi2 at *
        have hal : w.heap.size + 3 ≤ (wc.alloc (.cells #[.int .i64 id, .int .i64 ep, .slice P pn pc, .int .i64 sz, .int .i64 lv, .int .i64 ct, .string lo2, .string hi2, .int .i64 tp] 51)).heap.size := by have := HS4.out; simp; omega
        have HRc := Lib.hid (rdc_new 9 wc 51 (Pk.Tb.cells ⟨id, ep, P, pn, pc, sz, lv, ct, lo2, hi2, tp⟩) 1 rfl (0, 0))
        go_wp2_with (at_builtin; refine wpList_appC manyAT rfl (.tmp 40) (.tmp 42) rfl rfl (HO4.out.alloc _) ⟨wc.heap.size, 0, none⟩ 1 1 (Pk.Tb.cells ⟨id, ep, P, pn, pc, sz, lv, ct, lo2, hi2, tp⟩) (Pk.cells_one _) rfl HRc.out (by omega) hal ?_; intro B6 cap6 w6 hg6; have HKp := Lib.hid (show ∀ (bb : Nat) (cs : List Value), bb < w.heap.size + 3 → Holds wc bb cs → Holds w6 bb cs from fun bb cs hbb h => (h.alloc _).grown hg6.grew (fun e => by have := (HO4.out.blk bb e).1; omega)); have H36 := Lib.hid (HKp.out _ _ (by omega) H34.out); have f3 := H36.out.2.2 3; have h33 := H36.out.at_ 3 rfl)
        have HFo := Lib.hid (show OwnC 9 w6 (w.heap.size + 3) 51 B6 (k + 1) cap6 (Pk.flat (Pk.few (l.take (k + 1)))) by rw [HS.out, Pk.flat_append]; exact hg6.own)
        have HFm := Lib.hid (show k + 1 = (Pk.few (l.take (k + 1))).length by rw [HS.out, List.length_append, ← HM.out]; rfl)
        have HFb := Lib.hid (show Below w.heap.size w w6 from hg6.below (HB4.out.alloc HB4.out.size _) (by have := hal; omega) fun g hg => by have := (HO4.out.blk g hg).1; omega)
        have HFs := Lib.hid (show w.heap.size + 3 ≤ w6.heap.size from Nat.le_trans hal hg6.grew.size)
        clear hg6 q0 q1 q2 q3 q4 q5 q6 q7 q8 hx0
        have HVf := Lib.hid ((HKp.out _ _ (by omega) HV4.out).other (i := 3) (v := .slice B6 (k + 1) cap6) (show w.heap.size ≠ b3 by omega))
        have H2f := Lib.hid ((HKp.out _ _ (by omega) H24.out).other (i := 3) (v := .slice B6 (k + 1) cap6) (show w.heap.size + 1 ≠ b3 by omega))
        have H3f := Lib.hid (H36.out.set 3 (.slice B6 (k + 1) cap6) (by simp))
        have HFo2 := Lib.hid (HFo.out.other (b := b3) (fun g hg => by have := (HFo.out.blk g hg).1; omega) 3 (.slice B6 (k + 1) cap6))
        have HFb2 := Lib.hid (HFb.out.setCell (p := ⟨b3, 3, none⟩) (by show w.heap.size ≤ b3; omega) (.slice B6 (k + 1) cap6))
        have HFs2 := Lib.hid (show w.heap.size + 3 ≤ (w6.setCell ⟨b3, 3, none⟩ (.slice B6 (k + 1) cap6)).heap.size by simpa [World.setCell] using HFs.out)
        go_wp2
        go_roundw
        case rel => exact ⟨k + 1, B6, cap6, by omega, by omega, by go_num, HFm, HFo2, HVf, H2f, H3f, HFb2, HFs2⟩
        case measure => simp [intOf]; omega
    · have hx0 := H3r.out.at_ 0 rfl
      have hx1 := H3r.out.at_ 1 rfl
      have hx2 := H3r.out.at_ 2 rfl
      have hx3 := H3r.out.at_ 3 rfl
      have f0 := H2r.out.2.2 0
      have f1 := H2r.out.2.2 1
      have f2 := H2r.out.2.2 2
      have f3 := H2r.out.2.2 3
      have y0 := H2r.out.at_ 0 rfl
      have y1 := H2r.out.at_ 1 rfl
      have y2 := H2r.out.at_ 2 rfl
      have y3 := H2r.out.at_ 3 rfl
      have HF := Lib.hid (show OwnC 9 wr (w.heap.size + 3) 51 B k d (Pk.flat (Pk.few l)) ∧ k = (Pk.few l).length from by
        have hall := Pk.few_all (l := l) (k := k) (by rw [HL.out]; omega)
        have hO := HO.out
        have hM := HM.out
        rw [hall] at hO hM
        exact ⟨hO, hM⟩)
      clear HO HM
      have hways : ((k : Int) < (n : Int) ∧ ¬ (k : Int) < 130) ∨ ¬ (k : Int) < (n : Int) := by omega
      rcases hways with ⟨h1, h2⟩ | h1
      · clear hin
        go_wp2
        obtain ⟨hO, hM⟩ := HF.out
        have hb : ∀ g, (Value.slice B k d).ownBlock = some g → g ≠ w.heap.size + 1 := fun g hg => by have := (hO.blk g hg).1; omega
        have hW := (((H2r.out.set 0 (.int .i64 0) (by simp)).set 1 (.int .i64 0) (by simp)).set 2 (.slice none 0 0) (by simp)).set 3 (.slice B k d) (by simp)
        have hO4 := (((hO.other hb 0 (.int .i64 0)).other hb 1 (.int .i64 0)).other hb 2 (.slice none 0 0)).other hb 3 (.slice B k d)
        have w0 := hW.at_ 0 rfl
        have w1 := hW.at_ 1 rfl
        have w2 := hW.at_ 2 rfl
        have w3 := hW.at_ 3 rfl
        refine ⟨rfl, _, ?_, B, k, d, rfl, hO.fits, ⟨hM.symm, hO4.rd, fun x hx => Pk.few_fits HR.out.2.2 hx⟩, hO4.base_ (by omega), (((HB.out.setCell (p := ⟨w.heap.size + 1, 0, none⟩) (by simp) _).setCell (p := ⟨w.heap.size + 1, 1, none⟩) (by simp) _).setCell (p := ⟨w.heap.size + 1, 2, none⟩) (by simp) _).setCell (p := ⟨w.heap.size + 1, 3, none⟩) (by simp) _⟩
        simp [results, Try.results6, go_sem, w0, w1, w2, w3, Pk.ver]
      · clear hin
        go_wp2
        obtain ⟨hO, hM⟩ := HF.out
        have hb : ∀ g, (Value.slice B k d).ownBlock = some g → g ≠ w.heap.size + 1 := fun g hg => by have := (hO.blk g hg).1; omega
        have hW := (((H2r.out.set 0 (.int .i64 0) (by simp)).set 1 (.int .i64 0) (by simp)).set 2 (.slice none 0 0) (by simp)).set 3 (.slice B k d) (by simp)
        have hO4 := (((hO.other hb 0 (.int .i64 0)).other hb 1 (.int .i64 0)).other hb 2 (.slice none 0 0)).other hb 3 (.slice B k d)
        have w0 := hW.at_ 0 rfl
        have w1 := hW.at_ 1 rfl
        have w2 := hW.at_ 2 rfl
        have w3 := hW.at_ 3 rfl
        refine ⟨rfl, _, ?_, B, k, d, rfl, hO.fits, ⟨hM.symm, hO4.rd, fun x hx => Pk.few_fits HR.out.2.2 hx⟩, hO4.base_ (by omega), (((HB.out.setCell (p := ⟨w.heap.size + 1, 0, none⟩) (by simp) _).setCell (p := ⟨w.heap.size + 1, 1, none⟩) (by simp) _).setCell (p := ⟨w.heap.size + 1, 2, none⟩) (by simp) _).setCell (p := ⟨w.heap.size + 1, 3, none⟩) (by simp) _⟩
        simp [results, Try.results6, go_sem, w0, w1, w2, w3, Pk.ver]
end Go.Proofs.Ytpompjihmcmmaaa
