/- What frag's Need returns. -/
import Derived.Test.YtpggomekbahddaaFgWalkN
namespace Go.Proofs.Ytpggomekbahddaa
open Go.RowKit
set_option linter.unusedVariables false
namespace Fg
/-- The first size that may not be: why. -/
def bad : List Int → Int
  | [] => 0
  | z :: zs => if z < 0 then 1 else if 8192 < z then 2 else bad zs
theorem bad_append (a b : List Int) : bad (a ++ b) = if bad a = 0 then bad b else bad a := by
  induction a with
  | nil => rfl
  | cons z a ih =>
    rw [List.cons_append, bad, bad]
    by_cases h1 : z < 0
    · rw [if_pos h1, if_pos h1]; rfl
    · rw [if_neg h1, if_neg h1]
      by_cases h2 : 8192 < z
      · rw [if_pos h2, if_pos h2]; rfl
      · rw [if_neg h2, if_neg h2]; exact ih
theorem bad_at {zs : List Int} {k : Nat} {z : Int} (h : zs[k]? = some z) (h0 : bad (zs.take k) = 0) : bad zs = if z < 0 then 1 else if 8192 < z then 2 else bad (zs.drop (k + 1)) := by
  have hk := (List.getElem?_eq_some_iff.1 h).1
  have e : zs = zs.take k ++ (z :: zs.drop (k + 1)) := by
    conv => lhs; rw [← List.take_append_drop k zs]
    rw [List.drop_eq_getElem_cons hk]
    rw [List.getElem?_eq_getElem hk] at h
    injection h with h
    rw [h]
  conv => lhs; rw [e]
  rw [bad_append, if_pos h0]
  rfl
theorem bad_next {zs : List Int} {k : Nat} {z : Int} (h : zs[k]? = some z) (h0 : bad (zs.take k) = 0) (h1 : ¬ z < 0) (h2 : ¬ 8192 < z) : bad (zs.take (k + 1)) = 0 := by
  rw [List.take_add_one, h, bad_append, if_pos h0]
  show bad [z] = 0
  rw [bad, if_neg h1, if_neg h2]; rfl
theorem bad_none {zs : List Int} (h : bad zs = 0) : ∀ z ∈ zs, 0 ≤ z ∧ z ≤ 8192 := by
  induction zs with
  | nil => simp
  | cons z zs ih =>
    rw [bad] at h
    by_cases h1 : z < 0
    · rw [if_pos h1] at h; cases h
    · rw [if_neg h1] at h
      by_cases h2 : 8192 < z
      · rw [if_pos h2] at h; cases h
      · rw [if_neg h2] at h
        intro x hx
        rcases List.mem_cons.1 hx with rfl | hx
        · omega
        · exact ih h x hx
/-- Records of so many bytes. -/
def zerosOf (zs : List Int) : List (List Nat) := zs.map fun z => List.replicate z.toNat 0
theorem zerosOf_len (zs : List Int) : (zerosOf zs).length = zs.length := by simp [zerosOf]
theorem zerosOf_max {zs : List Int} (h : bad zs = 0) : ∀ r ∈ zerosOf zs, r.length ≤ 8192 := by
  intro r hr
  obtain ⟨z, hz, rfl⟩ := List.mem_map.1 hr
  have := bad_none h z hz
  rw [List.length_replicate]; omega
/-- How many payloads there are. -/
def cnt (b : Bool) (st : St) : Nat := if b then st.1.length + 1 else 0
theorem cnt_lay {b : Bool} {st : St} {kd : Nat} {c : List Nat} (hf : Fit st) (hb : b = false → st = ([], [])) : cnt true (lay st kd c) = if decide (left b st < 3) then cnt b st + 1 else cnt b st := by
  unfold Fit at hf
  cases b with
  | false => rw [hb rfl]; simp [lay, cnt, left]
  | true =>
    unfold left lay cnt
    by_cases h : 108 - st.2.length < 3
    · simp [h]
    · simp [h]
/-- The document's words: how many payloads, or why none. -/
def need (zs : List Int) : Int × Int := if 256 < zs.length then (0, 3) else if bad zs = 0 then (((cut (zerosOf zs)).length : Int), 0) else (0, bad zs)
end Fg
theorem lens_zeros {zs : List Int} (h : Fg.bad zs = 0) : lens (Fg.zerosOf zs) = zs := by
  unfold lens Fg.zerosOf
  rw [List.map_map]
  conv => rhs; rw [← List.map_id zs]
  refine List.map_congr_left fun z hz => ?_
  have := Fg.bad_none h z hz
  simp only [Function.comp, List.length_replicate, id]
  omega
theorem cnt_zero : RowKit.wrap64 ((Fg.cnt false ([], []) : Nat) : Int) = 0 := by
  show RowKit.wrap64 ((0 : Nat) : Int) = 0
  unfold RowKit.wrap64; omega
theorem wrap_succ (c : Int) : RowKit.wrap64 (RowKit.wrap64 c + 1) = RowKit.wrap64 (c + 1) := by unfold RowKit.wrap64; omega
/-- The counter of Need. -/
def CntAt (a : World) (p : Nat) (b : Bool) (st : Fg.St) (v : World) : Prop := Below p a v ∧ Holds v p [.int .i64 (RowKit.wrap64 (Fg.cnt b st : Int))]
set_option maxRecDepth 100000 in
theorem lays_need (recs : List (List Nat)) (a : World) (p : Nat) : LaysNeed p recs (CntAt a p) := by
  intro b st v i f t kd fr r hr hft htr hfit hb hroom hkd hst9 hfr ⟨hB, hH⟩
  have hc := Fg.cnt_lay (kd := kd) (c := (r.drop f).take (t - f)) hfit hb
  rw [← hfr] at hc
  generalize Fg.lay st kd ((r.drop f).take (t - f)) = st2 at *
  have hlt := hH.1
  have h0 := hH.at_ 0 rfl
  have hf0 := hH.2.2 0
  have hcn : Fg.cnt true st2 = if fr = true then Fg.cnt b st + 1 else Fg.cnt b st := hc
  generalize Fg.cnt b st = c at *
  have HC := Lib.hid hcn
  have HH := Lib.hid hH
  have HB := Lib.hid hB
  clear hr hft htr hfit hb hroom hkd hst9 hfr hc hcn hB hH
  cases fr with
  | false =>
    go_enter Try.func44, Try.ntmps44
    go_wp2
    go_end0
    refine ⟨rfl, HB.out, ?_⟩
    rw [HC.out, if_neg Bool.false_ne_true]
    exact HH.out
  | true =>
    generalize hz : RowKit.wrap64 (c : Int) = z at *
    have HZ := Lib.hid hz
    clear hz
    go_enter Try.func44, Try.ntmps44
    go_wp2
    go_end0
    refine ⟨rfl, HB.out.setCell (Nat.le_refl _) _, ?_⟩
    rw [HC.out, if_pos trivial, show ((c + 1 : Nat) : Int) = (c : Int) + 1 by omega, ← wrap_succ (c : Int), HZ.out]
    exact HH.out.set 0 _ (by simp)
namespace Fg
theorem cnt_cut (L : List (List Nat)) : cnt (!L.isEmpty) (cutAll L ([], [])) = (cut L).length := by
  unfold cut cnt pays
  cases L with
  | nil => rfl
  | cons r L => simp
theorem cut_many (L : List (List Nat)) (h : ∀ r ∈ L, r.length ≤ 8192) (hn : L.length ≤ 256) : (cut L).length ≤ 100001 := by
  rw [← cnt_cut]
  have := cutAll_few L h hn
  unfold cnt
  split <;> omega
end Fg
set_option maxRecDepth 100000 in
set_option maxHeartbeats 1000000 in
theorem need_any (A : Option Addr) (n c : Nat) (zs : List Int) (w : World) (hr : RdZ w A n zs) (hn : n ≤ 300) (hz : ∀ z ∈ zs, -9223372036854775808 ≤ z ∧ z ≤ 9223372036854775807) :
    Calls Try.prog 32 #[.slice A n c] w fun e w' => e = .returned (.tuple #[.int .i64 (Fg.need zs).1, .int .i64 (Fg.need zs).2]) ∧ Below w.heap.size w w' := by
  have hl := hr.1
  by_cases hbig : 256 < n
  · have hnd : Fg.need zs = (0, 3) := by unfold Fg.need; rw [if_pos (by omega)]
    rw [hnd]
    have hbi : (256 : Int) < (n : Int) := by omega
    clear hr hl hz hnd
    go_enter Try.func32, Try.ntmps32
    go_wp2
    go_ret2
    exact ⟨rfl, Below.refl _ _⟩
  · have hbi : ¬ (256 : Int) < (n : Int) := by omega
    have HR := Lib.hid hr
    have HL := Lib.hid hl
    have HZ := Lib.hid hz
    have HB := Lib.hid hbig
    clear hr hl hz hbig
    go_enter Try.func32, Try.ntmps32
    go_wp2
    go_loop [12] (fun ii => ∃ k : Nat, k ≤ n ∧ ii = .int .i64 (k : Int) ∧ Hid (Fg.bad (zs.take k) = 0)) (fun ii => n - (intOf ii).toNat)
    case atStart => exact ⟨0, Nat.zero_le _, rfl, Lib.hid rfl⟩
    case round =>
      obtain ⟨k, hk, rfl, hb⟩ := hrel
      by_cases hkn : k < n
      · obtain ⟨z, hzk⟩ : ∃ z, zs[k]? = some z := ⟨zs[k]'(by rw [HL.out]; exact hkn), List.getElem?_eq_getElem _⟩
        obtain ⟨g, o, rfl, hg, hcl⟩ := HR.out.2 (by omega)
        have hcell := hcl k z hzk
        have hki : (k : Int) < (n : Int) := by omega
        have hzb := HZ.out z (List.mem_of_getElem? hzk)
        have hat := Fg.bad_at hzk hb.out
        clear hcl
        by_cases h1 : z < 0
        · rw [if_pos h1] at hat
          have hnd : Fg.need zs = (0, 1) := by unfold Fg.need; rw [if_neg (by rw [HL.out]; exact HB.out), if_neg (by rw [hat]; decide), hat]
          have HNd := Lib.hid hnd
          clear hat hnd hzk
          go_wp2
          go_ret2
          rw [HNd.out]
          exact ⟨rfl, Below.refl _ _⟩
        · rw [if_neg h1] at hat
          by_cases h2 : 8192 < z
          · rw [if_pos h2] at hat
            have hnd : Fg.need zs = (0, 2) := by unfold Fg.need; rw [if_neg (by rw [HL.out]; exact HB.out), if_neg (by rw [hat]; decide), hat]
            have HNd := Lib.hid hnd
            clear hat hnd hzk
            go_wp2
            go_ret2
            rw [HNd.out]
            exact ⟨rfl, Below.refl _ _⟩
          · have hnx := Fg.bad_next hzk hb.out h1 h2
            have HNx := Lib.hid hnx
            clear hat hnx hzk
            go_wp2
            go_round
            case rel => exact ⟨k + 1, by omega, by go_num, HNx⟩
            case measure => simp [intOf]; omega
      · have hkn2 : k = n := by omega
        subst hkn2
        have hb0 : Fg.bad zs = 0 := by have := hb.out; rw [List.take_of_length_le (Nat.le_of_eq HL.out)] at this; exact this
        have hB0 : Below w.heap.size w (w.alloc (.cells #[.int .i64 0] 3)) := (Below.refl _ _).alloc (Nat.le_refl _) _
        have hwk := walk_need w.heap.size (Fg.zerosOf zs) (CntAt w w.heap.size) (lays_need _ w w.heap.size) A c (fun b st v hv => by rw [lens_zeros hb0, Fg.zerosOf_len, HL.out]; exact HR.out.below hv.1) (by rw [Fg.zerosOf_len, HL.out]; have := HB.out; omega) (Fg.zerosOf_max hb0) _ ⟨hB0, by rw [cnt_zero]; exact Holds.new w #[.int .i64 0] 3⟩
        rw [Fg.zerosOf_len, HL.out] at hwk
        have hnd : Fg.need zs = (((Fg.cut (Fg.zerosOf zs)).length : Int), 0) := by unfold Fg.need; rw [if_neg (by rw [HL.out]; exact HB.out), if_pos hb0]
        have hcc := Fg.cnt_cut (Fg.zerosOf zs)
        have hmm := Fg.cut_many (Fg.zerosOf zs) (Fg.zerosOf_max hb0) (by rw [Fg.zerosOf_len, HL.out]; have := HB.out; omega)
        have HNd := Lib.hid hnd
        have HWk := Lib.hid hwk
        have HCc := Lib.hid hcc
        have HMm := Lib.hid hmm
        have hmf : ∀ (fn : Fn) (first cap : Array Value) (w : World), (Instr.makeFunc fn first cap).run Try.prog w = .ok (.func fn first cap) w := fun _ _ _ _ => rfl
        clear hb hb0 hwk hnd hcc hmm hkn hk
        go_wp2_with fail
        refine HWk.out.mono ?_
        rintro e9 v9 ⟨rfl, hB9, hH9⟩
        have hc0 := hH9.at_ 0 rfl
        rw [HCc.out] at hc0
        have hbig := HB.out
        have hmm := HMm.out
        have hw64 : RowKit.wrap64 (((Fg.cut (Fg.zerosOf zs)).length : Nat) : Int) = (((Fg.cut (Fg.zerosOf zs)).length : Nat) : Int) := by unfold RowKit.wrap64; omega
        rw [hw64] at hc0
        clear hH9 hw64
        go_wp2_with fail
        go_ret2
        rw [HNd.out]
        exact ⟨rfl, hB9⟩
end Go.Proofs.Ytpggomekbahddaa
