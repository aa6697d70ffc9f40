/- The document's words of layer 15: numbers within bounds, numbers all unlike, a place's plots, which places and tables may be. Does a table meet a range; the tables of a version of which a question is answered by yes. Which places and tables may be: the document's IsPlace, IsTable, Meet of layer 15. Arguments that came in: numbers, bools, strings, slices of bytes and of strings: what the reading says of memory. -/
import Derived.Test.YthfcjlndaajkfaaGreatG02
import Derived.BigQuiet
import Derived.Deep.DeepCutAuto
import Derived.Deep.CutBlock
import Derived.Test.YthfcjlndaajkfaaGreatG01
import Derived.SliceStrings
namespace Go.Proofs.YthfcjlndaajkfaaGreat
open Go.RowKit
namespace Ed
def from_ (n low high : Int) : Bool := decide (low ≤ n) && decide (n ≤ high)
theorem from_iff {n low high : Int} : from_ n low high = true ↔ low ≤ n ∧ n ≤ high := by unfold from_; rw [Bool.and_eq_true, decide_eq_true_iff, decide_eq_true_iff]
def fl (ps : List (Int × Int)) : List Int := ps.flatMap fun p => [p.1, p.2]
theorem fl_len (ps : List (Int × Int)) : (fl ps).length = ps.length * 2 := by
  induction ps with
  | nil => rfl
  | cons v vs ih => show (_ ++ fl vs).length = _; rw [List.length_append, ih, List.length_cons]; simp; omega
theorem fl_at {ps : List (Int × Int)} {i : Nat} {p : Int × Int} (h : ps[i]? = some p) : (fl ps)[i * 2]? = some p.1 ∧ (fl ps)[i * 2 + 1]? = some p.2 := by
  induction ps generalizing i with
  | nil => simp at h
  | cons x r ih =>
    match i, h with
    | 0, h => injection h with h; subst h; exact ⟨rfl, rfl⟩
    | i + 1, h =>
      have := ih (i := i) (by simpa using h)
      rw [show (i + 1) * 2 = i * 2 + 1 + 1 by omega]
      exact this
theorem fl_snoc {ps : List (Int × Int)} {k : Nat} {p : Int × Int} (h : ps[k]? = some p) : fl (ps.take (k + 1)) = fl (ps.take k) ++ [p.1, p.2] := by
  unfold fl
  rw [List.take_add_one, h, List.flatMap_append]
  rfl
/-- May a place be? -/
def okP (id ep : Int) (ps : List (Int × Int)) : Bool := from_ id 1 2147483647 && from_ ep 1 2147483647 && from_ (ps.length : Int) 1 64 && (fl ps).all (fun x => from_ x 0 510) && decide (fl ps).Nodup
end Ed
/-- A slice that reads as pairs. -/
def RdPs (w : World) (A : Option Addr) (n : Nat) (ps : List (Int × Int)) : Prop := ps.length = n ∧ RdC 2 w A n (Pk.iv (Ed.fl ps))
theorem RdPs.below {w w' : World} {A : Option Addr} {n : Nat} {ps : List (Int × Int)} (h : RdPs w A n ps) (hb : Below w.heap.size w w') : RdPs w' A n ps := ⟨h.1, h.2.below hb⟩
theorem RdPs.at_ {w : World} {A : Option Addr} {n k : Nat} {ps : List (Int × Int)} {p : Int × Int} (h : RdPs w A n ps) (hx : ps[k]? = some p) : ∃ b o, A = some ⟨b, o, none⟩ ∧ b < w.heap.size ∧ ∀ w', Below w.heap.size w w' → (w'.cell? ⟨b, o + k * 2, none⟩ = some (.int .i64 p.1) ∧ w'.cell? ⟨b, o + k * 2 + 1, none⟩ = some (.int .i64 p.2)) := by
  have hk : k < n := by rw [← h.1]; exact (List.getElem?_eq_some_iff.1 hx).1
  obtain ⟨b, o, rfl, hb, hc⟩ := h.2.2 (by omega)
  obtain ⟨h1, h2⟩ := Ed.fl_at hx
  refine ⟨b, o, rfl, hb, fun w' hw => ⟨(hw.cell hb).trans (hc _ _ (by unfold Pk.iv; rw [List.getElem?_map, h1]; rfl)), ?_⟩⟩
  have := (hw.cell (p := ⟨b, o + (k * 2 + 1), none⟩) hb).trans (hc _ _ (by unfold Pk.iv; rw [List.getElem?_map, h2]; rfl))
  exact this
set_option maxRecDepth 100000 in
theorem from_any (n low high : Int) (w : World) : Calls Tryz.prog 36 #[.int .i64 n, .int .i64 low, .int .i64 high] w fun e w' => e = .returned (.bool (Ed.from_ n low high)) ∧ w' = w := by
  unfold Ed.from_
  by_cases h1 : low ≤ n
  · by_cases h2 : n ≤ high
    · rw [decide_eq_true h1, decide_eq_true h2]
      go_enter Tryz.func36, Tryz.ntmps36
      go_wp2
      go_ret
      exact ⟨rfl, rfl⟩
    · rw [decide_eq_true h1, decide_eq_false h2]
      go_enter Tryz.func36, Tryz.ntmps36
      go_wp2
      go_ret
      exact ⟨rfl, rfl⟩
  · rw [decide_eq_false h1, Bool.false_and]
    go_enter Tryz.func36, Tryz.ntmps36
    go_wp2
    go_ret
    exact ⟨rfl, rfl⟩
namespace Ed
theorem nodup_snoc {l : List Int} {k : Nat} {x : Int} (h : l[k]? = some x) (h0 : (l.take k).Nodup) (hn : x ∉ l.take k) : (l.take (k + 1)).Nodup := by
  rw [List.take_add_one, h, List.nodup_append]
  refine ⟨h0, by simp, fun a ha b hb e => ?_⟩
  simp at hb
  subst hb
  subst e
  exact hn ha
theorem not_nodup {l : List Int} {i k : Nat} {x : Int} (hk : l[k]? = some x) (hi : l[i]? = some x) (hlt : i < k) : ¬ l.Nodup := by
  intro h
  obtain ⟨hk1, hk2⟩ := List.getElem?_eq_some_iff.1 hk
  obtain ⟨hi1, hi2⟩ := List.getElem?_eq_some_iff.1 hi
  have := (List.pairwise_iff_getElem.1 h) i k hi1 hk1 hlt
  exact this (by rw [hi2, hk2])
end Ed
set_option maxRecDepth 100000 in
set_option maxHeartbeats 4000000 in
theorem unlike_any (A : Option Addr) (n c : Nat) (l : List Int) (w : World) (hr : RdI w A n l) (hn : n ≤ 1000000) :
    Calls Tryz.prog 41 #[.slice A n c] w fun e w' => e = .returned (.bool (decide l.Nodup)) ∧ Below w.heap.size w w' := by
  have HR := Lib.hid hr
  have HL := Lib.hid hr.1
  clear hr
  generalize hans : decide l.Nodup = ans
  have HA := Lib.hid hans
  clear hans
  go_enter Tryz.func41, Tryz.ntmps41
  go_wp2
  go_loopw [3] (fun ii wr => ∃ (k : Nat), k ≤ n ∧ ii = .int .i64 (k : Int) ∧ Hid ((l.take k).Nodup) ∧ Hid (Below w.heap.size w wr)) (fun ii _ => n - (intOf ii).toNat)
  case atStart => exact ⟨0, by omega, rfl, Lib.hid (by simp), Lib.hid (Below.refl _ _)⟩
  case round =>
    obtain ⟨k, hk, rfl, HP, HB⟩ := hrel
    by_cases hkn : k < n
    · have hki : (k : Int) < (n : Int) := by omega
      obtain ⟨x, hx⟩ : ∃ x, l[k]? = some x := ⟨_, List.getElem?_eq_getElem (by rw [HL.out]; exact hkn)⟩
      have HX := Lib.hid hx
      clear hx
      obtain ⟨wo, hwo⟩ : ∃ wo, wo = wr := ⟨wr, rfl⟩
      subst hwo
      go_wp2
      go_loopw [4] (fun jj wq => ∃ (i : Nat), i ≤ k ∧ jj = .int .i64 (i : Int) ∧ Hid (∀ y ∈ l.take i, y ≠ x) ∧ Hid (Below w.heap.size w wq)) (fun jj _ => k - (intOf jj).toNat)
      case atStart => exact ⟨0, by omega, rfl, Lib.hid (fun y hy => nomatch hy), HB⟩
      case round =>
        obtain ⟨i, hi, rfl, HQ, HC⟩ := hrel
        by_cases hik : i < k
        · have hii : (i : Int) < (k : Int) := by omega
          obtain ⟨y, hy⟩ : ∃ y, l[i]? = some y := ⟨_, List.getElem?_eq_getElem (by rw [HL.out]; omega)⟩
          obtain ⟨b, o, rfl, _, hcy⟩ := HR.out.at_ hy
          obtain ⟨b2, o2, he2, _, hcx⟩ := HR.out.at_ HX.out
          injection he2 with he2
          injection he2 with he2 he3
          subst he2 he3
          have e0 := hcy wr HC.out
          have e1 := hcx wr HC.out
          have hin : (i : Int) < (n : Int) := by omega
          have HY := Lib.hid hy
          clear hcy hcx hy
          by_cases he : y = x
          · have g0 : (y == x) = true := by simp [he]
            have HF := Lib.hid (show false = ans by
              rw [← HA.out, eq_comm, decide_eq_false_iff_not]
              exact Ed.not_nodup HX.out (by rw [HY.out, he]) hik)
            clear he
            go_wp2_with fail
            go_big_quiet (fail)
            go_wp2
            go_ret
            exact ⟨by rw [← HF.out]; rfl, below_drewN HC.out _⟩
          · have g0 : (y == x) = false := beq_eq_false_iff_ne.2 he
            have HQn := Lib.hid (show ∀ z ∈ l.take (i + 1), z ≠ x by
              intro z hz
              rw [List.take_add_one, HY.out] at hz
              rcases List.mem_append.1 hz with hz | hz
              · exact HQ.out z hz
              · rcases List.mem_singleton.1 hz with rfl
                exact he)
            go_wp2_with fail
            go_big_quiet (fail)
            go_wp2
            go_roundw
            case rel => exact ⟨i + 1, by omega, by go_num, HQn, Lib.hid (below_drewN HC.out _)⟩
            case measure => simp [intOf]; omega
        · have hik2 : ¬ (i : Int) < (k : Int) := by omega
          have HPn := Lib.hid (show (l.take (k + 1)).Nodup from Ed.nodup_snoc HX.out HP.out (fun hm => HQ.out x (by rwa [show i = k by omega]) rfl))
          go_wp2
          go_roundw
          case rel => exact ⟨k + 1, by omega, by go_num, HPn, HC⟩
          case measure => simp [intOf]; omega
    · have hkn2 : ¬ (k : Int) < (n : Int) := by omega
      have HF := Lib.hid (show true = ans by
        rw [← HA.out, eq_comm, decide_eq_true_iff]
        have h := HP.out
        rwa [List.take_of_length_le (by rw [HL.out]; omega)] at h)
      clear hkn
      go_wp2
      go_ret
      exact ⟨by rw [← HF.out]; rfl, HB.out⟩
set_option maxRecDepth 100000 in
set_option maxHeartbeats 4000000 in
theorem plots_any (id ep : Int) (A : Option Addr) (n c : Nat) (ps : List (Int × Int)) (w : World) (hr : RdPs w A n ps) (hn : n ≤ 100000) :
    Calls Tryz.prog 38 #[.agg #[.int .i64 id, .int .i64 ep, .slice A n c]] w (GivesInts w (Ed.fl ps)) := by
  have HR := Lib.hid hr
  have HL := Lib.hid hr.1
  clear hr
  have HZ := Lib.hid (Holds.new w #[.int .i64 id, .int .i64 ep, .slice A n c] 32)
  have HB0 := Lib.hid (show Below w.heap.size w (w.alloc (.cells #[.int .i64 id, .int .i64 ep, .slice A n c] 32)) from (Below.refl _ _).alloc (Nat.le_refl _) _)
  go_enter Tryz.func38, Tryz.ntmps38
  go_wp2
  generalize (w.alloc (.cells #[.int .i64 id, .int .i64 ep, .slice A n c] 32)) = u at *
  go_loopw [3, 4] (fun s ii wr => ∃ (k : Nat) (B : Option Addr) (d : Nat), k ≤ n ∧ ii = .int .i64 (k : Int) ∧ s = .slice B (k * 2) d ∧ Hid (OwnC 1 wr u.heap.size 3 B (k * 2) d (Pk.iv (Ed.fl (ps.take k)))) ∧ Hid (Below u.heap.size u wr)) (fun _ ii _ => n - (intOf ii).toNat)
  case atStart => exact ⟨0, none, 0, by omega, rfl, rfl, Lib.hid (OwnC.none_ _ _ _ _), Lib.hid (Below.refl _ _)⟩
  case round =>
    obtain ⟨k, B, d, hk, rfl, rfl, HO, HB⟩ := hrel
    have HBw := Lib.hid (below_next HB0.out HB.out)
    have z2 := (HZ.out.below HB.out).at_ 2 rfl
    by_cases hkn : k < n
    · have hki : (k : Int) < (n : Int) := by omega
      obtain ⟨p, hp⟩ : ∃ p, ps[k]? = some p := ⟨_, List.getElem?_eq_getElem (by rw [HL.out]; exact hkn)⟩
      obtain ⟨g, o, rfl, _, hc⟩ := HR.out.at_ hp
      obtain ⟨e0, e1⟩ := hc wr HBw.out
      have HS := Lib.hid (Ed.fl_snoc hp)
      clear hp hc
      obtain ⟨x, y⟩ := p
      dsimp only at e0 e1
      have hal : u.heap.size ≤ (wr.alloc (.cells #[Value.int .i64 x, .int .i64 y] 3)).heap.size := by have := HB.out.size; simp; omega
      have X1 := rdc_new 1 wr 3 [Value.int .i64 x, .int .i64 y] 2 rfl (0, 0)
      have O1 := HO.out.alloc (.cells #[Value.int .i64 x, .int .i64 y] 3)
      have hl2 : k * 2 + 2 ≤ 1000000 := by omega
      go_wp2_with fail
      go_region_law ((refine step_appN manyI (by rfl) 26 rfl (.tmp 12) (.tmp 25) rfl rfl O1.drew (some ⟨wr.heap.size, 0, none⟩) 2 2 [Value.int .i64 x, .int .i64 y] (Pk.iv_one [x, y]) rfl X1.drew hl2 hal ?_; intro B6 c6 v6 hg6; have HG := Lib.hid hg6; clear hg6))
      all_goals
        go_wp2
        have HF := Lib.hid (show OwnC 1 v6 u.heap.size 3 B6 ((k + 1) * 2) c6 (Pk.iv (Ed.fl (ps.take (k + 1)))) ∧ Below u.heap.size u v6 by
          have h := HG.out.own
          refine ⟨by rw [HS.out, Pk.iv_append, show (k + 1) * 2 = k * 2 + 2 by omega]; exact h, HG.out.below ((HB.out.alloc HB.out.size _).drew) hal fun g hg => (HO.out.blk g hg).1⟩)
        go_roundw
        case rel => exact ⟨k + 1, B6, c6, by omega, by go_num, by rw [show (k + 1) * 2 = k * 2 + 2 by omega], Lib.hid HF.out.1, Lib.hid HF.out.2⟩
        case measure => simp [intOf]; omega
    · have hkn2 : ¬ (k : Int) < (n : Int) := by omega
      have HF := Lib.hid (show GivesInts w (Ed.fl ps) (.returned (.slice B (k * 2) d)) wr by
        have hO := HO.out
        have hke : k = n := by omega
        rw [List.take_of_length_le (by rw [HL.out]; omega)] at hO
        have hl : (Ed.fl ps).length = k * 2 := by rw [Ed.fl_len, HL.out, hke]
        unfold GivesInts
        rw [hl]
        exact ⟨B, d, rfl, hO.base_ HB0.out.size, HBw.out⟩)
      clear HO
      go_wp2
      go_ret
      exact HF.out
end Go.Proofs.YthfcjlndaajkfaaGreat
namespace Go.Proofs.YthfcjlndaajkfaaGreat
open Go.RowKit
theorem manyAT : Many 9 23 35 (.agg #[.int .i64 0, .int .i64 0, .slice none 0 0, .int .i64 0, .int .i64 0, .int .i64 0, .string ⟨#[]⟩, .string ⟨#[]⟩, .int .i64 0]) 104 := ⟨by kernel_rfl, Tryz.underlying23, by kernel_rfl, by decide, by decide⟩
theorem Pk.filter_snoc {l : List Pk.Tb} {k : Nat} {x : Pk.Tb} (f : Pk.Tb → Bool) (h : l[k]? = some x) : (l.take (k + 1)).filter f = (l.take k).filter f ++ (if f x then [x] else []) := by
  rw [List.take_add_one, h, List.filter_append]
  by_cases e : f x = true
  · simp [e]
  · simp [e]
end Go.Proofs.YthfcjlndaajkfaaGreat
namespace Go.Proofs.YthfcjlndaajkfaaGreat
open Go.RowKit
set_option maxRecDepth 100000 in
set_option maxHeartbeats 8000000 in
theorem isplace_any (id ep : Int) (A : Option Addr) (n c : Nat) (ps : List (Int × Int)) (w : World) (hr : RdPs w A n ps) (hn : n ≤ 9223372036854775807) :
    Calls Tryz.prog 37 #[.agg #[.int .i64 id, .int .i64 ep, .slice A n c]] w fun e w' => e = .returned (.bool (Ed.okP id ep ps)) ∧ Below w.heap.size w w' := by
  have HR := Lib.hid hr
  have HL := Lib.hid hr.1
  clear hr
  have HZ := Lib.hid (Holds.new w #[.int .i64 id, .int .i64 ep, .slice A n c] 32)
  have HB0 := Lib.hid (show Below w.heap.size w (w.alloc (.cells #[.int .i64 id, .int .i64 ep, .slice A n c] 32)) from (Below.refl _ _).alloc (Nat.le_refl _) _)
  generalize hans : Ed.okP id ep ps = ans
  unfold Ed.okP at hans
  rw [HL.out] at hans
  go_enter Tryz.func37, Tryz.ntmps37
  go_upto_region 1 with fail
  generalize (w.alloc (.cells #[.int .i64 id, .int .i64 ep, .slice A n c] 32)) = u at *
  replace HZ : Hid (Holds u w.heap.size [.int .i64 id, .int .i64 ep, .slice A n c]) := HZ
  have z0 := HZ.out.at_ 0 rfl
  have z1 := HZ.out.at_ 1 rfl
  have z2 := HZ.out.at_ 2 rfl
  have F1 := Lib.hid (from_any id 1 2147483647 u)
  have F2 := Lib.hid (from_any ep 1 2147483647 u)
  have F3 := Lib.hid (from_any (n : Int) 1 64 u)
  cases h1 : Ed.from_ id 1 2147483647 with
  | false =>
    have HF := Lib.hid (show false = ans by rw [← hans, h1]; rfl)
    rw [h1] at F1
    clear hans h1
    go_wp2_with fail
    refine F1.out.mono ?_
    rintro e v1 ⟨rfl, rfl⟩
    go_wp2
    go_ret
    exact ⟨by rw [← HF.out]; rfl, HB0.out⟩
  | true =>
  rw [h1] at F1
  cases h2 : Ed.from_ ep 1 2147483647 with
  | false =>
    have HF := Lib.hid (show false = ans by rw [← hans, h1, h2]; rfl)
    rw [h2] at F2
    clear hans h1 h2
    go_wp2_with fail
    refine F1.out.mono ?_
    rintro e v1 ⟨rfl, rfl⟩
    go_wp2_with fail
    refine F2.out.mono ?_
    rintro e v1 ⟨rfl, rfl⟩
    go_wp2
    go_ret
    exact ⟨by rw [← HF.out]; rfl, HB0.out⟩
  | true =>
  rw [h2] at F2
  cases h3 : Ed.from_ (n : Int) 1 64 with
  | false =>
    have HF := Lib.hid (show false = ans by rw [← hans, h1, h2, h3]; rfl)
    rw [h3] at F3
    clear hans h1 h2 h3
    go_wp2_with fail
    refine F1.out.mono ?_
    rintro e v1 ⟨rfl, rfl⟩
    go_wp2_with fail
    refine F2.out.mono ?_
    rintro e v1 ⟨rfl, rfl⟩
    go_wp2_with fail
    refine F3.out.mono ?_
    rintro e v1 ⟨rfl, rfl⟩
    go_wp2
    go_ret
    exact ⟨by rw [← HF.out]; rfl, HB0.out⟩
  | true =>
  rw [h3] at F3
  have HA := Lib.hid (show ((Ed.fl ps).all (fun x => Ed.from_ x 0 510) && decide (Ed.fl ps).Nodup) = ans by
    rw [← hans, h1, h2, h3]
    rfl)
  have hn64 : n ≤ 64 := by have := (Ed.from_iff.1 h3).2; omega
  clear hans h1 h2 h3
  have HPl := Lib.hid (plots_any id ep A n c ps u (HR.out.below HB0.out) (by omega))
  go_wp2_with fail
  refine F1.out.mono ?_
  rintro e v1 ⟨rfl, rfl⟩
  go_wp2_with fail
  refine F2.out.mono ?_
  rintro e v2 ⟨rfl, rfl⟩
  go_wp2_with fail
  refine F3.out.mono ?_
  rintro e v3 ⟨rfl, rfl⟩
  go_wp2_with fail
  refine HPl.out.mono ?_
  rintro e v4 ⟨B, d, rfl, hO, hb4⟩
  have HI := Lib.hid hO.ints
  have HB4 := Lib.hid (below_next HB0.out hb4)
  have hm : (Ed.fl ps).length ≤ 128 := by rw [Ed.fl_len, HL.out]; omega
  clear z0 z1 z2 hO hb4 HPl F1 F2 F3 HZ
  generalize Ed.fl ps = l at *
  generalize hml : l.length = m at *
  have HM := Lib.hid hml
  clear hml
  go_wp2
  go_loopw [4] (fun ii wr => ∃ (k : Nat), k ≤ m ∧ ii = .int .i64 (k : Int) ∧ Hid (∀ y ∈ l.take k, Ed.from_ y 0 510 = true) ∧ Hid (Below v4.heap.size v4 wr)) (fun ii _ => m - (intOf ii).toNat)
  case atStart => exact ⟨0, by omega, rfl, Lib.hid (fun y hy => nomatch hy), Lib.hid (Below.refl _ _)⟩
  case round =>
    obtain ⟨k, hk, rfl, HP, HB⟩ := hrel
    by_cases hkm : k < m
    · have hki : (k : Int) < (m : Int) := by omega
      obtain ⟨x, hx⟩ : ∃ x, l[k]? = some x := ⟨_, List.getElem?_eq_getElem (by rw [HM.out]; exact hkm)⟩
      obtain ⟨g, o, rfl, _, hc⟩ := HI.out.at_ hx
      have e0 := hc wr HB.out
      have HX := Lib.hid hx
      have Fx := Lib.hid (from_any x 0 510 wr)
      clear hc hx
      cases hf : Ed.from_ x 0 510 with
      | false =>
        rw [hf] at Fx
        have HF := Lib.hid (show false = ans by
          rw [← HA.out]
          have : l.all (fun x => Ed.from_ x 0 510) = false := by
            rw [List.all_eq_false]
            exact ⟨x, List.mem_of_getElem? HX.out, by rw [hf]; decide⟩
          rw [this]; rfl)
        clear hf
        go_wp2_with fail
        refine Fx.out.mono ?_
        rintro e v5 ⟨rfl, rfl⟩
        go_wp2
        go_ret
        exact ⟨by rw [← HF.out]; rfl, below_next HB4.out HB.out⟩
      | true =>
        rw [hf] at Fx
        have HPn := Lib.hid (show ∀ y ∈ l.take (k + 1), Ed.from_ y 0 510 = true by
          intro z hz
          rw [List.take_add_one, HX.out] at hz
          rcases List.mem_append.1 hz with hz | hz
          · exact HP.out z hz
          · rcases List.mem_singleton.1 hz with rfl
            exact hf)
        clear hf
        go_wp2_with fail
        refine Fx.out.mono ?_
        rintro e v5 ⟨rfl, rfl⟩
        go_wp2
        go_roundw
        case rel => exact ⟨k + 1, by omega, by go_num, HPn, HB⟩
        case measure => simp [intOf]; omega
    · have hkm2 : ¬ (k : Int) < (m : Int) := by omega
      have HF := Lib.hid (show decide l.Nodup = ans by
        rw [← HA.out]
        have : l.all (fun x => Ed.from_ x 0 510) = true := by
          rw [List.all_eq_true]
          intro x hx
          have h := HP.out x
          rw [List.take_of_length_le (by rw [HM.out]; omega)] at h
          exact h hx
        rw [this]; rfl)
      have HU := Lib.hid (unlike_any B m d l wr (HI.out.below HB.out) (by omega))
      rw [HF.out] at HU
      clear hkm
      go_wp2_with fail
      refine HU.out.mono ?_
      rintro e v5 ⟨rfl, hb5⟩
      have HB5 := Lib.hid (below_next (below_next HB4.out HB.out) hb5)
      clear hb5
      go_wp2
      go_ret
      exact ⟨rfl, HB5.out⟩
namespace Ed
/-- Has one of two tables a key between the other one's ends? -/
def meet (a b : Pk.Tb) : Bool := !Pk.lt b.hi a.lo && !Pk.lt a.hi b.lo
/-- May a table be? -/
def okT (t : Pk.Tb) (ps : List (Int × Int)) : Bool :=
  okP t.id t.ep ps && from_ t.sz 12 (864 * (ps.length : Int)) && from_ t.lv 0 3 && from_ t.ct 1 1048576 && from_ t.tp 1 1099511627776 && from_ (t.lo.size : Int) 1 64 && from_ (t.hi.size : Int) 1 64 && !Pk.lt t.hi t.lo
end Ed
set_option maxRecDepth 100000 in
set_option maxHeartbeats 4000000 in
theorem meet_any (a b : Pk.Tb) (w : World) :
    Calls Tryz.prog 40 #[.agg a.cells.toArray, .agg b.cells.toArray] w fun e w' => e = .returned (.bool (Ed.meet a b)) ∧ Below w.heap.size w w' := by
  obtain ⟨id, ep, P, pn, pc, sz, lv, ct, lo, hi, tp⟩ := a
  obtain ⟨id2, ep2, P2, pn2, pc2, sz2, lv2, ct2, lo2, hi2, tp2⟩ := b
  show Calls _ _ #[.agg #[.int .i64 id, .int .i64 ep, .slice P pn pc, .int .i64 sz, .int .i64 lv, .int .i64 ct, .string lo, .string hi, .int .i64 tp], .agg #[.int .i64 id2, .int .i64 ep2, .slice P2 pn2 pc2, .int .i64 sz2, .int .i64 lv2, .int .i64 ct2, .string lo2, .string hi2, .int .i64 tp2]] _ _
  have HB := Lib.hid (show Below w.heap.size w ((w.alloc (.cells #[.int .i64 id, .int .i64 ep, .slice P pn pc, .int .i64 sz, .int .i64 lv, .int .i64 ct, .string lo, .string hi, .int .i64 tp] 35)).alloc (.cells #[.int .i64 id2, .int .i64 ep2, .slice P2 pn2 pc2, .int .i64 sz2, .int .i64 lv2, .int .i64 ct2, .string lo2, .string hi2, .int .i64 tp2] 35)) from ((Below.refl _ _).alloc (Nat.le_refl _) _).alloc (by simp) _)
  generalize hans : Ed.meet ⟨id, ep, P, pn, pc, sz, lv, ct, lo, hi, tp⟩ ⟨id2, ep2, P2, pn2, pc2, sz2, lv2, ct2, lo2, hi2, tp2⟩ = ans
  have hans : (!Pk.lt hi2 lo && !Pk.lt hi lo2) = ans := hans
  have l1 := Pk.le_eq lo hi2
  have l2 := Pk.le_eq lo2 hi
  generalize Pk.lt hi2 lo = t1 at *
  generalize Pk.lt hi lo2 = t2 at *
  cases t1 with
  | true =>
    have l1 : (Op.bytesLess lo.toList hi2.toList || lo.toList == hi2.toList) = false := l1
    have HF := Lib.hid (show false = ans by rw [← hans]; rfl)
    clear hans l2
    go_enter Tryz.func40, Tryz.ntmps40
    go_wp2
    go_ret
    exact ⟨by rw [← HF.out]; rfl, HB.out⟩
  | false =>
    have l1 : (Op.bytesLess lo.toList hi2.toList || lo.toList == hi2.toList) = true := l1
    cases t2 with
    | true =>
      have l2 : (Op.bytesLess lo2.toList hi.toList || lo2.toList == hi.toList) = false := l2
      have HF := Lib.hid (show false = ans by rw [← hans]; rfl)
      clear hans
      go_enter Tryz.func40, Tryz.ntmps40
      go_wp2
      go_ret
      exact ⟨by rw [← HF.out]; rfl, HB.out⟩
    | false =>
      have l2 : (Op.bytesLess lo2.toList hi.toList || lo2.toList == hi.toList) = true := l2
      have HF := Lib.hid (show true = ans by rw [← hans]; rfl)
      clear hans
      go_enter Tryz.func40, Tryz.ntmps40
      go_wp2
      go_ret
      exact ⟨by rw [← HF.out]; rfl, HB.out⟩
end Go.Proofs.YthfcjlndaajkfaaGreat
namespace Go.Proofs.YthfcjlndaajkfaaGreat
open Go.ChangeShapes Go.WideShapes Go.ChangeAt Go.RowKit
open Go.ChangeMaps (open_string shut_string)
/-- What an argument reads as. -/
abbrev Reads {H : Type} (enc : TypeId × Value → H) (W : World) (t : TypeId) (v : Value) (d : DataW H) (p : List MemPlace) : Prop :=
  DataW.Trod enc Tryz.prog W 0 (fun _ => true) true t v d p
theorem u8_in {a : Int} (h : (Lit.int .u8 a).wf = true) : ∃ c : Nat, a = (c : Int) ∧ c < 256 := by
  simp [Lit.wf, IntKind.min, IntKind.max, IntKind.signed, IntKind.bits] at h
  exact ⟨a.toNat, by omega, by omega⟩
theorem u16_in {a : Int} (h : (Lit.int .u16 a).wf = true) : ∃ c : Nat, a = (c : Int) ∧ c < 65536 := by
  simp [Lit.wf, IntKind.min, IntKind.max, IntKind.signed, IntKind.bits] at h
  exact ⟨a.toNat, by omega, by omega⟩
section
variable {H : Type} {enc : TypeId × Value → H} {W : World} {base : Nat} {v : Value} {d : DataW H} {p : List MemPlace}
set_option maxRecDepth 100000 in theorem in_u64 (hval : Value.okWide Tryz.prog W .any base 85 v) (h : Reads enc W 85 v d p) : ∃ n : Nat, v = .int .u64 (n : Int) ∧ n < 18446744073709551616 := by obtain ⟨a, rfl, rfl, rfl, wf⟩ := open_int Tryz.underlying85 hval h; obtain ⟨c, rfl, hc⟩ := u64_in wf; exact ⟨c, rfl, hc⟩
set_option maxRecDepth 100000 in theorem in_uint (hval : Value.okWide Tryz.prog W .any base 119 v) (h : Reads enc W 119 v d p) : ∃ n : Nat, v = .int .u64 (n : Int) ∧ n < 18446744073709551616 := by obtain ⟨a, rfl, rfl, rfl, wf⟩ := open_int Tryz.underlying119 hval h; obtain ⟨c, rfl, hc⟩ := u64_in wf; exact ⟨c, rfl, hc⟩
set_option maxRecDepth 100000 in theorem in_u32 (hval : Value.okWide Tryz.prog W .any base 150 v) (h : Reads enc W 150 v d p) : ∃ n : Nat, v = .int .u32 (n : Int) ∧ n < 4294967296 := by obtain ⟨a, rfl, rfl, rfl, wf⟩ := open_int Tryz.underlying150 hval h; obtain ⟨c, rfl, hc⟩ := u32_in wf; exact ⟨c, rfl, hc⟩
set_option maxRecDepth 100000 in theorem in_u8 (hval : Value.okWide Tryz.prog W .any base 5 v) (h : Reads enc W 5 v d p) : ∃ n : Nat, v = .int .u8 (n : Int) ∧ n < 256 := by obtain ⟨a, rfl, rfl, rfl, wf⟩ := open_int Tryz.underlying5 hval h; obtain ⟨c, rfl, hc⟩ := u8_in wf; exact ⟨c, rfl, hc⟩
set_option maxRecDepth 100000 in theorem in_int (hval : Value.okWide Tryz.prog W .any base 3 v) (h : Reads enc W 3 v d p) : ∃ n : Int, v = .int .i64 n ∧ -9223372036854775808 ≤ n ∧ n ≤ 9223372036854775807 := by obtain ⟨a, rfl, rfl, rfl, wf⟩ := open_int Tryz.underlying3 hval h; exact ⟨a, rfl, i64_in wf⟩
set_option maxRecDepth 100000 in theorem in_bool (hval : Value.okWide Tryz.prog W .any base 4 v) (h : Reads enc W 4 v d p) : ∃ b : Bool, v = .bool b := by obtain ⟨b, rfl, _⟩ := open_bool Tryz.underlying4 hval h; exact ⟨b, rfl⟩
set_option maxRecDepth 100000 in theorem in_str (hval : Value.okWide Tryz.prog W .any base 9 v) (h : Reads enc W 9 v d p) : ∃ s : ByteArray, v = .string s ∧ s.size ≤ 9223372036854775807 := by obtain ⟨s, rfl, rfl, rfl, hs⟩ := open_string Tryz.underlying9 hval h; simp only [maxLen] at hs; exact ⟨s, rfl, by omega⟩
end
end Go.Proofs.YthfcjlndaajkfaaGreat
