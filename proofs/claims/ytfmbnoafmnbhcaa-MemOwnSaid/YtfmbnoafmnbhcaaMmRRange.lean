/- The document's Range, Bytes, Size. -/
import Derived.Test.YtfmbnoafmnbhcaaMmRange
import Derived.Test.YtfmbnoafmnbhcaaMmLaid
namespace Go.Proofs.Ytfmbnoafmnbhcaa
open Go.RowKit
namespace Bk
/-- Is a key low or above, and below high? -/
def okR (low high : ByteArray) (x : P) : Bool := !decide (cmpS x.1.key low < 0) && okH high x
theorem filter_snoc {f : P → Bool} {es : List P} {k : Nat} {y : P} (h : es[k]? = some y) : (es.take (k + 1)).filter f = (es.take k).filter f ++ (if f y then [y] else []) := by
  rw [List.take_add_one, h, List.filter_append]
  cases hs : f y <;> simp [hs]
theorem bytes_snoc {es : List P} {k : Nat} {y : P} (h : es[k]? = some y) : bytes (es.take (k + 1)) = bytes (es.take k) + size1 y := by
  rw [List.take_add_one, h]
  unfold bytes
  rw [List.map_append, List.sum_append]
  simp
end Bk
set_option maxRecDepth 100000 in
theorem rsize_any (x : Bk.P) (w : World) (h : Bk.At w x) : Calls Try.prog 33 #[.agg (Bk.cells x).toArray] w fun e w' => e = .returned (.int .i64 (Bk.size1 x : Int)) ∧ Below w.heap.size w w' := by
  obtain ⟨⟨key, seq, del, val⟩, V, n, c⟩ := x
  have hk : (key.size : Int) ≤ 1000000 := by have : key.size ≤ 1000000 := h.2.2.1; omega
  have hn : (n : Int) ≤ 1000000 := by have : n ≤ 1000000 := h.2.2.2.2.2; omega
  have HB := Lib.hid (show Below w.heap.size w (w.alloc (.cells #[Value.string key, .int .i64 seq, .bool del, .slice V n c] 24)) from (Below.refl _ _).alloc (Nat.le_refl _) _)
  have HV := Lib.hid (show ((key.size : Int) + (n : Int) + 16) = (Bk.size1 ((⟨key, seq, del, val⟩, V, n, c) : Bk.P) : Int) by simp only [Bk.size1]; omega)
  clear h
  show Calls _ _ #[.agg #[.string key, .int .i64 seq, .bool del, .slice V n c]] _ _
  go_enter Try.func33, Try.ntmps33
  go_wp2
  go_ret
  exact ⟨ret_i64 HV.out, HB.out⟩
set_option maxRecDepth 100000 in
set_option maxHeartbeats 2000000 in
theorem rbytes_any (A : Option Addr) (n c : Nat) (es : List Bk.P) (w : World) (hr : RdE w A n es) (hn : n ≤ 100000) : Calls Try.prog 22 #[.slice A n c] w fun e w' => e = .returned (.int .i64 (Bk.bytes es : Int)) ∧ Below w.heap.size w w' := by
  have HR := Lib.hid hr
  have HL := Lib.hid hr.1
  clear hr
  go_enter Try.func22, Try.ntmps22
  go_wp2
  go_loopw [3, 4] (fun t ii wr => ∃ k b : Nat, k ≤ n ∧ b ≤ k * 10000000 ∧ ii = .int .i64 (k : Int) ∧ t = .int .i64 (b : Int) ∧ Hid (b = Bk.bytes (es.take k)) ∧ Hid (Below w.heap.size w wr)) (fun _ ii _ => n - (intOf ii).toNat)
  case atStart => exact ⟨0, 0, by omega, by omega, rfl, rfl, Lib.hid rfl, Lib.hid (Below.refl _ _)⟩
  case round =>
    rename_i wr hrel
    obtain ⟨k, b, hk, hb, rfl, rfl, HS, HB⟩ := hrel
    by_cases hlt : k < n
    · have hki : (k : Int) < (n : Int) := by omega
      obtain ⟨y, hy⟩ : ∃ y, es[k]? = some y := ⟨_, List.getElem?_eq_getElem (by rw [HL.out]; omega)⟩
      obtain ⟨g, o, rfl, hbl, hcell⟩ := HR.out.at_ hy
      have HAt := Lib.hid ((HR.out.2.2 y (List.mem_of_getElem? hy)).below HB.out)
      have hs1 : Bk.size1 y ≤ 3000000 := by
        have h1 := HAt.out.2.2.1
        have h2 := HAt.out.2.2.2.2.2
        unfold Bk.size1
        omega
      have Sz := Lib.hid (rsize_any y wr HAt.out)
      have HS2 := Lib.hid (Bk.bytes_snoc hy)
      obtain ⟨s1, hs⟩ : ∃ s1, s1 = Bk.size1 y := ⟨_, rfl⟩
      rw [← hs] at hs1 Sz HS2
      clear hs hy
      obtain ⟨⟨key, seq, del, val⟩, V, vn, vc⟩ := y
      have e0 := (HB.out.cell (p := ⟨g, o + k * 4, none⟩) hbl).trans (hcell 0 _ rfl)
      have e1 := (HB.out.cell (p := ⟨g, o + k * 4 + 1, none⟩) hbl).trans (hcell 1 _ rfl)
      have e2 := (HB.out.cell (p := ⟨g, o + k * 4 + 2, none⟩) hbl).trans (hcell 2 _ rfl)
      have e3 := (HB.out.cell (p := ⟨g, o + k * 4 + 3, none⟩) hbl).trans (hcell 3 _ rfl)
      have Sz2 : Hid (Calls Try.prog 33 #[.agg #[.string key, .int .i64 seq, .bool del, .slice V vn vc]] wr fun e w' => e = .returned (.int .i64 (s1 : Int)) ∧ Below wr.heap.size wr w') := Lib.hid Sz.out
      clear hcell hbl Sz
      go_wp2_with (go_at_call 33; refine Sz2.out.mono ?_; rintro e w5 ⟨rfl, hb5⟩; have HB5 := Lib.hid (below_next HB.out hb5); clear hb5)
      go_roundw
      case rel => exact ⟨k + 1, b + s1, by omega, by omega, by go_num, by go_num, Lib.hid (by rw [HS2.out, HS.out]), HB5⟩
      case measure => simp [intOf]; omega
    · have hkn : k = n := by omega
      subst hkn
      have HE := Lib.hid (show b = Bk.bytes es by rw [HS.out, List.take_of_length_le (by rw [HL.out]; omega)])
      have hnk : ¬ (k : Int) < (k : Int) := by omega
      clear hlt
      go_wp2
      go_ret
      exact ⟨by rw [HE.out]; rfl, HB.out⟩
theorem ran_no {low high : ByteArray} {x : Bk.P} (h : Bk.okR low high x = false) : Bk.cmpS x.1.key low < 0 ∨ (¬ Bk.cmpS x.1.key low < 0 ∧ ¬ high = ⟨#[]⟩ ∧ ¬ Bk.cmpS x.1.key high < 0) := by
  unfold Bk.okR at h
  by_cases h1 : Bk.cmpS x.1.key low < 0
  · exact .inl h1
  · rw [decide_eq_false h1, Bool.not_false, Bool.true_and] at h
    exact .inr ⟨h1, (okH_no h).1, (okH_no h).2⟩
theorem ran_yes {low high : ByteArray} {x : Bk.P} (h : Bk.okR low high x = true) : (¬ Bk.cmpS x.1.key low < 0 ∧ high = ⟨#[]⟩) ∨ (¬ Bk.cmpS x.1.key low < 0 ∧ ¬ high = ⟨#[]⟩ ∧ Bk.cmpS x.1.key high < 0) := by
  unfold Bk.okR at h
  rw [Bool.and_eq_true] at h
  have h1 : ¬ Bk.cmpS x.1.key low < 0 := by simpa using h.1
  rcases okH_ways h.2 with h2 | h2
  · exact .inl ⟨h1, h2⟩
  · exact .inr ⟨h1, h2⟩
theorem ran_step {w u w6 : World} {B B6 : Option Addr} {m cap cap6 : Nat} {vs : List Value} {y : Bk.P} (hu : Below w.heap.size w u) (hO : OwnC 4 u w.heap.size 24 B m cap vs) (hg : GrewC 4 (u.alloc (.cells (Bk.cells y).toArray 24)) w6 w.heap.size 24 B B6 m cap (m + 1) cap6 (vs ++ Bk.cells y)) :
    OwnC 4 w6 w.heap.size 24 B6 (m + 1) cap6 (vs ++ Bk.cells y) ∧ Below w.heap.size w w6 := laid_step2 (v := w) ⟨hO, hu⟩ hg
/-- A row of entries that are others'. -/
def GivesRRange (w : World) (xs : List Bk.P) (e : Ending) (w' : World) : Prop := ∃ (B : Option Addr) (c : Nat), e = .returned (.slice B xs.length c) ∧ RdE w' B xs.length xs ∧ Below w.heap.size w w'
set_option maxRecDepth 100000 in
set_option maxHeartbeats 8000000 in
theorem rrange_any (A : Option Addr) (n c : Nat) (es : List Bk.P) (low high : ByteArray) (w : World) (hr : RdE w A n es) (hn : n ≤ 100000) : Calls Try.prog 27 #[.slice A n c, .string low, .string high] w (GivesRRange w (es.filter (Bk.okR low high))) := by
  have HR := Lib.hid hr
  have HL := Lib.hid hr.1
  clear hr
  go_enter Try.func27, Try.ntmps27
  go_wp2
  go_loopw [7, 8] (fun t ii wr => ∃ (k m : Nat) (B : Option Addr) (cap : Nat), k ≤ n ∧ m ≤ k ∧ ii = .int .i64 (k : Int) ∧ t = .slice B m cap ∧ Hid (m = ((es.take k).filter (Bk.okR low high)).length) ∧ Hid (OwnC 4 wr w.heap.size 24 B m cap (Bk.flat ((es.take k).filter (Bk.okR low high)))) ∧ Hid (Below w.heap.size w wr)) (fun _ ii _ => n - (intOf ii).toNat)
  case atStart => exact ⟨0, 0, none, 0, by omega, by omega, rfl, rfl, Lib.hid rfl, Lib.hid (OwnC.none_ _ _ _ _), Lib.hid (Below.refl _ _)⟩
  case round =>
    rename_i wr hrel
    obtain ⟨k, m, B, cap, hk, hmk, rfl, rfl, HM, HO, HB⟩ := hrel
    by_cases hlt : k < n
    · have hki : (k : Int) < (n : Int) := by omega
      obtain ⟨y, hy⟩ : ∃ y, es[k]? = some y := ⟨_, List.getElem?_eq_getElem (by rw [HL.out]; omega)⟩
      obtain ⟨g, o, rfl, hbl, hcell⟩ := HR.out.at_ hy
      have HS := Lib.hid (Bk.filter_snoc (f := Bk.okR low high) hy)
      clear hy
      obtain ⟨⟨key, seq, del, val⟩, V, vn, vc⟩ := y
      have e0 := (HB.out.cell (p := ⟨g, o + k * 4, none⟩) hbl).trans (hcell 0 _ rfl)
      have e1 := (HB.out.cell (p := ⟨g, o + k * 4 + 1, none⟩) hbl).trans (hcell 1 _ rfl)
      have e2 := (HB.out.cell (p := ⟨g, o + k * 4 + 2, none⟩) hbl).trans (hcell 2 _ rfl)
      have e3 := (HB.out.cell (p := ⟨g, o + k * 4 + 3, none⟩) hbl).trans (hcell 3 _ rfl)
      clear hcell hbl
      have l1 := Bk.less_cmp key low
      have l2 := Bk.less_cmp key high
      have hsz := HB.out.size
      cases hok : Bk.okR low high (⟨key, seq, del, val⟩, V, vn, vc) with
      | false =>
        have HS2 := HS.out
        rw [hok, if_neg (by decide), List.append_nil] at HS2
        have HS3 := Lib.hid HS2
        clear HS2 HS
        have hw := ran_no hok
        clear hok
        rcases hw with h1 | ⟨h1, hne, h2⟩
        · rw [decide_eq_true h1] at l1
          clear h1
          go_wp2
          all_goals
            go_roundw
            case rel => exact ⟨k + 1, m, B, cap, by omega, by omega, by go_num, rfl, Lib.hid (by rw [HS3.out]; exact HM.out), Lib.hid (by rw [HS3.out]; exact HO.out), HB⟩
            case measure => simp [intOf]; omega
        · rw [decide_eq_false h1] at l1
          rw [decide_eq_false h2] at l2
          have f1 := bytes_some hne
          have f2 := bytes_some' hne
          clear h1 h2 hne
          go_wp2
          all_goals
            go_roundw
            case rel => exact ⟨k + 1, m, B, cap, by omega, by omega, by go_num, rfl, Lib.hid (by rw [HS3.out]; exact HM.out), Lib.hid (by rw [HS3.out]; exact HO.out), HB⟩
            case measure => simp [intOf]; omega
      | true =>
        have HS2 := HS.out
        rw [hok, if_pos rfl] at HS2
        have HS3 := Lib.hid HS2
        clear HS2 HS
        have hw := ran_yes hok
        clear hok
        rcases hw with ⟨h1, he⟩ | ⟨h1, hne, h2⟩
        · rw [decide_eq_false h1] at l1
          have f1 : high.toList = [] := by rw [he, ByteArray.toList_eq]
          have f2 : high.toList.isEmpty = true := by rw [f1]; rfl
          clear h1 he l2
          go_wp2_with (at_builtin; refine wpList_appC manyE rfl (.tmp 35) (.tmp 40) rfl rfl (HO.out.alloc _) ⟨wr.heap.size, 0, none⟩ 1 1 (Bk.cells (⟨key, seq, del, val⟩, V, vn, vc)) (Bk.cells_one _) rfl (rdc_new 4 wr _ _ 1 rfl (0, 0)) (by omega) (by simp; omega) ?_; intro B6 cap6 w6 hg6)
          have HF := Lib.hid (ran_step (y := (⟨key, seq, del, val⟩, V, vn, vc)) HB.out HO.out hg6)
          clear hg6
          go_roundw
          case rel => exact ⟨k + 1, m + 1, B6, cap6, by omega, by omega, by go_num, rfl, Lib.hid (by rw [HS3.out, List.length_append, ← HM.out]; rfl), Lib.hid (by rw [HS3.out, Bk.flat_snoc]; exact HF.out.1), Lib.hid HF.out.2⟩
          case measure => simp [intOf]; omega
        · rw [decide_eq_false h1] at l1
          rw [decide_eq_true h2] at l2
          have f1 := bytes_some hne
          have f2 := bytes_some' hne
          clear h1 h2 hne
          go_wp2_with (at_builtin; refine wpList_appC manyE rfl (.tmp 35) (.tmp 40) rfl rfl (HO.out.alloc _) ⟨wr.heap.size, 0, none⟩ 1 1 (Bk.cells (⟨key, seq, del, val⟩, V, vn, vc)) (Bk.cells_one _) rfl (rdc_new 4 wr _ _ 1 rfl (0, 0)) (by omega) (by simp; omega) ?_; intro B6 cap6 w6 hg6)
          have HF := Lib.hid (ran_step (y := (⟨key, seq, del, val⟩, V, vn, vc)) HB.out HO.out hg6)
          clear hg6
          go_roundw
          case rel => exact ⟨k + 1, m + 1, B6, cap6, by omega, by omega, by go_num, rfl, Lib.hid (by rw [HS3.out, List.length_append, ← HM.out]; rfl), Lib.hid (by rw [HS3.out, Bk.flat_snoc]; exact HF.out.1), Lib.hid HF.out.2⟩
          case measure => simp [intOf]; omega
    · have hkn : k = n := by omega
      subst hkn
      have HE := Lib.hid (show es.take k = es from List.take_of_length_le (by rw [HL.out]; omega))
      have hnk : ¬ (k : Int) < (k : Int) := by omega
      clear hlt
      go_wp2
      go_ret
      have h1 := HM.out
      have h2 := HO.out
      rw [HE.out] at h1 h2
      rw [h1] at h2 ⊢
      exact ⟨B, cap, rfl, ⟨rfl, h2.rd, fun p hp => (HR.out.2.2 p (List.mem_filter.1 hp).1).below HB.out⟩, HB.out⟩
end Go.Proofs.Ytfmbnoafmnbhcaa
