/- The law of Range: both tell the same entries. -/
import Derived.Test.YtfmbnoafmnbhcaaMmLaw
namespace Go.Proofs.Ytfmbnoafmnbhcaa
open Go.RowKit
namespace Bk
theorem filter_map {f : P → Bool} (hf : ∀ x y : P, x.1 = y.1 → f x = f y) : ∀ {es fs : List P}, es.map (fun z => z.1) = fs.map (fun z => z.1) → (es.filter f).map (fun z => z.1) = (fs.filter f).map (fun z => z.1)
  | [], [], _ => rfl
  | [], _ :: _, h => by simp at h
  | _ :: _, [], h => by simp at h
  | a :: ta, b :: tb, h => by
    simp only [List.map_cons, List.cons.injEq] at h
    rw [List.filter_cons, List.filter_cons, hf a b h.1]
    by_cases hb : f b = true
    · rw [if_pos hb, if_pos hb, List.map_cons, List.map_cons, h.1, filter_map hf h.2]
    · rw [if_neg hb, if_neg hb, filter_map hf h.2]
theorem okH_map (high : ByteArray) (x y : P) (h : x.1 = y.1) : okH high x = okH high y := by unfold okH; rw [h]
theorem okR_map (low high : ByteArray) (x y : P) (h : x.1 = y.1) : okR low high x = okR low high y := by unfold okR; rw [h, okH_map high x y h]
theorem cmpS_trans {a b c : ByteArray} (h1 : cmpS a b < 0) (h2 : cmpS b c < 0) : cmpS a c < 0 := cb_trans h1 h2
/-- What is ahead of one that is not too high is not too high. -/
theorem okH_down {high : ByteArray} {x y : P} (h : lt x y) (hy : okH high y = true) : okH high x = true := by
  unfold okH at hy ⊢
  rw [Bool.or_eq_true, decide_eq_true_eq, decide_eq_true_eq] at hy ⊢
  refine hy.imp id fun h2 => ?_
  have h : cmp x.1 y.1 < 0 := h
  unfold cmp at h
  by_cases hz : cmpS x.1.key y.1.key = 0
  · rw [cmpS_zero hz]; exact h2
  · rw [if_pos hz] at h
    exact cmpS_trans h h2
theorem take_filter {high : ByteArray} : ∀ {l : List P}, Sorted l → l.takeWhile (okH high) = l.filter (okH high)
  | [], _ => rfl
  | x :: xs, h => by
    rw [List.takeWhile_cons, List.filter_cons]
    by_cases hx : okH high x = true
    · rw [if_pos hx, if_pos hx, take_filter (List.pairwise_cons.1 h).2]
    · rw [if_neg hx, if_neg hx]
      symm
      rw [List.filter_eq_nil_iff]
      intro y hy e
      exact hx (okH_down ((List.pairwise_cons.1 h).1 y hy) e)
theorem range_eq {T : Tr} {top : Int} (h : Inv T top) (low high : ByteArray) : (T.from_ ⟨low, 1099511627776, false, []⟩).takeWhile (okH high) = T.row.filter (okR low high) := by
  rw [from_low h, take_filter (List.Pairwise.filter _ h.1), List.filter_filter]
  refine List.filter_congr fun x _ => ?_
  unfold okR
  rw [Bool.and_comm]
theorem range_all {T : Tr} {top : Int} (h : Inv T top) : (T.from_ ⟨⟨#[]⟩, 1099511627776, false, []⟩).takeWhile (okH ⟨#[]⟩) = T.row := by
  rw [from_empty h]
  exact take_all fun x _ => rfl
end Bk
theorem Tw.range {S : Nat → Prop} {w : World} {m : Nat} {T : Bk.Tr} {top : Int} {A : Option Addr} {es : List Bk.P} {k : Nat} (h : Tw S w m T top A es k) (low high : ByteArray) : ((T.from_ ⟨low, 1099511627776, false, []⟩).takeWhile (Bk.okH high)).map (fun z => z.1) = (es.filter (Bk.okR low high)).map (fun z => z.1) := by
  rw [Bk.range_eq h.inv]
  exact Bk.filter_map (Bk.okR_map low high) h.same.symm
theorem from_len {T : Bk.Tr} (low : Bk.En) (h : Bk.Sorted T.row) : (T.from_ low).length ≤ T.row.length := by
  rw [Bk.Tr.from_row low T h]
  exact List.length_filter_le _ _
theorem Tw.range_any {S : Nat → Prop} {w : World} {m : Nat} {T : Bk.Tr} {top : Int} {A : Option Addr} {es : List Bk.P} {k : Nat} (h : Tw S w m T top A es k) (hk : k ≤ 100000) (low high : ByteArray) : Calls Try.prog 26 #[.pointer (some ⟨m, 0, none⟩), .string low, .string high] w fun e w' =>
    ∃ (B : Option Addr) (c : Nat) (fs : List Bk.P), e = .returned (.slice B fs.length c) ∧ fs.map (fun z => z.1) = (es.filter (Bk.okR low high)).map (fun z => z.1) ∧ RdE w' B fs.length fs ∧ Below w.heap.size w w' :=
  (Go.Proofs.Ytfmbnoafmnbhcaa.range_any S m T top low high w h.mem (by have := from_len ⟨low, 1099511627776, false, []⟩ h.inv.1; rw [T.row_size] at this; have := h.few; omega)).mono fun e w' ⟨B, c, fs, h1, h2, h3, h4⟩ => ⟨B, c, fs, h1, h2.trans (h.range low high), h3.rde, h4⟩
theorem okR_none (x : Bk.P) : Bk.okR ⟨#[]⟩ ⟨#[]⟩ x = true := by
  unfold Bk.okR
  have h : ¬ Bk.cmpS x.1.key ⟨#[]⟩ < 0 := Bk.cb_nil _
  rw [decide_eq_false h]
  rfl
theorem filter_none (es : List Bk.P) : es.filter (Bk.okR ⟨#[]⟩ ⟨#[]⟩) = es := List.filter_eq_self.2 fun x _ => okR_none x
end Go.Proofs.Ytfmbnoafmnbhcaa
