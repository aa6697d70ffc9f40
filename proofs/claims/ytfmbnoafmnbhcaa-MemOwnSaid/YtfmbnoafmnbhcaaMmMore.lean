/- New, Len, Bytes, Fork, All. -/
import Derived.Test.YtfmbnoafmnbhcaaMmRange
namespace Go.Proofs.Ytfmbnoafmnbhcaa
open Go.RowKit
namespace Bk
/-- In order, and none above the greatest number. -/
def Inv (T : Tr) (top : Int) : Prop := Sorted T.row ∧ ∀ x ∈ T.row, ok x.1 = true ∧ x.1.seq ≤ top
theorem inv_leaf : Inv .leaf 0 := ⟨List.Pairwise.nil, fun x hx => by cases hx⟩
theorem cb_nil (a : List UInt8) : ¬ Lib.compareBytes a [] < 0 := by
  cases a with
  | nil => simp [Lib.compareBytes]
  | cons x xs => simp [Lib.compareBytes]
theorem ok_parts {e : En} (h : ok e = true) : 1 ≤ e.key.size ∧ e.key.size ≤ 64 ∧ 1 ≤ e.seq ∧ e.seq ≤ 1099511627776 ∧ e.val.length ≤ 256 := by
  unfold ok at h
  rw [decide_eq_true_eq] at h
  exact ⟨h.1, h.2.1, h.2.2.1, h.2.2.2.1, h.2.2.2.2.1⟩
/-- What is not ahead of the first entry of a key is of that key or above. -/
theorem not_low {e : En} {low : ByteArray} (h : ok e = true) : cmp e ⟨low, 1099511627776, false, []⟩ < 0 ↔ cmpS e.key low < 0 := by
  have := (ok_parts h).2.2.2.1
  unfold cmp
  dsimp only
  by_cases hz : cmpS e.key low = 0
  · rw [if_neg (fun e => e hz), if_neg (by omega)]
    constructor
    · intro h2
      split at h2 <;> omega
    · intro h2; omega
  · rw [if_pos hz]
theorem from_low {T : Tr} {top : Int} (h : Inv T top) (low : ByteArray) : T.from_ ⟨low, 1099511627776, false, []⟩ = T.row.filter (fun x => !decide (cmpS x.1.key low < 0)) := by
  rw [Tr.from_row _ T h.1]
  refine List.filter_congr fun x hx => ?_
  have := not_low (low := low) (h.2 x hx).1
  by_cases h2 : cmpS x.1.key low < 0
  · rw [decide_eq_true h2, decide_eq_true (this.2 h2)]
  · rw [decide_eq_false h2, decide_eq_false (fun e => h2 (this.1 e))]
theorem from_empty {T : Tr} {top : Int} (h : Inv T top) : T.from_ ⟨⟨#[]⟩, 1099511627776, false, []⟩ = T.row := by
  rw [from_low h]
  rw [List.filter_eq_self]
  intro x _
  have : ¬ cmpS x.1.key ⟨#[]⟩ < 0 := cb_nil _
  rw [decide_eq_false this]
  rfl
theorem IsT.avoid {S : Nat → Prop} {w : World} {b : Nat} (hb : w.heap.size ≤ b) : ∀ {p : Option Addr} {T : Tr}, IsT S w p T → IsT (fun k => S k ∨ k = b) w p T
  | _, .leaf, h => h
  | _, .node l x r, ⟨g, pl, pr, hp, hg, hn, hc, hx, hl, hr⟩ => ⟨g, pl, pr, hp, hg, fun e => e.elim hn (fun e => by omega), hc, ⟨hx.1, fun h0 a o e e2 => e2.elim (hx.2 h0 a o e) (fun e2 => by
      obtain ⟨b', o', e', hb', _⟩ := hx.1.1.2.2 h0
      rw [e] at e'
      injection e' with e'
      injection e' with e'
      omega)⟩, IsT.avoid hb hl, IsT.avoid hb hr⟩
end Bk
set_option maxRecDepth 100000 in
theorem new_any (w : World) : Calls Try.prog 15 #[] w fun e w' => e = .returned (.pointer (some ⟨w.heap.size, 0, none⟩)) ∧ Bk.IsM (fun k => k = w.heap.size) w' w.heap.size .leaf 0 ∧ Below w.heap.size w w' := by
  have HF := Lib.hid (show Bk.IsM (fun k => k = w.heap.size) (w.alloc (.cells #[.bool true, .pointer none, .int .i64 0, .int .i64 0, .int .i64 0] 56)) w.heap.size .leaf 0 from ⟨none, Holds.new w #[.bool true, .pointer none, .int .i64 0, .int .i64 0, .int .i64 0] 56, rfl, rfl⟩)
  go_enter Try.func15, Try.ntmps15
  go_wp2
  go_ret
  exact ⟨rfl, HF.out, (Below.refl _ _).alloc (Nat.le_refl _) _⟩
set_option maxRecDepth 100000 in
theorem len_any (S : Nat → Prop) (m : Nat) (T : Bk.Tr) (top : Int) (w : World) (h : Bk.IsM S w m T top) : Calls Try.prog 20 #[.pointer (some ⟨m, 0, none⟩)] w fun e w' => e = .returned (.int .i64 (T.row.length : Int)) ∧ w' = w := by
  obtain ⟨p, hH, _, _⟩ := h
  have HM := Lib.hid hH
  have c3 := hH.2.1 3 _ rfl
  clear hH
  go_enter Try.func20, Try.ntmps20
  go_wp2_with (go_at_call 32; refine (made_any m _ _ HM.out).mono ?_; rintro e w1 ⟨rfl, rfl⟩)
  go_ret
  exact ⟨rfl, rfl⟩
set_option maxRecDepth 100000 in
theorem bytes_any (S : Nat → Prop) (m : Nat) (T : Bk.Tr) (top : Int) (w : World) (h : Bk.IsM S w m T top) : Calls Try.prog 21 #[.pointer (some ⟨m, 0, none⟩)] w fun e w' => e = .returned (.int .i64 (Bk.bytes T.row : Int)) ∧ w' = w := by
  obtain ⟨p, hH, _, _⟩ := h
  have HM := Lib.hid hH
  have c4 := hH.2.1 4 _ rfl
  clear hH
  go_enter Try.func21, Try.ntmps21
  go_wp2_with (go_at_call 32; refine (made_any m _ _ HM.out).mono ?_; rintro e w1 ⟨rfl, rfl⟩)
  go_ret
  exact ⟨rfl, rfl⟩
set_option maxRecDepth 100000 in
theorem fork_any (S : Nat → Prop) (m : Nat) (T : Bk.Tr) (top : Int) (w : World) (h : Bk.IsM S w m T top) : Calls Try.prog 28 #[.pointer (some ⟨m, 0, none⟩)] w fun e w' => e = .returned (.pointer (some ⟨w.heap.size, 0, none⟩)) ∧ Bk.IsM (fun k => S k ∨ k = w.heap.size) w' m T top ∧ Bk.IsM (fun k => S k ∨ k = w.heap.size) w' w.heap.size T top ∧ w.heap.size < w'.heap.size ∧ Below w.heap.size w w' := by
  obtain ⟨p, hH, hT, hS⟩ := h
  have HB := Lib.hid (show Below w.heap.size w (w.alloc (.cells #[.bool true, .pointer p, .int .i64 top, .int .i64 (T.row.length : Int), .int .i64 (Bk.bytes T.row : Int)] 56)) from (Below.refl _ _).alloc (Nat.le_refl _) _)
  have HF := Lib.hid (show Bk.IsM (fun k => S k ∨ k = w.heap.size) (w.alloc (.cells #[.bool true, .pointer p, .int .i64 top, .int .i64 (T.row.length : Int), .int .i64 (Bk.bytes T.row : Int)] 56)) m T top ∧ Bk.IsM (fun k => S k ∨ k = w.heap.size) (w.alloc (.cells #[.bool true, .pointer p, .int .i64 top, .int .i64 (T.row.length : Int), .int .i64 (Bk.bytes T.row : Int)] 56)) w.heap.size T top from
    ⟨⟨p, hH.below HB.out, (hT.avoid (Nat.le_refl _)).below HB.out, .inl hS⟩, ⟨p, Holds.new w #[.bool true, .pointer p, .int .i64 top, .int .i64 (T.row.length : Int), .int .i64 (Bk.bytes T.row : Int)] 56, (hT.avoid (Nat.le_refl _)).below HB.out, .inr rfl⟩⟩)
  have HM := Lib.hid hH
  have c0 := hH.2.1 0 _ rfl
  have c1 := hH.2.1 1 _ rfl
  have c2 := hH.2.1 2 _ rfl
  have c3 := hH.2.1 3 _ rfl
  have c4 := hH.2.1 4 _ rfl
  clear hH hT hS
  go_enter Try.func28, Try.ntmps28
  go_wp2_with (go_at_call 32; refine (made_any m _ _ HM.out).mono ?_; rintro e w1 ⟨rfl, rfl⟩)
  go_ret
  exact ⟨rfl, HF.out.1, HF.out.2, by simp, HB.out⟩
set_option maxRecDepth 100000 in
theorem all_any (S : Nat → Prop) (m : Nat) (T : Bk.Tr) (top : Int) (w : World) (hM : Bk.IsM S w m T top) (hI : Bk.Inv T top) (hlen : T.row.length ≤ 100000) : Calls Try.prog 19 #[.pointer (some ⟨m, 0, none⟩)] w (GivesRange w T.row) := by
  have h := range_any S m T top ⟨#[]⟩ ⟨#[]⟩ w hM (by rw [Bk.from_empty hI]; exact hlen)
  rw [Bk.from_empty hI, take_all (p := Bk.okH ⟨#[]⟩) (fun x _ => rfl)] at h
  have H := Lib.hid h
  clear h hM hI hlen
  generalize T.row = xs at H ⊢
  go_enter Try.func19, Try.ntmps19
  go_wp2_with (go_at_call 26; refine H.out.mono ?_; rintro e w1 ⟨B, c, es, rfl, h1, h2, h3⟩)
  go_ret
  exact ⟨B, c, es, rfl, h1, h2, h3⟩
end Go.Proofs.Ytfmbnoafmnbhcaa
