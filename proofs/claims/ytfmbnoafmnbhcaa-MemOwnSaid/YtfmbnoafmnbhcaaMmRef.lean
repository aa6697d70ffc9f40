/- The document's Check and Ahead. -/
import Derived.Test.YtfmbnoafmnbhcaaMmBase
namespace Go.Proofs.Ytfmbnoafmnbhcaa
open Go.RowKit
namespace Bk
theorem less_cb : ∀ (a b : List UInt8), Op.bytesLess a b = decide (Lib.compareBytes a b < 0)
  | [], [] => rfl
  | [], _ :: _ => by simp [Op.bytesLess, Lib.compareBytes]
  | _ :: _, [] => by simp [Op.bytesLess, Lib.compareBytes]
  | x :: xs, y :: ys => by
    unfold Op.bytesLess Lib.compareBytes
    by_cases h1 : x < y
    · simp [h1]
    · by_cases h2 : y < x
      · have : ¬ x = y := fun e => by subst e; exact UInt8.lt_irrefl _ h2
        simp [h1, h2, this]
      · have : x = y := UInt8.le_antisymm (UInt8.not_lt.1 h2) (UInt8.not_lt.1 h1)
        subst this
        simp [less_cb xs ys]
theorem less_cmp (a b : ByteArray) : Op.bytesLess a.toList b.toList = decide (cmpS a b < 0) := by
  rw [ByteArray.toList_eq, ByteArray.toList_eq, less_cb]
  rfl
end Bk
set_option maxRecDepth 100000 in
set_option maxHeartbeats 4000000 in
theorem rcheck_any (p : Bk.En × Bk.Sl) (w : World) (h : Bk.At w p) : Calls Try.prog 12 #[.agg (Bk.cells p).toArray] w fun e w' => e = .returned (.int .i64 (if Bk.ok p.1 then 0 else 100)) ∧ Below w.heap.size w w' := by
  obtain ⟨⟨key, seq, del, val⟩, V, n, c⟩ := p
  obtain ⟨hr, hc, hk, h1, h2, hn⟩ := h
  have hlen : val.length = n := hr.1
  have HB := Lib.hid (show Below w.heap.size w (w.alloc (.cells #[Value.string key, .int .i64 seq, .bool del, .slice V n c] 24)) from (Below.refl _ _).alloc (Nat.le_refl _) _)
  have hok : Bk.ok ⟨key, seq, del, val⟩ = decide (1 ≤ key.size ∧ key.size ≤ 64 ∧ 1 ≤ seq ∧ seq ≤ 1099511627776 ∧ n ≤ 256 ∧ ¬ (del = true ∧ 0 < n)) := by unfold Bk.ok; simp only [hlen]
  show Calls _ _ #[.agg #[.string key, .int .i64 seq, .bool del, .slice V n c]] _ fun e w' => e = .returned (.int .i64 (if Bk.ok ⟨key, seq, del, val⟩ then 0 else 100)) ∧ _
  rw [hok]
  clear hok hr
  by_cases g1 : key.size < 1
  · have g1' : (key.size : Int) < 1 := by omega
    rw [if_neg (by simp; omega)]
    go_enter Try.func12, Try.ntmps12
    go_wp2
    go_ret
    exact ⟨rfl, HB.out⟩
  have g1' : ¬ (key.size : Int) < 1 := by omega
  by_cases g2 : 64 < key.size
  · have g2' : (64 : Int) < (key.size : Int) := by omega
    rw [if_neg (by simp; omega)]
    go_enter Try.func12, Try.ntmps12
    go_wp2
    go_ret
    exact ⟨rfl, HB.out⟩
  have g2' : ¬ (64 : Int) < (key.size : Int) := by omega
  by_cases g3 : seq < 1
  · rw [if_neg (by simp; omega)]
    go_enter Try.func12, Try.ntmps12
    go_wp2
    go_ret
    exact ⟨rfl, HB.out⟩
  by_cases g4 : 1099511627776 < seq
  · rw [if_neg (by simp; omega)]
    go_enter Try.func12, Try.ntmps12
    go_wp2
    go_ret
    exact ⟨rfl, HB.out⟩
  by_cases g5 : 256 < n
  · have g5' : (256 : Int) < (n : Int) := by omega
    rw [if_neg (by simp; omega)]
    go_enter Try.func12, Try.ntmps12
    go_wp2
    go_ret
    exact ⟨rfl, HB.out⟩
  have g5' : ¬ (256 : Int) < (n : Int) := by omega
  cases del with
  | false =>
    rw [if_pos (by simp; omega)]
    go_enter Try.func12, Try.ntmps12
    go_wp2
    go_ret
    exact ⟨rfl, HB.out⟩
  | true =>
    by_cases g6 : 0 < n
    · have g6' : (0 : Int) < (n : Int) := by omega
      rw [if_neg (by simp; omega)]
      go_enter Try.func12, Try.ntmps12
      go_wp2
      go_ret
      exact ⟨rfl, HB.out⟩
    · have g6' : ¬ (0 : Int) < (n : Int) := by omega
      rw [if_pos (by simp; omega)]
      go_enter Try.func12, Try.ntmps12
      go_wp2
      go_ret
      exact ⟨rfl, HB.out⟩
set_option maxRecDepth 100000 in
set_option maxHeartbeats 4000000 in
theorem rahead_any (p q : Bk.En × Bk.Sl) (w : World) : Calls Try.prog 10 #[.agg (Bk.cells p).toArray, .agg (Bk.cells q).toArray] w (GivesTell w (Bk.cmp p.1 q.1 < 0)) := by
  obtain ⟨⟨key, seq, del, val⟩, V, n, c⟩ := p
  obtain ⟨⟨key2, seq2, del2, val2⟩, V2, n2, c2⟩ := q
  have hb2 : Below w.heap.size w ((w.alloc (.cells #[Value.string key, .int .i64 seq, .bool del, .slice V n c] 24)).alloc (.cells #[Value.string key2, .int .i64 seq2, .bool del2, .slice V2 n2 c2] 24)) := ((Below.refl _ _).alloc (Nat.le_refl _) _).alloc (by simp) _
  have HB := Lib.hid hb2
  clear hb2
  show Calls _ _ #[.agg #[.string key, .int .i64 seq, .bool del, .slice V n c], .agg #[.string key2, .int .i64 seq2, .bool del2, .slice V2 n2 c2]] _ (GivesTell w (Bk.cmp (⟨key, seq, del, val⟩ : Bk.En) ⟨key2, seq2, del2, val2⟩ < 0))
  by_cases h1 : key = key2
  · subst h1
    have e1 := byt_same key
    by_cases h2 : seq2 < seq
    · have HF := Lib.hid (tell_yes (P := Bk.cmp (⟨key, seq, del, val⟩ : Bk.En) ⟨key, seq2, del2, val2⟩ < 0) (by unfold Bk.cmp; rw [Bk.cmpS_self, if_neg (by omega), if_pos h2]; omega) HB.out)
      generalize (Bk.cmp (⟨key, seq, del, val⟩ : Bk.En) ⟨key, seq2, del2, val2⟩ < 0) = P at HF ⊢
      go_enter Try.func10, Try.ntmps10
      go_wp2
      go_ret
      exact HF.out
    · have HF := Lib.hid (tell_no (P := Bk.cmp (⟨key, seq, del, val⟩ : Bk.En) ⟨key, seq2, del2, val2⟩ < 0) (by unfold Bk.cmp; rw [Bk.cmpS_self, if_neg (by omega), if_neg h2]; split <;> omega) HB.out)
      generalize (Bk.cmp (⟨key, seq, del, val⟩ : Bk.En) ⟨key, seq2, del2, val2⟩ < 0) = P at HF ⊢
      go_enter Try.func10, Try.ntmps10
      go_wp2
      go_ret
      exact HF.out
  · have e1 := byt_other h1
    have e2 := byt_ne h1
    have HF := Lib.hid (show GivesTell w (Bk.cmp (⟨key, seq, del, val⟩ : Bk.En) ⟨key2, seq2, del2, val2⟩ < 0) (.returned (.bool (Op.bytesLess key.toList key2.toList))) _ from ⟨_, rfl, by
      rw [Bk.less_cmp, decide_eq_true_eq]
      unfold Bk.cmp
      rw [if_pos (fun z => h1 (Bk.cmpS_zero z))], HB.out⟩)
    generalize (Bk.cmp (⟨key, seq, del, val⟩ : Bk.En) ⟨key2, seq2, del2, val2⟩ < 0) = P at HF ⊢
    clear h1
    go_enter Try.func10, Try.ntmps10
    go_wp2
    go_ret
    exact HF.out
end Go.Proofs.Ytfmbnoafmnbhcaa
