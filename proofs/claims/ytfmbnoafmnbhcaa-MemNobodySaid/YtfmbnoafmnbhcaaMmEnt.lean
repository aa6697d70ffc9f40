/- An entry that came in; Check of any. -/
import Derived.Test.YtfmbnoafmnbhcaaMmLaw
import Derived.Test.YtfmbnoafmnbhcaaIns
import Derived.Lib.SmallJoins
namespace Go.Proofs.Ytfmbnoafmnbhcaa
open Go.ChangeShapes Go.WideShapes Go.ChangeAt Go.RowKit Go.Joins Go.Deep
set_option maxRecDepth 100000 in
set_option maxHeartbeats 4000000 in
theorem checkI_any (p : Bk.En × Bk.Sl) (w : World) (h : Bk.AtI w p) : Calls Try.prog 11 #[.agg (Bk.cells p).toArray] w fun e w' => e = .returned (.int .i64 (if Bk.ok p.1 then 0 else 100)) ∧ Below w.heap.size w w' := by
  obtain ⟨⟨key, seq, del, val⟩, V, n, c⟩ := p
  obtain ⟨hr, hc, hk, h1, h2, hn⟩ := h
  have hlen : val.length = n := hr.1
  have HB := Lib.hid (show Below w.heap.size w (w.alloc (.cells #[Value.string key, .int .i64 seq, .bool del, .slice V n c] 24)) from (Below.refl _ _).alloc (Nat.le_refl _) _)
  have hok : Bk.ok ⟨key, seq, del, val⟩ = decide (1 ≤ key.size ∧ key.size ≤ 64 ∧ 1 ≤ seq ∧ seq ≤ 1099511627776 ∧ n ≤ 256 ∧ ¬ (del = true ∧ 0 < n)) := by unfold Bk.ok; simp only [hlen]
  show Calls _ _ #[.agg #[.string key, .int .i64 seq, .bool del, .slice V n c]] _ fun e w' => e = .returned (.int .i64 (if Bk.ok ⟨key, seq, del, val⟩ then 0 else 100)) ∧ _
  rw [hok]
  clear hok hr
  by_cases g1 : key.size < 1
  · have g1' : (key.size : Int) < 1 := by omega
    rw [if_neg (by simp; omega)]
    go_enter Try.func11, Try.ntmps11
    go_wp2
    go_ret
    exact ⟨rfl, HB.out⟩
  have g1' : ¬ (key.size : Int) < 1 := by omega
  by_cases g2 : 64 < key.size
  · have g2' : (64 : Int) < (key.size : Int) := by omega
    rw [if_neg (by simp; omega)]
    go_enter Try.func11, Try.ntmps11
    go_wp2
    go_ret
    exact ⟨rfl, HB.out⟩
  have g2' : ¬ (64 : Int) < (key.size : Int) := by omega
  by_cases g3 : seq < 1
  · rw [if_neg (by simp; omega)]
    go_enter Try.func11, Try.ntmps11
    go_wp2
    go_ret
    exact ⟨rfl, HB.out⟩
  by_cases g4 : 1099511627776 < seq
  · rw [if_neg (by simp; omega)]
    go_enter Try.func11, Try.ntmps11
    go_wp2
    go_ret
    exact ⟨rfl, HB.out⟩
  by_cases g5 : 256 < n
  · have g5' : (256 : Int) < (n : Int) := by omega
    rw [if_neg (by simp; omega)]
    go_enter Try.func11, Try.ntmps11
    go_wp2
    go_ret
    exact ⟨rfl, HB.out⟩
  have g5' : ¬ (256 : Int) < (n : Int) := by omega
  cases del with
  | false =>
    rw [if_pos (by simp; omega)]
    go_enter Try.func11, Try.ntmps11
    go_wp2
    go_ret
    exact ⟨rfl, HB.out⟩
  | true =>
    by_cases g6 : 0 < n
    · have g6' : (0 : Int) < (n : Int) := by omega
      rw [if_neg (by simp; omega)]
      go_enter Try.func11, Try.ntmps11
      go_wp2
      go_ret
      exact ⟨rfl, HB.out⟩
    · have g6' : ¬ (0 : Int) < (n : Int) := by omega
      rw [if_pos (by simp; omega)]
      go_enter Try.func11, Try.ntmps11
      go_wp2
      go_ret
      exact ⟨rfl, HB.out⟩
set_option maxRecDepth 100000 in
set_option maxHeartbeats 4000000 in
theorem rcheckI_any (p : Bk.En × Bk.Sl) (w : World) (h : Bk.AtI w p) : Calls Try.prog 12 #[.agg (Bk.cells p).toArray] w fun e w' => e = .returned (.int .i64 (if Bk.ok p.1 then 0 else 100)) ∧ Below w.heap.size w w' := by
  obtain ⟨⟨key, seq, del, val⟩, V, n, c⟩ := p
  obtain ⟨hr, hc, hk, h1, h2, hn⟩ := h
  have hlen : val.length = n := hr.1
  have HB := Lib.hid (show Below w.heap.size w (w.alloc (.cells #[Value.string key, .int .i64 seq, .bool del, .slice V n c] 24)) from (Below.refl _ _).alloc (Nat.le_refl _) _)
  have hok : Bk.ok ⟨key, seq, del, val⟩ = decide (1 ≤ key.size ∧ key.size ≤ 64 ∧ 1 ≤ seq ∧ seq ≤ 1099511627776 ∧ n ≤ 256 ∧ ¬ (del = true ∧ 0 < n)) := by unfold Bk.ok; simp only [hlen]
  show Calls _ _ #[.agg #[.string key, .int .i64 seq, .bool del, .slice V n c]] _ fun e w' => e = .returned (.int .i64 (if Bk.ok ⟨key, seq, del, val⟩ then 0 else 100)) ∧ _
  rw [hok]
  clear hok hr
  by_cases g1 : key.size < 1
  · have g1' : (key.size : Int) < 1 := by omega
    rw [if_neg (by simp; omega)]
    go_enter Try.func12, Try.ntmps12
    go_wp2
    go_ret
    exact ⟨rfl, HB.out⟩
  have g1' : ¬ (key.size : Int) < 1 := by omega
  by_cases g2 : 64 < key.size
  · have g2' : (64 : Int) < (key.size : Int) := by omega
    rw [if_neg (by simp; omega)]
    go_enter Try.func12, Try.ntmps12
    go_wp2
    go_ret
    exact ⟨rfl, HB.out⟩
  have g2' : ¬ (64 : Int) < (key.size : Int) := by omega
  by_cases g3 : seq < 1
  · rw [if_neg (by simp; omega)]
    go_enter Try.func12, Try.ntmps12
    go_wp2
    go_ret
    exact ⟨rfl, HB.out⟩
  by_cases g4 : 1099511627776 < seq
  · rw [if_neg (by simp; omega)]
    go_enter Try.func12, Try.ntmps12
    go_wp2
    go_ret
    exact ⟨rfl, HB.out⟩
  by_cases g5 : 256 < n
  · have g5' : (256 : Int) < (n : Int) := by omega
    rw [if_neg (by simp; omega)]
    go_enter Try.func12, Try.ntmps12
    go_wp2
    go_ret
    exact ⟨rfl, HB.out⟩
  have g5' : ¬ (256 : Int) < (n : Int) := by omega
  cases del with
  | false =>
    rw [if_pos (by simp; omega)]
    go_enter Try.func12, Try.ntmps12
    go_wp2
    go_ret
    exact ⟨rfl, HB.out⟩
  | true =>
    by_cases g6 : 0 < n
    · have g6' : (0 : Int) < (n : Int) := by omega
      rw [if_neg (by simp; omega)]
      go_enter Try.func12, Try.ntmps12
      go_wp2
      go_ret
      exact ⟨rfl, HB.out⟩
    · have g6' : ¬ (0 : Int) < (n : Int) := by omega
      rw [if_pos (by simp; omega)]
      go_enter Try.func12, Try.ntmps12
      go_wp2
      go_ret
      exact ⟨rfl, HB.out⟩
theorem array4 {α : Type} {cs : Array α} (h : cs.size = 4) : ∃ c0 c1 c2 c3, cs = #[c0, c1, c2, c3] := by
  obtain ⟨l⟩ := cs
  match l, h with
  | [c0, c1, c2, c3], _ => exact ⟨c0, c1, c2, c3, rfl⟩
section
variable {H : Type} {enc : TypeId × Value → H} {W : World} {base : Nat} {v : Value} {d : DataW H} {p : List MemPlace}
set_option maxRecDepth 100000 in
set_option maxHeartbeats 2000000 in
theorem open_agg4 {spare : Nat → Bool} {held : Bool} {r : Reach} {b0 : Nat} {t : TypeId} {f0 f1 f2 f3 : Field} (hs : Try.prog.underlying t = some (.struct #[f0, f1, f2, f3])) (hone : oneCellFields Try.prog #[f0, f1, f2, f3] = true) (hC : Try.prog.cellsOf t = 4)
    (hv : Value.okWide Try.prog W r b0 t v) (h : DataW.Trod enc Try.prog W 0 spare held t v d p) :
    ∃ (v0 v1 v2 v3 : Value) (y0 y1 y2 y3 : DataW H × List MemPlace) (n : Nat), v = .agg #[v0, v1, v2, v3] ∧ DataW.trod enc Try.prog W 0 spare held n f0.type [v0] = some y0 ∧ DataW.trod enc Try.prog W 0 spare held n f1.type [v1] = some y1 ∧ DataW.trod enc Try.prog W 0 spare held n f2.type [v2] = some y2 ∧ DataW.trod enc Try.prog W 0 spare held n f3.type [v3] = some y3 := by
  obtain ⟨cs, rfl, hsz⟩ := okWide_struct hs hv
  obtain ⟨v0, v1, v2, v3, rfl⟩ := array4 (hsz.trans hC)
  obtain ⟨fuel, hf⟩ := h
  obtain ⟨xs, n, _, hx, hl, hlen, hf⟩ := DataW.trod_struct hs hf
  obtain ⟨o0, k0⟩ := hone_of hone 0 f0 rfl
  obtain ⟨o1, k1⟩ := hone_of hone 1 f1 rfl
  obtain ⟨o2, k2⟩ := hone_of hone 2 f2 rfl
  obtain ⟨o3, k3⟩ := hone_of hone 3 f3 rfl
  match xs, hlen with
  | [y0, y1, y2, y3], _ => exact ⟨v0, v1, v2, v3, y0, y1, y2, y3, n, rfl, by simpa [Value.cells, o0, k0] using hf 0 f0 rfl, by simpa [Value.cells, o1, k1] using hf 1 f1 rfl, by simpa [Value.cells, o2, k2] using hf 2 f2 rfl, by simpa [Value.cells, o3, k3] using hf 3 f3 rfl⟩
set_option maxRecDepth 100000 in
theorem in_entry (hval : Value.okWide Try.prog W .any base 24 v) (h : Reads enc W 24 v d p) : ∃ x : Bk.En × Bk.Sl, v = .agg (Bk.cells x).toArray ∧ Bk.AtI W x := by
  obtain ⟨v0, v1, v2, v3, _, _, _, y3, m, rfl, h0, h1, h2, h3⟩ := open_agg4 Try.underlying24 (by kernel_rfl) cells_entry hval h
  obtain ⟨k, rfl, hk⟩ := one_str h0
  obtain ⟨q, rfl, q1, q2⟩ := one_int h1
  obtain ⟨t, rfl⟩ := one_bool h2
  obtain ⟨B, n, c, x, rfl, g1, g2, g3⟩ := field_bytes ⟨m, y3, h3⟩
  exact ⟨(⟨k, q, t, x⟩, B, n, c), rfl, g1, g2, hk, by show q < _; omega, q1, g3⟩
end
namespace Bk
theorem cb_vals : ∀ a b : List UInt8, Lib.compareBytes a b = -1 ∨ Lib.compareBytes a b = 0 ∨ Lib.compareBytes a b = 1
  | [], [] => .inr (.inl rfl)
  | [], _ :: _ => .inl rfl
  | _ :: _, [] => .inr (.inr rfl)
  | x :: xs, y :: ys => by
    unfold Lib.compareBytes
    by_cases h1 : x < y
    · rw [if_pos h1]; exact .inl rfl
    · rw [if_neg h1]
      by_cases h2 : y < x
      · rw [if_pos h2]; exact .inr (.inr rfl)
      · rw [if_neg h2]; exact cb_vals xs ys
theorem cmp_vals (a b : En) : cmp a b = -1 ∨ cmp a b = 0 ∨ cmp a b = 1 := by
  unfold cmp
  split
  · exact cb_vals _ _
  · split
    · exact .inl rfl
    · split
      · exact .inr (.inr rfl)
      · exact .inr (.inl rfl)
end Bk
end Go.Proofs.Ytfmbnoafmnbhcaa
