/- Entries: slices of them, which may be, which of two is ahead: package mem's Check and Compare. -/
import Derived.Test.YtfmbnoafmnbhcaaRowC
import Derived.Test.YtfmbnoafmnbhcaaHolds
import Derived.Test.YtfmbnoafmnbhcaaStr
import Derived.Lib.Bytealg
namespace Go.Proofs.Ytfmbnoafmnbhcaa
open Go.RowKit
namespace Bk
/-- An entry. -/
structure En where
  key : ByteArray
  seq : Int
  del : Bool
  val : List Nat
/-- A value's slice: its address, its length, its capacity. -/
abbrev Sl := Option Addr × Nat × Nat
/-- An entry's cells. -/
def cells (p : En × Sl) : List Value := [.string p.1.key, .int .i64 p.1.seq, .bool p.1.del, .slice p.2.1 p.2.2.1 p.2.2.2]
def flat (es : List (En × Sl)) : List Value := es.flatMap cells
theorem flat_length (es : List (En × Sl)) : (flat es).length = es.length * 4 := by
  induction es with
  | nil => rfl
  | cons v vs ih => show (cells v ++ flat vs).length = _; rw [List.length_append, ih, List.length_cons]; simp [cells]; omega
theorem flat_append (a b : List (En × Sl)) : flat (a ++ b) = flat a ++ flat b := by unfold flat; rw [List.flatMap_append]
theorem flat_at {es : List (En × Sl)} {i j : Nat} {v : En × Sl} {u : Value} (h : es[i]? = some v) (hj : (cells v)[j]? = some u) : (flat es)[i * 4 + j]? = some u := by
  have hj3 : j < 4 := (List.getElem?_eq_some_iff.1 hj).1
  induction es generalizing i with
  | nil => simp at h
  | cons x xs ih =>
    show (cells x ++ flat xs)[i * 4 + j]? = _
    cases i with
    | zero =>
      simp at h
      subst h
      rw [List.getElem?_append_left (by simp [cells]; omega), Nat.zero_mul, Nat.zero_add]
      exact hj
    | succ i =>
      simp only [List.getElem?_cons_succ] at h
      have h4 : (cells x).length = 4 := rfl
      rw [List.getElem?_append_right (by rw [h4]; omega), h4, show (i + 1) * 4 + j - 4 = i * 4 + j by omega]
      exact ih h
/-- An entry whose memory is there. -/
def At (w : World) (p : En × Sl) : Prop := Rd w p.2.1 p.2.2.1 p.1.val ∧ p.2.2.1 ≤ p.2.2.2 ∧ p.1.key.size ≤ 1000000 ∧ p.1.seq < 9223372036854775808 ∧ -9223372036854775808 ≤ p.1.seq ∧ p.2.2.1 ≤ 1000000
theorem At.below {w w' : World} {p : En × Sl} (h : At w p) (hb : Below w.heap.size w w') : At w' p := ⟨h.1.below hb, h.2⟩
/-- May an entry be? -/
def ok (e : En) : Bool := decide (1 ≤ e.key.size ∧ e.key.size ≤ 64 ∧ 1 ≤ e.seq ∧ e.seq ≤ 1099511627776 ∧ e.val.length ≤ 256 ∧ ¬ (e.del = true ∧ 0 < e.val.length))
/-- How two texts stand. -/
def cmpS (a b : ByteArray) : Int := Lib.compareBytes a.data.toList b.data.toList
/-- Which of two entries is ahead. -/
def cmp (a b : En) : Int := if cmpS a.key b.key ≠ 0 then cmpS a.key b.key else if b.seq < a.seq then -1 else if a.seq < b.seq then 1 else 0
end Bk
/-- A slice of entries. -/
def RdE (w : World) (A : Option Addr) (n : Nat) (es : List (Bk.En × Bk.Sl)) : Prop := es.length = n ∧ RdC 4 w A n (Bk.flat es) ∧ ∀ p ∈ es, Bk.At w p
theorem RdE.below {w w' : World} {A : Option Addr} {n : Nat} {es : List (Bk.En × Bk.Sl)} (h : RdE w A n es) (hb : Below w.heap.size w w') : RdE w' A n es := ⟨h.1, h.2.1.below hb, fun p hp => (h.2.2 p hp).below hb⟩
theorem RdE.at_ {w : World} {A : Option Addr} {n k : Nat} {es : List (Bk.En × Bk.Sl)} {v : Bk.En × Bk.Sl} (h : RdE w A n es) (hv : es[k]? = some v) : ∃ b o, A = some ⟨b, o, none⟩ ∧ b < w.heap.size ∧ ∀ j u, (Bk.cells v)[j]? = some u → w.cell? ⟨b, o + (k * 4 + j), none⟩ = some u := by
  have hk : k < n := by rw [← h.1]; exact (List.getElem?_eq_some_iff.1 hv).1
  obtain ⟨b, o, rfl, hb, hc⟩ := h.2.1.2 (by omega)
  exact ⟨b, o, rfl, hb, fun j u hu => hc _ u (Bk.flat_at hv hu)⟩
set_option maxRecDepth 100000 in
set_option maxHeartbeats 4000000 in
theorem check_any (p : Bk.En × Bk.Sl) (w : World) (h : Bk.At w p) : Calls Try.prog 11 #[.agg (Bk.cells p).toArray] w fun e w' => e = .returned (.int .i64 (if Bk.ok p.1 then 0 else 100)) ∧ Below w.heap.size w w' := by
  obtain ⟨⟨key, seq, del, val⟩, V, n, c⟩ := p
  obtain ⟨hr, hc, hk, h1, h2, hn⟩ := h
  have hlen : val.length = n := hr.1
  have HB := Lib.hid (show Below w.heap.size w (w.alloc (.cells #[Value.string key, .int .i64 seq, .bool del, .slice V n c] 24)) from (Below.refl _ _).alloc (Nat.le_refl _) _)
  have hok : Bk.ok ⟨key, seq, del, val⟩ = decide (1 ≤ key.size ∧ key.size ≤ 64 ∧ 1 ≤ seq ∧ seq ≤ 1099511627776 ∧ n ≤ 256 ∧ ¬ (del = true ∧ 0 < n)) := by unfold Bk.ok; simp only [hlen]
  show Calls _ _ #[.agg #[.string key, .int .i64 seq, .bool del, .slice V n c]] _ fun e w' => e = .returned (.int .i64 (if Bk.ok ⟨key, seq, del, val⟩ then 0 else 100)) ∧ _
  rw [hok]
  clear hok hr
  by_cases g1 : key.size < 1
  · have g1' : (key.size : Int) < 1 := by omega
    rw [if_neg (by simp; omega)]
    go_enter Try.func11, Try.ntmps11
    go_wp2
    go_ret
    exact ⟨rfl, HB.out⟩
  have g1' : ¬ (key.size : Int) < 1 := by omega
  by_cases g2 : 64 < key.size
  · have g2' : (64 : Int) < (key.size : Int) := by omega
    rw [if_neg (by simp; omega)]
    go_enter Try.func11, Try.ntmps11
    go_wp2
    go_ret
    exact ⟨rfl, HB.out⟩
  have g2' : ¬ (64 : Int) < (key.size : Int) := by omega
  by_cases g3 : seq < 1
  · rw [if_neg (by simp; omega)]
    go_enter Try.func11, Try.ntmps11
    go_wp2
    go_ret
    exact ⟨rfl, HB.out⟩
  by_cases g4 : 1099511627776 < seq
  · rw [if_neg (by simp; omega)]
    go_enter Try.func11, Try.ntmps11
    go_wp2
    go_ret
    exact ⟨rfl, HB.out⟩
  by_cases g5 : 256 < n
  · have g5' : (256 : Int) < (n : Int) := by omega
    rw [if_neg (by simp; omega)]
    go_enter Try.func11, Try.ntmps11
    go_wp2
    go_ret
    exact ⟨rfl, HB.out⟩
  have g5' : ¬ (256 : Int) < (n : Int) := by omega
  cases del with
  | false =>
    rw [if_pos (by simp; omega)]
    go_enter Try.func11, Try.ntmps11
    go_wp2
    go_ret
    exact ⟨rfl, HB.out⟩
  | true =>
    by_cases g6 : 0 < n
    · have g6' : (0 : Int) < (n : Int) := by omega
      rw [if_neg (by simp; omega)]
      go_enter Try.func11, Try.ntmps11
      go_wp2
      go_ret
      exact ⟨rfl, HB.out⟩
    · have g6' : ¬ (0 : Int) < (n : Int) := by omega
      rw [if_pos (by simp; omega)]
      go_enter Try.func11, Try.ntmps11
      go_wp2
      go_ret
      exact ⟨rfl, HB.out⟩
set_option maxRecDepth 100000 in
theorem cmpstring_run (a b : ByteArray) (w : World) : (callFunc 47 #[.string a, .string b]).run Try.prog w = .ok (.value (.int .i64 (Bk.cmpS a b))) w := by
  rw [run_callFunc_extern Try.func47 (by kernel_rfl) (by kernel_rfl) (by kernel_rfl) (show Extern.find _ = some Extern.BytealgCompare.compare by kernel_rfl)]
  rw [Lib.run_compareString]
  rfl
end Go.Proofs.Ytfmbnoafmnbhcaa
