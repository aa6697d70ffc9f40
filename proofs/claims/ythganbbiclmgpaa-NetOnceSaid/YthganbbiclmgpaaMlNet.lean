/- A net's mails: what it holds, and what stands beside it; whether a mail may be. -/
import Derived.Test.YthganbbiclmgpaaMlBase
import Derived.Deep.RegionHeldLaw
namespace Go.Proofs.Ythganbbiclmgpaa
open Go.RowKit
namespace Ml
/-- A mail. -/
structure M where
  f : Int
  t : Int
  s : ByteArray
  deriving DecidableEq
def cells (m : M) : List Value := [.int .i64 m.f, .int .i64 m.t, .string m.s]
def zero : M := ⟨0, 0, ⟨#[]⟩⟩
def flat (l : List M) : List Value := l.flatMap cells
theorem flat_length (l : List M) : (flat l).length = l.length * 3 := by
  induction l with
  | nil => rfl
  | cons v vs ih => show (cells v ++ flat vs).length = _; rw [List.length_append, ih, List.length_cons]; simp [cells]; omega
theorem flat_append (a b : List M) : flat (a ++ b) = flat a ++ flat b := by unfold flat; rw [List.flatMap_append]
theorem flat_at {l : List M} {i j : Nat} {v : M} {u : Value} (h : l[i]? = some v) (hj : (cells v)[j]? = some u) : (flat l)[i * 3 + j]? = some u := by
  have hj3 : j < 3 := (List.getElem?_eq_some_iff.1 hj).1
  induction l generalizing i with
  | nil => simp at h
  | cons x xs ih =>
    show (cells x ++ flat xs)[i * 3 + j]? = _
    cases i with
    | zero =>
      simp at h
      subst h
      rw [List.getElem?_append_left (by simp [cells]; omega), Nat.zero_mul, Nat.zero_add]
      exact hj
    | succ i =>
      simp only [List.getElem?_cons_succ] at h
      have h3 : (cells x).length = 3 := rfl
      rw [List.getElem?_append_right (by rw [h3]; omega), h3, show (i + 1) * 3 + j - 3 = i * 3 + j by omega]
      exact ih h
theorem flat_take (l : List M) (k : Nat) : (flat l).take (k * 3) = flat (l.take k) := by
  induction l generalizing k with
  | nil => simp [flat]
  | cons x xs ih =>
    cases k with
    | zero => simp [flat]
    | succ k =>
      show (cells x ++ flat xs).take ((k + 1) * 3) = cells x ++ flat (xs.take k)
      have h3 : (cells x).length = 3 := rfl
      rw [List.take_append, List.take_of_length_le (by rw [h3]; omega), h3, show (k + 1) * 3 - 3 = k * 3 by omega, ih]
theorem flat_drop (l : List M) (k : Nat) : (flat l).drop (k * 3) = flat (l.drop k) := by
  induction l generalizing k with
  | nil => simp [flat]
  | cons x xs ih =>
    cases k with
    | zero => simp
    | succ k =>
      show (cells x ++ flat xs).drop ((k + 1) * 3) = flat (xs.drop k)
      have h3 : (cells x).length = 3 := rfl
      rw [List.drop_append, List.drop_of_length_le (by rw [h3]; omega), h3, show (k + 1) * 3 - 3 = k * 3 by omega, ih, List.nil_append]
/-- May a mail be? -/
def ok (m : M) : Bool := decide (0 ≤ m.f ∧ m.f ≤ 15 ∧ 0 ≤ m.t ∧ m.t ≤ 15 ∧ m.f ≠ m.t ∧ m.s.size ≤ 4096)
/-- The cells of no mail. -/
theorem cells_one (x : M) : ∀ u ∈ cells x, u.oneCell' = true := by
  intro u hu
  simp only [cells, List.mem_cons, List.not_mem_nil, or_false] at hu
  rcases hu with rfl | rfl | rfl <;> rfl
end Ml
/-- A slice of mails. -/
def RdM (w : World) (A : Option Addr) (n : Nat) (l : List Ml.M) : Prop := l.length = n ∧ RdC 3 w A n (Ml.flat l)
theorem RdM.below {w w' : World} {A : Option Addr} {n : Nat} {l : List Ml.M} (h : RdM w A n l) (hb : Below w.heap.size w w') : RdM w' A n l := ⟨h.1, h.2.below hb⟩
theorem RdM.at_ {w : World} {A : Option Addr} {n k : Nat} {l : List Ml.M} {v : Ml.M} (h : RdM w A n l) (hv : l[k]? = some v) : ∃ b o, A = some ⟨b, o, none⟩ ∧ b < w.heap.size ∧ ∀ j u, (Ml.cells v)[j]? = some u → w.cell? ⟨b, o + (k * 3 + j), none⟩ = some u := by
  have hk : k < n := by rw [← h.1]; exact (List.getElem?_eq_some_iff.1 hv).1
  obtain ⟨b, o, rfl, hb, hc⟩ := h.2.2 (by omega)
  exact ⟨b, o, rfl, hb, fun j u hu => hc _ u (Ml.flat_at hv hu)⟩
set_option maxRecDepth 100000 in
theorem manyM : Many 3 26 28 (.agg #[.int .i64 0, .int .i64 0, .string ⟨#[]⟩]) 32 := ⟨by kernel_rfl, Try.underlying26, rfl, by omega, by omega⟩
set_option maxRecDepth 100000 in
theorem manyR : Many 3 75 28 (.agg #[.int .i64 0, .int .i64 0, .string ⟨#[]⟩]) 32 := ⟨by kernel_rfl, Try.underlying75, rfl, by omega, by omega⟩
/-- A net with these mails. -/
structure NetIs (w : World) (g : Nat) (A : Option Addr) (cap : Nat) (l : List Ml.M) : Prop where
  box : Holds w g [.bool true, .slice A l.length cap]
  row : OwnC 3 w (g + 1) 28 A l.length cap (Ml.flat l)
/-- The net's block and its row may change, and new ones come; nothing else. -/
structure Ch2 (g : Nat) (o : Option Nat) (w w' : World) : Prop where
  os : w'.os = w.os
  tape : w'.tape = w.tape
  output : w'.output = w.output
  size : w.heap.size ≤ w'.heap.size
  block : ∀ k, k < w.heap.size → k ≠ g → o ≠ some k → w'.heap[k]? = w.heap[k]?
/-- What a call makes of a net. -/
structure Moved (g : Nat) (A : Option Addr) (cap : Nat) (l : List Ml.M) (w : World) (A' : Option Addr) (cap' : Nat) (l' : List Ml.M) (w' : World) : Prop where
  net : NetIs w' g A' cap' l'
  ch : Ch2 g (Value.slice A l.length cap).ownBlock w w'
  blk : ∀ k, (Value.slice A' l'.length cap').ownBlock = some k → (Value.slice A l.length cap).ownBlock = some k ∨ w.heap.size ≤ k
section
variable {g cap cap' cap'' : Nat} {A A' A'' : Option Addr} {l l' l'' : List Ml.M} {w w' w'' : World}
theorem NetIs.below (h : NetIs w g A cap l) (hb : Below w.heap.size w w') : NetIs w' g A cap l := ⟨h.box.below hb, h.row.below hb⟩
theorem NetIs.rd (h : NetIs w g A cap l) : RdM w A l.length l := ⟨rfl, h.row.rd⟩
theorem Moved.here (h : NetIs w g A cap l) : Moved g A cap l w A cap l w := ⟨h, ⟨rfl, rfl, rfl, Nat.le_refl _, fun _ _ _ _ => rfl⟩, fun _ h => .inl h⟩
theorem Moved.then (h : Moved g A cap l w A' cap' l' w') (h2 : Moved g A' cap' l' w' A'' cap'' l'' w'') : Moved g A cap l w A'' cap'' l'' w'' :=
  ⟨h2.net, ⟨h2.ch.os.trans h.ch.os, h2.ch.tape.trans h.ch.tape, h2.ch.output.trans h.ch.output, Nat.le_trans h.ch.size h2.ch.size, fun k h1 h3 h4 => by
    have hs := h.ch.size
    rw [h2.ch.block k (by omega) h3 (fun e => by
      rcases h.blk k e with e2 | e2
      · exact h4 e2
      · omega)]
    exact h.ch.block k h1 h3 h4⟩, fun k e => by
    have hs := h.ch.size
    rcases h2.blk k e with e2 | e2
    · exact h.blk k e2
    · exact .inr (by omega)⟩
theorem Moved.below (h : Moved g A cap l w A' cap' l' w') (hb : Below w'.heap.size w' w'') : Moved g A cap l w A' cap' l' w'' :=
  h.then ⟨h.net.below hb, ⟨hb.os, hb.tape, hb.output, hb.size, fun k hk _ _ => hb.block k hk⟩, fun _ h => .inl h⟩
theorem Ch2.cell {o : Option Nat} (h : Ch2 g o w w') {b i : Nat} (h1 : b < w.heap.size) (h2 : b ≠ g) (h3 : o ≠ some b) : w'.cell? ⟨b, i, none⟩ = w.cell? ⟨b, i, none⟩ := by
  have := h.block b h1 h2 h3
  unfold World.cell?
  rw [this]
theorem Ch2.low {o : Option Nat} (h : Ch2 g o w w') {B : Nat} {z : World} (hb : Below B z w) (h1 : B ≤ g) (h2 : ∀ k, o = some k → B ≤ k) (hs : B ≤ w.heap.size) : Below B z w' :=
  hb.trans ⟨h.os, h.tape, h.output, h.size, fun k hk => h.block k (by omega) (by omega) (fun e => by have := h2 k e; omega)⟩
theorem RdM.moved {n : Nat} {B : Option Addr} {k : List Ml.M} (h : RdM w B n k) (hm : Moved g A cap l w A' cap' l' w') (hne : 0 < n → ∀ b o, B = some ⟨b, o, none⟩ → b ≠ g ∧ (Value.slice A l.length cap).ownBlock ≠ some b) : RdM w' B n k := by
  refine ⟨h.1, h.2.1, fun hn => ?_⟩
  obtain ⟨b, o, rfl, hb, hc⟩ := h.2.2 hn
  have hs := hm.ch.size
  exact ⟨b, o, rfl, by omega, fun j x hx => (hm.ch.cell hb (hne hn b o rfl).1 (hne hn b o rfl).2).trans (hc j x hx)⟩
end
set_option maxRecDepth 100000 in
theorem isend_any (n : Int) (w : World) : Calls Try.prog 40 #[.int .i64 n] w fun e w' => e = .returned (.bool (decide (0 ≤ n ∧ n ≤ 15))) ∧ w = w' := by
  by_cases h1 : 0 ≤ n
  · by_cases h2 : n ≤ 15
    · rw [decide_eq_true ⟨h1, h2⟩]
      go_enter Try.func40, Try.ntmps40
      go_wp2
      go_ret
      exact ⟨rfl, rfl⟩
    · rw [decide_eq_false (fun h => h2 h.2)]
      go_enter Try.func40, Try.ntmps40
      go_wp2
      go_ret
      exact ⟨rfl, rfl⟩
  · rw [decide_eq_false (fun h => h1 h.1)]
    go_enter Try.func40, Try.ntmps40
    go_wp2
    go_ret
    exact ⟨rfl, rfl⟩
set_option maxRecDepth 100000 in
set_option maxHeartbeats 2000000 in
theorem maybe_any (m : Ml.M) (w : World) : Calls Try.prog 34 #[.agg (Ml.cells m).toArray] w fun e w' => e = .returned (.bool (Ml.ok m)) ∧ Below w.heap.size w w' := by
  obtain ⟨f, t, s⟩ := m
  have HB := Lib.hid (show Below w.heap.size w (w.alloc (.cells #[Value.int .i64 f, .int .i64 t, .string s] 28)) from (Below.refl _ _).alloc (Nat.le_refl _) _)
  have He := Lib.hid (fun (n : Int) (w : World) => isend_any n w)
  show Calls _ _ #[.agg #[.int .i64 f, .int .i64 t, .string s]] _ fun e w' => e = .returned (.bool (decide (0 ≤ f ∧ f ≤ 15 ∧ 0 ≤ t ∧ t ≤ 15 ∧ f ≠ t ∧ s.size ≤ 4096))) ∧ _
  by_cases h1 : 0 ≤ f ∧ f ≤ 15
  · by_cases h2 : 0 ≤ t ∧ t ≤ 15
    · by_cases h3 : f = t
      · subst h3
        have h3b : (f != f) = false := by simp
        rw [decide_eq_false (fun h => h.2.2.2.2.1 rfl)]
        go_enter Try.func34, Try.ntmps34
        go_wp2_with fail
        refine (He.out f _).mono ?_
        rintro e w1 ⟨rfl, rfl⟩
        rw [decide_eq_true h1]
        go_wp2_with fail
        refine (He.out f _).mono ?_
        rintro e w1 ⟨rfl, rfl⟩
        rw [decide_eq_true h2]
        go_wp2
        go_ret
        exact ⟨rfl, HB.out⟩
      · have h3b : (f != t) = true := by simp [h3]
        by_cases h4 : s.size ≤ 4096
        · have h4i : (s.size : Int) ≤ 4096 := by omega
          rw [decide_eq_true ⟨h1.1, h1.2, h2.1, h2.2, h3, h4⟩]
          go_enter Try.func34, Try.ntmps34
          go_wp2_with fail
          refine (He.out f _).mono ?_
          rintro e w1 ⟨rfl, rfl⟩
          rw [decide_eq_true h1]
          go_wp2_with fail
          refine (He.out t _).mono ?_
          rintro e w1 ⟨rfl, rfl⟩
          rw [decide_eq_true h2]
          go_wp2
          go_ret
          exact ⟨rfl, HB.out⟩
        · have h4i : ¬ (s.size : Int) ≤ 4096 := by omega
          rw [decide_eq_false (fun h => h4 h.2.2.2.2.2)]
          go_enter Try.func34, Try.ntmps34
          go_wp2_with fail
          refine (He.out f _).mono ?_
          rintro e w1 ⟨rfl, rfl⟩
          rw [decide_eq_true h1]
          go_wp2_with fail
          refine (He.out t _).mono ?_
          rintro e w1 ⟨rfl, rfl⟩
          rw [decide_eq_true h2]
          go_wp2
          go_ret
          exact ⟨by show Ending.returned (.bool (decide ((s.size : Int) ≤ 4096))) = _; rw [decide_eq_false (by omega)], HB.out⟩
    · rw [decide_eq_false (fun h => h2 ⟨h.2.2.1, h.2.2.2.1⟩)]
      go_enter Try.func34, Try.ntmps34
      go_wp2_with fail
      refine (He.out f _).mono ?_
      rintro e w1 ⟨rfl, rfl⟩
      rw [decide_eq_true h1]
      go_wp2_with fail
      refine (He.out t _).mono ?_
      rintro e w1 ⟨rfl, rfl⟩
      rw [decide_eq_false h2]
      go_wp2
      go_ret
      exact ⟨rfl, HB.out⟩
  · rw [decide_eq_false (fun h => h1 ⟨h.1, h.2.1⟩)]
    go_enter Try.func34, Try.ntmps34
    go_wp2_with fail
    refine (He.out f _).mono ?_
    rintro e w1 ⟨rfl, rfl⟩
    rw [decide_eq_false h1]
    go_wp2
    go_ret
    exact ⟨rfl, HB.out⟩
set_option maxRecDepth 100000 in
theorem ismade_any (g : Nat) (t : Bool) (v : Value) (w : World) (h : Holds w g [.bool t, v]) : Calls Try.prog 33 #[.pointer (some ⟨g, 0, none⟩)] w fun e w' => e = .returned (.bool t) ∧ w = w' := by
  have c0 := h.at_ 0 rfl
  clear h
  go_enter Try.func33, Try.ntmps33
  go_wp2
  go_ret
  exact ⟨rfl, rfl⟩
set_option maxRecDepth 100000 in
theorem ismade_nil (w : World) : Calls Try.prog 33 #[.pointer none] w fun e w' => e = .returned (.bool false) ∧ w = w' := by
  go_enter Try.func33, Try.ntmps33
  go_wp2
  go_ret
  exact ⟨rfl, rfl⟩
end Go.Proofs.Ythganbbiclmgpaa
