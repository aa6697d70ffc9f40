/- A map of plots behind a pointer: what its methods that ask and turn return. -/
import Derived.Test.YtaaodhnenaoheaaSpBits
import Derived.Test.YtaaodhnenaoheaaHolds
namespace Go.Proofs.Ytaaodhnenaoheaa
open Go.RowKit
set_option linter.unusedVariables false
namespace Sp
def cells (T : List Bool) (xs : List Nat) : List Value := .bool true :: .int .i64 (T.length : Int) :: xs.map fun (x : Nat) => .int .u64 (x : Int)
/-- Block b is a map of these plots. -/
def MapAt (w : World) (b : Nat) (T : List Bool) : Prop := ∃ xs, Bits xs T ∧ Holds w b (cells T xs)
theorem MapAt.below {w w' : World} {b : Nat} {T : List Bool} (h : MapAt w b T) (hb : Below w.heap.size w w') : MapAt w' b T := by
  obtain ⟨xs, h1, h2⟩ := h
  exact ⟨xs, h1, h2.below hb⟩
theorem MapAt.few {w : World} {b : Nat} {T : List Bool} (h : MapAt w b T) : T.length ≤ 511 := by
  obtain ⟨xs, h1, h2⟩ := h
  exact h1.few
theorem MapAt.lt {w : World} {b : Nat} {T : List Bool} (h : MapAt w b T) : b < w.heap.size := by
  obtain ⟨xs, h1, h2⟩ := h
  exact h2.1
theorem MapAt.made {w : World} {b : Nat} {T : List Bool} (h : MapAt w b T) : w.cell? ⟨b, 0, none⟩ = some (.bool true) := by
  obtain ⟨xs, h1, h2⟩ := h
  exact h2.at_ 0 rfl
theorem MapAt.plots {w : World} {b : Nat} {T : List Bool} (h : MapAt w b T) : w.cell? ⟨b, 1, none⟩ = some (.int .i64 (T.length : Int)) := by
  obtain ⟨xs, h1, h2⟩ := h
  exact h2.at_ 1 rfl
theorem MapAt.word {w : World} {b : Nat} {T : List Bool} (h : MapAt w b T) {p : Nat} (hp : p < T.length) : ∃ x : Nat, w.cell? ⟨b, 2 + p / 64, none⟩ = some (.int .u64 (x : Int)) ∧ x < 18446744073709551616 ∧ x / 2 ^ (p % 64) % 2 = (if T.getD p false then 1 else 0) ∧
    w.frozen? ⟨b, 2 + p / 64, none⟩ = false ∧ MapAt (w.setCell ⟨b, 2 + p / 64, none⟩ (.int .u64 ((x ^^^ 2 ^ (p % 64) : Nat) : Int))) b (T.set p (!T.getD p false)) := by
  obtain ⟨xs, h1, h2⟩ := h
  obtain ⟨x, hx, hlt, hbit⟩ := h1.word hp
  have hi : 2 + p / 64 < (cells T xs).length := by
    have := h1.few
    simp only [cells, List.length_cons, List.length_map, h1.len]; omega
  refine ⟨x, h2.at_ (2 + p / 64) ?_, hlt, hbit, h2.2.2 _, _, h1.turn hp hx, ?_⟩
  · rw [Nat.add_comm]
    simp [cells, hx]
  · have h3 := h2.set (2 + p / 64) (.int .u64 ((x ^^^ 2 ^ (p % 64) : Nat) : Int)) hi
    have e : (cells T xs).set (2 + p / 64) (.int .u64 ((x ^^^ 2 ^ (p % 64) : Nat) : Int)) = cells (T.set p (!T.getD p false)) (xs.set (p / 64) (x ^^^ 2 ^ (p % 64))) := by
      rw [Nat.add_comm]
      simp [cells, List.map_set]
    rw [e] at h3
    exact h3
end Sp
open Sp
set_option maxRecDepth 100000 in
theorem isMade_nil (w : World) : Calls Try.prog 30 #[.pointer none] w fun e w' => e = .returned (.bool false) ∧ w = w' := by
  go_enter Try.func30, Try.ntmps30
  go_wp2
  go_ret
  exact ⟨rfl, rfl⟩
set_option maxRecDepth 100000 in
theorem isMade_any (b : Nat) (m : Bool) (w : World) (h : w.cell? ⟨b, 0, none⟩ = some (.bool m)) : Calls Try.prog 30 #[.pointer (some ⟨b, 0, none⟩)] w fun e w' => e = .returned (.bool m) ∧ w = w' := by
  go_enter Try.func30, Try.ntmps30
  go_wp2
  go_ret
  exact ⟨rfl, rfl⟩
set_option maxRecDepth 100000 in
theorem len_any (b : Nat) (T : List Bool) (w : World) (h : MapAt w b T) : Calls Try.prog 25 #[.pointer (some ⟨b, 0, none⟩)] w fun e w' => e = .returned (.int .i64 (T.length : Int)) ∧ w = w' := by
  have h0 := isMade_any b true w h.made
  have H0 := Lib.hid h0
  have h1 := h.plots
  generalize T.length = n at *
  clear h0 h
  go_enter Try.func25, Try.ntmps25
  go_wp2_with (first | (go_at_call 30; refine H0.out.mono ?_; rintro e w' ⟨rfl, rfl⟩))
  go_ret
  exact ⟨rfl, rfl⟩
set_option maxRecDepth 100000 in
theorem has_any (b : Nat) (T : List Bool) (p : Nat) (w : World) (h : MapAt w b T) (hp : p < T.length) : Calls Try.prog 36 #[.pointer (some ⟨b, 0, none⟩), .int .i64 (p : Int)] w fun e w' => e = .returned (.bool (T.getD p false)) ∧ w = w' := by
  obtain ⟨x, hc, hx, hb, _, _⟩ := h.word hp
  have hf := h.few
  have hp2 : p < 511 := by omega
  have hd0 : (0 : Int) ≤ (p : Int) / 64 := by omega
  have hdq : (p : Int) / 64 < 8 := by omega
  have hB := bit_one x (p % 64) _ hx hb
  clear h hp hf hb
  generalize T.getD p false = t at *
  go_enter Try.func36, Try.ntmps36
  go_wp2
  go_ret
  exact ⟨rfl, rfl⟩
/-- Only block b, and new ones, may be other. -/
def Ch (b : Nat) (w w' : World) : Prop := w.grownBy w' (some b)
theorem Ch.refl (b : Nat) (w : World) : Ch b w w := World.grownBy.refl w _
theorem Ch.size {b : Nat} {w w' : World} (h : Ch b w w') : w.heap.size ≤ w'.heap.size := World.grownBy.size h
theorem Ch.trans {b : Nat} {w v u : World} (h : Ch b w v) (k : Ch b v u) : Ch b w u :=
  ⟨(World.grownBy.os k).trans (World.grownBy.os h), (World.grownBy.tape k).trans (World.grownBy.tape h), (World.grownBy.output k).trans (World.grownBy.output h), Nat.le_trans h.size k.size, fun i hi hne => (World.grownBy.block k i (Nat.lt_of_lt_of_le hi h.size) hne).trans (World.grownBy.block h i hi hne)⟩
theorem Ch.of_below {b : Nat} {w w' : World} (h : Below w.heap.size w w') : Ch b w w' := ⟨h.os, h.tape, h.output, h.size, fun k hk _ => h.block k hk⟩
theorem Ch.of_new {b : Nat} {w w' : World} {row : Option Nat} (h : w.grownBy w' row) (hr : ∀ g, row = some g → w.heap.size ≤ g) : Ch b w w' := ⟨h.os, h.tape, h.output, h.size, fun k hk _ => h.block k hk (fun e => by have := hr k e.symm; omega)⟩
theorem Ch.set (b i : Nat) (w : World) (v : Value) : Ch b w (w.setCell ⟨b, i, none⟩ v) := ⟨rfl, rfl, rfl, by simp [World.setCell], fun k hk hne => Below.heap_setCell _ _ _ _ (fun e => hne (by rw [e]))⟩
theorem Ch.drew {b : Nat} {w w' : World} (h : Ch b w w') : Ch b w w'.drew := h.trans (Ch.of_below (Below.refl _ _).drew)
theorem Ch.alloc {b : Nat} {w w' : World} (h : Ch b w w') (o : Obj) : Ch b w (w'.alloc o) := h.trans (World.grownBy_alloc w' o _)
theorem Ch.below {b B : Nat} {a w w' : World} (h : Ch b w w') (ha : Below B a w) (hB : B ≤ b) (hs : B ≤ w.heap.size) : Below B a w' :=
  ha.grown h hs (fun k hk => by injection hk with hk; omega)
theorem Ch.cell {b : Nat} {w w' : World} (h : Ch b w w') {p : Addr} (hp : p.block < w.heap.size) (hne : p.block ≠ b) : w'.cell? p = w.cell? p := World.grownBy.cell_far h p hp (fun e => hne (by injection e))
theorem Ch.frozen {b : Nat} {w w' : World} (h : Ch b w w') {p : Addr} (hp : p.block < w.heap.size) (hne : p.block ≠ b) : w'.frozen? p = w.frozen? p := World.grownBy.frozen_far h p hp (fun e => hne (by injection e))
theorem Holds.ch {b c : Nat} {w w' : World} {cs : List Value} (k : Holds w c cs) (h : Ch b w w') (hne : c ≠ b) : Holds w' c cs :=
  ⟨Nat.lt_of_lt_of_le k.1 h.size, fun i v hv => (h.cell (p := ⟨c, i, none⟩) k.1 hne).trans (k.2.1 i v hv), fun i => (h.frozen (p := ⟨c, i, none⟩) k.1 hne).trans (k.2.2 i)⟩
theorem Sp.MapAt.ch {b c : Nat} {w w' : World} {T : List Bool} (k : MapAt w c T) (h : Ch b w w') (hne : c ≠ b) : MapAt w' c T := by
  obtain ⟨xs, h1, h2⟩ := k
  exact ⟨xs, h1, h2.ch h hne⟩
set_option maxRecDepth 100000 in
set_option maxHeartbeats 400000 in
theorem turn_any (b : Nat) (T : List Bool) (p : Nat) (w : World) (h : MapAt w b T) (hp : p < T.length) : Calls Try.prog 37 #[.pointer (some ⟨b, 0, none⟩), .int .i64 (p : Int)] w fun e w' => e = .returned (.tuple #[]) ∧ Ch b w w' ∧ MapAt w' b (T.set p (!T.getD p false)) := by
  obtain ⟨x, hc, hx, hb, hfr, hm⟩ := h.word hp
  have hf := h.few
  have hp2 : p < 511 := by omega
  have hd0 : (0 : Int) ≤ (p : Int) / 64 := by omega
  have hdq : (p : Int) / 64 < 8 := by omega
  clear h hp hf hb
  have Hm := Lib.hid hm
  clear hm
  go_enter Try.func37, Try.ntmps37
  go_wp2
  go_region
  go_end0
  refine ⟨rfl, (Ch.set b _ w _).drew, ?_⟩
  rw [xor_bit x _ hx (Nat.mod_lt _ (by omega))]
  exact Hm.out.below (Below.refl _ _).drew
end Go.Proofs.Ytaaodhnenaoheaa
