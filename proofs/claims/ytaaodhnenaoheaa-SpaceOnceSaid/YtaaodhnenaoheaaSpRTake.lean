/- The document's Take. -/
import Derived.Test.YtaaodhnenaoheaaSpTurned
namespace Go.Proofs.Ytaaodhnenaoheaa
open Go.RowKit Sp
set_option linter.unusedVariables false
/-- A map of the document, pairs and an error. -/
def GivesTaken (w : World) (A : Option Addr) (T T' : List Bool) (q : Nat) (l : List Int) (c : Int) (e : Ending) (w' : World) : Prop :=
  ∃ (B : Option Addr) (m d : Nat) (C : Option Addr) (d2 : Nat), e = .returned (.tuple #[.agg #[.slice B m d], .slice C q d2, .int .i64 c]) ∧ RdT w' B m T' ∧ (B = A ∨ ∀ a, B = some a → w.heap.size ≤ a.block) ∧ RdC 2 w' C q (iv l) ∧ (0 < q → ∀ g o, C = some ⟨g, o, none⟩ → w.heap.size ≤ g) ∧ Below w.heap.size w w'
set_option maxRecDepth 100000 in
set_option maxHeartbeats 1000000 in
theorem rtake_arg (A : Option Addr) (n cap : Nat) (T : List Bool) (m : Int) (w : World) (h : RdT w A n T) (hm : m < 0 ∨ 64 < m) : Calls Try.prog 22 #[.agg #[.slice A n cap], .int .i64 m] w (GivesTaken w A T T 0 [] 1) := by
  have H := Lib.hid h
  clear h
  rcases hm with hm | hm
  · go_enter Try.func22, Try.ntmps22
    go_wp2_with fail
    refine bodyPost_ret (v := .tuple #[.agg #[.slice A n cap], .slice none 0 0, .int .i64 1]) (by simp [results, Try.results22, go_sem]) rfl ?_
    have hb : Below w.heap.size w ((w.alloc (.cells #[.slice A n cap] 31)).alloc (.cells #[.slice A n cap] 31)) := ((Below.refl _ _).alloc (Nat.le_refl _) _).alloc (by simp) _
    exact ⟨A, n, cap, none, 0, rfl, H.out.below hb, .inl rfl, RdC.nil 2 _ _, (fun h0 => absurd h0 (Nat.lt_irrefl 0)), hb⟩
  · have hm0 : ¬ m < 0 := by omega
    go_enter Try.func22, Try.ntmps22
    go_wp2_with fail
    refine bodyPost_ret (v := .tuple #[.agg #[.slice A n cap], .slice none 0 0, .int .i64 1]) (by simp [results, Try.results22, go_sem]) rfl ?_
    have hb : Below w.heap.size w ((w.alloc (.cells #[.slice A n cap] 31)).alloc (.cells #[.slice A n cap] 31)) := ((Below.refl _ _).alloc (Nat.le_refl _) _).alloc (by simp) _
    exact ⟨A, n, cap, none, 0, rfl, H.out.below hb, .inl rfl, RdC.nil 2 _ _, (fun h0 => absurd h0 (Nat.lt_irrefl 0)), hb⟩
set_option maxRecDepth 100000 in
set_option maxHeartbeats 1000000 in
theorem rtake_space (A : Option Addr) (n cap : Nat) (T : List Bool) (m : Nat) (w : World) (h : RdT w A n T) (hn : n ≤ 511) (hm : m ≤ 64) (hf : free T < 2 * m) : Calls Try.prog 22 #[.agg #[.slice A n cap], .int .i64 (m : Int)] w (GivesTaken w A T T 0 [] 60) := by
  have H := Lib.hid h
  have hfr := fun (v : World) (hv : Below w.heap.size w v) => rfree_any A n cap T v (h.below hv) hn
  have HFr := Lib.hid hfr
  have hm3 : (free T : Int) < 2 * (m : Int) := by omega
  have hm4 : (m : Int) ≤ 64 := by omega
  have hw2 : IntKind.i64.wrap (2 * (m : Int)) = 2 * (m : Int) := by rw [IntKind.wrap_i64]; omega
  have hb : Below w.heap.size w ((w.alloc (.cells #[.slice A n cap] 31)).alloc (.cells #[.slice none 0 0] 31)) := ((Below.refl _ _).alloc (Nat.le_refl _) _).alloc (by simp) _
  have k2 : Holds ((w.alloc (.cells #[.slice A n cap] 31)).alloc (.cells #[.slice none 0 0] 31)) w.heap.size [.slice A n cap] := (Holds.new w #[.slice A n cap] 31).alloc _
  have k4 : Holds ((w.alloc (.cells #[.slice A n cap] 31)).alloc (.cells #[.slice none 0 0] 31)) (w.heap.size + 1) [.slice none 0 0] := by
    have := Holds.new (w.alloc (.cells #[.slice A n cap] 31)) #[.slice none 0 0] 31
    rw [show (w.alloc (.cells #[.slice A n cap] 31)).heap.size = w.heap.size + 1 by simp] at this
    exact this
  have K2 := Lib.hid k2
  have K4 := Lib.hid k4
  clear h hfr hf k2 k4
  go_enter Try.func22, Try.ntmps22
  go_wp2_with fail
  refine (HFr.out _ hb).mono ?_
  rintro e v1 ⟨rfl, hb1⟩
  have k2 := K2.out.below hb1
  have k4 := K4.out.below hb1
  have c2 := k2.at_ 0 rfl
  have c4 := k4.at_ 0 rfl
  have f4 := k4.2.2 0
  have hw1 := hb.trans (hb1.mono hb.size)
  clear k2 k4 hb1 hb
  go_wp2_with fail
  have s4 := World.cell?_setCell_same v1 ⟨w.heap.size + 1, 0, none⟩ (.slice A n cap) c4
  refine bodyPost_ret (v := .tuple #[.agg #[.slice A n cap], .slice none 0 0, .int .i64 60]) (by simp [results, Try.results22, go_sem, s4]) rfl ?_
  have hb5 : Below w.heap.size w (v1.setCell ⟨w.heap.size + 1, 0, none⟩ (.slice A n cap)) := hw1.setCell (by simp) _
  exact ⟨A, n, cap, none, 0, rfl, H.out.below hb5, .inl rfl, RdC.nil 2 _ _, (fun h0 => absurd h0 (Nat.lt_irrefl 0)), hb5⟩
end Go.Proofs.Ytaaodhnenaoheaa
