/- The document's request of a kind and fields. -/
import Derived.Test.YtonjjihbpeblkaaRfRow
namespace Go.Proofs.Ytonjjihbpeblkaa
open Go.RowKit
set_option maxRecDepth 100000 in
set_option maxHeartbeats 8000000 in
theorem made_1 (A : Option Addr) (c : Nat) (s : ByteArray) (x1 : Int) (w : World) (hD : RdF w A 2 [.string s, .int .i64 x1]) :
    Calls Try.prog 30 #[.int .i64 1, .slice A 2 c] w fun e w' => e = .returned (.agg #[.int .i64 1, .string s, .int .i64 0, .int .i64 x1, .int .i64 0, .int .i64 0, .int .i64 0]) ∧ Below w.heap.size w w' := by
  obtain ⟨db, do_, rfl, hdb, _⟩ := hD.at_ (k := 0) rfl
  have a0 : ∀ X Y, ((w.alloc X).alloc Y).cell? ⟨db, do_ + 2, none⟩ = some (.string s) := fun X Y => by
    have hb : Below w.heap.size w ((w.alloc X).alloc Y) := ((Below.refl _ _).alloc (Nat.le_refl _) X).alloc (by simp) Y
    refine (hb.cell (p := ⟨db, do_ + 2, none⟩) hdb).trans ?_
    obtain ⟨b', o', e', _, hc'⟩ := hD.at_ (k := 0) rfl
    injection e' with e'; injection e' with e1 e2; subst e1 e2
    exact hc' 2 _ rfl
  have a1 : ∀ X Y, ((w.alloc X).alloc Y).cell? ⟨db, do_ + 3 + 1, none⟩ = some (.int .i64 x1) := fun X Y => by
    have hb : Below w.heap.size w ((w.alloc X).alloc Y) := ((Below.refl _ _).alloc (Nat.le_refl _) X).alloc (by simp) Y
    refine (hb.cell (p := ⟨db, do_ + 3 + 1, none⟩) hdb).trans ?_
    obtain ⟨b', o', e', _, hc'⟩ := hD.at_ (k := 1) rfl
    injection e' with e'; injection e' with e1 e2; subst e1 e2
    exact hc' 1 _ rfl
  clear hD
  go_enter Try.func30, Try.ntmps30
  go_wp2
  exact ⟨rfl, .agg #[.int .i64 1, .string s, .int .i64 0, .int .i64 x1, .int .i64 0, .int .i64 0, .int .i64 0], by simp [results, Try.results30, go_sem], rfl, ((Below.refl _ _).alloc (Nat.le_refl _) _).alloc (by simp) _⟩
set_option maxRecDepth 100000 in
set_option maxHeartbeats 8000000 in
theorem made_2 (A : Option Addr) (c : Nat) (s : ByteArray) (x1 : Int) (w : World) (hD : RdF w A 2 [.string s, .int .i64 x1]) :
    Calls Try.prog 30 #[.int .i64 2, .slice A 2 c] w fun e w' => e = .returned (.agg #[.int .i64 2, .string s, .int .i64 0, .int .i64 x1, .int .i64 0, .int .i64 0, .int .i64 0]) ∧ Below w.heap.size w w' := by
  obtain ⟨db, do_, rfl, hdb, _⟩ := hD.at_ (k := 0) rfl
  have a0 : ∀ X Y, ((w.alloc X).alloc Y).cell? ⟨db, do_ + 2, none⟩ = some (.string s) := fun X Y => by
    have hb : Below w.heap.size w ((w.alloc X).alloc Y) := ((Below.refl _ _).alloc (Nat.le_refl _) X).alloc (by simp) Y
    refine (hb.cell (p := ⟨db, do_ + 2, none⟩) hdb).trans ?_
    obtain ⟨b', o', e', _, hc'⟩ := hD.at_ (k := 0) rfl
    injection e' with e'; injection e' with e1 e2; subst e1 e2
    exact hc' 2 _ rfl
  have a1 : ∀ X Y, ((w.alloc X).alloc Y).cell? ⟨db, do_ + 3 + 1, none⟩ = some (.int .i64 x1) := fun X Y => by
    have hb : Below w.heap.size w ((w.alloc X).alloc Y) := ((Below.refl _ _).alloc (Nat.le_refl _) X).alloc (by simp) Y
    refine (hb.cell (p := ⟨db, do_ + 3 + 1, none⟩) hdb).trans ?_
    obtain ⟨b', o', e', _, hc'⟩ := hD.at_ (k := 1) rfl
    injection e' with e'; injection e' with e1 e2; subst e1 e2
    exact hc' 1 _ rfl
  clear hD
  go_enter Try.func30, Try.ntmps30
  go_wp2
  exact ⟨rfl, .agg #[.int .i64 2, .string s, .int .i64 0, .int .i64 x1, .int .i64 0, .int .i64 0, .int .i64 0], by simp [results, Try.results30, go_sem], rfl, ((Below.refl _ _).alloc (Nat.le_refl _) _).alloc (by simp) _⟩
set_option maxRecDepth 100000 in
set_option maxHeartbeats 8000000 in
theorem made_3 (A : Option Addr) (c : Nat) (s : ByteArray) (x1 : Int) (x2 : Int) (x3 : Int) (w : World) (hD : RdF w A 4 [.string s, .int .i64 x1, .int .i64 x2, .int .i64 x3]) :
    Calls Try.prog 30 #[.int .i64 3, .slice A 4 c] w fun e w' => e = .returned (.agg #[.int .i64 3, .string s, .int .i64 x1, .int .i64 x2, .int .i64 x3, .int .i64 0, .int .i64 0]) ∧ Below w.heap.size w w' := by
  obtain ⟨db, do_, rfl, hdb, _⟩ := hD.at_ (k := 0) rfl
  have a0 : ∀ X Y, ((w.alloc X).alloc Y).cell? ⟨db, do_ + 2, none⟩ = some (.string s) := fun X Y => by
    have hb : Below w.heap.size w ((w.alloc X).alloc Y) := ((Below.refl _ _).alloc (Nat.le_refl _) X).alloc (by simp) Y
    refine (hb.cell (p := ⟨db, do_ + 2, none⟩) hdb).trans ?_
    obtain ⟨b', o', e', _, hc'⟩ := hD.at_ (k := 0) rfl
    injection e' with e'; injection e' with e1 e2; subst e1 e2
    exact hc' 2 _ rfl
  have a1 : ∀ X Y, ((w.alloc X).alloc Y).cell? ⟨db, do_ + 3 + 1, none⟩ = some (.int .i64 x1) := fun X Y => by
    have hb : Below w.heap.size w ((w.alloc X).alloc Y) := ((Below.refl _ _).alloc (Nat.le_refl _) X).alloc (by simp) Y
    refine (hb.cell (p := ⟨db, do_ + 3 + 1, none⟩) hdb).trans ?_
    obtain ⟨b', o', e', _, hc'⟩ := hD.at_ (k := 1) rfl
    injection e' with e'; injection e' with e1 e2; subst e1 e2
    exact hc' 1 _ rfl
  have a2 : ∀ X Y, ((w.alloc X).alloc Y).cell? ⟨db, do_ + 6 + 1, none⟩ = some (.int .i64 x2) := fun X Y => by
    have hb : Below w.heap.size w ((w.alloc X).alloc Y) := ((Below.refl _ _).alloc (Nat.le_refl _) X).alloc (by simp) Y
    refine (hb.cell (p := ⟨db, do_ + 6 + 1, none⟩) hdb).trans ?_
    obtain ⟨b', o', e', _, hc'⟩ := hD.at_ (k := 2) rfl
    injection e' with e'; injection e' with e1 e2; subst e1 e2
    exact hc' 1 _ rfl
  have a3 : ∀ X Y, ((w.alloc X).alloc Y).cell? ⟨db, do_ + 9 + 1, none⟩ = some (.int .i64 x3) := fun X Y => by
    have hb : Below w.heap.size w ((w.alloc X).alloc Y) := ((Below.refl _ _).alloc (Nat.le_refl _) X).alloc (by simp) Y
    refine (hb.cell (p := ⟨db, do_ + 9 + 1, none⟩) hdb).trans ?_
    obtain ⟨b', o', e', _, hc'⟩ := hD.at_ (k := 3) rfl
    injection e' with e'; injection e' with e1 e2; subst e1 e2
    exact hc' 1 _ rfl
  clear hD
  go_enter Try.func30, Try.ntmps30
  go_wp2
  exact ⟨rfl, .agg #[.int .i64 3, .string s, .int .i64 x1, .int .i64 x2, .int .i64 x3, .int .i64 0, .int .i64 0], by simp [results, Try.results30, go_sem], rfl, ((Below.refl _ _).alloc (Nat.le_refl _) _).alloc (by simp) _⟩
set_option maxRecDepth 100000 in
set_option maxHeartbeats 8000000 in
theorem made_4 (A : Option Addr) (c : Nat) (s : ByteArray) (x1 : Int) (w : World) (hD : RdF w A 2 [.string s, .int .i64 x1]) :
    Calls Try.prog 30 #[.int .i64 4, .slice A 2 c] w fun e w' => e = .returned (.agg #[.int .i64 4, .string s, .int .i64 x1, .int .i64 0, .int .i64 0, .int .i64 0, .int .i64 0]) ∧ Below w.heap.size w w' := by
  obtain ⟨db, do_, rfl, hdb, _⟩ := hD.at_ (k := 0) rfl
  have a0 : ∀ X Y, ((w.alloc X).alloc Y).cell? ⟨db, do_ + 2, none⟩ = some (.string s) := fun X Y => by
    have hb : Below w.heap.size w ((w.alloc X).alloc Y) := ((Below.refl _ _).alloc (Nat.le_refl _) X).alloc (by simp) Y
    refine (hb.cell (p := ⟨db, do_ + 2, none⟩) hdb).trans ?_
    obtain ⟨b', o', e', _, hc'⟩ := hD.at_ (k := 0) rfl
    injection e' with e'; injection e' with e1 e2; subst e1 e2
    exact hc' 2 _ rfl
  have a1 : ∀ X Y, ((w.alloc X).alloc Y).cell? ⟨db, do_ + 3 + 1, none⟩ = some (.int .i64 x1) := fun X Y => by
    have hb : Below w.heap.size w ((w.alloc X).alloc Y) := ((Below.refl _ _).alloc (Nat.le_refl _) X).alloc (by simp) Y
    refine (hb.cell (p := ⟨db, do_ + 3 + 1, none⟩) hdb).trans ?_
    obtain ⟨b', o', e', _, hc'⟩ := hD.at_ (k := 1) rfl
    injection e' with e'; injection e' with e1 e2; subst e1 e2
    exact hc' 1 _ rfl
  clear hD
  go_enter Try.func30, Try.ntmps30
  go_wp2
  exact ⟨rfl, .agg #[.int .i64 4, .string s, .int .i64 x1, .int .i64 0, .int .i64 0, .int .i64 0, .int .i64 0], by simp [results, Try.results30, go_sem], rfl, ((Below.refl _ _).alloc (Nat.le_refl _) _).alloc (by simp) _⟩
set_option maxRecDepth 100000 in
set_option maxHeartbeats 8000000 in
theorem made_5 (A : Option Addr) (c : Nat) (s : ByteArray) (x1 : Int) (w : World) (hD : RdF w A 2 [.string s, .int .i64 x1]) :
    Calls Try.prog 30 #[.int .i64 5, .slice A 2 c] w fun e w' => e = .returned (.agg #[.int .i64 5, .string s, .int .i64 x1, .int .i64 0, .int .i64 0, .int .i64 0, .int .i64 0]) ∧ Below w.heap.size w w' := by
  obtain ⟨db, do_, rfl, hdb, _⟩ := hD.at_ (k := 0) rfl
  have a0 : ∀ X Y, ((w.alloc X).alloc Y).cell? ⟨db, do_ + 2, none⟩ = some (.string s) := fun X Y => by
    have hb : Below w.heap.size w ((w.alloc X).alloc Y) := ((Below.refl _ _).alloc (Nat.le_refl _) X).alloc (by simp) Y
    refine (hb.cell (p := ⟨db, do_ + 2, none⟩) hdb).trans ?_
    obtain ⟨b', o', e', _, hc'⟩ := hD.at_ (k := 0) rfl
    injection e' with e'; injection e' with e1 e2; subst e1 e2
    exact hc' 2 _ rfl
  have a1 : ∀ X Y, ((w.alloc X).alloc Y).cell? ⟨db, do_ + 3 + 1, none⟩ = some (.int .i64 x1) := fun X Y => by
    have hb : Below w.heap.size w ((w.alloc X).alloc Y) := ((Below.refl _ _).alloc (Nat.le_refl _) X).alloc (by simp) Y
    refine (hb.cell (p := ⟨db, do_ + 3 + 1, none⟩) hdb).trans ?_
    obtain ⟨b', o', e', _, hc'⟩ := hD.at_ (k := 1) rfl
    injection e' with e'; injection e' with e1 e2; subst e1 e2
    exact hc' 1 _ rfl
  clear hD
  go_enter Try.func30, Try.ntmps30
  go_wp2
  exact ⟨rfl, .agg #[.int .i64 5, .string s, .int .i64 x1, .int .i64 0, .int .i64 0, .int .i64 0, .int .i64 0], by simp [results, Try.results30, go_sem], rfl, ((Below.refl _ _).alloc (Nat.le_refl _) _).alloc (by simp) _⟩
set_option maxRecDepth 100000 in
set_option maxHeartbeats 8000000 in
theorem made_6 (A : Option Addr) (c : Nat) (s : ByteArray) (w : World) (hD : RdF w A 1 [.string s]) :
    Calls Try.prog 30 #[.int .i64 6, .slice A 1 c] w fun e w' => e = .returned (.agg #[.int .i64 6, .string s, .int .i64 0, .int .i64 0, .int .i64 0, .int .i64 0, .int .i64 0]) ∧ Below w.heap.size w w' := by
  obtain ⟨db, do_, rfl, hdb, _⟩ := hD.at_ (k := 0) rfl
  have a0 : ∀ X Y, ((w.alloc X).alloc Y).cell? ⟨db, do_ + 2, none⟩ = some (.string s) := fun X Y => by
    have hb : Below w.heap.size w ((w.alloc X).alloc Y) := ((Below.refl _ _).alloc (Nat.le_refl _) X).alloc (by simp) Y
    refine (hb.cell (p := ⟨db, do_ + 2, none⟩) hdb).trans ?_
    obtain ⟨b', o', e', _, hc'⟩ := hD.at_ (k := 0) rfl
    injection e' with e'; injection e' with e1 e2; subst e1 e2
    exact hc' 2 _ rfl
  clear hD
  go_enter Try.func30, Try.ntmps30
  go_wp2
  exact ⟨rfl, .agg #[.int .i64 6, .string s, .int .i64 0, .int .i64 0, .int .i64 0, .int .i64 0, .int .i64 0], by simp [results, Try.results30, go_sem], rfl, ((Below.refl _ _).alloc (Nat.le_refl _) _).alloc (by simp) _⟩
set_option maxRecDepth 100000 in
set_option maxHeartbeats 8000000 in
theorem made_7 (A : Option Addr) (c : Nat) (x0 : Int) (w : World) (hD : RdF w A 1 [.int .i64 x0]) :
    Calls Try.prog 30 #[.int .i64 7, .slice A 1 c] w fun e w' => e = .returned (.agg #[.int .i64 7, .string ⟨#[]⟩, .int .i64 0, .int .i64 x0, .int .i64 0, .int .i64 0, .int .i64 0]) ∧ Below w.heap.size w w' := by
  obtain ⟨db, do_, rfl, hdb, _⟩ := hD.at_ (k := 0) rfl
  have a0 : ∀ X Y, ((w.alloc X).alloc Y).cell? ⟨db, do_ + 1, none⟩ = some (.int .i64 x0) := fun X Y => by
    have hb : Below w.heap.size w ((w.alloc X).alloc Y) := ((Below.refl _ _).alloc (Nat.le_refl _) X).alloc (by simp) Y
    refine (hb.cell (p := ⟨db, do_ + 1, none⟩) hdb).trans ?_
    obtain ⟨b', o', e', _, hc'⟩ := hD.at_ (k := 0) rfl
    injection e' with e'; injection e' with e1 e2; subst e1 e2
    exact hc' 1 _ rfl
  clear hD
  go_enter Try.func30, Try.ntmps30
  go_wp2
  exact ⟨rfl, .agg #[.int .i64 7, .string ⟨#[]⟩, .int .i64 0, .int .i64 x0, .int .i64 0, .int .i64 0, .int .i64 0], by simp [results, Try.results30, go_sem], rfl, ((Below.refl _ _).alloc (Nat.le_refl _) _).alloc (by simp) _⟩
set_option maxRecDepth 100000 in
set_option maxHeartbeats 8000000 in
theorem made_8 (A : Option Addr) (c : Nat) (s : ByteArray) (x1 : Int) (w : World) (hD : RdF w A 2 [.string s, .int .i64 x1]) :
    Calls Try.prog 30 #[.int .i64 8, .slice A 2 c] w fun e w' => e = .returned (.agg #[.int .i64 8, .string s, .int .i64 0, .int .i64 x1, .int .i64 0, .int .i64 0, .int .i64 0]) ∧ Below w.heap.size w w' := by
  obtain ⟨db, do_, rfl, hdb, _⟩ := hD.at_ (k := 0) rfl
  have a0 : ∀ X Y, ((w.alloc X).alloc Y).cell? ⟨db, do_ + 2, none⟩ = some (.string s) := fun X Y => by
    have hb : Below w.heap.size w ((w.alloc X).alloc Y) := ((Below.refl _ _).alloc (Nat.le_refl _) X).alloc (by simp) Y
    refine (hb.cell (p := ⟨db, do_ + 2, none⟩) hdb).trans ?_
    obtain ⟨b', o', e', _, hc'⟩ := hD.at_ (k := 0) rfl
    injection e' with e'; injection e' with e1 e2; subst e1 e2
    exact hc' 2 _ rfl
  have a1 : ∀ X Y, ((w.alloc X).alloc Y).cell? ⟨db, do_ + 3 + 1, none⟩ = some (.int .i64 x1) := fun X Y => by
    have hb : Below w.heap.size w ((w.alloc X).alloc Y) := ((Below.refl _ _).alloc (Nat.le_refl _) X).alloc (by simp) Y
    refine (hb.cell (p := ⟨db, do_ + 3 + 1, none⟩) hdb).trans ?_
    obtain ⟨b', o', e', _, hc'⟩ := hD.at_ (k := 1) rfl
    injection e' with e'; injection e' with e1 e2; subst e1 e2
    exact hc' 1 _ rfl
  clear hD
  go_enter Try.func30, Try.ntmps30
  go_wp2
  exact ⟨rfl, .agg #[.int .i64 8, .string s, .int .i64 0, .int .i64 x1, .int .i64 0, .int .i64 0, .int .i64 0], by simp [results, Try.results30, go_sem], rfl, ((Below.refl _ _).alloc (Nat.le_refl _) _).alloc (by simp) _⟩
set_option maxRecDepth 100000 in
set_option maxHeartbeats 8000000 in
theorem made_9 (A : Option Addr) (c : Nat) (s : ByteArray) (x1 : Int) (x2 : Int) (w : World) (hD : RdF w A 3 [.string s, .int .i64 x1, .int .i64 x2]) :
    Calls Try.prog 30 #[.int .i64 9, .slice A 3 c] w fun e w' => e = .returned (.agg #[.int .i64 9, .string s, .int .i64 0, .int .i64 x2, .int .i64 0, .int .i64 x1, .int .i64 0]) ∧ Below w.heap.size w w' := by
  obtain ⟨db, do_, rfl, hdb, _⟩ := hD.at_ (k := 0) rfl
  have a0 : ∀ X Y, ((w.alloc X).alloc Y).cell? ⟨db, do_ + 2, none⟩ = some (.string s) := fun X Y => by
    have hb : Below w.heap.size w ((w.alloc X).alloc Y) := ((Below.refl _ _).alloc (Nat.le_refl _) X).alloc (by simp) Y
    refine (hb.cell (p := ⟨db, do_ + 2, none⟩) hdb).trans ?_
    obtain ⟨b', o', e', _, hc'⟩ := hD.at_ (k := 0) rfl
    injection e' with e'; injection e' with e1 e2; subst e1 e2
    exact hc' 2 _ rfl
  have a1 : ∀ X Y, ((w.alloc X).alloc Y).cell? ⟨db, do_ + 3 + 1, none⟩ = some (.int .i64 x1) := fun X Y => by
    have hb : Below w.heap.size w ((w.alloc X).alloc Y) := ((Below.refl _ _).alloc (Nat.le_refl _) X).alloc (by simp) Y
    refine (hb.cell (p := ⟨db, do_ + 3 + 1, none⟩) hdb).trans ?_
    obtain ⟨b', o', e', _, hc'⟩ := hD.at_ (k := 1) rfl
    injection e' with e'; injection e' with e1 e2; subst e1 e2
    exact hc' 1 _ rfl
  have a2 : ∀ X Y, ((w.alloc X).alloc Y).cell? ⟨db, do_ + 6 + 1, none⟩ = some (.int .i64 x2) := fun X Y => by
    have hb : Below w.heap.size w ((w.alloc X).alloc Y) := ((Below.refl _ _).alloc (Nat.le_refl _) X).alloc (by simp) Y
    refine (hb.cell (p := ⟨db, do_ + 6 + 1, none⟩) hdb).trans ?_
    obtain ⟨b', o', e', _, hc'⟩ := hD.at_ (k := 2) rfl
    injection e' with e'; injection e' with e1 e2; subst e1 e2
    exact hc' 1 _ rfl
  clear hD
  go_enter Try.func30, Try.ntmps30
  go_wp2
  exact ⟨rfl, .agg #[.int .i64 9, .string s, .int .i64 0, .int .i64 x2, .int .i64 0, .int .i64 x1, .int .i64 0], by simp [results, Try.results30, go_sem], rfl, ((Below.refl _ _).alloc (Nat.le_refl _) _).alloc (by simp) _⟩
set_option maxRecDepth 100000 in
set_option maxHeartbeats 8000000 in
theorem made_10 (A : Option Addr) (c : Nat) (x0 : Int) (x1 : Int) (w : World) (hD : RdF w A 2 [.int .i64 x0, .int .i64 x1]) :
    Calls Try.prog 30 #[.int .i64 10, .slice A 2 c] w fun e w' => e = .returned (.agg #[.int .i64 10, .string ⟨#[]⟩, .int .i64 0, .int .i64 0, .int .i64 0, .int .i64 x0, .int .i64 x1]) ∧ Below w.heap.size w w' := by
  obtain ⟨db, do_, rfl, hdb, _⟩ := hD.at_ (k := 0) rfl
  have a0 : ∀ X Y, ((w.alloc X).alloc Y).cell? ⟨db, do_ + 1, none⟩ = some (.int .i64 x0) := fun X Y => by
    have hb : Below w.heap.size w ((w.alloc X).alloc Y) := ((Below.refl _ _).alloc (Nat.le_refl _) X).alloc (by simp) Y
    refine (hb.cell (p := ⟨db, do_ + 1, none⟩) hdb).trans ?_
    obtain ⟨b', o', e', _, hc'⟩ := hD.at_ (k := 0) rfl
    injection e' with e'; injection e' with e1 e2; subst e1 e2
    exact hc' 1 _ rfl
  have a1 : ∀ X Y, ((w.alloc X).alloc Y).cell? ⟨db, do_ + 3 + 1, none⟩ = some (.int .i64 x1) := fun X Y => by
    have hb : Below w.heap.size w ((w.alloc X).alloc Y) := ((Below.refl _ _).alloc (Nat.le_refl _) X).alloc (by simp) Y
    refine (hb.cell (p := ⟨db, do_ + 3 + 1, none⟩) hdb).trans ?_
    obtain ⟨b', o', e', _, hc'⟩ := hD.at_ (k := 1) rfl
    injection e' with e'; injection e' with e1 e2; subst e1 e2
    exact hc' 1 _ rfl
  clear hD
  go_enter Try.func30, Try.ntmps30
  go_wp2
  exact ⟨rfl, .agg #[.int .i64 10, .string ⟨#[]⟩, .int .i64 0, .int .i64 0, .int .i64 0, .int .i64 x0, .int .i64 x1], by simp [results, Try.results30, go_sem], rfl, ((Below.refl _ _).alloc (Nat.le_refl _) _).alloc (by simp) _⟩
set_option maxRecDepth 100000 in
set_option maxHeartbeats 8000000 in
theorem made_11 (A : Option Addr) (c : Nat) (x0 : Int) (x1 : Int) (s : ByteArray) (x3 : Int) (w : World) (hD : RdF w A 4 [.int .i64 x0, .int .i64 x1, .string s, .int .i64 x3]) :
    Calls Try.prog 30 #[.int .i64 11, .slice A 4 c] w fun e w' => e = .returned (.agg #[.int .i64 11, .string s, .int .i64 0, .int .i64 x3, .int .i64 0, .int .i64 x0, .int .i64 x1]) ∧ Below w.heap.size w w' := by
  obtain ⟨db, do_, rfl, hdb, _⟩ := hD.at_ (k := 0) rfl
  have a0 : ∀ X Y, ((w.alloc X).alloc Y).cell? ⟨db, do_ + 1, none⟩ = some (.int .i64 x0) := fun X Y => by
    have hb : Below w.heap.size w ((w.alloc X).alloc Y) := ((Below.refl _ _).alloc (Nat.le_refl _) X).alloc (by simp) Y
    refine (hb.cell (p := ⟨db, do_ + 1, none⟩) hdb).trans ?_
    obtain ⟨b', o', e', _, hc'⟩ := hD.at_ (k := 0) rfl
    injection e' with e'; injection e' with e1 e2; subst e1 e2
    exact hc' 1 _ rfl
  have a1 : ∀ X Y, ((w.alloc X).alloc Y).cell? ⟨db, do_ + 3 + 1, none⟩ = some (.int .i64 x1) := fun X Y => by
    have hb : Below w.heap.size w ((w.alloc X).alloc Y) := ((Below.refl _ _).alloc (Nat.le_refl _) X).alloc (by simp) Y
    refine (hb.cell (p := ⟨db, do_ + 3 + 1, none⟩) hdb).trans ?_
    obtain ⟨b', o', e', _, hc'⟩ := hD.at_ (k := 1) rfl
    injection e' with e'; injection e' with e1 e2; subst e1 e2
    exact hc' 1 _ rfl
  have a2 : ∀ X Y, ((w.alloc X).alloc Y).cell? ⟨db, do_ + 6 + 2, none⟩ = some (.string s) := fun X Y => by
    have hb : Below w.heap.size w ((w.alloc X).alloc Y) := ((Below.refl _ _).alloc (Nat.le_refl _) X).alloc (by simp) Y
    refine (hb.cell (p := ⟨db, do_ + 6 + 2, none⟩) hdb).trans ?_
    obtain ⟨b', o', e', _, hc'⟩ := hD.at_ (k := 2) rfl
    injection e' with e'; injection e' with e1 e2; subst e1 e2
    exact hc' 2 _ rfl
  have a3 : ∀ X Y, ((w.alloc X).alloc Y).cell? ⟨db, do_ + 9 + 1, none⟩ = some (.int .i64 x3) := fun X Y => by
    have hb : Below w.heap.size w ((w.alloc X).alloc Y) := ((Below.refl _ _).alloc (Nat.le_refl _) X).alloc (by simp) Y
    refine (hb.cell (p := ⟨db, do_ + 9 + 1, none⟩) hdb).trans ?_
    obtain ⟨b', o', e', _, hc'⟩ := hD.at_ (k := 3) rfl
    injection e' with e'; injection e' with e1 e2; subst e1 e2
    exact hc' 1 _ rfl
  clear hD
  go_enter Try.func30, Try.ntmps30
  go_wp2
  exact ⟨rfl, .agg #[.int .i64 11, .string s, .int .i64 0, .int .i64 x3, .int .i64 0, .int .i64 x0, .int .i64 x1], by simp [results, Try.results30, go_sem], rfl, ((Below.refl _ _).alloc (Nat.le_refl _) _).alloc (by simp) _⟩
set_option maxRecDepth 100000 in
set_option maxHeartbeats 8000000 in
theorem made_12 (A : Option Addr) (c : Nat) (s : ByteArray) (w : World) (hD : RdF w A 1 [.string s]) :
    Calls Try.prog 30 #[.int .i64 12, .slice A 1 c] w fun e w' => e = .returned (.agg #[.int .i64 12, .string s, .int .i64 0, .int .i64 0, .int .i64 0, .int .i64 0, .int .i64 0]) ∧ Below w.heap.size w w' := by
  obtain ⟨db, do_, rfl, hdb, _⟩ := hD.at_ (k := 0) rfl
  have a0 : ∀ X Y, ((w.alloc X).alloc Y).cell? ⟨db, do_ + 2, none⟩ = some (.string s) := fun X Y => by
    have hb : Below w.heap.size w ((w.alloc X).alloc Y) := ((Below.refl _ _).alloc (Nat.le_refl _) X).alloc (by simp) Y
    refine (hb.cell (p := ⟨db, do_ + 2, none⟩) hdb).trans ?_
    obtain ⟨b', o', e', _, hc'⟩ := hD.at_ (k := 0) rfl
    injection e' with e'; injection e' with e1 e2; subst e1 e2
    exact hc' 2 _ rfl
  clear hD
  go_enter Try.func30, Try.ntmps30
  go_wp2
  exact ⟨rfl, .agg #[.int .i64 12, .string s, .int .i64 0, .int .i64 0, .int .i64 0, .int .i64 0, .int .i64 0], by simp [results, Try.results30, go_sem], rfl, ((Below.refl _ _).alloc (Nat.le_refl _) _).alloc (by simp) _⟩
end Go.Proofs.Ytonjjihbpeblkaa
