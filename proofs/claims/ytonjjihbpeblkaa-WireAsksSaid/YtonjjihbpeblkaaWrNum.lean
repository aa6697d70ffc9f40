/- Words for a world in which only some cells, and new memory, are other; package wire's number. -/
import Derived.Test.YtonjjihbpeblkaaWrTexts
import Derived.Test.YtonjjihbpeblkaaHolds
namespace Go.Proofs.Ytonjjihbpeblkaa
open Go.RowKit
/-- Of what there was only these cells are other; and none is gone. -/
structure Upd (ps : List Addr) (w w' : World) : Prop where
  os : w'.os = w.os
  tape : w'.tape = w.tape
  output : w'.output = w.output
  size : w.heap.size ≤ w'.heap.size
  block : ∀ k, k < w.heap.size → (∀ a ∈ ps, a.block ≠ k) → w'.heap[k]? = w.heap[k]?
  cell : ∀ p : Addr, p.block < w.heap.size → p ∉ ps → w'.cell? p = w.cell? p
  frozen : ∀ p : Addr, p.block < w.heap.size → w'.frozen? p = w.frozen? p
  kept : ∀ (p : Addr) v, p.block < w.heap.size → w.cell? p = some v → ∃ v', w'.cell? p = some v'
namespace Upd
variable {ps bs : List Addr} {w v u : World}
theorem refl (ps : List Addr) (w : World) : Upd ps w w := ⟨rfl, rfl, rfl, Nat.le_refl _, fun _ _ _ => rfl, fun _ _ _ => rfl, fun _ _ => rfl, fun _ v _ h => ⟨v, h⟩⟩
theorem trans (h : Upd ps w v) (k : Upd ps v u) : Upd ps w u where
  os := k.os.trans h.os
  tape := k.tape.trans h.tape
  output := k.output.trans h.output
  size := Nat.le_trans h.size k.size
  block := fun i hi ha => (k.block i (Nat.lt_of_lt_of_le hi h.size) ha).trans (h.block i hi ha)
  cell := fun p hp ha => (k.cell p (Nat.lt_of_lt_of_le hp h.size) ha).trans (h.cell p hp ha)
  frozen := fun p hp => (k.frozen p (Nat.lt_of_lt_of_le hp h.size)).trans (h.frozen p hp)
  kept := fun p x hp hx => let ⟨y, hy⟩ := h.kept p x hp hx; k.kept p y (Nat.lt_of_lt_of_le hp h.size) hy
theorem of_below (h : Below w.heap.size w v) : Upd ps w v where
  os := h.os
  tape := h.tape
  output := h.output
  size := h.size
  block := fun i hi _ => h.block i hi
  cell := fun _ hp _ => h.cell hp
  frozen := fun _ hp => h.frozen hp
  kept := fun _ x hp hx => ⟨x, (h.cell hp).trans hx⟩
theorem set {a : Addr} (x : Value) (ha : a ∈ ps) : Upd ps w (w.setCell a x) where
  os := rfl
  tape := rfl
  output := rfl
  size := by simp [World.setCell]
  block := fun k _ hk => Below.heap_setCell _ _ _ _ (fun e => hk a ha e.symm)
  cell := fun p _ hp => World.cell?_setCell_other w _ _ _ (fun e => hp (e ▸ ha))
  frozen := fun p _ => World.frozen?_setCell w _ _ _
  kept := fun p y _ hy => cell?_setCell_some hy
theorem more (h : Upd ps w v) (hs : ∀ a ∈ ps, a ∈ bs) : Upd bs w v where
  os := h.os
  tape := h.tape
  output := h.output
  size := h.size
  block := fun i hi ha => h.block i hi fun a ha' => ha a (hs a ha')
  cell := fun p hp hn => h.cell p hp fun e => hn (hs p e)
  frozen := h.frozen
  kept := h.kept
theorem drew (h : Upd ps w v) : Upd ps w v.drew := h.trans (of_below (Below.refl _ _).drew)
theorem alloc (h : Upd ps w v) (o : Obj) : Upd ps w (v.alloc o) := h.trans (of_below ((Below.refl _ _).alloc (Nat.le_refl _) o))
/-- What lies below all these cells is ps it was. -/
theorem below (h : Upd ps w v) {B : Nat} {z : World} (hz : Below B z w) (ha : ∀ a ∈ ps, B ≤ a.block) (hB : B ≤ w.heap.size) : Below B z v :=
  hz.trans ⟨h.os, h.tape, h.output, h.size, fun k hk => h.block k (by omega) fun a hm => by have := ha a hm; omega⟩
/-- A cell that was not there before is forgotten. -/
theorem forget {g : Nat} (h : Upd (⟨g, 0, none⟩ :: ps) w v) (hg : w.heap.size ≤ g) : Upd ps w v where
  os := h.os
  tape := h.tape
  output := h.output
  size := h.size
  block := fun i hi ha => h.block i hi fun a hm => by
    rcases List.mem_cons.1 hm with rfl | hm
    · show g ≠ i; omega
    · exact ha a hm
  cell := fun p hp hn => h.cell p hp fun e => by
    rcases List.mem_cons.1 e with rfl | e
    · have : g < w.heap.size := hp
      omega
    · exact hn e
  frozen := h.frozen
  kept := h.kept
end Upd
theorem Rd.upd {ps : List Addr} {w v : World} {A : Option Addr} {n : Nat} {l : List Nat} (h : Rd w A n l) (hu : Upd ps w v) (hap : 0 < n → ∀ b o, A = some ⟨b, o, none⟩ → ∀ a ∈ ps, a.block ≠ b) : Rd v A n l := by
  refine ⟨h.1, h.2.1, fun hn => ?_⟩
  obtain ⟨b, o, rfl, hb, hc⟩ := h.2.2 hn
  refine ⟨b, o, rfl, Nat.lt_of_lt_of_le hb hu.size, fun j x hx => ?_⟩
  rw [hu.cell ⟨b, o + j, none⟩ hb (fun e => hap hn b o rfl _ e rfl)]
  exact hc j x hx
theorem Holds.upd {ps : List Addr} {w v : World} {b : Nat} {cs : List Value} (h : Holds w b cs) (hu : Upd ps w v) (hap : ∀ a ∈ ps, a.block ≠ b) : Holds v b cs :=
  ⟨Nat.lt_of_lt_of_le h.1 hu.size, fun i x hx => (hu.cell ⟨b, i, none⟩ h.1 (fun e => hap _ e rfl)).trans (h.2.1 i x hx), fun i => (hu.frozen ⟨b, i, none⟩ h.1).trans (h.2.2 i)⟩
namespace Wr
/-- The panic of all that is no good. -/
def pan : List PanicEntry := [{ v := .iface 28 (.int .i64 220), recovered := false }]
/-- A number that is an int. -/
def num (l : List Nat) : Option (Nat × List Nat) :=
  match Cd.takeNum l with
  | none => none
  | some (v, r) => if v < 9223372036854775808 then some (v, r) else none
end Wr
def GivesWNum (w : World) (o : Option (Nat × List Nat)) (e : Ending) (w' : World) : Prop :=
  match o with
  | none => e = .panicked Wr.pan ∧ Below w.heap.size w w'
  | some (v, r) => ∃ A cap, e = .returned (.tuple #[.int .i64 (v : Int), .slice A r.length cap]) ∧ Own w' w.heap.size A r.length cap r ∧ Below w.heap.size w w'
theorem wrap_i64_nat (m : Nat) (h : m < 9223372036854775808) : IntKind.i64.wrap (m : Int) = (m : Int) := by rw [IntKind.wrap_i64]; omega
set_option maxRecDepth 100000 in
theorem wnumber_any (A : Option Addr) (n cap : Nat) (l : List Nat) (w : World) (hl : Rd w A n l) (hc : n ≤ cap) (hn : n ≤ 1000000) :
    Calls Try.prog 33 #[.slice A n cap] w (GivesWNum w (Wr.num l)) := by
  have htn := takenum_own A n cap l w hl hc hn
  unfold Wr.num
  rcases h : Cd.takeNum l with _ | ⟨v, r⟩
  · rw [h] at htn
    have Htn := Lib.hid htn
    clear htn h
    go_enter Try.func33, Try.ntmps33
    go_wp2_with (first | (go_at_call 51; refine Htn.out.mono ?_; rintro e w1 ⟨rfl, hb1⟩))
    exact ⟨rfl, rfl, hb1⟩
  · rw [h] at htn
    have Htn := Lib.hid htn
    clear htn h
    show Calls _ _ _ _ (GivesWNum w (if v < 9223372036854775808 then some (v, r) else none))
    by_cases hv : v < 9223372036854775808
    · rw [if_pos hv]
      have hv1 : ¬ (9223372036854775807 : Int) < (v : Int) := by omega
      have hw := wrap_i64_nat v hv
      go_enter Try.func33, Try.ntmps33
      go_wp2_with (first | (go_at_call 51; refine Htn.out.mono ?_; rintro e w1 ⟨A1, c1, rfl, ho1, hb1⟩))
      go_ret2
      exact ⟨A1, c1, rfl, ho1, hb1⟩
    · rw [if_neg hv]
      have hv1 : (9223372036854775807 : Int) < (v : Int) := by omega
      go_enter Try.func33, Try.ntmps33
      go_wp2_with (first | (go_at_call 51; refine Htn.out.mono ?_; rintro e w1 ⟨A1, c1, rfl, ho1, hb1⟩))
      exact ⟨rfl, rfl, hb1⟩
end Go.Proofs.Ytonjjihbpeblkaa
