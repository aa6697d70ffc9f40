/- Words for blocks of the call's own that hold plain cells: what they hold, that it stays, and what a store of three cells makes of them. -/
import Derived.Test.YtpompjihmcmmaaaBytes
import Derived.Laws.IdiomStrings
namespace Go.Proofs.Ytpompjihmcmmaaa
open Go.RowKit
/-- Block b holds these cells, from its head on, and may be written. -/
def Holds (w : World) (b : Nat) (cs : List Value) : Prop := b < w.heap.size ∧ (∀ (i : Nat) v, cs[i]? = some v → w.cell? ⟨b, i, none⟩ = some v) ∧ ∀ i, w.frozen? ⟨b, i, none⟩ = false
theorem Holds.below {w w' : World} {b : Nat} {cs : List Value} (k : Holds w b cs) (hb : Below w.heap.size w w') : Holds w' b cs :=
  ⟨Nat.lt_of_lt_of_le k.1 hb.size, fun i v h => (hb.cell (p := ⟨b, i, none⟩) k.1).trans (k.2.1 i v h), fun i => (hb.frozen (p := ⟨b, i, none⟩) k.1).trans (k.2.2 i)⟩
theorem Holds.alloc {w : World} {b : Nat} {cs : List Value} (k : Holds w b cs) (o : Obj) : Holds (w.alloc o) b cs := k.below ((Below.refl _ _).alloc (Nat.le_refl _) o)
theorem Holds.new (w : World) (cs : Array Value) (t : TypeId) : Holds (w.alloc (.cells cs t)) w.heap.size cs.toList :=
  ⟨by simp, fun i v h => by rw [World.cell?_alloc_mark]; simpa using h, fun i => by rw [World.frozen?_alloc_mark]; simp⟩
theorem Holds.next {w w' : World} {cs : Array Value} {t : TypeId} (hb : Below (w.alloc (.cells cs t)).heap.size (w.alloc (.cells cs t)) w') : Holds w' w.heap.size cs.toList := (Holds.new w cs t).below hb
theorem Holds.at_ {w : World} {b : Nat} {cs : List Value} (k : Holds w b cs) (i : Nat) {v : Value} (h : cs[i]? = some v) : w.cell? ⟨b, i, none⟩ = some v := k.2.1 i v h
theorem Holds.other {w : World} {b c i : Nat} {cs : List Value} {v : Value} (k : Holds w c cs) (h : c ≠ b) : Holds (w.setCell ⟨b, i, none⟩ v) c cs :=
  ⟨by simpa [World.setCell] using k.1, fun j u hj => by rw [World.cell?_setCell_other w _ _ _ (fun e => h (by injection e with e1 _; exact e1.symm))]; exact k.2.1 j u hj, fun j => by rw [World.frozen?_setCell]; exact k.2.2 j⟩
theorem Holds.set {w : World} {b : Nat} {cs : List Value} (k : Holds w b cs) (i : Nat) (v : Value) (hi : i < cs.length) : Holds (w.setCell ⟨b, i, none⟩ v) b (cs.set i v) := by
  refine ⟨by simpa [World.setCell] using k.1, fun j u hj => ?_, fun j => by rw [World.frozen?_setCell]; exact k.2.2 j⟩
  by_cases e : j = i
  · subst e
    rw [List.getElem?_set_self hi] at hj
    injection hj with hj
    subst hj
    exact World.cell?_setCell_same w _ _ (k.2.1 j _ (List.getElem?_eq_getElem hi))
  · rw [List.getElem?_set_ne (fun e2 => e e2.symm)] at hj
    rw [World.cell?_setCell_other w _ _ _ (fun e2 => e (by injection e2 with _ e3; exact e3.symm))]
    exact k.2.1 j u hj
theorem Holds.set3 {w : World} {b : Nat} {x y z : Value} (k : Holds w b [x, y, z]) (x' y' z' : Value) : Holds (((w.setCell ⟨b, 0, none⟩ x').setCell ⟨b, 1, none⟩ y').setCell ⟨b, 2, none⟩ z') b [x', y', z'] :=
  ((k.set 0 x' (by simp)).set 1 y' (by simp)).set 2 z' (by simp)
theorem Holds.other3 {w : World} {b c : Nat} {cs : List Value} {x y z : Value} (k : Holds w c cs) (h : c ≠ b) : Holds (((w.setCell ⟨b, 0, none⟩ x).setCell ⟨b, 1, none⟩ y).setCell ⟨b, 2, none⟩ z) c cs := ((k.other h).other h).other h
end Go.Proofs.Ytpompjihmcmmaaa
