/- Package wire's walk with the two functions that lay zeros. -/
import Derived.Test.YtonjjihbpeblkaaWrTakes
namespace Go.Proofs.Ytonjjihbpeblkaa
open Go.RowKit
namespace Wr
/-- A field's zero. -/
def zero (t : Bool) : Value := if t then .string ⟨#[]⟩ else .int .i64 0
end Wr
/-- What holds ahead of each field. -/
def ZeroInv (w1 : World) (fs : List Wr.Fld) (k : Nat) (wx : World) : Prop :=
  Upd (Wr.at_ fs) w1 wx ∧ ∀ (i : Nat) (f : Wr.Fld), i < k → fs[i]? = some f → wx.cell? f.1 = some (Wr.zero f.2)
theorem zero_round {w1 wx : World} {k : Nat} {fs : List Wr.Fld} {a : Addr} {t : Bool} (hf : fs[k]? = some (a, t)) (hnd : (Wr.at_ fs).Nodup) {va : Value} (hc : wx.cell? a = some va) (hI : ZeroInv w1 fs k wx) :
    ZeroInv w1 fs (k + 1) (wx.setCell a (Wr.zero t)) := by
  have hm : a ∈ Wr.at_ fs := List.mem_map.2 ⟨_, List.mem_of_getElem? hf, rfl⟩
  refine ⟨hI.1.trans (Upd.set _ hm), fun i f hi hfi => ?_⟩
  by_cases hik : i = k
  · subst hik
    rw [hf] at hfi
    injection hfi with hfi
    subst hfi
    exact World.cell?_setCell_same _ _ _ hc
  · refine (World.cell?_setCell_other _ _ _ _ ?_).trans (hI.2 i f (by omega) hfi)
    intro e
    have a1 : (Wr.at_ fs)[i]? = some f.1 := by unfold Wr.at_; rw [List.getElem?_map, hfi]; rfl
    have a2 : (Wr.at_ fs)[k]? = some a := by unfold Wr.at_; rw [List.getElem?_map, hf]; rfl
    rw [← e] at a1
    obtain ⟨i1, i2⟩ := List.getElem?_eq_some_iff.1 a1
    obtain ⟨k1, k2⟩ := List.getElem?_eq_some_iff.1 a2
    exact List.pairwise_iff_getElem.1 hnd i k i1 k1 (by omega) (i2.trans k2.symm)
set_option maxRecDepth 100000 in
theorem enter_z1 (args : Array Value) (w : World) : (callFunc 25 args).run Try.prog w = .ok (.enter 25 args) w := run_enter Try.func25 (by kernel_rfl) (by kernel_rfl) args w
set_option maxRecDepth 100000 in
theorem enter_z2 (args : Array Value) (w : World) : (callFunc 26 args).run Try.prog w = .ok (.enter 26 args) w := run_enter Try.func26 (by kernel_rfl) (by kernel_rfl) args w
set_option maxRecDepth 100000 in
theorem zero_all (A : Option Addr) (n c : Nat) (fs : List Wr.Fld) (w1 : World) (hn : n ≤ 10) (hlf : fs.length = n) (hnd : (Wr.at_ fs).Nodup)
    (hA : RdV w1 A n (fs.map Wr.anyOf)) (hAb : ∀ b o, A = some ⟨b, o, none⟩ → ∀ f ∈ fs, f.1.block ≠ b)
    (hv : ∀ f ∈ fs, f.1.block < w1.heap.size ∧ (∃ v, w1.cell? f.1 = some v) ∧ w1.frozen? f.1 = false) :
    Calls Try.prog 23 #[.slice A n c, .func (.func 25) #[] #[], .func (.func 26) #[] #[]] w1 fun e w' => e = .returned (.tuple #[]) ∧ ZeroInv w1 fs n w' := by
  refine (walk_any 25 26 #[] #[] A n c fs (ZeroInv w1 fs) (fun _ _ => False) w1 (by omega) hlf ?_ ?_ ?_ enter_z1 enter_z2 ⟨Upd.refl _ _, fun i f hi => by omega⟩).mono ?_
  · rintro i wx ⟨hu, _⟩
    refine ⟨hA.1, fun h => ?_⟩
    obtain ⟨b, o, rfl, hbl, hc⟩ := hA.2 h
    have hbb := hAb b o rfl
    refine ⟨b, o, rfl, Nat.lt_of_lt_of_le hbl hu.size, fun j x hx => (hu.cell ⟨b, o + j, none⟩ hbl ?_).trans (hc j x hx)⟩
    intro hm
    obtain ⟨f, hf, e⟩ := List.mem_map.1 hm
    exact hbb f hf (by rw [e])
  · intro i a wx hf hI
    obtain ⟨q1, ⟨va, q3⟩, q4⟩ := hv _ (List.mem_of_getElem? hf)
    obtain ⟨va', q3'⟩ := hI.1.kept a va q1 q3
    refine (zeroi_any a va' wx q3' ((hI.1.frozen a q1).trans q4)).mono ?_
    rintro e w' ⟨rfl, rfl⟩
    exact .inl ⟨rfl, zero_round (t := false) hf hnd q3' hI⟩
  · intro i a wx hf hI
    obtain ⟨q1, ⟨va, q3⟩, q4⟩ := hv _ (List.mem_of_getElem? hf)
    obtain ⟨va', q3'⟩ := hI.1.kept a va q1 q3
    refine (zeros_any a va' wx q3' ((hI.1.frozen a q1).trans q4)).mono ?_
    rintro e w' ⟨rfl, rfl⟩
    exact .inl ⟨rfl, zero_round (t := true) hf hnd q3' hI⟩
  · rintro e w' (h | ⟨_, _, h⟩)
    · exact h
    · exact h.elim
set_option maxRecDepth 100000 in
theorem enter_mz1 (args : Array Value) (w : World) : (callFunc 41 args).run Try.prog w = .ok (.enter 41 args) w := run_enter Try.func41 (by kernel_rfl) (by kernel_rfl) args w
set_option maxRecDepth 100000 in
theorem enter_mz2 (args : Array Value) (w : World) : (callFunc 42 args).run Try.prog w = .ok (.enter 42 args) w := run_enter Try.func42 (by kernel_rfl) (by kernel_rfl) args w
set_option maxRecDepth 100000 in
theorem mzero_all (A : Option Addr) (n c : Nat) (fs : List Wr.Fld) (w1 : World) (hn : n ≤ 10) (hlf : fs.length = n) (hnd : (Wr.at_ fs).Nodup)
    (hA : RdV w1 A n (fs.map Wr.anyOf)) (hAb : ∀ b o, A = some ⟨b, o, none⟩ → ∀ f ∈ fs, f.1.block ≠ b)
    (hv : ∀ f ∈ fs, f.1.block < w1.heap.size ∧ (∃ v, w1.cell? f.1 = some v) ∧ w1.frozen? f.1 = false) :
    Calls Try.prog 23 #[.slice A n c, .func (.func 41) #[] #[], .func (.func 42) #[] #[]] w1 fun e w' => e = .returned (.tuple #[]) ∧ ZeroInv w1 fs n w' := by
  refine (walk_any 41 42 #[] #[] A n c fs (ZeroInv w1 fs) (fun _ _ => False) w1 (by omega) hlf ?_ ?_ ?_ enter_mz1 enter_mz2 ⟨Upd.refl _ _, fun i f hi => by omega⟩).mono ?_
  · rintro i wx ⟨hu, _⟩
    refine ⟨hA.1, fun h => ?_⟩
    obtain ⟨b, o, rfl, hbl, hc⟩ := hA.2 h
    have hbb := hAb b o rfl
    refine ⟨b, o, rfl, Nat.lt_of_lt_of_le hbl hu.size, fun j x hx => (hu.cell ⟨b, o + j, none⟩ hbl ?_).trans (hc j x hx)⟩
    intro hm
    obtain ⟨f, hf, e⟩ := List.mem_map.1 hm
    exact hbb f hf (by rw [e])
  · intro i a wx hf hI
    obtain ⟨q1, ⟨va, q3⟩, q4⟩ := hv _ (List.mem_of_getElem? hf)
    obtain ⟨va', q3'⟩ := hI.1.kept a va q1 q3
    refine (mzeroi_any a va' wx q3' ((hI.1.frozen a q1).trans q4)).mono ?_
    rintro e w' ⟨rfl, rfl⟩
    exact .inl ⟨rfl, zero_round (t := false) hf hnd q3' hI⟩
  · intro i a wx hf hI
    obtain ⟨q1, ⟨va, q3⟩, q4⟩ := hv _ (List.mem_of_getElem? hf)
    obtain ⟨va', q3'⟩ := hI.1.kept a va q1 q3
    refine (mzeros_any a va' wx q3' ((hI.1.frozen a q1).trans q4)).mono ?_
    rintro e w' ⟨rfl, rfl⟩
    exact .inl ⟨rfl, zero_round (t := true) hf hnd q3' hI⟩
  · rintro e w' (h | ⟨_, _, h⟩)
    · exact h
    · exact h.elim
end Go.Proofs.Ytonjjihbpeblkaa
