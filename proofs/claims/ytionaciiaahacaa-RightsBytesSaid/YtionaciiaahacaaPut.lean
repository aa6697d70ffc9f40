/- What rights' put and the document's AccountBytes, HoldBytes return: rows of numbers as bytes. -/
import Derived.Test.YtionaciiaahacaaNumH
import Derived.Test.YtionaciiaahacaaAccRef
import Derived.Test.YtionaciiaahacaaHolds
namespace Go.Proofs.Ytionaciiaahacaa
open Go.RowKit
/-- Numbers' bytes, one behind the other. -/
def numsOf : List Nat → List Nat
  | [] => []
  | n :: t => Cd.num n ++ numsOf t
theorem numsOf_append (a b : List Nat) : numsOf (a ++ b) = numsOf a ++ numsOf b := by
  induction a with
  | nil => rfl
  | cons x t ih => show Cd.num x ++ numsOf (t ++ b) = Cd.num x ++ numsOf t ++ numsOf b; rw [ih, List.append_assoc]
theorem numsOf_length (l : List Nat) : (numsOf l).length ≤ 11 * l.length := by
  induction l with
  | nil => simp [numsOf]
  | cons x t ih =>
    show (Cd.num x ++ numsOf t).length ≤ _
    have := Cd.num_length x
    rw [List.length_append, List.length_cons]; omega
/-- A slice of n ints that reads as these numbers. -/
def RdI (w : World) (A : Option Addr) (n : Nat) (l : List Nat) : Prop :=
  l.length = n ∧ (∀ x ∈ l, x ≤ 1125899906842624) ∧ (0 < n → ∃ b o, A = some ⟨b, o, none⟩ ∧ b < w.heap.size ∧ ∀ (j x : Nat), l[j]? = some x → w.cell? ⟨b, o + j, none⟩ = some (.int .i64 (x : Int)))
set_option maxRecDepth 100000 in
theorem put_any (A : Option Addr) (n cap : Nat) (l : List Nat) (w : World) (hl : RdI w A n l) (hn : n ≤ 100) :
    Calls Try.prog 51 #[.slice A n cap] w (GivesBytes w (numsOf l)) := by
  have hlen := numsOf_length l
  have Hl := Lib.hid hl.1
  go_enter Try.func51, Try.ntmps51
  go_wp2
  go_loopw [3, 8] (fun v i wr => ∃ (k m c : Nat) (B : Option Addr), k ≤ n ∧ i = .int .i64 (k : Int) ∧ v = .slice B m c ∧ m ≤ 11 * k ∧ Own wr w.heap.size B m c (numsOf (l.take k)) ∧ Below w.heap.size w wr) (fun _ i _ => n - (intOf i).toNat)
  case atStart => exact ⟨0, 0, 0, none, by omega, rfl, rfl, by omega, Own.none_ w w.heap.size, Below.refl _ _⟩
  case round =>
    obtain ⟨k, m, c, B, hk, rfl, rfl, hm, ho, hb⟩ := hrel
    by_cases hkn : k < n
    · have hkn' : (k : Int) < (n : Int) := by omega
      obtain ⟨b, o, rfl, hbl, hc⟩ := hl.2.2 (by omega)
      have hx : l[k]? = some (l[k]'(by rw [hl.1]; exact hkn)) := List.getElem?_eq_getElem _
      have hcell := (hb.cell (p := ⟨b, o + k, none⟩) hbl).trans (hc k _ hx)
      have hxm := hl.2.1 _ (List.mem_of_getElem? hx)
      generalize l[k]'(by rw [hl.1]; exact hkn) = x at *
      have hw : IntKind.u64.wrap (x : Int) = (x : Int) := by rw [IntKind.wrap_u64]; omega
      have hnx := Cd.num_length x
      have Hx := Lib.hid hx
      have hm2 : m ≤ 1100 := by omega
      clear hx hc
      go_wp2_with fail
      refine (num_any x (by omega) _).mono ?_
      rintro e v2 ⟨A2, c2, rfl, ho2, hb2⟩
      have ho' := ho.below hb2
      have hb' := below_next hb hb2
      go_wp2_with (first | (at_builtin; refine wpList_appB rfl (.tmp 12) (.tmp 15) rfl rfl ho' A2 (Cd.num x).length c2 (Cd.num x) rfl ho2.rd (by omega) hb'.size ?_; intro A3 c3 w3 hg3))
      go_roundw
      case rel =>
        refine ⟨k + 1, m + (Cd.num x).length, c3, A3, by omega, by go_num, rfl, by omega, ?_, hg3.below hb' hb'.size (fun g hg => (ho'.blk g hg).1)⟩
        have e : l.take (k + 1) = l.take k ++ [x] := by rw [List.take_add_one, Hx.out]; rfl
        rw [e, numsOf_append]
        have h3 := hg3.own
        simpa [numsOf] using h3
      case measure => simp [intOf]; omega
    · have hkn2 : k = n := by omega
      subst hkn2
      have hlm := ho.1
      rw [List.take_of_length_le (Nat.le_of_eq Hl.out)] at ho hlm
      have Hlm := Lib.hid hlm
      clear hlm
      go_wp2
      go_ret
      refine ⟨B, c, ?_⟩
      rw [Hlm.out]
      exact ⟨rfl, ho, hb⟩
end Go.Proofs.Ytionaciiaahacaa
