/- Words for strings: a string as a list of numbers, its parts, what is equal, what is less; bytes of a string, in new memory; append of a string to bytes. What the document's own Text and TakeText of layer 2 return. -/
import Derived.Test.YthfcjlndaajkfaaGreatG01
import Derived.Test.YthfcjlndaajkfaaGreatN01
import Derived.Lib.AppendStr
import Derived.Lib.ConvBytes
import Derived.Lib.Strings
import Derived.Test.YthfcjlndaajkfaaGreatN06
namespace Go.Proofs.YthfcjlndaajkfaaGreat
open Go.RowKit
/-- The bytes of a string. -/
def bs (s : ByteArray) : List Nat := s.data.toList.map UInt8.toNat
theorem bs_lt (s : ByteArray) : ∀ x ∈ bs s, x < 256 := by
  intro x hx
  obtain ⟨u, _, rfl⟩ := List.mem_map.1 hx
  have := u.toNat_lt
  omega
theorem bs_length (s : ByteArray) : (bs s).length = s.size := by
  rw [bs, List.length_map, Array.length_toList]; rfl
theorem str_bs (s : ByteArray) : str (bs s) = s := by
  unfold str bs
  rw [List.map_map]
  have e : ((fun (n : Nat) => UInt8.ofNat n) ∘ UInt8.toNat) = id := by funext u; simp
  rw [e, List.map_id]
/-- What is less, byte by byte. -/
def lessL : List Nat → List Nat → Bool
  | _, [] => false
  | [], _ :: _ => true
  | a :: x, b :: y => decide (a < b) || (decide (a = b) && lessL x y)
/-- append of a string to bytes of the call's own. -/
theorem strCells_bv (s : ByteArray) : Lib.strCells s = bv (bs s) := by
  unfold Lib.strCells bv bs
  rw [List.map_map]
  rfl
theorem wpList_appS {w : World} {base n cap : Nat} {A : Option Addr} {l : List Nat} {ops : Array Oper} {rest : List Oper} {o : Oper} {a : Act} {Q : Exit → Act → World → Prop} (hgd : o.guard = none) (sl x : Operand)
    (ho : o.op = .call { callee := .builtin .append, args := #[sl, x], argTypes := #[51, 9] })
    (hs : a.eval sl = .slice A n cap) (hown : Own w base A n cap l) (s : ByteArray) (hx : a.eval x = .string s) (hlen : n + s.size ≤ 100000000) (hbase : base ≤ w.heap.size)
    (h : ∀ A' cap' w', Own w' base A' (n + s.size) cap' (l ++ bs s) → w.grownBy w' (Value.slice A n cap).ownBlock → wpList Tryz.prog ops Q rest (a.put o.dst (.slice A' (n + s.size) cap')) w') : wpList Tryz.prog ops Q (o :: rest) a w := by
  obtain ⟨i0, hi, hz0, hz1, hz2⟩ := info_parts info5
  refine Lib.wpList_append_own_string w hgd sl x 51 9 ho base 5 i0 Tryz.underlying51 Tryz.underlying9 hi hz0 hz1 hz2 (.slice A n cap) n (bv l) hs hown.2.2 s hx (by simp only [maxLen]; omega) (by omega) hbase ?_
  intro v' w' h2 h3 _
  have hf : ∃ A' cap', v' = .slice A' (n + s.size) cap' := by
    rcases h2.2 with ⟨hv, h0⟩ | ⟨g, c', cur, hv, _⟩
    · exact ⟨none, 0, by rw [hv, h0]⟩
    · exact ⟨_, _, hv⟩
  obtain ⟨A', cap', rfl⟩ := hf
  refine h A' cap' w' ⟨by rw [List.length_append, hown.1, bs_length], fun y hy => (List.mem_append.1 hy).elim (hown.2.1 y) (bs_lt s y), ?_⟩ h3
  rw [bv_append, ← strCells_bv]
  exact h2
/-- A byte of a row that reads as a list is written. -/
theorem Rd.set {w : World} {g n j y : Nat} {l : List Nat} (h : Rd w (some ⟨g, 0, none⟩) n l) (hj : j < n) (hy : y < 256) : Rd (w.setCell ⟨g, j, none⟩ (.int .u8 (y : Int))) (some ⟨g, 0, none⟩) n (l.set j y) := by
  obtain ⟨b, o, he, hb, hc⟩ := h.2.2 (by omega)
  injection he with he
  injection he with e1 e2
  subst e1 e2
  have hx : l[j]? = some (l[j]'(by rw [h.1]; exact hj)) := List.getElem?_eq_getElem _
  refine ⟨by rw [List.length_set]; exact h.1, fun x hx => ?_, fun _ => ⟨g, 0, rfl, by simpa [World.setCell] using hb, fun i x hi => ?_⟩⟩
  · rcases List.mem_or_eq_of_mem_set hx with h1 | h1
    · exact h.2.1 x h1
    · omega
  · rw [Nat.zero_add]
    by_cases e : i = j
    · subst e
      rw [List.getElem?_set_self (by rw [h.1]; exact hj)] at hi
      injection hi with hi
      subst hi
      have h0 := hc i _ hx
      rw [Nat.zero_add] at h0
      exact World.cell?_setCell_same w _ _ h0
    · rw [List.getElem?_set_ne (fun e2 => e e2.symm)] at hi
      have h0 := hc i x hi
      rw [Nat.zero_add] at h0
      rw [World.cell?_setCell_other w _ _ _ (fun e2 => e (by injection e2 with _ e3; exact e3.symm))]
      exact h0
end Go.Proofs.YthfcjlndaajkfaaGreat
namespace Go.Proofs.YthfcjlndaajkfaaGreat
open Go.RowKit
namespace Cd
def text (s : ByteArray) : List Nat := num s.size ++ bs s
end Cd
namespace Cd
/-- The text at the beginning, and what stands behind it. -/
def takeText (l : List Nat) (most : Int) : Option (List Nat × List Nat) :=
  match takeNum l with
  | none => none
  | some (v, r) => if most < 0 ∨ most < (v : Int) ∨ r.length < v then none else some (r.take v, r.drop v)
end Cd
/-- How a TakeText ends. -/
def GivesTakeText (w : World) (o : Option (List Nat × List Nat)) (e : Ending) (w' : World) : Prop :=
  match o with
  | none => e = .returned (.tuple #[.string ⟨#[]⟩, .slice none 0 0, .bool false]) ∧ Below w.heap.size w w'
  | some (t, r) => ∃ A cap, e = .returned (.tuple #[.string (str t), .slice A r.length cap, .bool true]) ∧ Rd w' A r.length r ∧ r.length ≤ cap ∧ Below w.heap.size w w'
theorem wrap_u64_nat (m : Nat) (h : m < 18446744073709551616) : IntKind.u64.wrap (m : Int) = (m : Int) := by rw [IntKind.wrap_u64]; omega
end Go.Proofs.YthfcjlndaajkfaaGreat
