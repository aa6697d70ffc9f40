/- Words for strings: a string as a list of numbers, its parts, what is equal, what is less; bytes of a string, in new memory; append of a string to bytes. What the document's own Text and TakeText of layer 2 return. -/
import Derived.Test.YthfcjlndaajkfaaGreatG01
import Derived.Test.YthfcjlndaajkfaaGreatN01
import Derived.Lib.AppendStr
import Derived.Lib.ConvBytes
import Derived.Lib.Strings
import Derived.Test.YthfcjlndaajkfaaGreatN06
namespace Go.Proofs.YthfcjlndaajkfaaGreat
open Go.RowKit
/-- The bytes of a string. -/
def bs (s : ByteArray) : List Nat := s.data.toList.map UInt8.toNat
theorem bs_lt (s : ByteArray) : ∀ x ∈ bs s, x < 256 := by
  intro x hx
  obtain ⟨u, _, rfl⟩ := List.mem_map.1 hx
  have := u.toNat_lt
  omega
theorem bs_length (s : ByteArray) : (bs s).length = s.size := by
  rw [bs, List.length_map, Array.length_toList]; rfl
theorem str_bs (s : ByteArray) : str (bs s) = s := by
  unfold str bs
  rw [List.map_map]
  have e : ((fun (n : Nat) => UInt8.ofNat n) ∘ UInt8.toNat) = id := by funext u; simp
  rw [e, List.map_id]
theorem bs_str {l : List Nat} (hl : ∀ x ∈ l, x < 256) : bs (str l) = l := by
  have h : str (bs (str l)) = str l := str_bs _
  exact str_inj (bs_lt _) hl h
theorem bs_inj {a b : ByteArray} (h : bs a = bs b) : a = b := by rw [← str_bs a, ← str_bs b, h]
theorem bs_at {s : ByteArray} {k : Nat} (hk : k < s.size) : (bs s)[k]? = some s[k].toNat := by
  unfold bs
  rw [List.getElem?_map]
  have h2 : k < s.data.toList.length := by rw [Array.length_toList]; exact hk
  rw [List.getElem?_eq_getElem h2]
  simp [ByteArray.getElem_eq_getElem_data]
theorem bs_extract (s : ByteArray) (a b : Nat) : bs (s.extract a b) = ((bs s).drop a).take (b - a) := by
  unfold bs
  rw [Lib.extract_data, List.map_take, List.map_drop]
theorem bs_append (a b : ByteArray) : bs (a ++ b) = bs a ++ bs b := by
  unfold bs
  rw [← List.map_append]
  simp
/-- What is equal. -/
theorem toList_beq (a b : ByteArray) : (a.toList == b.toList) = decide (bs a = bs b) := by
  rw [ByteArray.toList_eq, ByteArray.toList_eq]
  by_cases h : a = b
  · subst h; simp
  · have h1 : ¬ bs a = bs b := fun e => h (bs_inj e)
    rw [decide_eq_false h1, beq_eq_false_iff_ne]
    intro e
    apply h1
    unfold bs
    rw [e]
/-- What is less, byte by byte. -/
def lessL : List Nat → List Nat → Bool
  | _, [] => false
  | [], _ :: _ => true
  | a :: x, b :: y => decide (a < b) || (decide (a = b) && lessL x y)
theorem less_aux : ∀ (x y : List UInt8), Op.bytesLess x y = lessL (x.map UInt8.toNat) (y.map UInt8.toNat)
  | [], [] => rfl
  | _ :: _, [] => rfl
  | [], _ :: _ => rfl
  | a :: x, b :: y => by
    have e1 : (decide (a < b)) = decide (a.toNat < b.toNat) := by
      by_cases h : a < b
      · rw [decide_eq_true h, decide_eq_true (UInt8.lt_iff_toNat_lt.1 h)]
      · rw [decide_eq_false h, decide_eq_false (fun h2 => h (UInt8.lt_iff_toNat_lt.2 h2))]
    have e2 : (a == b) = decide (a.toNat = b.toNat) := by
      by_cases h : a = b
      · subst h; simp
      · have h2 : ¬ a.toNat = b.toNat := fun e => h (UInt8.toNat_inj.1 e)
        rw [decide_eq_false h2, beq_eq_false_iff_ne]; exact h
    show (decide (a < b) || (a == b && Op.bytesLess x y)) = (decide (a.toNat < b.toNat) || (decide (a.toNat = b.toNat) && lessL (x.map UInt8.toNat) (y.map UInt8.toNat)))
    rw [e1, e2, less_aux x y]
theorem bytesLess_bs (a b : ByteArray) : Op.bytesLess a.toList b.toList = lessL (bs a) (bs b) := by
  rw [ByteArray.toList_eq, ByteArray.toList_eq]
  exact less_aux _ _
/-- append of a string to bytes of the call's own. -/
theorem strCells_bv (s : ByteArray) : Lib.strCells s = bv (bs s) := by
  unfold Lib.strCells bv bs
  rw [List.map_map]
  rfl
theorem wpList_appS {w : World} {base n cap : Nat} {A : Option Addr} {l : List Nat} {ops : Array Oper} {rest : List Oper} {o : Oper} {a : Act} {Q : Exit → Act → World → Prop} (hgd : o.guard = none) (sl x : Operand)
    (ho : o.op = .call { callee := .builtin .append, args := #[sl, x], argTypes := #[51, 9] })
    (hs : a.eval sl = .slice A n cap) (hown : Own w base A n cap l) (s : ByteArray) (hx : a.eval x = .string s) (hlen : n + s.size ≤ 100000000) (hbase : base ≤ w.heap.size)
    (h : ∀ A' cap' w', Own w' base A' (n + s.size) cap' (l ++ bs s) → w.grownBy w' (Value.slice A n cap).ownBlock → wpList Tryz.prog ops Q rest (a.put o.dst (.slice A' (n + s.size) cap')) w') : wpList Tryz.prog ops Q (o :: rest) a w := by
  obtain ⟨i0, hi, hz0, hz1, hz2⟩ := info_parts info5
  refine Lib.wpList_append_own_string w hgd sl x 51 9 ho base 5 i0 Tryz.underlying51 Tryz.underlying9 hi hz0 hz1 hz2 (.slice A n cap) n (bv l) hs hown.2.2 s hx (by simp only [maxLen]; omega) (by omega) hbase ?_
  intro v' w' h2 h3 _
  have hf : ∃ A' cap', v' = .slice A' (n + s.size) cap' := by
    rcases h2.2 with ⟨hv, h0⟩ | ⟨g, c', cur, hv, _⟩
    · exact ⟨none, 0, by rw [hv, h0]⟩
    · exact ⟨_, _, hv⟩
  obtain ⟨A', cap', rfl⟩ := hf
  refine h A' cap' w' ⟨by rw [List.length_append, hown.1, bs_length], fun y hy => (List.mem_append.1 hy).elim (hown.2.1 y) (bs_lt s y), ?_⟩ h3
  rw [bv_append, ← strCells_bv]
  exact h2
/-- Bytes of a string, in new memory. -/
theorem conv_bytes (w : World) (s : ByteArray) : ∃ W cap, (convert 9 51 (.string s)).run Tryz.prog w = .ok (.slice (some ⟨w.heap.size, 0, none⟩) s.size cap) W ∧ Rd W (some ⟨w.heap.size, 0, none⟩) s.size (bs s) ∧
    Below w.heap.size w W ∧ s.size ≤ cap ∧ (∀ j, j < s.size → W.frozen? ⟨w.heap.size, j, none⟩ = false) ∧ w.heap.size < W.heap.size := by
  refine ⟨Lib.bytesWorld w 5 s, grownCap w s.size 0 5, Lib.run_convert_string_bytes w 9 51 5 s Tryz.underlying9 Tryz.underlying51 Tryz.underlying5, ⟨bs_length s, bs_lt s, fun _ => ⟨w.heap.size, 0, rfl, ?_, fun j x hx => ?_⟩⟩, ⟨?_, ?_, ?_, ?_, fun k hk => Lib.bytesWorld_at_old w 5 s k hk⟩, grownCap_ge _ _ _ _, fun j hj => ?_, ?_⟩
  · rw [Lib.bytesWorld_size]; omega
  · rw [Nat.zero_add]
    have hj : j < s.size := by have := (List.getElem?_eq_some_iff.1 hx).1; rw [bs_length] at this; exact this
    rw [Lib.bytesWorld_cell w 5 s j hj]
    have h2 : j < s.data.toList.length := by rw [Array.length_toList]; exact hj
    unfold bs at hx
    rw [List.getElem?_map, List.getElem?_eq_getElem h2, Option.map_some, Option.some.injEq] at hx
    rw [List.getD_eq_getElem?_getD, List.getElem?_eq_getElem h2, Option.getD_some, hx]
  · unfold Lib.bytesWorld World.freeze; split <;> rfl
  · unfold Lib.bytesWorld World.freeze; split <;> rfl
  · unfold Lib.bytesWorld World.freeze; split <;> rfl
  · rw [Lib.bytesWorld_size]; omega
  · have hsz : (Lib.bytesCells w 5 s).size ≥ s.size := by
      unfold Lib.bytesCells
      rw [Array.size_append, Array.size_map]
      exact Nat.le_add_right _ _
    unfold World.frozen?
    rw [Lib.bytesWorld_at_new w 5 s]
    simp
    omega
  · rw [Lib.bytesWorld_size]; omega
/-- A byte of a row that reads as a list is written. -/
theorem Rd.set {w : World} {g n j y : Nat} {l : List Nat} (h : Rd w (some ⟨g, 0, none⟩) n l) (hj : j < n) (hy : y < 256) : Rd (w.setCell ⟨g, j, none⟩ (.int .u8 (y : Int))) (some ⟨g, 0, none⟩) n (l.set j y) := by
  obtain ⟨b, o, he, hb, hc⟩ := h.2.2 (by omega)
  injection he with he
  injection he with e1 e2
  subst e1 e2
  have hx : l[j]? = some (l[j]'(by rw [h.1]; exact hj)) := List.getElem?_eq_getElem _
  refine ⟨by rw [List.length_set]; exact h.1, fun x hx => ?_, fun _ => ⟨g, 0, rfl, by simpa [World.setCell] using hb, fun i x hi => ?_⟩⟩
  · rcases List.mem_or_eq_of_mem_set hx with h1 | h1
    · exact h.2.1 x h1
    · omega
  · rw [Nat.zero_add]
    by_cases e : i = j
    · subst e
      rw [List.getElem?_set_self (by rw [h.1]; exact hj)] at hi
      injection hi with hi
      subst hi
      have h0 := hc i _ hx
      rw [Nat.zero_add] at h0
      exact World.cell?_setCell_same w _ _ h0
    · rw [List.getElem?_set_ne (fun e2 => e e2.symm)] at hi
      have h0 := hc i x hi
      rw [Nat.zero_add] at h0
      rw [World.cell?_setCell_other w _ _ _ (fun e2 => e (by injection e2 with _ e3; exact e3.symm))]
      exact h0
/-- A string that came in. -/
theorem text_in {s : ByteArray} : ∃ l, bs s = l ∧ (∀ x ∈ l, x < 256) ∧ l.length = s.size := ⟨bs s, rfl, bs_lt s, bs_length s⟩
end Go.Proofs.YthfcjlndaajkfaaGreat
namespace Go.Proofs.YthfcjlndaajkfaaGreat
open Go.RowKit
theorem ret_string {a b : ByteArray} (h : a = b) : Ending.returned (.string a) = .returned (.string b) := by rw [h]
theorem ret_slice2 {A : Option Addr} {n m cap : Nat} (h : n = m) : Ending.returned (.slice A n cap) = .returned (.slice A m cap) := by rw [h]
namespace Cd
def text (s : ByteArray) : List Nat := num s.size ++ bs s
end Cd
namespace Cd
/-- The text at the beginning, and what stands behind it. -/
def takeText (l : List Nat) (most : Int) : Option (List Nat × List Nat) :=
  match takeNum l with
  | none => none
  | some (v, r) => if most < 0 ∨ most < (v : Int) ∨ r.length < v then none else some (r.take v, r.drop v)
end Cd
/-- How a TakeText ends. -/
def GivesTakeText (w : World) (o : Option (List Nat × List Nat)) (e : Ending) (w' : World) : Prop :=
  match o with
  | none => e = .returned (.tuple #[.string ⟨#[]⟩, .slice none 0 0, .bool false]) ∧ Below w.heap.size w w'
  | some (t, r) => ∃ A cap, e = .returned (.tuple #[.string (str t), .slice A r.length cap, .bool true]) ∧ Rd w' A r.length r ∧ r.length ≤ cap ∧ Below w.heap.size w w'
theorem wrap_u64_nat (m : Nat) (h : m < 18446744073709551616) : IntKind.u64.wrap (m : Int) = (m : Int) := by rw [IntKind.wrap_u64]; omega
end Go.Proofs.YthfcjlndaajkfaaGreat
