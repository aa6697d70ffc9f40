/- More on bytes: appending them. Plain mathematics of numbers as bytes: seven bits a byte, the lowest first; so many bytes, the highest first. Nothing of the program is imported here. -/
import Derived.Test.YthfcjlndaajkfaaGreatG01
namespace Go.Proofs.YthfcjlndaajkfaaGreat
open Go.RowKit
section
variable {w w' : World} {base n cap : Nat} {A : Option Addr} {l : List Nat}
set_option maxRecDepth 100000 in
theorem run_appB (hown : Own w base A n cap l) (B : Option Addr) (m c : Nat) (news : List Nat) (hr : Rd w B m news) (hlen : n + m ≤ 100000000) (hbase : base ≤ w.heap.size) (ty : TypeId) :
    ∃ A' cap' w', (Builtin.append_ #[51, 51] ty #[.slice A n cap, .slice B m c]).run Tryz.prog w = .ok (.slice A' (n + m) cap') w' ∧ Grew w w' base A A' n cap (n + m) cap' (l ++ news) := by
  obtain ⟨i0, hi, hz0, hz1, hz2⟩ := info_parts info5
  have hbytes : ∀ x ∈ l ++ news, x < 256 := fun x hx => (List.mem_append.1 hx).elim (hown.2.1 x) (hr.2.1 x)
  have hlen2 : (l ++ news).length = n + m := by rw [List.length_append, hown.1, hr.1]
  by_cases hB : ∃ ad, B = some ad
  · obtain ⟨ad, rfl⟩ := hB
    have hnews : ∀ j u, (bv news)[j]? = some u → w.cell? (ad.add j) = some u := by
      intro j u hu
      by_cases hm : 0 < m
      · obtain ⟨b, o, he, _, hc⟩ := hr.2.2 hm
        injection he with he
        subst he
        have hj : j < news.length := by
          have := (List.getElem?_eq_some_iff.1 hu).1
          simpa [bv] using this
        have hx : news[j]? = some news[j] := List.getElem?_eq_getElem hj
        have e : (⟨b, o, none⟩ : Addr).add j = ⟨b, o + j, none⟩ := by unfold Addr.add; split <;> simp_all
        rw [e, hc j _ hx]
        rw [bv_at hx] at hu
        exact hu
      · have h0 : news = [] := List.eq_nil_of_length_eq_zero (by rw [hr.1]; omega)
        subst h0
        simp [bv] at hu
    obtain ⟨v', w', hrun, h2, h3, _, h5⟩ := run_append_own_at (P := Tryz.prog) w base 51 ty 5 i0 _ 1 1 Tryz.underlying51 hi hz0 hz1 hz2 rfl (by omega) (.slice A n cap) n (bv l) hown.2.2 ad m c (bv news)
      (by rw [bv_length, hr.1]; omega) hnews (bv_one _) (by simp only [maxLen]; omega) (by omega) hbase
    have hf : ∃ A' cap', v' = .slice A' (n + m) cap' := by
      rcases h2.2 with ⟨hv, h0⟩ | ⟨g, c', cur, hv, _⟩
      · exact ⟨none, 0, by rw [hv, h0]⟩
      · exact ⟨_, _, hv⟩
    obtain ⟨A', cap', rfl⟩ := hf
    exact ⟨A', cap', w', hrun, ⟨hlen2, hbytes, by rw [bv_append]; exact h2⟩, h3, h5⟩
  · have hB : B = none := by
      rcases B with _ | ad
      · rfl
      · exact absurd ⟨ad, rfl⟩ hB
    subst hB
    have hm : m = 0 := by
      rcases Nat.eq_zero_or_pos m with h0 | h0
      · exact h0
      · obtain ⟨b, o, he, _⟩ := hr.2.2 h0
        cases he
    subst hm
    have h0 : news = [] := List.eq_nil_of_length_eq_zero hr.1
    subst h0
    have hrun : (Builtin.append_ #[51, 51] ty #[.slice A n cap, .slice none 0 c]).run Tryz.prog w = .ok (.slice A n cap) w := by
      rcases hown.2.2.2 with ⟨hv, hn0⟩ | ⟨g, c', cur, hv, _, _, hnc, _⟩
      · rw [hv]
        simp [Builtin.append_, run_underlying Tryz.underlying51, sizeOf, typeInfo, hi, Builtin.lenOf, Builtin.firstCells]
      · rw [hv]
        simp [Builtin.append_, run_underlying Tryz.underlying51, sizeOf, typeInfo, hi, Builtin.lenOf, Builtin.firstCells, hnc, storeCells]
    exact ⟨A, cap, w, hrun, ⟨by simpa using hown, World.grownBy.refl w _, .inl rfl⟩⟩
theorem wpList_appB {ops : Array Oper} {rest : List Oper} {o : Oper} {a : Act} {Q : Exit → Act → World → Prop} (hgd : o.guard = none) (s x : Operand)
    (ho : o.op = .call { callee := .builtin .append, args := #[s, x], argTypes := #[51, 51] })
    (hs : a.eval s = .slice A n cap) (hown : Own w base A n cap l) (B : Option Addr) (m c : Nat) (news : List Nat) (hx : a.eval x = .slice B m c) (hr : Rd w B m news) (hlen : n + m ≤ 100000000) (hbase : base ≤ w.heap.size)
    (h : ∀ A' cap' w', Grew w w' base A A' n cap (n + m) cap' (l ++ news) → wpList Tryz.prog ops Q rest (a.put o.dst (.slice A' (n + m) cap')) w') : wpList Tryz.prog ops Q (o :: rest) a w := by
  obtain ⟨A', cap', w', hrun, hg⟩ := run_appB hown B m c news hr hlen hbase o.type
  refine wpList_plain hgd fun K hK => ?_
  unfold Oper.wp execOp
  simp only [ho, resolve, invoke, builtin, Sem.run_bind, Sem.run_pure, Result.andThen_ok, List.map_toArray, List.map_cons, List.map_nil, hs, hx, hrun]
  exact hK _ _ (h A' cap' w' hg)
end
set_option maxRecDepth 100000 in
theorem run_str {w : World} {A : Option Addr} {n cap : Nat} {l : List Nat} (h : Rd w A n l) : (convert 51 9 (.slice A n cap)).run Tryz.prog w = .ok (.string (str l)) w := by
  rcases A with _ | ad
  · have h0 : n = 0 := by
      rcases Nat.eq_zero_or_pos n with h0 | h0
      · exact h0
      · obtain ⟨b, o, he, _⟩ := h.2.2 h0
        cases he
    subst h0
    have hl : l = [] := List.eq_nil_of_length_eq_zero h.1
    subst hl
    exact run_convert_bytes_nil w 51 5 Tryz.underlying51 Tryz.underlying5 0 cap 9 Tryz.underlying9
  · by_cases h0 : 0 < n
    · obtain ⟨b, o, he, _, hc⟩ := h.2.2 h0
      injection he with he
      subst he
      have hr := run_convert_bytes_arg (P := Tryz.prog) w 51 5 Tryz.underlying51 Tryz.underlying5 b o n cap (l.map fun (x : Nat) => (x : Int)) (by simpa using h.1)
        (fun i hi => by
          have hi2 : i < l.length := by rw [h.1]; exact hi
          rw [hc i l[i] (List.getElem?_eq_getElem hi2)]
          simp [hi2]) 9 Tryz.underlying9
      rw [hr]
      congr 2
      simp [strOfNums, str]
    · have h1 : n = 0 := by omega
      subst h1
      have hl : l = [] := List.eq_nil_of_length_eq_zero h.1
      subst hl
      rw [run_convert_bytes_string w 51 9 5 (some ad) 0 cap Tryz.underlying51 Tryz.underlying5 Tryz.underlying9]
      have := run_bytesToString (P := Tryz.prog) w ad 0 cap [] (by simp [loadCells, loadCellsFrom, Sem.run_pure])
      exact this
end Go.Proofs.YthfcjlndaajkfaaGreat
namespace Go.Proofs.YthfcjlndaajkfaaGreat
namespace Cd
/-- A number as few bytes as may be; f: how many more than the last there may be. -/
def numF : Nat → Nat → List Nat
  | 0, n => [n]
  | f + 1, n => if n < 128 then [n] else (n % 128 + 128) :: numF f (n / 128)
def num (n : Nat) : List Nat := numF 10 n
theorem numF_small {f n : Nat} (h : n < 128) : numF f n = [n] := by
  cases f with
  | zero => rfl
  | succ f => show (if n < 128 then [n] else _) = _; rw [if_pos h]
theorem numF_big {f n : Nat} (h : ¬ n < 128) : numF (f + 1) n = (n % 128 + 128) :: numF f (n / 128) := by
  show (if n < 128 then [n] else _) = _; rw [if_neg h]
theorem numF_length (f n : Nat) : (numF f n).length ≤ f + 1 := by
  induction f generalizing n with
  | zero => simp [numF]
  | succ f ih =>
    by_cases hn : n < 128
    · rw [numF_small hn]; simp
    · rw [numF_big hn, List.length_cons]; have := ih (n / 128); omega
theorem num_length (n : Nat) : (num n).length ≤ 11 := numF_length 10 n
/-- The lowest k bytes of a number, the lowest first. -/
def lowTo (n : Nat) : Nat → List Nat
  | 0 => []
  | k + 1 => lowTo n k ++ [n / 256 ^ k % 256]
/-- The lowest bytes of a number, the highest of these first; nothing, if their count is out of bounds. -/
def fixed (n : Nat) (size : Int) : List Nat := if size < 1 ∨ 8 < size then [] else (lowTo n size.toNat).reverse
/-- The number of bytes, the highest first. -/
def be (l : List Nat) : Nat := l.foldl (fun v x => v * 256 + x) 0
/-- The number of the first bytes, and what stands behind them. -/
def takeFixed (l : List Nat) (size : Int) : Option (Nat × List Nat) :=
  if size < 1 ∨ 8 < size ∨ (l.length : Int) < size then none else some (be (l.take size.toNat), l.drop size.toNat)
end Cd
end Go.Proofs.YthfcjlndaajkfaaGreat
