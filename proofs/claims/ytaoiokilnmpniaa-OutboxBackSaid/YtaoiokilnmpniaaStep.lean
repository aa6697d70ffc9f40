/- append of bytes at a step of a region that draws its order. -/
import Derived.Test.YtaoiokilnmpniaaCodeUniK
import Derived.Deep.RegionHeldLaw
namespace Go.Proofs.Ytaoiokilnmpniaa
open Go.RowKit
theorem step_appB {w : World} {base n cap : Nat} {A : Option Addr} {l : List Nat} {ops : Array Oper} {o : Oper} {a : Act} {K : Act → World → Prop} {Q : Exit → Act → World → Prop} {E : Prop} (hw : Region.wanted o (yielded ops a.tmps) = true) (s x : Operand)
    (ho : o.op = .call { callee := .builtin .append, args := #[s, x], argTypes := #[59, 59] })
    (hs : a.eval s = .slice A n cap) (hown : Own w base A n cap l) (B : Option Addr) (m c : Nat) (news : List Nat) (hx : a.eval x = .slice B m c) (hr : Rd w B m news) (hlen : n + m ≤ 100000000) (hbase : base ≤ w.heap.size)
    (h : ∀ A' cap' w', Grew w w' base A A' n cap (n + m) cap' (l ++ news) → K (a.put o.dst (.slice A' (n + m) cap')) w') :
    if Region.wanted o (yielded ops a.tmps) = true then Oper.wp Try.prog o a w K Q else E := by
  rw [if_pos hw]
  obtain ⟨A', cap', w', hrun, hg⟩ := run_appB hown B m c news hr hlen hbase o.type
  unfold Oper.wp execOp
  simp only [ho, resolve, invoke, builtin, Sem.run_bind, Sem.run_pure, Result.andThen_ok, List.map_toArray, List.map_cons, List.map_nil, hs, hx, hrun]
  exact h A' cap' w' hg
theorem esc_length_ge (x : List Nat) : x.length ≤ (Cd.esc x).length := by
  induction x with
  | nil => exact Nat.le_refl _
  | cons c t ih =>
    show t.length + 1 ≤ (if c = 0 then 0 :: 255 :: Cd.esc t else c :: Cd.esc t).length
    split <;> simp only [List.length_cons] <;> omega
theorem keyOf_part (l : List ByteArray) (p : ByteArray) (h : p ∈ l) : p.size ≤ (Cd.keyOf l).length := by
  induction l with
  | nil => cases h
  | cons q t ih =>
    show _ ≤ (Cd.esc (bs q) ++ [0, 1] ++ Cd.keyOf t).length
    rw [List.length_append, List.length_append]
    rcases List.mem_cons.1 h with h1 | h1
    · have := esc_length_ge (bs q)
      rw [bs_length] at this
      rw [h1]; omega
    · have := ih h1
      omega
theorem parts_size {s : ByteArray} {ps : List ByteArray} (h : Cd.parts (bs s) = some ps) (hs : s.size ≤ 100000) : ∀ p ∈ ps, p.size ≤ 100000 := by
  intro p hp
  have := keyOf_part ps p hp
  rw [(keyOf_parts (bs_lt s) h).2, bs_length] at this
  omega
end Go.Proofs.Ytaoiokilnmpniaa
