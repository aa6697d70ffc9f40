/- copy of any bytes into a sector of zeros. -/
import Derived.Test.YtpggomekbahddaaWlAddF
namespace Go.Proofs.Ytpggomekbahddaa
open Go.RowKit Fi Fr
set_option linter.unusedVariables false
set_option linter.unusedSimpArgs false
set_option maxRecDepth 100000 in
theorem wpList_full {w : World} {g : Nat} {ops : Array Oper} {rest : List Oper} {op : Oper} {a : Act} {Q : Exit → Act → World → Prop} (hgd : op.guard = none) (d s : Operand)
    (ho : op.op = .call { callee := .builtin .copy, args := #[d, s], argTypes := #[23, 23] }) (h : Buf w g (List.replicate 128 0)) (hd : a.eval d = .slice (some ⟨g, 0, none⟩) 128 128) (A : Option Addr) (n c : Nat) (b : List Nat)
    (hs : a.eval s = .slice A n c) (hp : Rd w A n b)
    (hk : ∀ v w', Buf w' g (Dk.full b) → Ch1 g w w' → wpList Try.prog ops Q rest (a.put op.dst v) w') : wpList Try.prog ops Q (op :: rest) a w := by
  by_cases hn : n ≤ 128
  · refine wpList_copyF hgd d s ho h 0 128 128 hd A n c b hs hp hn (by simp; omega) ?_
    intro w2 hb2 hc2
    refine hk _ w2 ?_ hc2
    have e : (List.replicate 128 0).take 0 ++ (b ++ (List.replicate 128 0).drop (0 + b.length)) = Dk.full b := by
      have := hp.1
      unfold Dk.full
      rw [List.take_zero, List.nil_append, List.take_of_length_le (by omega), List.drop_replicate, Nat.zero_add]
    rw [e] at hb2
    exact hb2
  · have HR8 := hp.take (k := 128) (by omega)
    have hlb := hp.2.1
    have hl := hp.1
    obtain ⟨q, o, hA, hq, hc⟩ := HR8.2.2 (by omega)
    subst hA
    have h128 : (b.take 128).length = 128 := HR8.1
    refine wpList_copy_own hgd d s 23 23 ho 5 Try.underlying23 (by kernel_rfl) g 0 128 128 ⟨q, o, none⟩ n c hd hs (bv (List.replicate 128 0)).toArray 5 h.1 (bv (b.take 128)) (by rw [bv_length, h128]; show 128 = min n 128; omega) (fun j x hx => by
        unfold bv at hx
        rw [List.getElem?_map] at hx
        cases hq : (b.take 128)[j]? with
        | none => rw [hq] at hx; cases hx
        | some y =>
          rw [hq] at hx
          injection hx with hx
          subst hx
          have e : (⟨q, o, none⟩ : Addr).add j = ⟨q, o + j, none⟩ := by unfold Addr.add; split <;> simp_all
          rw [e]; exact hc j y hq) (by rw [bv_length, h128]; simp [bv]) (bv_one _) ?_
    refine hk _ _ ⟨?_, fun x hx => ?_⟩ (Ch1.row _ _ _)
    · rw [setRow_heap _ _ _ _ _ _ h.1]
      have e : Dk.full b = b.take 128 := by
        unfold Dk.full
        rw [show 128 - b.length = 0 by omega]
        simp
      rw [e, bv_length, h128]
      simp [bv]
    · unfold Dk.full at hx
      rcases List.mem_append.1 hx with h1 | h1
      · exact hlb x (List.mem_of_mem_take h1)
      · rw [List.eq_of_mem_replicate h1]; omega
theorem Ds.ch1 {w v v' : World} {d b : Nat} {lab : Nat → Tag} {st : Dk.St} {U : List Nat} (h : Ds w v d lab st U) (hc : Ch1 b v v') (hb : lab b = .no) (hw : w.heap.size ≤ b) : Ds w v' d lab st U :=
  ⟨hc.below h.below hw h.below.size, h.disk.keep hc.size (fun k hk => hc.block k (h.disk.old k hk) (fun e => hk (by rw [e]; exact hb))), h.labs, fun u hu => ⟨(h.un u hu).1, Nat.lt_of_lt_of_le (h.un u hu).2 hc.size⟩⟩
theorem Ds.sub {w v : World} {d : Nat} {lab : Nat → Tag} {st : Dk.St} {U V : List Nat} (h : Ds w v d lab st U) (hs : ∀ u ∈ V, u ∈ U) : Ds w v d lab st V := ⟨h.below, h.disk, h.labs, fun u hu => h.un u (hs u hu)⟩
theorem Kp.holds {lab : Nat → Tag} {lb b : Nat} {w v : World} {cs : List Value} (h : Kp lab lb w v) (k : Holds w b cs) (hl : lab b = .no) (hn : b ≠ lb) : Holds v b cs :=
  ⟨Nat.lt_of_lt_of_le k.1 h.1, fun i y hy => (World.cell?_of_block (a := ⟨b, i, none⟩) (h.2 b k.1 hl hn)).trans (k.2.1 i y hy), fun i => (World.frozen?_of_block (a := ⟨b, i, none⟩) (h.2 b k.1 hl hn)).trans (k.2.2 i)⟩
theorem Kp.rdc {lab : Nat → Tag} {lb s n : Nat} {w v : World} {A : Option Addr} {vs : List Value} (h : Kp lab lb w v) (k : RdC s w A n vs) (hl : ∀ b o, A = some ⟨b, o, none⟩ → lab b = .no ∧ b ≠ lb) : RdC s v A n vs := by
  refine ⟨k.1, fun hn => ?_⟩
  obtain ⟨b, o, rfl, hb, hc⟩ := k.2 hn
  obtain ⟨h1, h2⟩ := hl b o rfl
  exact ⟨b, o, rfl, Nat.lt_of_lt_of_le hb h.1, fun j x hx => (World.cell?_of_block (a := ⟨b, o + j, none⟩) (h.2 b hb h1 h2)).trans (hc j x hx)⟩
end Go.Proofs.Ytpggomekbahddaa
