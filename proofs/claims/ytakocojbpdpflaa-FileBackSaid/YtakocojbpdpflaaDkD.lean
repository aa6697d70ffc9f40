/- The next of a map of rows. -/
import Derived.Test.YtakocojbpdpflaaDkC
namespace Go.Proofs.Ytakocojbpdpflaa
open Go.RowKit
set_option linter.unusedVariables false
section
variable (w : World) {ops : Array Oper} {rest : List Oper} {o : Oper} {a : Act} {Q : Exit → Act → World → Prop}
set_option maxRecDepth 100000 in
theorem next_dm {L : List Dm.Mp} (hr : Dm.Ris L) (hg : o.guard = none) (it : Operand) (hop : o.op = Op.next it false) (b r n : Nat) (left : Lit → Bool) (cnt : Nat) (hit : a.eval it = .pointer (some ⟨r, 0, none⟩)) (h : w.ranges Try.prog 3 Dm.elem b r n (Dm.dat L) left cnt)
    (hDone : (∀ kl, left kl = false) → wpList Try.prog ops Q rest (a.put o.dst (.tuple #[.bool false])) w)
    (hMore : ∀ (m : Dm.Mp) (w' : World) (cnt' : Nat), m ∈ L → left (.int .i64 m.q) = true → w'.ranges Try.prog 3 Dm.elem b r n (Dm.dat L) (fun z => left z && !z.sameKey (.int .i64 m.q)) cnt' → cnt' < cnt → w.grownBy w' (some r) → w'.heap.size = w.heap.size →
      (Instr.entry (.pointer (some ⟨r, 0, none⟩))).run Try.prog w' = .ok (.tuple #[.int .i64 m.q, m.val]) w' → wpList Try.prog ops Q rest (a.put o.dst (.tuple #[.bool true, .int .i64 m.q, m.val])) w') :
    wpList Try.prog ops Q (o :: rest) a w :=
  wpList_next_ranges w hg it hop 3 keyed Dm.elem (Value.int .i64) (fun v : Value => v) (fun key kl hkey => by obtain ⟨x, rfl, _⟩ := Maps.keyOf_int_inv Try.underlying3 hkey; exact ⟨x, rfl⟩) (fun v y _ => ⟨v, rfl⟩)
    b r n (Dm.dat L) left cnt hit h (fun _ hl => hDone hl) (fun x c kl y w' cnt' hkey hlk hv hat hrg hlt hgr hsz hen => by
      obtain ⟨x', ex, rfl, _⟩ := Maps.keyOf_int_inv Try.underlying3 hkey
      injection ex with _ ex
      subst ex
      have hh : Dm.hasq L x = true := by
        refine Bool.of_not_eq_false fun hf => ?_
        have hf2 : Maps.has (Dm.dat L) (.int .i64 x) = false := by rw [Dm.has_dat]; exact hf
        have e1 := hat (Dm.none_)
        have e2 := hat (DataW.lit (.int .i64 5))
        rw [Maps.atKey_of_not_has hf2] at e1 e2
        rw [← e1] at e2
        unfold Dm.none_ at e2
        cases e2
      obtain ⟨m, hm, hq⟩ := Dm.hasq_yes.1 hh
      subst hq
      have ey := hat Dm.none_
      rw [Dm.at_dat hr hm] at ey
      have hc : c = m.val := by
        rcases Dm.elem_inv hv with ⟨m', e1, e2⟩ | ⟨e1, e2⟩
        · rw [e2] at ey
          rw [e1, Dm.data_inj ey]
        · rw [e2] at ey
          exact absurd ey (Dm.data_none m)
      subst hc
      exact hMore m w' cnt' hm hlk hrg hlt hgr hsz hen)
end
end Go.Proofs.Ytakocojbpdpflaa
