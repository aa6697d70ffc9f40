/- Small words of layer 12, for layer 10. -/
import Derived.Test.YtfmbnoafmnbhcaaBkCmp
import Derived.Test.YtfmbnoafmnbhcaaStepV
import Derived.Deep.RegionHeldLaw
import Derived.BigQuiet
namespace Go.Proofs.Ytfmbnoafmnbhcaa
open Go.RowKit
theorem run_enter {F : FuncId} {fn : Func} (hf : Try.prog.funcs[F]? = some fn) (hname : (fn.name == "runtime.NumGoroutine") = false) (hb : fn.body.isNone = false) (args : Array Value) (w : World) : (callFunc F args).run Try.prog w = .ok (.enter F args) w := by
  unfold callFunc
  rw [Sem.run_bind]
  show (Result.ok Try.prog w).andThen _ = _
  rw [Result.andThen_ok]
  simp only [hf, hname, hb, Bool.false_eq_true, if_false]
  rfl
/-- A call of a Go function of one argument, at a step of a drawn region. -/
theorem step_call1 {w : World} {ops : Array Oper} {o : Oper} {a : Act} {K : Act → World → Prop} {Q : Exit → Act → World → Prop} {E : Prop} {F : FuncId} {vx : Value} {T : TypeId} (hw : Region.wanted o (yielded ops a.tmps) = true) (d : Nat) (hd : o.dst = some d) (x : Operand)
    (ho : o.op = .call { callee := .value (.func F), args := #[x], argTypes := #[T] }) (hx : a.eval x = vx) (hcF : ∀ (args : Array Value) (wx : World), (callFunc F args).run Try.prog wx = .ok (.enter F args) wx)
    (h : Calls Try.prog F #[vx] w fun e w' => ∃ v, e = .returned v ∧ K (a.put (some d) v) w') :
    if Region.wanted o (yielded ops a.tmps) = true then Oper.wp Try.prog o a w K Q else E := by
  rw [if_pos hw]
  unfold Oper.wp execOp
  have e1 : a.eval (.func F) = .func (.func F) #[] #[] := rfl
  simp only [ho, resolve, invoke, Deferred.ofValue, e1, Sem.run_bind, Sem.run_pure, Result.andThen_ok, List.map_toArray, List.map_cons, List.map_nil, hx]
  simp only [Array.empty_append, Array.append_empty, hcF]
  refine h.mono ?_
  rintro e w' ⟨v, rfl, hk⟩
  rw [← hd] at hk
  exact hk
/-- A call of a Go function of two arguments, at a step of a drawn region. -/
theorem step_call2 {w : World} {ops : Array Oper} {o : Oper} {a : Act} {K : Act → World → Prop} {Q : Exit → Act → World → Prop} {E : Prop} {F : FuncId} {vx vy : Value} {T U : TypeId} (hw : Region.wanted o (yielded ops a.tmps) = true) (d : Nat) (hd : o.dst = some d) (x y : Operand)
    (ho : o.op = .call { callee := .value (.func F), args := #[x, y], argTypes := #[T, U] }) (hx : a.eval x = vx) (hy : a.eval y = vy) (hcF : ∀ (args : Array Value) (wx : World), (callFunc F args).run Try.prog wx = .ok (.enter F args) wx)
    (h : Calls Try.prog F #[vx, vy] w fun e w' => ∃ v, e = .returned v ∧ K (a.put (some d) v) w') :
    if Region.wanted o (yielded ops a.tmps) = true then Oper.wp Try.prog o a w K Q else E := by
  rw [if_pos hw]
  unfold Oper.wp execOp
  have e1 : a.eval (.func F) = .func (.func F) #[] #[] := rfl
  simp only [ho, resolve, invoke, Deferred.ofValue, e1, Sem.run_bind, Sem.run_pure, Result.andThen_ok, List.map_toArray, List.map_cons, List.map_nil, hx, hy]
  simp only [Array.empty_append, Array.append_empty, hcF]
  refine h.mono ?_
  rintro e w' ⟨v, rfl, hk⟩
  rw [← hd] at hk
  exact hk
/-- A bool that tells whether P. -/
def GivesTell (w : World) (P : Prop) (e : Ending) (w' : World) : Prop := ∃ t : Bool, e = .returned (.bool t) ∧ (t = true ↔ P) ∧ Below w.heap.size w w'
theorem tell_no {w w' : World} {P : Prop} (h : ¬ P) (hb : Below w.heap.size w w') : GivesTell w P (.returned (.bool false)) w' := ⟨false, rfl, ⟨(fun e => by cases e), fun e => absurd e h⟩, hb⟩
theorem tell_yes {w w' : World} {P : Prop} (h : P) (hb : Below w.heap.size w w') : GivesTell w P (.returned (.bool true)) w' := ⟨true, rfl, ⟨fun _ => h, fun _ => rfl⟩, hb⟩
theorem grown_setCell (w : World) (p : Addr) (u : Value) : w.grownBy (w.setCell p u) (some p.block) :=
  ⟨rfl, rfl, rfl, by simp [World.setCell], fun k hk hne => Below.heap_setCell _ _ _ _ (fun e => hne (by rw [e]))⟩
theorem grown_any {w w' : World} (h : Below w.heap.size w w') (row : Option Nat) : w.grownBy w' row := ⟨h.os, h.tape, h.output, h.size, fun k hk _ => h.block k hk⟩
theorem Holds.grown {w w' : World} {b : Nat} {cs : List Value} (k : Holds w b cs) {row : Option Nat} (hg : w.grownBy w' row) (hne : row ≠ some b) : Holds w' b cs :=
  ⟨Nat.lt_of_lt_of_le k.1 hg.size, fun i v h => (World.grownBy.cell_far hg ⟨b, i, none⟩ k.1 (fun e => hne e.symm)).trans (k.2.1 i v h), fun i => (World.frozen?_of_block (a := ⟨b, i, none⟩) (hg.block b k.1 (fun e => hne e.symm))).trans (k.2.2 i)⟩
theorem below_set {B : Nat} {z w : World} (h : Below B z w) (p : Addr) (v : Value) (hp : B ≤ p.block) : Below B z (w.setCell p v) :=
  h.trans ⟨rfl, rfl, rfl, by simp [World.setCell], fun k hk => Below.heap_setCell _ _ _ _ (fun e => by omega)⟩
theorem Holds.drew {w : World} {b : Nat} {cs : List Value} (k : Holds w b cs) : Holds w.drew b cs := k
theorem below_grown {B g : Nat} {z w w' : World} (h : Below B z w) (hg : w.grownBy w' (some g)) (hB : B ≤ g) (hs : B ≤ w.heap.size) : Below B z w' :=
  h.trans ⟨hg.os, hg.tape, hg.output, hg.size, fun k hk => hg.block k (by omega) (fun e => by injection e with e; omega)⟩
end Go.Proofs.Ytfmbnoafmnbhcaa
