/- Steps of a drawn region for BooksAdds: calls of less and of few in whatever order; what they leave. -/
import Derived.Test.YtcoekdfmfjglpaaBoLaw
import Derived.Test.YtcoekdfmfjglpaaBoLessO
import Derived.Test.YtcoekdfmfjglpaaBoRAdd
import Derived.Deep.DeepCutAuto
namespace Go.Proofs.Ytcoekdfmfjglpaa
open Go.RowKit
theorem less_rd {w : World} {base : Nat} {B : Option Addr} {c : Nat} {l : List Bo.Tt} (h : OwnC 4 w base 46 B (Bo.less l).length c (Bo.tflat (Bo.less l))) : RdT w B (Bo.less l).length (Bo.less l) :=
  ⟨rfl, h.rd, fun x hx => by have := Bo.less_small hx; omega⟩
theorem grown_setCell (w : World) (p : Addr) (u : Value) : w.grownBy (w.setCell p u) (some p.block) :=
  ⟨rfl, rfl, rfl, by simp [World.setCell], fun k _ hk => Below.heap_setCell w p u k (fun e => hk (by rw [e]))⟩
theorem ownc_far {s : Nat} {w : World} {base : Nat} {E : TypeId} {A : Option Addr} {n cap : Nat} {vs : List Value} (h : OwnC s w base E A n cap vs) {p : Addr} (hp : p.block < base) (v : Value) : OwnC s (w.setCell p v) base E A n cap vs :=
  h.grown (grown_setCell w p v) (.inr fun g hg e => by
    injection hg with hg
    have := (h.blk g e).1
    omega)
/-- The box is written: what is left. -/
theorem box_done {w0 u v : World} {B : Option Addr} {c b : Nat} {l : List Bo.Tt} {x y z x' y' z' : Value} (ho : OwnC 4 v u.heap.size 46 B (Bo.less l).length c (Bo.tflat (Bo.less l))) (hb : b < u.heap.size) (hz : Holds v b [x, y, z]) (h0 : Below w0.heap.size w0 v) (hw : w0.heap.size ≤ b) :
    RdT (((v.setCell ⟨b, 0, none⟩ x').setCell ⟨b, 1, none⟩ y').setCell ⟨b, 2, none⟩ z') B (Bo.less l).length (Bo.less l) ∧ Holds (((v.setCell ⟨b, 0, none⟩ x').setCell ⟨b, 1, none⟩ y').setCell ⟨b, 2, none⟩ z') b [x', y', z'] ∧ Below w0.heap.size w0 (((v.setCell ⟨b, 0, none⟩ x').setCell ⟨b, 1, none⟩ y').setCell ⟨b, 2, none⟩ z') :=
  ⟨less_rd (ownc_far (ownc_far (ownc_far ho (p := ⟨b, 0, none⟩) hb _) (p := ⟨b, 1, none⟩) hb _) (p := ⟨b, 2, none⟩) hb _), hz.set3 x' y' z', ((h0.setCell (p := ⟨b, 0, none⟩) hw _).setCell (p := ⟨b, 1, none⟩) hw _).setCell (p := ⟨b, 2, none⟩) hw _⟩
theorem bstep_call1 {w : World} {ops : Array Oper} {o : Oper} {a : Act} {K : Act → World → Prop} {Q : Exit → Act → World → Prop} {E : Prop} {F : FuncId} {vx : Value} {T : TypeId} (hw : Region.wanted o (yielded ops a.tmps) = true) (d : Nat) (hd : o.dst = some d) (x : Operand)
    (ho : o.op = .call { callee := .value (.func F), args := #[x], argTypes := #[T] }) (hx : a.eval x = vx) (hcF : ∀ (args : Array Value) (wx : World), (callFunc F args).run Try.prog wx = .ok (.enter F args) wx)
    (h : Calls Try.prog F #[vx] w fun e w' => ∃ v, e = .returned v ∧ K (a.put (some d) v) w') :
    if Region.wanted o (yielded ops a.tmps) = true then Oper.wp Try.prog o a w K Q else E := by
  rw [if_pos hw]
  unfold Oper.wp execOp
  have e1 : a.eval (.func F) = .func (.func F) #[] #[] := rfl
  simp only [ho, resolve, invoke, Deferred.ofValue, e1, Sem.run_bind, Sem.run_pure, Result.andThen_ok, List.map_toArray, List.map_cons, List.map_nil, hx]
  simp only [Array.empty_append, Array.append_empty, hcF]
  refine h.mono ?_
  rintro e w' ⟨v, rfl, hk⟩
  rw [← hd] at hk
  exact hk
theorem run_enter {F : FuncId} {fn : Func} (hf : Try.prog.funcs[F]? = some fn) (hname : (fn.name == "runtime.NumGoroutine") = false) (hb : fn.body.isNone = false) (args : Array Value) (w : World) : (callFunc F args).run Try.prog w = .ok (.enter F args) w := by
  unfold callFunc
  rw [Sem.run_bind]
  show (Result.ok Try.prog w).andThen _ = _
  rw [Result.andThen_ok]
  simp only [hf, hname, hb, Bool.false_eq_true, if_false]
  rfl
theorem enter_less (args : Array Value) (w : World) : (callFunc 7 args).run Try.prog w = .ok (.enter 7 args) w := run_enter Try.func7 (by kernel_rfl) (by kernel_rfl) args w
theorem enter_few (args : Array Value) (w : World) : (callFunc 8 args).run Try.prog w = .ok (.enter 8 args) w := run_enter Try.func8 (by kernel_rfl) (by kernel_rfl) args w
/-- A box of three, as it is and free. -/
theorem box3 {w v : World} {b : Nat} {x y z : Value} (h : Holds w b [x, y, z]) (hb : Below w.heap.size w v) : (v.cell? ⟨b, 0, none⟩ = some x ∧ v.cell? ⟨b, 1, none⟩ = some y ∧ v.cell? ⟨b, 2, none⟩ = some z) ∧ v.frozen? ⟨b, 0, none⟩ = false ∧ v.frozen? ⟨b, 1, none⟩ = false ∧ v.frozen? ⟨b, 2, none⟩ = false := by
  have k := h.below hb
  exact ⟨⟨k.at_ 0 rfl, k.at_ 1 rfl, k.at_ 2 rfl⟩, k.2.2 0, k.2.2 1, k.2.2 2⟩
/-- One line, where it lies. -/
theorem RdL.one {w : World} {A : Option Addr} {x : Bo.Ln} (h : RdL w A 1 [x]) : ∃ b o, A = some ⟨b, o, none⟩ ∧ b < w.heap.size ∧ ∀ w', Below w.heap.size w w' → (w'.cell? ⟨b, o, none⟩ = some (.int .i64 x.kind) ∧ w'.cell? ⟨b, o + 1, none⟩ = some (.string x.key) ∧ w'.cell? ⟨b, o + 2, none⟩ = some (.int .i64 x.n)) := by
  obtain ⟨b, o, rfl, hb, hc⟩ := h.2.1.2 (by decide)
  exact ⟨b, o, rfl, hb, fun w' hw => ⟨(hw.cell hb).trans (hc 0 _ rfl), (hw.cell hb).trans (hc 1 _ rfl), (hw.cell hb).trans (hc 2 _ rfl)⟩⟩
end Go.Proofs.Ytcoekdfmfjglpaa
