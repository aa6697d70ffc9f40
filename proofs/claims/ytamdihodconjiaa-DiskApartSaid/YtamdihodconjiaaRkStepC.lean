/- A step of both disks: whatever kind. Calls of two arguments at a step of a drawn region. -/
import Derived.Test.YtamdihodconjiaaRkStep1
import Derived.Test.YtamdihodconjiaaRkStepB
import Derived.Test.YtamdihodconjiaaRkStep6
import Derived.Test.YtamdihodconjiaaBytes
import Derived.Deep.RegionLaw
namespace Go.Proofs.Ytamdihodconjiaa
open Go.RowKit
set_option linter.unusedVariables false
theorem step_any (s : DOp) (a w : World) (bx d g cnt : Nat) (st : Dk.St) (lab labR : Nat → Tag) (h : Duo a w d g st cnt lab labR) (hx : Holds w bx (duoV d g)) (hl : lab bx = .no ∧ labR bx = .no) (hcnt : cnt ≤ 900) (hab : a.heap.size ≤ bx) (b o : Nat) (hop : OpAt a b o s) :
    Calls Try.prog 13 #[.pointer (some ⟨bx, 0, none⟩), .agg #[.int .i64 s.kind, .int .i64 s.at_, .slice s.A s.m s.c, .bool s.whole, .int .i64 s.n, .int .i64 s.place, .int .u8 (s.mask : Int), .slice s.F s.fm s.fc]] w (GivesStep a bx (cnt + 1)) := by
  have hrb := hop.rb.below h.base
  have hrf := hop.rf.below h.base
  have hun : ∀ q o, s.A = some ⟨q, o, none⟩ → 0 < s.m → lab q = .no ∧ labR q = .no := fun q o e hm => by
    obtain ⟨q', o', e', hq, _⟩ := hop.rb.2.2 hm
    rw [e] at e'
    injection e' with e'
    injection e' with e1 e2
    subst e1
    refine ⟨?_, ?_⟩
    · cases e3 : lab q with
      | no => rfl
      | _ => exact absurd (h.la q (by rw [e3]; simp)) (by omega)
    · cases e3 : labR q with
      | no => rfl
      | _ => exact absurd (h.lr q (by rw [e3]; simp)) (by omega)
  by_cases k1 : s.kind = 1
  · rw [k1]; exact step_write s a w bx d g cnt st lab labR h hx hl hcnt hop.mask hrb hun hop.mc.1 hop.mc.2
  by_cases k2 : s.kind = 2
  · rw [k2]; exact step_flush s a w bx d g cnt st lab labR h hx hl hcnt hop.mask
  by_cases k3 : s.kind = 3
  · rw [k3]; exact step_fuse s a w bx d g cnt st lab labR h hx hl hcnt hop.mask
  by_cases k4 : s.kind = 4
  · rw [k4]; exact step_rot s a w bx d g cnt st lab labR h hx hl hcnt hop.mask
  by_cases k5 : s.kind = 5
  · rw [k5]; exact step_crash s a w bx d g cnt st lab labR h hx hl hcnt hop.mask hab hrf hop.fl hop.fmc.2
  by_cases k6 : s.kind = 6
  · rw [k6]; exact step_fit s a w bx d g cnt st lab labR h hx hl hcnt hop.mask hab hrf hop.fl hop.fmc.2
  exact step_other s a w bx d g cnt st lab labR h hx hl hcnt hop.mask ⟨k1, k2, k3, k4, k5, k6⟩
end Go.Proofs.Ytamdihodconjiaa
namespace Go.Proofs.Ytamdihodconjiaa
open Go.RowKit
theorem run_enter {F : FuncId} {fn : Func} (hf : Try.prog.funcs[F]? = some fn) (hname : (fn.name == "runtime.NumGoroutine") = false) (hb : fn.body.isNone = false) (args : Array Value) (w : World) : (callFunc F args).run Try.prog w = .ok (.enter F args) w := by
  unfold callFunc
  rw [Sem.run_bind]
  show (Result.ok Try.prog w).andThen _ = _
  rw [Result.andThen_ok]
  simp only [hf, hname, hb, Bool.false_eq_true, if_false]
  rfl
/-- A call of a Go function of two arguments, at a step of a drawn region. -/
theorem step_call2 {w : World} {ops : Array Oper} {o : Oper} {a : Act} {K : Act → World → Prop} {Q : Exit → Act → World → Prop} {E : Prop} {F : FuncId} {vx vy : Value} {T U : TypeId} (hw : Region.wanted o (yielded ops a.tmps) = true) (d : Nat) (hd : o.dst = some d) (x y : Operand)
    (ho : o.op = .call { callee := .value (.func F), args := #[x, y], argTypes := #[T, U] }) (hx : a.eval x = vx) (hy : a.eval y = vy) (hcF : ∀ (args : Array Value) (wx : World), (callFunc F args).run Try.prog wx = .ok (.enter F args) wx)
    (h : Calls Try.prog F #[vx, vy] w fun e w' => ∃ v, e = .returned v ∧ K (a.put (some d) v) w') :
    if Region.wanted o (yielded ops a.tmps) = true then Oper.wp Try.prog o a w K Q else E := by
  rw [if_pos hw]
  unfold Oper.wp execOp
  have e1 : a.eval (.func F) = .func (.func F) #[] #[] := rfl
  simp only [ho, resolve, invoke, Deferred.ofValue, e1, Sem.run_bind, Sem.run_pure, Result.andThen_ok, List.map_toArray, List.map_cons, List.map_nil, hx, hy]
  simp only [Array.empty_append, Array.append_empty, hcF]
  refine h.mono ?_
  rintro e w' ⟨v, rfl, hk⟩
  rw [← hd] at hk
  exact hk
theorem wp_call2 {w : World} {o : Oper} {a : Act} {K : Act → World → Prop} {Q : Exit → Act → World → Prop} {F : FuncId} {vx vy : Value} {T U : TypeId} (d : Nat) (hd : o.dst = some d) (x y : Operand)
    (ho : o.op = .call { callee := .value (.func F), args := #[x, y], argTypes := #[T, U] }) (hx : a.eval x = vx) (hy : a.eval y = vy) (hcF : ∀ (args : Array Value) (wx : World), (callFunc F args).run Try.prog wx = .ok (.enter F args) wx)
    (h : Calls Try.prog F #[vx, vy] w fun e w' => ∃ v, e = .returned v ∧ K (a.put (some d) v) w') : Oper.wp Try.prog o a w K Q := by
  unfold Oper.wp execOp
  have e1 : a.eval (.func F) = .func (.func F) #[] #[] := rfl
  simp only [ho, resolve, invoke, Deferred.ofValue, e1, Sem.run_bind, Sem.run_pure, Result.andThen_ok, List.map_toArray, List.map_cons, List.map_nil, hx, hy]
  simp only [Array.empty_append, Array.append_empty, hcF]
  refine h.mono ?_
  rintro e w' ⟨v, rfl, hk⟩
  rw [← hd] at hk
  exact hk
set_option maxRecDepth 100000 in
theorem enter_step (args : Array Value) (w : World) : (callFunc 13 args).run Try.prog w = .ok (.enter 13 args) w := run_enter Try.func13 (by kernel_rfl) (by kernel_rfl) args w
set_option maxRecDepth 100000 in
theorem enter_same (args : Array Value) (w : World) : (callFunc 14 args).run Try.prog w = .ok (.enter 14 args) w := run_enter Try.func14 (by kernel_rfl) (by kernel_rfl) args w
end Go.Proofs.Ytamdihodconjiaa
