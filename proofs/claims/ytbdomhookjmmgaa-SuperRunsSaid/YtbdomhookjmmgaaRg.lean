/- A region that draws its order and whose last operation waits for all others: the others in any order, then that one. Calls of Go functions at an operation of a drawn region whose order the proof picks itself. Calls of no argument and of one, at an operation of a drawn region. A scope with one label; the frame of super.Load. -/
import Derived.StillTail
import Derived.Deep.RegionHeld
import Derived.OrdersHeld
import Derived.StillTailTactics
import Derived.Test.YtbdomhookjmmgaaBytes
import Derived.Deep.RegionLaw
import Derived.ScopeJumps
import Derived.WalkMore
namespace Go.Proofs.Ytbdomhookjmmgaa
section
variable {P : Program} {md : Region.Mode}
/-- What is asked behind the others. -/
def LastQ (Q : Exit → Act → World → Prop) (R : Act → World → Prop) : Exit → Act → World → Prop
  | .normal, a, w => R a w
  | e, a, w => Q e a w
/-- Each waits only for those ahead of it, and none is guarded. -/
def backB (ops : Array Oper) : Bool := (List.range ops.size).all fun i => match ops[i]? with
  | some o => o.after.all (fun e => decide (e.on < i)) && o.guard.isNone
  | none => true
theorem back_spec {ops : Array Oper} (h : backB ops = true) {i : Nat} {o : Oper} (ho : ops[i]? = some o) : (∀ e ∈ o.after, e.on < i) ∧ o.guard = none := by
  have hi : i < ops.size := (Array.getElem?_eq_some_iff.1 ho).1
  have h1 := List.all_eq_true.1 h i (List.mem_range.2 hi)
  rw [ho] at h1
  simp only [Bool.and_eq_true] at h1
  refine ⟨fun e he => ?_, by simpa using h1.2⟩
  have := Array.all_eq_true'.1 h1.1 e he
  simpa using this
theorem wanted_free {o : Oper} (h : o.guard = none) (f : Nat → Option Bool) : Region.wanted o f = true := by
  unfold Region.wanted; rw [h]
/-- One that is not listed, and the first of them: it may come up. -/
theorem least_ready {ops : Array Oper} {listed : Array Bool} (hb : backB ops = true) (hs : listed.size = ops.size) {i : Nat} (hi : i < ops.size) (hun : listed.getD i true = false) : ∃ j, j ≤ i ∧ j ∈ Region.ready md ops listed := by
  induction i using Nat.strongRecOn with
  | _ i ih =>
    by_cases h : ∃ j, j < i ∧ listed.getD j true = false
    · obtain ⟨j, hj, hu⟩ := h
      obtain ⟨k, h1, h2⟩ := ih j hj (by omega) hu
      exact ⟨k, by omega, h2⟩
    · refine ⟨i, Nat.le_refl _, mem_ready.2 ⟨hun, ops[i], by simp [hi], fun e he _ => ?_⟩⟩
      have hlt := (back_spec hb (i := i) (o := ops[i]) (by simp [hi])).1 e he
      have h1 : listed.getD e.on true = true := by
        cases e2 : listed.getD e.on true with
        | true => rfl
        | false => exact absurd ⟨e.on, hlt, e2⟩ h
      have hl : e.on < listed.size := by omega
      simp [hl] at h1 ⊢
      exact h1
theorem ready_all {ops : Array Oper} {n : Nat} {listed : Array Bool} (hs : listed.size = ops.size) (hn : ops.size = n + 1) (hall : ∀ i, i < n → listed.getD i true = true) : Region.ready md ops (listed.setIfInBounds n true) = [] := by
  cases e : Region.ready md ops (listed.setIfInBounds n true) with
  | nil => rfl
  | cons k r =>
    have hk : k ∈ Region.ready md ops (listed.setIfInBounds n true) := by rw [e]; simp
    obtain ⟨hu, o, ho, _⟩ := mem_ready.1 hk
    have hkn : k < n + 1 := by rw [← hn]; exact (Array.getElem?_eq_some_iff.1 ho).1
    by_cases e2 : n = k
    · subst e2
      have hsz : n < listed.size := by omega
      simp [hsz] at hu
    · rw [getD_set_ne true e2, hall k (by omega)] at hu
      cases hu
theorem upon_last {Q : Exit → Act → World → Prop} {R : Act → World → Prop} {o : Oper} {a : Act} {w : World} {K K' : Act → World → Prop} (h : ∀ a w, K a w → K' a w) (hh : o.wp P a w K (LastQ Q R)) : o.wp P a w K' Q := by
  unfold Oper.wp at *
  generalize (execOp a.eval o).run P w = r at *
  cases r with
  | ok n w' =>
    cases n <;> simp only [Oper.upon] at hh ⊢ <;>
      first
        | exact h _ _ hh
        | exact Calls.mono hh (fun e w'' he => by
            cases e with
            | returned v => exact h _ _ he
            | panicked c => exact he
            | outgrown => exact he)
        | exact Rows.mono hh (fun _ _ he => h _ _ he)
  | halt x w' => cases x <;> simp only [Oper.upon] at hh ⊢ <;> exact hh
theorem wpOp_last {ops ops' : Array Oper} {n i : Nat} {Q : Exit → Act → World → Prop} {R : Act → World → Prop} (hb : backB ops = true) (hsame : ∀ i, i < n → ops'[i]? = ops[i]?) (hi : i < n) {a : Act} {w : World} {K K' : Act → World → Prop} (h : ∀ a w, K a w → K' a w)
    (hh : wpOp P ops' (LastQ Q R) i K a w) : wpOp P ops Q i K' a w := by
  unfold wpOp at *
  rw [hsame i hi] at hh
  cases ho : ops[i]? with
  | none => rw [ho] at hh; exact h _ _ hh
  | some o =>
    rw [ho] at hh
    have hg := (back_spec hb ho).2
    simp only [wanted_free hg, if_true] at hh ⊢
    exact hh.imp (upon_last h) fun ⟨h1, h2⟩ => ⟨h1, h2⟩
theorem ready_head {ops ops' : Array Oper} {n i : Nat} {listed listed' : Array Bool} (hsame : ∀ i, i < n → ops'[i]? = ops[i]?) (hl : ∀ i, i < n → ∀ d, listed'.getD i d = listed.getD i d) (hb : backB ops = true) (hi : i < n) : i ∈ Region.ready md ops' listed' ↔ i ∈ Region.ready md ops listed := by
  rw [mem_ready, mem_ready, hl i hi, hsame i hi]
  constructor
  · rintro ⟨h1, o, ho, h2⟩
    exact ⟨h1, o, ho, fun e he hm => by rw [← hl e.on (by have := (back_spec hb ho).1 e he; omega)]; exact h2 e he hm⟩
  · rintro ⟨h1, o, ho, h2⟩
    exact ⟨h1, o, ho, fun e he hm => by rw [hl e.on (by have := (back_spec hb ho).1 e he; omega)]; exact h2 e he hm⟩
theorem wpAny_last {ops ops' : Array Oper} {n : Nat} {Q : Exit → Act → World → Prop} (hb : backB ops = true) (hs : Region.sinkB md ops n = true) (hc : Region.chainB md ops n = true) (hn : ops.size = n + 1) (hn' : ops'.size = n) (hsame : ∀ i, i < n → ops'[i]? = ops[i]?) :
    ∀ (f : Nat) (listed listed' : Array Bool) (a : Act) (w : World), HeadInv md ops n listed → (∀ i, i < n → ∀ d, listed'.getD i d = listed.getD i d) →
      wpAny P md ops' (LastQ Q (fun a w => wpOp P ops Q n (fun a' w' => Q .normal a' w') a w)) f listed' a w → wpAny P md ops Q (f + 1) listed a w := by
  intro f
  induction f with
  | zero =>
    intro listed listed' a w inv hl h
    obtain ⟨h1, h2⟩ := h
    have hun : listed.getD n true = false := inv.tail n (Nat.le_refl _) (by omega)
    have hall : ∀ i, i < n → listed.getD i true = true := fun i hi => by
      cases e : listed.getD i true with
      | true => rfl
      | false =>
        obtain ⟨j, hj, hr⟩ := least_ready (md := md) hb inv.size (by omega) e
        have := (ready_head (md := md) hsame hl hb (show j < n by omega)).2 hr
        rw [h1] at this
        cases this
    refine ⟨fun h0 => ?_, fun i hi => ?_⟩
    · obtain ⟨j, _, hr⟩ := least_ready (md := md) hb inv.size (by omega) hun
      rw [h0] at hr
      cases hr
    · have hun2 := (mem_ready.1 hi).1
      obtain ⟨_, o, ho, _⟩ := mem_ready.1 hi
      have hin : i < n + 1 := by rw [← hn]; exact (Array.getElem?_eq_some_iff.1 ho).1
      have hi2 : i = n := by
        by_cases e : i < n
        · rw [hall i e] at hun2; cases hun2
        · omega
      subst hi2
      exact wpOp_mono (fun a' w' hq => ⟨ready_all inv.size hn hall, hq⟩) h2
  | succ f ih =>
    intro listed listed' a w inv hl h
    obtain ⟨h1, h2⟩ := h
    have hun : listed.getD n true = false := inv.tail n (Nat.le_refl _) (by omega)
    refine ⟨fun h0 => ?_, fun i hi => ?_⟩
    · obtain ⟨j, _, hr⟩ := least_ready (md := md) hb inv.size (by omega) hun
      rw [h0] at hr
      cases hr
    · obtain ⟨hun2, o, ho, _⟩ := mem_ready.1 hi
      have hin : i < n + 1 := by rw [← hn]; exact (Array.getElem?_eq_some_iff.1 ho).1
      by_cases e : i < n
      · have hi' := (ready_head (md := md) hsame hl hb e).2 hi
        refine wpOp_last hb hsame e (fun a' w' hk => ih _ _ a' w' (inv.set hi e) (fun k hk2 d => ?_) hk) (h2 i hi')
        by_cases e2 : i = k
        · subst e2
          have hs1 : i < listed.size := by rw [inv.size]; omega
          have hs2 : i < listed'.size := by
            rcases Nat.lt_or_ge i listed'.size with h' | h'
            · exact h'
            · have h3 := hl i e true
              have h4 := hl i e false
              simp [Array.getElem?_eq_none h'] at h3 h4
              simp [hs1] at h3 h4
              rw [h3] at h4; cases h4
          simp [hs1, hs2]
        · rw [getD_set_ne d e2, getD_set_ne d e2]; exact hl k hk2 d
      · have hi2 : i = n := by omega
        subst hi2
        have hall : ∀ k, k < i → listed.getD k true = true := fun k hk => by
          cases e3 : listed.getD k true with
          | true => rfl
          | false => exact absurd hi (tail_waits hs hc (by omega) inv (i - k) k rfl hk e3 i (Nat.le_refl _))
        have hr' : Region.ready md ops' listed' = [] := by
          cases e4 : Region.ready md ops' listed' with
          | nil => rfl
          | cons k r =>
            have hk : k ∈ Region.ready md ops' listed' := by rw [e4]; simp
            obtain ⟨hu, o', ho', _⟩ := mem_ready.1 hk
            have hkn : k < i := by rw [← hn']; exact (Array.getElem?_eq_some_iff.1 ho').1
            rw [hl k hkn, hall k hkn] at hu
            cases hu
        have hq := h1 hr'
        have hra := ready_all (md := md) inv.size hn hall
        exact wpOp_mono (fun a' w' hq => ⟨fun _ => hq, by rw [hra]; simp⟩) hq
/-- All that is asked of such a region. -/
def lastB (l : List Oper) : Bool := backB l.toArray && Region.sinkB .any l.toArray (l.length - 1) && Region.chainB .any l.toArray (l.length - 1) && decide (0 < l.length)
theorem region_last {id : Nat} {Q : Exit → Act → World → Prop} {a : Act} {w : World} {l l' : List Oper} {o : Oper} (S : World → Prop) (hm : P.follows .mixedOrders = true) (hl : l = l' ++ [o]) (hB : lastB l = true)
    (h : wpAnyH P .any l'.toArray (LastQ Q (fun a w => wpList P l.toArray Q [o] a w)) S l'.length (Array.replicate l'.length false) a w.drew) : (Code.region id l.toArray true).wp P Q a w := by
  unfold lastB at hB
  simp only [Bool.and_eq_true, decide_eq_true_eq] at hB
  obtain ⟨⟨⟨hb, hs⟩, hc⟩, _⟩ := hB
  have hn : l.toArray.size = l'.length + 1 := by rw [hl]; simp
  have hlen : l.length - 1 = l'.length := by rw [hl]; simp
  rw [hlen] at hs hc
  have ho : l.toArray[l'.length]? = some o := by rw [hl]; simp
  refine wp_region_any hm ?_
  have h1 := wpAny_of_held _ _ _ _ h
  have e : (fun (a : Act) (w : World) => wpList P l.toArray Q [o] a w) = fun a w => wpOp P l.toArray Q l'.length (fun a' w' => Q .normal a' w') a w := by
    funext a w
    unfold wpOp
    rw [ho]
    rfl
  rw [e] at h1
  have inv : HeadInv .any l.toArray l'.length (Array.replicate (l'.length + 1) false) := by
    refine ⟨by rw [hn]; simp, fun j oj _ hl2 => ?_, fun t _ ht => ?_⟩
    · rw [getD_replicate_false] at hl2; cases hl2
    · exact getD_in (by rw [Array.size_replicate]; omega) (getD_replicate_false _ _)
  have hd : ∀ i, i < l'.length → ∀ d, (Array.replicate l'.length false).getD i d = (Array.replicate (l'.length + 1) false).getD i d := fun i hi d => by
    simp [hi, Nat.lt_succ_of_lt hi]
  have hsame : ∀ i, i < l'.length → l'.toArray[i]? = l.toArray[i]? := fun i hi => by
    rw [hl]; simp [List.getElem?_append_left hi]
  have h2 := wpAny_last (Q := Q) hb hs hc hn (by simp) hsame l'.length _ _ a _ inv hd h1
  rw [hn]
  exact h2
theorem region_end {id : Nat} {Q : Exit → Act → World → Prop} {a : Act} {w : World} {l : List Oper} (S : World → Prop) (hm : P.follows .mixedOrders = true) (hne : l ≠ []) (hB : lastB l = true)
    (h : wpAnyH P .any l.dropLast.toArray (LastQ Q (fun a w => wpList P l.toArray Q [l.getLast hne] a w)) S l.dropLast.length (Array.replicate l.dropLast.length false) a w.drew) : (Code.region id l.toArray true).wp P Q a w :=
  region_last S hm (List.dropLast_concat_getLast hne).symm hB h
section
variable {ops : Array Oper} {Q : Exit → Act → World → Prop} {S : World → Prop}
/-- Take number i first; where it leaves its value is told. -/
theorem take_at {i : Nat} {oi : Oper} {v : Value} {fuel : Nat} {listed : Array Bool} {a : Act} {w : World} (d : Option Tmp) (hi : ops[i]? = some oi) (hd : oi.dst = d)
    (hs : Region.noSelect ops = true) (hf : Region.free md ops listed i = true) (hr : (Region.ready md ops listed).contains i = true)
    (hQ : ∀ c a w, Q (.panic c) (a.put oi.dst v) w → Q (.panic c) a w) (hw : Region.wanted oi (yielded ops a.tmps) = true) (hS : S w) (hy : ∀ w, S w → (execOp a.eval oi).run P w = .ok (.value v) w)
    (h : wpAnyH P md ops Q S fuel (listed.setIfInBounds i true) (a.put d v) w) : wpAnyH P md ops Q S (fuel + 1) listed a w :=
  wpAnyH_take hi hs hf hr hQ (.inl ⟨hw, hy⟩) hS (by rw [hd]; exact h)
/-- One of those that may come up; where it leaves its value is told. -/
theorem ready_cons {fuel : Nat} {listed : Array Bool} {a : Act} {w : World} {i : Nat} {o : Oper} {rs : List Nat} (ho : ops[i]? = some o) (hw : Region.wanted o (yielded ops a.tmps) = true)
    (h : ∀ K' : Act → World → Prop, Shut (∀ a w, S w → wpAnyH P md ops Q S fuel (listed.setIfInBounds i true) a w → K' a w) → o.wp P a w K' Q)
    (hs : AllReadyH P md ops Q S fuel listed a w rs) : AllReadyH P md ops Q S fuel listed a w (i :: rs) :=
  AllReadyH.cons ho (fun K' hK => by rw [if_pos hw]; exact h K' (fun a w h1 h2 => hK.out a w h1 (fun _ => h2))) hs
end
end
end Go.Proofs.Ytbdomhookjmmgaa
namespace Go.Proofs.Ytbdomhookjmmgaa
open Go.RowKit
set_option linter.unusedVariables false
theorem run_enter {F : FuncId} {fn : Func} (hf : Try.prog.funcs[F]? = some fn) (hname : (fn.name == "runtime.NumGoroutine") = false) (hb : fn.body.isNone = false) (args : Array Value) (w : World) : (callFunc F args).run Try.prog w = .ok (.enter F args) w := by
  unfold callFunc
  rw [Sem.run_bind]
  show (Result.ok Try.prog w).andThen _ = _
  rw [Result.andThen_ok]
  simp only [hf, hname, hb, Bool.false_eq_true, if_false]
  rfl
/-- A call of a Go function of two arguments, at a step of a drawn region. -/
theorem step_call2 {w : World} {ops : Array Oper} {o : Oper} {a : Act} {K : Act → World → Prop} {Q : Exit → Act → World → Prop} {E : Prop} {F : FuncId} {vx vy : Value} {T U : TypeId} (hw : Region.wanted o (yielded ops a.tmps) = true) (d : Nat) (hd : o.dst = some d) (x y : Operand)
    (ho : o.op = .call { callee := .value (.func F), args := #[x, y], argTypes := #[T, U] }) (hx : a.eval x = vx) (hy : a.eval y = vy) (hcF : ∀ (args : Array Value) (wx : World), (callFunc F args).run Try.prog wx = .ok (.enter F args) wx)
    (h : Calls Try.prog F #[vx, vy] w fun e w' => ∃ v, e = .returned v ∧ K (a.put (some d) v) w') :
    if Region.wanted o (yielded ops a.tmps) = true then Oper.wp Try.prog o a w K Q else E := by
  rw [if_pos hw]
  unfold Oper.wp execOp
  have e1 : a.eval (.func F) = .func (.func F) #[] #[] := rfl
  simp only [ho, resolve, invoke, Deferred.ofValue, e1, Sem.run_bind, Sem.run_pure, Result.andThen_ok, List.map_toArray, List.map_cons, List.map_nil, hx, hy]
  simp only [Array.empty_append, Array.append_empty, hcF]
  refine h.mono ?_
  rintro e w' ⟨v, rfl, hk⟩
  rw [← hd] at hk
  exact hk
theorem wp_call2 {w : World} {o : Oper} {a : Act} {K : Act → World → Prop} {Q : Exit → Act → World → Prop} {F : FuncId} {vx vy : Value} {T U : TypeId} (d : Nat) (hd : o.dst = some d) (x y : Operand)
    (ho : o.op = .call { callee := .value (.func F), args := #[x, y], argTypes := #[T, U] }) (hx : a.eval x = vx) (hy : a.eval y = vy) (hcF : ∀ (args : Array Value) (wx : World), (callFunc F args).run Try.prog wx = .ok (.enter F args) wx)
    (h : Calls Try.prog F #[vx, vy] w fun e w' => ∃ v, e = .returned v ∧ K (a.put (some d) v) w') : Oper.wp Try.prog o a w K Q := by
  unfold Oper.wp execOp
  have e1 : a.eval (.func F) = .func (.func F) #[] #[] := rfl
  simp only [ho, resolve, invoke, Deferred.ofValue, e1, Sem.run_bind, Sem.run_pure, Result.andThen_ok, List.map_toArray, List.map_cons, List.map_nil, hx, hy]
  simp only [Array.empty_append, Array.append_empty, hcF]
  refine h.mono ?_
  rintro e w' ⟨v, rfl, hk⟩
  rw [← hd] at hk
  exact hk
theorem wp_appB {w : World} {base n cap : Nat} {A : Option Addr} {l : List Nat} {o : Oper} {a : Act} {K : Act → World → Prop} {Q : Exit → Act → World → Prop} (d : Nat) (hd : o.dst = some d) (s x : Operand)
    (ho : o.op = .call { callee := .builtin .append, args := #[s, x], argTypes := #[28, 28] })
    (hs : a.eval s = .slice A n cap) (hown : Own w base A n cap l) (B : Option Addr) (m c : Nat) (news : List Nat) (hx : a.eval x = .slice B m c) (hr : Rd w B m news) (hlen : n + m ≤ 100000000) (hbase : base ≤ w.heap.size)
    (h : ∀ A' cap' w', Grew w w' base A A' n cap (n + m) cap' (l ++ news) → K (a.put (some d) (.slice A' (n + m) cap')) w') : Oper.wp Try.prog o a w K Q := by
  obtain ⟨A', cap', w', hrun, hg⟩ := run_appB hown B m c news hr hlen hbase o.type
  unfold Oper.wp execOp
  simp only [ho, resolve, invoke, builtin, Sem.run_bind, Sem.run_pure, Result.andThen_ok, List.map_toArray, List.map_cons, List.map_nil, hs, hx, hrun]
  have h2 := h A' cap' w' hg
  rw [← hd] at h2
  exact h2
/-- One whose guard says no. -/
theorem skip_at {md : Region.Mode} {ops : Array Oper} {Q : Exit → Act → World → Prop} {S : World → Prop} {i : Nat} {oi : Oper} {fuel : Nat} {listed : Array Bool} {a : Act} {w : World} (d : Option Tmp) (hi : ops[i]? = some oi) (hd : oi.dst = d)
    (hs : Region.noSelect ops = true) (hf : Region.free md ops listed i = true) (hr : (Region.ready md ops listed).contains i = true)
    (hQ : ∀ c a w, Q (.panic c) (a.put oi.dst undef) w → Q (.panic c) a w) (hw : Region.wanted oi (yielded ops a.tmps) = false) (hS : S w)
    (h : wpAnyH Try.prog md ops Q S fuel (listed.setIfInBounds i true) (a.put d undef) w) : wpAnyH Try.prog md ops Q S (fuel + 1) listed a w :=
  wpAnyH_take hi hs hf hr hQ (.inr ⟨hw, rfl⟩) hS (by rw [hd]; exact h)
end Go.Proofs.Ytbdomhookjmmgaa
namespace Go.Proofs.Ytbdomhookjmmgaa
open Go.RowKit
set_option linter.unusedVariables false
theorem wp_call0 {w : World} {o : Oper} {a : Act} {K : Act → World → Prop} {Q : Exit → Act → World → Prop} {F : FuncId} (d : Nat) (hd : o.dst = some d)
    (ho : o.op = .call { callee := .value (.func F), args := #[], argTypes := #[] }) (hcF : ∀ (args : Array Value) (wx : World), (callFunc F args).run Try.prog wx = .ok (.enter F args) wx)
    (h : Calls Try.prog F #[] w fun e w' => ∃ v, e = .returned v ∧ K (a.put (some d) v) w') : Oper.wp Try.prog o a w K Q := by
  unfold Oper.wp execOp
  have e1 : a.eval (.func F) = .func (.func F) #[] #[] := rfl
  simp only [ho, resolve, invoke, Deferred.ofValue, e1, Sem.run_bind, Sem.run_pure, Result.andThen_ok, List.map_toArray, List.map_nil]
  simp only [Array.append_empty, hcF]
  refine h.mono ?_
  rintro e w' ⟨v, rfl, hk⟩
  rw [← hd] at hk
  exact hk
theorem wp_call1 {w : World} {o : Oper} {a : Act} {K : Act → World → Prop} {Q : Exit → Act → World → Prop} {F : FuncId} {vx : Value} {T : TypeId} (d : Nat) (hd : o.dst = some d) (x : Operand)
    (ho : o.op = .call { callee := .value (.func F), args := #[x], argTypes := #[T] }) (hx : a.eval x = vx) (hcF : ∀ (args : Array Value) (wx : World), (callFunc F args).run Try.prog wx = .ok (.enter F args) wx)
    (h : Calls Try.prog F #[vx] w fun e w' => ∃ v, e = .returned v ∧ K (a.put (some d) v) w') : Oper.wp Try.prog o a w K Q := by
  unfold Oper.wp execOp
  have e1 : a.eval (.func F) = .func (.func F) #[] #[] := rfl
  simp only [ho, resolve, invoke, Deferred.ofValue, e1, Sem.run_bind, Sem.run_pure, Result.andThen_ok, List.map_toArray, List.map_cons, List.map_nil, hx]
  simp only [Array.empty_append, Array.append_empty, hcF]
  refine h.mono ?_
  rintro e w' ⟨v, rfl, hk⟩
  rw [← hd] at hk
  exact hk
end Go.Proofs.Ytbdomhookjmmgaa
namespace Go.Proofs.Ytbdomhookjmmgaa
open Go.RowKit
set_option linter.unusedVariables false
/-- By a goto: J; else Q. -/
def Exit.jump1 (J : Act → World → Prop) (Q : Exit → Act → World → Prop) : Exit → Act → World → Prop
  | .goto l, a, w => l = 0 ∧ J a w
  | e, a, w => Q e a w
theorem wp_scope1 {P : Program} {a : Act} {w : World} {Q : Exit → Act → World → Prop} {c r0 : Code} (J : Act → World → Prop) (μ : Act → World → Nat)
    (h0 : findLabel c 0 = some (Code.skip.seq r0))
    (first : (∀ a w, J a w → r0.wp P (Exit.jump1 J Q) a w) → c.wp P (Exit.jump1 J Q) a w)
    (p0 : ∀ a w, J a w → r0.wp P (Exit.jump1 (fun a' w' => J a' w' ∧ μ a' w' < μ a w) Q) a w) : (Code.scope c).wp P Q a w := by
  have first := first (fun a w hj => Code.wp_mono (fun e a w h => by cases e <;> first | exact h | exact ⟨h.1, h.2.1⟩) (p0 a w hj))
  have p0 : ∀ a w, J a w → (Code.skip.seq r0).wp P (Exit.jump1 (fun a' w' => J a' w' ∧ μ a' w' < μ a w) Q) a w := fun a w hj => wp_seq (wp_skip (p0 a w hj))
  intro b k cs
  have key : ∀ n a w, μ a w = n → J a w → ∃ e a' w', Q e a' w' ∧ Arrives P (lone (b.at a (.code (Code.skip.seq r0) :: .inScope c :: k)) cs w) b k cs e a' w' := by
    intro n
    induction n using Nat.strongRecOn with
    | _ n ih =>
      intro a w hn hj
      obtain ⟨e, a₁, w₁, hq, harr⟩ := p0 a w hj b (.inScope c :: k) cs
      cases e with
      | normal => exact ⟨.normal, a₁, w₁, hq, Steps.trans harr (.one step_inScope)⟩
      | exit id => exact ⟨.exit id, a₁, w₁, hq, fun k' hk => harr k' (by simp [exitTo, hk])⟩
      | goto l' =>
        obtain ⟨hl, hj', hlt⟩ := hq
        subst hl
        obtain ⟨e₂, a₂, w₂, hq₂, harr₂⟩ := ih _ (by omega) a₁ w₁ rfl hj'
        exact ⟨e₂, a₂, w₂, hq₂, .of_steps (harr _ (by simp [gotoIn, h0])) harr₂⟩
      | ret => exact ⟨_, a₁, w₁, hq, harr⟩
      | panic ch => exact ⟨_, a₁, w₁, hq, harr⟩
      | outgrown => exact ⟨_, a₁, w₁, hq, harr⟩
  obtain ⟨e, a₁, w₁, hq, harr⟩ := first b (.inScope c :: k) cs
  cases e with
  | normal => exact ⟨.normal, a₁, w₁, hq, .head step_scope (Steps.trans harr (.one step_inScope))⟩
  | exit id => exact ⟨.exit id, a₁, w₁, hq, fun k' hk => .head step_scope (harr k' (by simp [exitTo, hk]))⟩
  | goto l' =>
    obtain ⟨hl, hj⟩ := hq
    subst hl
    obtain ⟨e₂, a₂, w₂, hq₂, harr₂⟩ := key _ a₁ w₁ rfl hj
    exact ⟨e₂, a₂, w₂, hq₂, .of_steps (.head step_scope (harr _ (by simp [gotoIn, h0]))) harr₂⟩
  | ret => exact ⟨_, a₁, w₁, hq, .of_steps (.one step_scope) harr⟩
  | panic ch => exact ⟨_, a₁, w₁, hq, .of_steps (.one step_scope) harr⟩
  | outgrown => exact ⟨_, a₁, w₁, hq, .of_steps (.one step_scope) harr⟩
theorem arr_range (t : Array Value) (n : Nat) (h : t.size = n) : t = ((List.range n).map fun i => t.getD i undef).toArray := by
  apply Array.ext
  · simp [h]
  · intro i h1 h2
    simp [Array.getD, h1]
set_option maxRecDepth 100000 in
theorem act53 (a : Act) (h : a.tmps.size = 53) (hd : a.defers = []) : ∃ u : Nat → Value, a = { tmps := #[u 0, u 1, u 2, u 3, u 4, u 5, u 6, u 7, u 8, u 9, u 10, u 11, u 12, u 13, u 14, u 15, u 16, u 17, u 18, u 19, u 20, u 21, u 22, u 23, u 24, u 25, u 26, u 27, u 28, u 29, u 30, u 31, u 32, u 33, u 34, u 35, u 36, u 37, u 38, u 39, u 40, u 41, u 42, u 43, u 44, u 45, u 46, u 47, u 48, u 49, u 50, u 51, u 52], defers := [] } ∧ ∀ i, a.tmps.getD i undef = u i := by
  refine ⟨fun i => a.tmps.getD i undef, ?_, fun i => rfl⟩
  have e := arr_range a.tmps 53 h
  obtain ⟨t, d⟩ := a
  dsimp at e hd
  subst hd
  conv => lhs; rw [e]
  rfl
end Go.Proofs.Ytbdomhookjmmgaa
