/- A region that draws its order, within a fence that asks nothing: its moves, one by one. -/
import Derived.Test.YtfmbnoafmnbhcaaRows
import Derived.OrdersIn
import Derived.Fence
import Derived.OwnWalk
import Derived.RangeFuncBound
import Derived.RangeFuncKeeps
namespace Go.Proofs.Ytfmbnoafmnbhcaa
section
variable {n : Nat} {P : Program} {ops : Array Oper} {Q : Exit → Act → World → Prop} {md : Region.Mode} {fuel : Nat} {listed : Array Bool} {a : Act} {w : World}
theorem put_dst {a : Act} {d d' : Option Tmp} {v : Value} {w : World} {X : Act → World → Prop} (e : d = d') (h : X (a.put d' v) w) : X (a.put d v) w := by rw [e]; exact h
/-- What is asked behind a region that never panics. -/
def OnlyN (Q : Exit → Act → World → Prop) : Exit → Act → World → Prop
  | .normal, a, w => Q .normal a w
  | _, _, _ => False
theorem in_start {id : Nat} (hm : P.follows .mixedOrders = true) (h : wpAnyIn Fence.wide n P .any ops (OnlyN Q) ops.size (Array.replicate ops.size false) a w.drew) : (Code.region id ops true).wpIn Fence.wide n P Q a w :=
  wpIn_mono (wpIn_region_any hm h) (fun e a w hq => by cases e <;> first | exact hq | exact hq.elim)
/-- One that yields its value in whatever world is taken first. -/
theorem in_take {i : Nat} {oi : Oper} {v : Value} (d : Option Tmp) (hi : ops[i]? = some oi) (hd : oi.dst = d)
    (hs : Region.noSelect ops = true) (hf : Region.free md ops listed i = true) (hr : (Region.ready md ops listed).contains i = true)
    (hQ : ∀ c a w, Q (.panic c) (a.put oi.dst v) w → Q (.panic c) a w) (hw : Region.wanted oi (yielded ops a.tmps) = true) (hab : ∀ w, oi.about P w a.eval = none) (hy : ∀ w, (execOp a.eval oi).run P w = .ok (.value v) w)
    (h : wpAnyIn Fence.wide n P md ops Q fuel (listed.setIfInBounds i true) (a.put d v) w) : wpAnyIn Fence.wide n P md ops Q (fuel + 1) listed a w :=
  wpAnyIn_take rfl hi hs hf hr hQ ⟨.inl ⟨hw, hy⟩, hab⟩ (by rw [hd]; exact h)
theorem in_skip {i : Nat} {oi : Oper} (d : Option Tmp) (hi : ops[i]? = some oi) (hd : oi.dst = d)
    (hs : Region.noSelect ops = true) (hf : Region.free md ops listed i = true) (hr : (Region.ready md ops listed).contains i = true)
    (hQ : ∀ c a w, Q (.panic c) (a.put oi.dst undef) w → Q (.panic c) a w) (hw : Region.wanted oi (yielded ops a.tmps) = false) (hab : ∀ w, oi.about P w a.eval = none)
    (h : wpAnyIn Fence.wide n P md ops Q fuel (listed.setIfInBounds i true) (a.put d undef) w) : wpAnyIn Fence.wide n P md ops Q (fuel + 1) listed a w :=
  wpAnyIn_take rfl hi hs hf hr hQ ⟨.inr ⟨hw, rfl⟩, hab⟩ (by rw [hd]; exact h)
/-- What an operation about to enter nothing does. -/
theorem opIn_value {o : Oper} {v : Value} {w' : World} {K : Act → World → Prop} (hx : (execOp a.eval o).run P w = .ok (.value v) w') (h : K (a.put o.dst v) w') : o.wpIn Fence.wide n P a w K Q := by
  refine ⟨fun _ _ => trivial, ?_⟩
  show o.uponIn Fence.wide n P a K Q ((o.semAt none a.eval).run P w)
  rw [Oper.semAt_none, hx]
  exact h
/-- The only one that may come up yields a value in this world. -/
theorem in_one {i : Nat} {oi : Oper} {v : Value} (d : Option Tmp) (hr : Region.ready md ops listed = [i]) (hi : ops[i]? = some oi) (hd : oi.dst = d) (hw : Region.wanted oi (yielded ops a.tmps) = true) (hx : (execOp a.eval oi).run P w = .ok (.value v) w)
    (h : wpAnyIn Fence.wide n P md ops Q fuel (listed.setIfInBounds i true) (a.put d v) w) : wpAnyIn Fence.wide n P md ops Q (fuel + 1) listed a w := by
  subst hd
  exact wpAnyIn_ready hr (by simp) (AllReadyIn.cons hi (fun K' hK => by rw [if_pos hw]; exact opIn_value hx (hK _ _ h)) AllReadyIn.nil)
/-- The only one that may come up is passed over. -/
theorem in_pass {i : Nat} {oi : Oper} (d : Option Tmp) (hr : Region.ready md ops listed = [i]) (hi : ops[i]? = some oi) (hd : oi.dst = d) (hw : Region.wanted oi (yielded ops a.tmps) = false)
    (h : wpAnyIn Fence.wide n P md ops Q fuel (listed.setIfInBounds i true) (a.put d undef) w) : wpAnyIn Fence.wide n P md ops Q (fuel + 1) listed a w := by
  subst hd
  refine wpAnyIn_ready hr (by simp) (AllReadyIn.cons hi (fun K' hK => ?_) AllReadyIn.nil)
  rw [if_neg (by rw [hw]; decide)]
  exact ⟨fun _ _ => trivial, hK _ _ h⟩
/-- Two that only read, in either order. -/
theorem in_two {i j : Nat} {oi oj : Oper} {vi vj : Value} (di dj : Option Tmp) (hij : i ≠ j) (hr : Region.ready md ops listed = [i, j]) (hri : Region.ready md ops (listed.setIfInBounds i true) = [j]) (hrj : Region.ready md ops (listed.setIfInBounds j true) = [i])
    (hi : ops[i]? = some oi) (hj : ops[j]? = some oj) (hdi : oi.dst = di) (hdj : oj.dst = dj)
    (hwi : Region.wanted oi (yielded ops a.tmps) = true) (hwj : Region.wanted oj (yielded ops a.tmps) = true) (hwi' : Region.wanted oi (yielded ops (a.put dj vj).tmps) = true) (hwj' : Region.wanted oj (yielded ops (a.put di vi).tmps) = true)
    (hxi : (execOp a.eval oi).run P w = .ok (.value vi) w) (hxj : (execOp a.eval oj).run P w = .ok (.value vj) w) (hxi' : (execOp (a.put dj vj).eval oi).run P w = .ok (.value vi) w) (hxj' : (execOp (a.put di vi).eval oj).run P w = .ok (.value vj) w)
    (hc : (a.put dj vj).put di vi = (a.put di vi).put dj vj)
    (h : wpAnyIn Fence.wide n P md ops Q fuel ((listed.setIfInBounds i true).setIfInBounds j true) ((a.put di vi).put dj vj) w) : wpAnyIn Fence.wide n P md ops Q (fuel + 1 + 1) listed a w := by
  subst hdi hdj
  have h1 : wpAnyIn Fence.wide n P md ops Q (fuel + 1) (listed.setIfInBounds i true) (a.put oi.dst vi) w := in_one _ hri hj rfl hwj' hxj' h
  have h2 : wpAnyIn Fence.wide n P md ops Q (fuel + 1) (listed.setIfInBounds j true) (a.put oj.dst vj) w := in_one _ hrj hi rfl hwi' hxi' (by
    rw [hc, Array.setIfInBounds_comm _ _ (fun e => hij e.symm)]
    exact h)
  exact wpAnyIn_ready hr (by simp) (AllReadyIn.cons hi (fun K' hK => by rw [if_pos hwi]; exact opIn_value hxi (hK _ _ h1)) (AllReadyIn.cons hj (fun K' hK => by rw [if_pos hwj]; exact opIn_value hxj (hK _ _ h2)) AllReadyIn.nil))
/-- Two that only read, and a third that waits for the second alone. -/
theorem in_alt {i j k : Nat} {oi oj ok : Oper} {vi vj vk : Value} (di dj dk : Option Tmp) (hij : i ≠ j) (hik : i ≠ k) (hr : Region.ready md ops listed = [i, j]) (hri : Region.ready md ops (listed.setIfInBounds i true) = [j]) (hrij : Region.ready md ops ((listed.setIfInBounds i true).setIfInBounds j true) = [k])
    (hrj : Region.ready md ops (listed.setIfInBounds j true) = [i, k]) (hrjk : Region.ready md ops ((listed.setIfInBounds j true).setIfInBounds k true) = [i])
    (hi : ops[i]? = some oi) (hj : ops[j]? = some oj) (hk : ops[k]? = some ok) (hdi : oi.dst = di) (hdj : oj.dst = dj) (hdk : ok.dst = dk)
    (hwi : Region.wanted oi (yielded ops a.tmps) = true) (hwj : Region.wanted oj (yielded ops a.tmps) = true) (hwj1 : Region.wanted oj (yielded ops (a.put di vi).tmps) = true) (hwi1 : Region.wanted oi (yielded ops (a.put dj vj).tmps) = true) (hwi2 : Region.wanted oi (yielded ops ((a.put dj vj).put dk vk).tmps) = true)
    (hwk1 : Region.wanted ok (yielded ops ((a.put di vi).put dj vj).tmps) = true) (hwk2 : Region.wanted ok (yielded ops (a.put dj vj).tmps) = true)
    (hxi : (execOp a.eval oi).run P w = .ok (.value vi) w) (hxj : (execOp a.eval oj).run P w = .ok (.value vj) w) (hxj1 : (execOp (a.put di vi).eval oj).run P w = .ok (.value vj) w) (hxi1 : (execOp (a.put dj vj).eval oi).run P w = .ok (.value vi) w) (hxi2 : (execOp ((a.put dj vj).put dk vk).eval oi).run P w = .ok (.value vi) w)
    (hxk1 : (execOp ((a.put di vi).put dj vj).eval ok).run P w = .ok (.value vk) w) (hxk2 : (execOp (a.put dj vj).eval ok).run P w = .ok (.value vk) w)
    (hc1 : (a.put dj vj).put di vi = (a.put di vi).put dj vj) (hc2 : ((a.put dj vj).put dk vk).put di vi = ((a.put di vi).put dj vj).put dk vk)
    (h : wpAnyIn Fence.wide n P md ops Q fuel (((listed.setIfInBounds i true).setIfInBounds j true).setIfInBounds k true) (((a.put di vi).put dj vj).put dk vk) w) : wpAnyIn Fence.wide n P md ops Q (fuel + 1 + 1 + 1) listed a w := by
  subst hdi hdj hdk
  have hji : ¬ j = i := fun e => hij e.symm
  have hki : ¬ k = i := fun e => hik e.symm
  have a2 : wpAnyIn Fence.wide n P md ops Q (fuel + 1) ((listed.setIfInBounds i true).setIfInBounds j true) ((a.put oi.dst vi).put oj.dst vj) w := in_one _ hrij hk rfl hwk1 hxk1 h
  have a1 : wpAnyIn Fence.wide n P md ops Q (fuel + 1 + 1) (listed.setIfInBounds i true) (a.put oi.dst vi) w := in_one _ hri hj rfl hwj1 hxj1 a2
  have b2 : wpAnyIn Fence.wide n P md ops Q (fuel + 1) ((listed.setIfInBounds j true).setIfInBounds i true) ((a.put oj.dst vj).put oi.dst vi) w := by
    rw [hc1, Array.setIfInBounds_comm _ _ hji]; exact a2
  have b3 : wpAnyIn Fence.wide n P md ops Q (fuel + 1) ((listed.setIfInBounds j true).setIfInBounds k true) ((a.put oj.dst vj).put ok.dst vk) w := in_one _ hrjk hi rfl hwi2 hxi2 (by
    rw [hc2, Array.setIfInBounds_comm _ _ hki, Array.setIfInBounds_comm (xs := listed) _ _ hji]; exact h)
  have b1 : wpAnyIn Fence.wide n P md ops Q (fuel + 1 + 1) (listed.setIfInBounds j true) (a.put oj.dst vj) w :=
    wpAnyIn_ready hrj (by simp) (AllReadyIn.cons hi (fun K' hK => by rw [if_pos hwi1]; exact opIn_value hxi1 (hK _ _ b2)) (AllReadyIn.cons hk (fun K' hK => by rw [if_pos hwk2]; exact opIn_value hxk2 (hK _ _ b3)) AllReadyIn.nil))
  exact wpAnyIn_ready hr (by simp) (AllReadyIn.cons hi (fun K' hK => by rw [if_pos hwi]; exact opIn_value hxi (hK _ _ a1)) (AllReadyIn.cons hj (fun K' hK => by rw [if_pos hwj]; exact opIn_value hxj (hK _ _ b1)) AllReadyIn.nil))
/-- The only one that may come up enters a function. -/
theorem in_enter {i : Nat} {oi : Oper} {f : FuncId} {args : Array Value} (d : Option Tmp) (hr : Region.ready md ops listed = [i]) (hi : ops[i]? = some oi) (hd : oi.dst = d) (hw : Region.wanted oi (yielded ops a.tmps) = true) (hx : (execOp a.eval oi).run P w = .ok (.enter f args) w)
    (h : CallsIn Fence.wide (n - 1) P f args w fun e w' => ∃ v, e = .returned v ∧ wpAnyIn Fence.wide n P md ops Q fuel (listed.setIfInBounds i true) (a.put d v) w') : wpAnyIn Fence.wide n P md ops Q (fuel + 1) listed a w := by
  subst hd
  refine wpAnyIn_ready hr (by simp) (AllReadyIn.cons hi (fun K' hK => ?_) AllReadyIn.nil)
  rw [if_pos hw]
  refine ⟨fun _ _ => trivial, ?_⟩
  show oi.uponIn Fence.wide n P a K' Q ((oi.semAt none a.eval).run P w)
  rw [Oper.semAt_none, hx]
  refine ⟨fun e => (by cases e), h.mono ?_⟩
  rintro e w' ⟨v, rfl, hk⟩
  exact hK _ _ hk
/-- The only one that may come up is a round. -/
theorem in_round {i : Nat} {oi : Oper} {l : Nat} {f : FuncId} {tmps : Array Value} {assign body : Code} (d : Option Tmp) (hr : Region.ready md ops listed = [i]) (hi : ops[i]? = some oi) (hd : oi.dst = d) (hw : Region.wanted oi (yielded ops a.tmps) = true) (hx : (execOp a.eval oi).run P w = .ok (.round l f tmps assign body) w)
    (h : RoundIn Fence.wide (n - 1) P l f tmps assign body w fun e w' => ∃ v, e = .returned v ∧ wpAnyIn Fence.wide n P md ops Q fuel (listed.setIfInBounds i true) (a.put d v) w') : wpAnyIn Fence.wide n P md ops Q (fuel + 1) listed a w := by
  subst hd
  refine wpAnyIn_ready hr (by simp) (AllReadyIn.cons hi (fun K' hK => ?_) AllReadyIn.nil)
  rw [if_pos hw]
  refine ⟨fun _ _ => trivial, ?_⟩
  show oi.uponIn Fence.wide n P a K' Q ((oi.semAt none a.eval).run P w)
  rw [Oper.semAt_none, hx]
  refine ⟨fun e => (by cases e), h.mono ?_⟩
  rintro e w' ⟨v, rfl, hk⟩
  exact hK _ _ hk
end
end Go.Proofs.Ytfmbnoafmnbhcaa
