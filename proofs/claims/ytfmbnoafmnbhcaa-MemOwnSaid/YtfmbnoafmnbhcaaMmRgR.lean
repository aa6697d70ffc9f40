/- A region that draws its order, in a round of a range over a function: its moves; 'l = append(l, f(x))'. -/
import Derived.Test.YtfmbnoafmnbhcaaMmRgIn
import Derived.TacticsIn
namespace Go.Proofs.Ytfmbnoafmnbhcaa
section
variable {l n : Nat} {P : Program} {ops : Array Oper} {Q : Exit → Act → World → Prop} {md : Region.Mode} {fuel : Nat} {listed : Array Bool} {a : Act} {w : World}
theorem opR_value {o : Oper} {v : Value} {w' : World} {K : Act → World → Prop} (hn : ∀ c, o.op ≠ .defer c) (hx : (execOp a.eval o).run P w = .ok (.value v) w') (h : K (a.put o.dst v) w') : o.wpIn (Fence.wide.inRound l) n P a w K Q := by
  refine ⟨fun _ _ => trivial, ?_⟩
  show o.uponIn _ n P a K Q ((o.semAt (some l) a.eval).run P w)
  rw [Oper.semAt_some l _ _ hn, hx]
  exact h
theorem opR_skip {o : Oper} {w' : World} {K : Act → World → Prop} (hn : ∀ c, o.op ≠ .defer c) (hx : (execOp a.eval o).run P w = .ok .skip w') (h : K (a.put o.dst undef) w') : o.wpIn (Fence.wide.inRound l) n P a w K Q := by
  refine ⟨fun _ _ => trivial, ?_⟩
  show o.uponIn _ n P a K Q ((o.semAt (some l) a.eval).run P w)
  rw [Oper.semAt_some l _ _ hn, hx]
  exact h
theorem opR_enter {o : Oper} {f : FuncId} {args : Array Value} {K : Act → World → Prop} (hn : ∀ c, o.op ≠ .defer c) (hx : (execOp a.eval o).run P w = .ok (.enter f args) w)
    (h : CallsIn (Fence.wide.inRound l) (n - 1) P f args w fun e w' => ∃ v, e = .returned v ∧ K (a.put o.dst v) w') : o.wpIn (Fence.wide.inRound l) n P a w K Q := by
  refine ⟨fun _ _ => trivial, ?_⟩
  show o.uponIn _ n P a K Q ((o.semAt (some l) a.eval).run P w)
  rw [Oper.semAt_some l _ _ hn, hx]
  refine ⟨fun e => (by cases e), h.mono ?_⟩
  rintro e w' ⟨v, rfl, hk⟩
  exact hk
/-- The only one that may come up: a value. -/
theorem rd_one {i : Nat} {oi : Oper} {v : Value} {w' : World} (d : Option Tmp) (hr : Region.ready md ops listed = [i]) (hi : ops[i]? = some oi) (hd : oi.dst = d) (hw : Region.wanted oi (yielded ops a.tmps) = true) (hn : ∀ c, oi.op ≠ .defer c) (hx : (execOp a.eval oi).run P w = .ok (.value v) w')
    (h : wpAnyIn (Fence.wide.inRound l) n P md ops Q fuel (listed.setIfInBounds i true) (a.put d v) w') : wpAnyIn (Fence.wide.inRound l) n P md ops Q (fuel + 1) listed a w := by
  subst hd
  exact wpAnyIn_ready hr (by simp) (AllReadyIn.cons hi (fun K' hK => by rw [if_pos hw]; exact opR_value hn hx (hK _ _ h)) AllReadyIn.nil)
theorem rd_skip {i : Nat} {oi : Oper} {w' : World} (d : Option Tmp) (hr : Region.ready md ops listed = [i]) (hi : ops[i]? = some oi) (hd : oi.dst = d) (hw : Region.wanted oi (yielded ops a.tmps) = true) (hn : ∀ c, oi.op ≠ .defer c) (hx : (execOp a.eval oi).run P w = .ok .skip w')
    (h : wpAnyIn (Fence.wide.inRound l) n P md ops Q fuel (listed.setIfInBounds i true) (a.put d undef) w') : wpAnyIn (Fence.wide.inRound l) n P md ops Q (fuel + 1) listed a w := by
  subst hd
  exact wpAnyIn_ready hr (by simp) (AllReadyIn.cons hi (fun K' hK => by rw [if_pos hw]; exact opR_skip hn hx (hK _ _ h)) AllReadyIn.nil)
/-- A load beside a chain of a load, a call and what is built of its result. -/
theorem rd_chain {o0 o1 o2 o3 : Oper} {v0 v1 : Value} {f : FuncId} {args : Array Value} (d0 d1 d2 d3 : Option Tmp) (R : Value → World → Prop) (s : Value → World → Value) (g : Value → World → World)
    (r : Region.ready md ops listed = [0, 1]) (r0 : Region.ready md ops (listed.setIfInBounds 0 true) = [1]) (r01 : Region.ready md ops ((listed.setIfInBounds 0 true).setIfInBounds 1 true) = [2]) (r012 : Region.ready md ops (((listed.setIfInBounds 0 true).setIfInBounds 1 true).setIfInBounds 2 true) = [3])
    (r1 : Region.ready md ops (listed.setIfInBounds 1 true) = [0, 2]) (r12 : Region.ready md ops ((listed.setIfInBounds 1 true).setIfInBounds 2 true) = [0, 3]) (r123 : Region.ready md ops (((listed.setIfInBounds 1 true).setIfInBounds 2 true).setIfInBounds 3 true) = [0])
    (h0 : ops[0]? = some o0) (h1 : ops[1]? = some o1) (h2 : ops[2]? = some o2) (h3 : ops[3]? = some o3) (hd0 : o0.dst = d0) (hd1 : o1.dst = d1) (hd2 : o2.dst = d2) (hd3 : o3.dst = d3)
    (g0 : o0.guard = none) (g1 : o1.guard = none) (g2 : o2.guard = none) (g3 : o3.guard = none) (n0 : ∀ c, o0.op ≠ .defer c) (n1 : ∀ c, o1.op ≠ .defer c) (n2 : ∀ c, o2.op ≠ .defer c) (n3 : ∀ c, o3.op ≠ .defer c)
    (x0 : (execOp a.eval o0).run P w = .ok (.value v0) w) (x0a : (execOp (a.put d1 v1).eval o0).run P w = .ok (.value v0) w) (x0b : ∀ v w', R v w' → (execOp ((a.put d1 v1).put d2 v).eval o0).run P w' = .ok (.value v0) w') (x0c : ∀ v w', R v w' → (execOp (((a.put d1 v1).put d2 v).put d3 (s v w')).eval o0).run P (g v w') = .ok (.value v0) (g v w'))
    (x1 : (execOp a.eval o1).run P w = .ok (.value v1) w) (x1a : (execOp (a.put d0 v0).eval o1).run P w = .ok (.value v1) w)
    (x2 : (execOp ((a.put d0 v0).put d1 v1).eval o2).run P w = .ok (.enter f args) w) (x2a : (execOp (a.put d1 v1).eval o2).run P w = .ok (.enter f args) w)
    (hC : CallsIn (Fence.wide.inRound l) (n - 1) P f args w fun e w' => ∃ v, e = .returned v ∧ R v w')
    (x3 : ∀ v w', R v w' → (execOp (((a.put d0 v0).put d1 v1).put d2 v).eval o3).run P w' = .ok (.value (s v w')) (g v w')) (x3a : ∀ v w', R v w' → (execOp ((a.put d1 v1).put d2 v).eval o3).run P w' = .ok (.value (s v w')) (g v w'))
    (c1 : (a.put d1 v1).put d0 v0 = (a.put d0 v0).put d1 v1) (c2 : ∀ v, ((a.put d1 v1).put d2 v).put d0 v0 = ((a.put d0 v0).put d1 v1).put d2 v) (c3 : ∀ v u, (((a.put d1 v1).put d2 v).put d3 u).put d0 v0 = (((a.put d0 v0).put d1 v1).put d2 v).put d3 u)
    (h : ∀ v w', R v w' → wpAnyIn (Fence.wide.inRound l) n P md ops Q fuel ((((listed.setIfInBounds 0 true).setIfInBounds 1 true).setIfInBounds 2 true).setIfInBounds 3 true) ((((a.put d0 v0).put d1 v1).put d2 v).put d3 (s v w')) (g v w')) :
    wpAnyIn (Fence.wide.inRound l) n P md ops Q (fuel + 1 + 1 + 1 + 1) listed a w := by
  subst hd0 hd1 hd2 hd3
  have wt : ∀ {o : Oper} (_ : o.guard = none) (y : Nat → Option Bool), Region.wanted o y = true := fun hg y => by unfold Region.wanted; rw [hg]
  have e10 : ∀ L : Array Bool, (L.setIfInBounds 1 true).setIfInBounds 0 true = (L.setIfInBounds 0 true).setIfInBounds 1 true := fun L => Array.setIfInBounds_comm _ _ (by decide)
  have e20 : ∀ L : Array Bool, (L.setIfInBounds 2 true).setIfInBounds 0 true = (L.setIfInBounds 0 true).setIfInBounds 2 true := fun L => Array.setIfInBounds_comm _ _ (by decide)
  have e30 : ∀ L : Array Bool, (L.setIfInBounds 3 true).setIfInBounds 0 true = (L.setIfInBounds 0 true).setIfInBounds 3 true := fun L => Array.setIfInBounds_comm _ _ (by decide)
  -- 0 1 2 3
  have s3 : ∀ v w', R v w' → wpAnyIn (Fence.wide.inRound l) n P md ops Q (fuel + 1) (((listed.setIfInBounds 0 true).setIfInBounds 1 true).setIfInBounds 2 true) (((a.put o0.dst v0).put o1.dst v1).put o2.dst v) w' := fun v w' hR => rd_one _ r012 h3 rfl (wt g3 _) n3 (x3 v w' hR) (h v w' hR)
  have s2 : wpAnyIn (Fence.wide.inRound l) n P md ops Q (fuel + 1 + 1) ((listed.setIfInBounds 0 true).setIfInBounds 1 true) ((a.put o0.dst v0).put o1.dst v1) w :=
    wpAnyIn_ready r01 (by simp) (AllReadyIn.cons h2 (fun K' hK => by
      rw [if_pos (wt g2 _)]
      exact opR_enter n2 x2 (hC.mono fun e w' ⟨v, he, hR⟩ => ⟨v, he, hK _ _ (s3 v w' hR)⟩)) AllReadyIn.nil)
  have s1 : wpAnyIn (Fence.wide.inRound l) n P md ops Q (fuel + 1 + 1 + 1) (listed.setIfInBounds 0 true) (a.put o0.dst v0) w := rd_one _ r0 h1 rfl (wt g1 _) n1 x1a s2
  -- 1 2 3 0 and 1 2 0 3 and 1 0 2 3
  have t3 : ∀ v w', R v w' → wpAnyIn (Fence.wide.inRound l) n P md ops Q (fuel + 1) (((listed.setIfInBounds 1 true).setIfInBounds 2 true).setIfInBounds 3 true) ((((a.put o1.dst v1).put o2.dst v).put o3.dst (s v w'))) (g v w') := fun v w' hR =>
    rd_one _ r123 h0 rfl (wt g0 _) n0 (x0c v w' hR) (by
      rw [c3, e30, e20, e10]
      exact h v w' hR)
  have t2 : ∀ v w', R v w' → wpAnyIn (Fence.wide.inRound l) n P md ops Q (fuel + 1 + 1) ((listed.setIfInBounds 1 true).setIfInBounds 2 true) ((a.put o1.dst v1).put o2.dst v) w' := fun v w' hR =>
    wpAnyIn_ready r12 (by simp) (AllReadyIn.cons h0 (fun K' hK => by
      rw [if_pos (wt g0 _)]
      refine opR_value n0 (x0b v w' hR) (hK _ _ ?_)
      rw [c2, e20, e10]
      exact s3 v w' hR) (AllReadyIn.cons h3 (fun K' hK => by
      rw [if_pos (wt g3 _)]
      exact opR_value n3 (x3a v w' hR) (hK _ _ (t3 v w' hR))) AllReadyIn.nil))
  have t1 : wpAnyIn (Fence.wide.inRound l) n P md ops Q (fuel + 1 + 1 + 1) (listed.setIfInBounds 1 true) (a.put o1.dst v1) w :=
    wpAnyIn_ready r1 (by simp) (AllReadyIn.cons h0 (fun K' hK => by
      rw [if_pos (wt g0 _)]
      refine opR_value n0 x0a (hK _ _ ?_)
      rw [c1, e10]
      exact s2) (AllReadyIn.cons h2 (fun K' hK => by
      rw [if_pos (wt g2 _)]
      exact opR_enter n2 x2a (hC.mono fun e w' ⟨v, he, hR⟩ => ⟨v, he, hK _ _ (t2 v w' hR)⟩)) AllReadyIn.nil))
  exact wpAnyIn_ready r (by simp) (AllReadyIn.cons h0 (fun K' hK => by
      rw [if_pos (wt g0 _)]
      exact opR_value n0 x0 (hK _ _ s1)) (AllReadyIn.cons h1 (fun K' hK => by
      rw [if_pos (wt g1 _)]
      exact opR_value n1 x1 (hK _ _ t1)) AllReadyIn.nil))
end
end Go.Proofs.Ytfmbnoafmnbhcaa
