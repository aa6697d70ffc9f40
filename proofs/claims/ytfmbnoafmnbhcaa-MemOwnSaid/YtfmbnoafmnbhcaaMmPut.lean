/- One more: Put. -/
import Derived.Test.YtfmbnoafmnbhcaaMmRange
import Derived.Test.YtfmbnoafmnbhcaaRgLast
import Derived.Deep.DeepCutAuto
namespace Go.Proofs.Ytfmbnoafmnbhcaa
open Go.RowKit
namespace Bk
/-- Is one of that key and that number there? -/
def dup (T : Tr) (x : P) : Bool := match pick x.1.key (T.from_ (want x.1.key x.1.seq)) with
  | some y => decide (y.1.seq = x.1.seq)
  | none => false
/-- What Put tells. -/
def putE (T : Tr) (top : Int) (x : P) : Int := if ok x.1 = false then 100 else if x.1.seq < top ∨ dup T x = true then 101 else 0
end Bk
theorem IsM_grown {S : Nat → Prop} {w w' : World} {m : Nat} {T : Bk.Tr} {top : Int} (h : Bk.IsM S w m T top) (hb : Below w.heap.size w w') : Bk.IsM S w' m T top ∧ w.grownBy w' (some m) := ⟨h.below hb, grown_any hb _⟩
/-- What Put leaves. -/
def GivesPut (S : Nat → Prop) (w : World) (m : Nat) (T : Bk.Tr) (top : Int) (x : Bk.P) (e : Ending) (w' : World) : Prop :=
  e = .returned (.int .i64 (Bk.putE T top x)) ∧ ∃ T' top', Bk.IsM S w' m T' top' ∧ w.grownBy w' (some m) ∧ (Bk.putE T top x ≠ 0 → T' = T ∧ top' = top) ∧ (Bk.putE T top x = 0 → ∃ V c, T' = Bk.Tr.ins (x.1, V, x.2.2.1, c) T ∧ top' = x.1.seq)
theorem wp_call1 {w : World} {o : Oper} {a : Act} {K : Act → World → Prop} {Q : Exit → Act → World → Prop} {F : FuncId} {vx : Value} {T : TypeId} (d : Nat) (hd : o.dst = some d) (x : Operand)
    (ho : o.op = .call { callee := .value (.func F), args := #[x], argTypes := #[T] }) (hx : a.eval x = vx) (hcF : ∀ (args : Array Value) (wx : World), (callFunc F args).run Try.prog wx = .ok (.enter F args) wx)
    (h : Calls Try.prog F #[vx] w fun e w' => ∃ v, e = .returned v ∧ K (a.put (some d) v) w') : Oper.wp Try.prog o a w K Q := by
  unfold Oper.wp execOp
  have e1 : a.eval (.func F) = .func (.func F) #[] #[] := rfl
  simp only [ho, resolve, invoke, Deferred.ofValue, e1, Sem.run_bind, Sem.run_pure, Result.andThen_ok, List.map_toArray, List.map_cons, List.map_nil, hx]
  simp only [Array.empty_append, Array.append_empty, hcF]
  refine h.mono ?_
  rintro e w' ⟨v, rfl, hk⟩
  rw [← hd] at hk
  exact hk
theorem wp_call3 {w : World} {o : Oper} {a : Act} {K : Act → World → Prop} {Q : Exit → Act → World → Prop} {F : FuncId} {vx vy vz : Value} {T U R : TypeId} (d : Nat) (hd : o.dst = some d) (x y z : Operand)
    (ho : o.op = .call { callee := .value (.func F), args := #[x, y, z], argTypes := #[T, U, R] }) (hx : a.eval x = vx) (hy : a.eval y = vy) (hz : a.eval z = vz) (hcF : ∀ (args : Array Value) (wx : World), (callFunc F args).run Try.prog wx = .ok (.enter F args) wx)
    (h : Calls Try.prog F #[vx, vy, vz] w fun e w' => ∃ v, e = .returned v ∧ K (a.put (some d) v) w') : Oper.wp Try.prog o a w K Q := by
  unfold Oper.wp execOp
  have e1 : a.eval (.func F) = .func (.func F) #[] #[] := rfl
  simp only [ho, resolve, invoke, Deferred.ofValue, e1, Sem.run_bind, Sem.run_pure, Result.andThen_ok, List.map_toArray, List.map_cons, List.map_nil, hx, hy, hz]
  simp only [Array.empty_append, Array.append_empty, hcF]
  refine h.mono ?_
  rintro e w' ⟨v, rfl, hk⟩
  rw [← hd] at hk
  exact hk
set_option maxRecDepth 100000 in
set_option maxHeartbeats 4000000 in
theorem put_bad (S : Nat → Prop) (m : Nat) (T : Bk.Tr) (top : Int) (x : Bk.P) (w : World) (hM : Bk.IsM S w m T top) (hS : ∀ k, S k → k < w.heap.size) (hx : Bk.At w x) (hok : ¬ Bk.ok x.1 = true) :
    Calls Try.prog 29 #[.pointer (some ⟨m, 0, none⟩), .agg (Bk.cells x).toArray] w (GivesPut S w m T top x) := by
  have HF := Lib.hid (show Bk.putE T top x = 100 by unfold Bk.putE; rw [if_pos (by simpa using hok)])
  obtain ⟨p, hH, hT, hSm⟩ := hM
  have HM := Lib.hid hH
  have HT := Lib.hid hT
  have HS := Lib.hid hS
  have HAt := Lib.hid hx
  have HSm := Lib.hid hSm
  clear hH hT hSm hS hx
  have Ck := Lib.hid (fun (u : World) (hu : Below w.heap.size w u) => check_any x u (HAt.out.below hu))
  obtain ⟨⟨key, seq, del, val⟩, V, n, c⟩ := x
  show Calls _ _ #[.pointer (some ⟨m, 0, none⟩), .agg #[.string key, .int .i64 seq, .bool del, .slice V n c]] _ _
  have HB := Lib.hid (show Below w.heap.size w (w.alloc (.cells #[Value.string key, .int .i64 seq, .bool del, .slice V n c] 24)) from (Below.refl _ _).alloc (Nat.le_refl _) _)
  have HZ := Lib.hid (Holds.new w #[Value.string key, .int .i64 seq, .bool del, .slice V n c] 24)
  have Ck2 : Hid (∀ u, Below w.heap.size w u → Calls Try.prog 11 #[.agg #[.string key, .int .i64 seq, .bool del, .slice V n c]] u fun e w' => e = .returned (.int .i64 100) ∧ Below u.heap.size u w') := Lib.hid (fun u hu => by have h := Ck.out u hu; rw [if_neg hok] at h; exact h)
  clear Ck hok
  go_enter Try.func29, Try.ntmps29
  go_wp2_with fail
  generalize (w.alloc (.cells #[Value.string key, .int .i64 seq, .bool del, .slice V n c] 24)) = v at HB HZ ⊢
  have HM1 := Lib.hid (HM.out.below HB.out)
  have z0 := HZ.out.2.1 0 _ rfl
  have z1 := HZ.out.2.1 1 _ rfl
  have z2 := HZ.out.2.1 2 _ rfl
  have z3 := HZ.out.2.1 3 _ rfl
  have m2 := HM1.out.2.1 2 _ rfl
  go_wp2_with (first | (go_at_call 32; refine (made_any m _ _ HM1.out).mono ?_; rintro e w1 ⟨rfl, rfl⟩) | (go_at_call 11; refine (Ck2.out _ HB.out).mono ?_; rintro e v2 ⟨rfl, hb2⟩; have HB2 := Lib.hid (below_next HB.out hb2); have HZ2 := Lib.hid (HZ.out.below hb2); have HM2 := Lib.hid (HM1.out.below hb2); clear hb2; have y0 := HZ2.out.2.1 0 _ rfl; have y1 := HZ2.out.2.1 1 _ rfl; have y2 := HZ2.out.2.1 2 _ rfl; have y3 := HZ2.out.2.1 3 _ rfl; have n2' := HM2.out.2.1 2 _ rfl))
  go_ret
  refine ⟨by rw [HF.out]; rfl, T, top, ⟨p, HM2.out, HT.out.below HB2.out, HSm.out⟩, grown_any HB2.out _, fun _ => ⟨rfl, rfl⟩, fun e => ?_⟩
  rw [HF.out] at e
  cases e
set_option maxRecDepth 100000 in
set_option maxHeartbeats 4000000 in
theorem put_low (S : Nat → Prop) (m : Nat) (T : Bk.Tr) (top : Int) (x : Bk.P) (w : World) (hM : Bk.IsM S w m T top) (hS : ∀ k, S k → k < w.heap.size) (hx : Bk.At w x) (hok : Bk.ok x.1 = true) (hlow : x.1.seq < top) (t : Bool) (ht : (Bk.pick x.1.key (T.from_ (Bk.want x.1.key x.1.seq))).isSome = t) :
    Calls Try.prog 29 #[.pointer (some ⟨m, 0, none⟩), .agg (Bk.cells x).toArray] w (GivesPut S w m T top x) := by
  have HF := Lib.hid (show Bk.putE T top x = 101 by unfold Bk.putE; rw [if_neg (by rw [hok]; decide), if_pos (.inl hlow)])
  obtain ⟨p, hH, hT, hSm⟩ := hM
  have HM := Lib.hid hH
  have HT := Lib.hid hT
  have HS := Lib.hid hS
  have HAt := Lib.hid hx
  have HSm := Lib.hid hSm
  clear hH hT hSm hS hx
  have Ck := Lib.hid (fun (u : World) (hu : Below w.heap.size w u) => check_any x u (HAt.out.below hu))
  obtain ⟨⟨key, seq, del, val⟩, V, n, c⟩ := x
  show Calls _ _ #[.pointer (some ⟨m, 0, none⟩), .agg #[.string key, .int .i64 seq, .bool del, .slice V n c]] _ _
  have HB := Lib.hid (show Below w.heap.size w (w.alloc (.cells #[Value.string key, .int .i64 seq, .bool del, .slice V n c] 24)) from (Below.refl _ _).alloc (Nat.le_refl _) _)
  have HZ := Lib.hid (Holds.new w #[Value.string key, .int .i64 seq, .bool del, .slice V n c] 24)
  have Ck2 : Hid (∀ u, Below w.heap.size w u → Calls Try.prog 11 #[.agg #[.string key, .int .i64 seq, .bool del, .slice V n c]] u fun e w' => e = .returned (.int .i64 0) ∧ Below u.heap.size u w') := Lib.hid (fun u hu => by have h := Ck.out u hu; rw [if_pos hok] at h; exact h)
  clear Ck hok
  have ht : (Bk.pick key (T.from_ (Bk.want key seq))).isSome = t := ht
  have hlow : seq < top := hlow
  have Gt : Hid (∀ u, Below w.heap.size w u → Calls Try.prog 23 #[.pointer (some ⟨m, 0, none⟩), .string key, .int .i64 seq] u fun e w' => ∃ q : Bk.P, e = .returned (.tuple #[.agg (Bk.cells q).toArray, .bool t]) ∧ q.1 = ((Bk.pick key (T.from_ (Bk.want key seq))).map (fun z => z.1)).getD Bk.zeroE.1 ∧ Bk.At w' q ∧ (0 < q.2.2.1 → ∀ g o, q.2.1 = some ⟨g, o, none⟩ → u.heap.size ≤ g) ∧ Below u.heap.size u w') := Lib.hid (fun u hu => by have h := get_any S m T top key seq u ⟨p, HM.out.below hu, HT.out.below hu, HSm.out⟩; unfold GivesGet at h; rw [ht] at h; exact h)
  clear ht
  go_enter Try.func29, Try.ntmps29
  go_wp2_with fail
  generalize (w.alloc (.cells #[Value.string key, .int .i64 seq, .bool del, .slice V n c] 24)) = v at HB HZ ⊢
  have HM1 := Lib.hid (HM.out.below HB.out)
  have z0 := HZ.out.2.1 0 _ rfl
  have z1 := HZ.out.2.1 1 _ rfl
  have z2 := HZ.out.2.1 2 _ rfl
  have z3 := HZ.out.2.1 3 _ rfl
  have m2 := HM1.out.2.1 2 _ rfl
  go_upto_region 7 with (first | (go_at_call 32; refine (made_any m _ _ HM1.out).mono ?_; rintro e w1 ⟨rfl, rfl⟩) | (go_at_call 11; refine (Ck2.out _ HB.out).mono ?_; rintro e v2 ⟨rfl, hb2⟩; have HB2 := Lib.hid (below_next HB.out hb2); have HZ2 := Lib.hid (HZ.out.below hb2); have HM2 := Lib.hid (HM1.out.below hb2); clear hb2; have y0 := HZ2.out.2.1 0 _ rfl; have y1 := HZ2.out.2.1 1 _ rfl; have y2 := HZ2.out.2.1 2 _ rfl; have y3 := HZ2.out.2.1 3 _ rfl; have n2' := HM2.out.2.1 2 _ rfl) | (go_at_call 23; refine (Gt.out _ HB2.out).mono ?_; rintro e v3 ⟨⟨⟨qk, qs, qd, qv⟩, qV, qn, qc⟩, he, hq1, _, _, hb3⟩; have he : e = .returned (.tuple #[.agg #[.string qk, .int .i64 qs, .bool qd, .slice qV qn qc], .bool t]) := he; subst he; have HQ1 := Lib.hid hq1; have hb4 := hb3.alloc hb3.size (.cells #[Value.string qk, .int .i64 qs, .bool qd, .slice qV qn qc] 24); have HQ := Lib.hid (Holds.new v3 #[Value.string qk, .int .i64 qs, .bool qd, .slice qV qn qc] 24); have HB4 := Lib.hid (below_next HB2.out hb4); have HZ4 := Lib.hid (HZ2.out.below hb4); have HM4 := Lib.hid (HM2.out.below hb4); clear hq1 hb3 hb4; have x0 := HZ4.out.2.1 0 _ rfl; have x1 := HZ4.out.2.1 1 _ rfl; have x2 := HZ4.out.2.1 2 _ rfl; have x3 := HZ4.out.2.1 3 _ rfl; have w1' := HM4.out.2.1 1 _ rfl; have w2' := HM4.out.2.1 2 _ rfl; have w3' := HM4.out.2.1 3 _ rfl; have w4' := HM4.out.2.1 4 _ rfl; have q1 := HQ.out.2.1 1 _ rfl))
  go_quiet (fail)
  go_wp2
  go_ret
  refine ⟨by rw [HF.out]; rfl, T, top, ⟨p, HM4.out.below (below_drewN (Below.refl _ _) nq), HT.out.below (below_drewN HB4.out nq), HSm.out⟩, grown_any (below_drewN HB4.out nq) _, fun _ => ⟨rfl, rfl⟩, fun e => ?_⟩
  rw [HF.out] at e
  cases e
set_option maxRecDepth 100000 in
set_option maxHeartbeats 4000000 in
theorem put_dup (S : Nat → Prop) (m : Nat) (T : Bk.Tr) (top : Int) (x : Bk.P) (w : World) (hM : Bk.IsM S w m T top) (hS : ∀ k, S k → k < w.heap.size) (hx : Bk.At w x) (hok : Bk.ok x.1 = true) (hlow : ¬ x.1.seq < top) (y : Bk.P) (hp : Bk.pick x.1.key (T.from_ (Bk.want x.1.key x.1.seq)) = some y) (hys : y.1.seq = x.1.seq) :
    Calls Try.prog 29 #[.pointer (some ⟨m, 0, none⟩), .agg (Bk.cells x).toArray] w (GivesPut S w m T top x) := by
  have HF := Lib.hid (show Bk.putE T top x = 101 by unfold Bk.putE; rw [if_neg (by rw [hok]; decide), if_pos (.inr (by unfold Bk.dup; rw [hp]; exact decide_eq_true hys))])
  obtain ⟨p, hH, hT, hSm⟩ := hM
  have HM := Lib.hid hH
  have HT := Lib.hid hT
  have HS := Lib.hid hS
  have HAt := Lib.hid hx
  have HSm := Lib.hid hSm
  clear hH hT hSm hS hx
  have Ck := Lib.hid (fun (u : World) (hu : Below w.heap.size w u) => check_any x u (HAt.out.below hu))
  obtain ⟨⟨key, seq, del, val⟩, V, n, c⟩ := x
  show Calls _ _ #[.pointer (some ⟨m, 0, none⟩), .agg #[.string key, .int .i64 seq, .bool del, .slice V n c]] _ _
  have HB := Lib.hid (show Below w.heap.size w (w.alloc (.cells #[Value.string key, .int .i64 seq, .bool del, .slice V n c] 24)) from (Below.refl _ _).alloc (Nat.le_refl _) _)
  have HZ := Lib.hid (Holds.new w #[Value.string key, .int .i64 seq, .bool del, .slice V n c] 24)
  have Ck2 : Hid (∀ u, Below w.heap.size w u → Calls Try.prog 11 #[.agg #[.string key, .int .i64 seq, .bool del, .slice V n c]] u fun e w' => e = .returned (.int .i64 0) ∧ Below u.heap.size u w') := Lib.hid (fun u hu => by have h := Ck.out u hu; rw [if_pos hok] at h; exact h)
  clear Ck hok
  have hp : Bk.pick key (T.from_ (Bk.want key seq)) = some y := hp
  have ht : (Bk.pick key (T.from_ (Bk.want key seq))).isSome = true := by rw [hp]; rfl
  have HP := Lib.hid (And.intro hp hys)
  clear hp hys
  have hlow : ¬ seq < top := hlow
  have Gt : Hid (∀ u, Below w.heap.size w u → Calls Try.prog 23 #[.pointer (some ⟨m, 0, none⟩), .string key, .int .i64 seq] u fun e w' => ∃ q : Bk.P, e = .returned (.tuple #[.agg (Bk.cells q).toArray, .bool true]) ∧ q.1 = ((Bk.pick key (T.from_ (Bk.want key seq))).map (fun z => z.1)).getD Bk.zeroE.1 ∧ Bk.At w' q ∧ (0 < q.2.2.1 → ∀ g o, q.2.1 = some ⟨g, o, none⟩ → u.heap.size ≤ g) ∧ Below u.heap.size u w') := Lib.hid (fun u hu => by have h := get_any S m T top key seq u ⟨p, HM.out.below hu, HT.out.below hu, HSm.out⟩; unfold GivesGet at h; rw [ht] at h; exact h)
  clear ht
  go_enter Try.func29, Try.ntmps29
  go_wp2_with fail
  generalize (w.alloc (.cells #[Value.string key, .int .i64 seq, .bool del, .slice V n c] 24)) = v at HB HZ ⊢
  have HM1 := Lib.hid (HM.out.below HB.out)
  have z0 := HZ.out.2.1 0 _ rfl
  have z1 := HZ.out.2.1 1 _ rfl
  have z2 := HZ.out.2.1 2 _ rfl
  have z3 := HZ.out.2.1 3 _ rfl
  have m2 := HM1.out.2.1 2 _ rfl
  go_upto_region 7 with (first | (go_at_call 32; refine (made_any m _ _ HM1.out).mono ?_; rintro e w1 ⟨rfl, rfl⟩) | (go_at_call 11; refine (Ck2.out _ HB.out).mono ?_; rintro e v2 ⟨rfl, hb2⟩; have HB2 := Lib.hid (below_next HB.out hb2); have HZ2 := Lib.hid (HZ.out.below hb2); have HM2 := Lib.hid (HM1.out.below hb2); clear hb2; have y0 := HZ2.out.2.1 0 _ rfl; have y1 := HZ2.out.2.1 1 _ rfl; have y2 := HZ2.out.2.1 2 _ rfl; have y3 := HZ2.out.2.1 3 _ rfl; have n2' := HM2.out.2.1 2 _ rfl) | (go_at_call 23; refine (Gt.out _ HB2.out).mono ?_; rintro e v3 ⟨⟨⟨qk, qs, qd, qv⟩, qV, qn, qc⟩, he, hq1, _, _, hb3⟩; have he : e = .returned (.tuple #[.agg #[.string qk, .int .i64 qs, .bool qd, .slice qV qn qc], .bool true]) := he; subst he; have HQ1 := Lib.hid hq1; have hb4 := hb3.alloc hb3.size (.cells #[Value.string qk, .int .i64 qs, .bool qd, .slice qV qn qc] 24); have HQ := Lib.hid (Holds.new v3 #[Value.string qk, .int .i64 qs, .bool qd, .slice qV qn qc] 24); have HB4 := Lib.hid (below_next HB2.out hb4); have HZ4 := Lib.hid (HZ2.out.below hb4); have HM4 := Lib.hid (HM2.out.below hb4); clear hq1 hb3 hb4; have x0 := HZ4.out.2.1 0 _ rfl; have x1 := HZ4.out.2.1 1 _ rfl; have x2 := HZ4.out.2.1 2 _ rfl; have x3 := HZ4.out.2.1 3 _ rfl; have w1' := HM4.out.2.1 1 _ rfl; have w2' := HM4.out.2.1 2 _ rfl; have w3' := HM4.out.2.1 3 _ rfl; have w4' := HM4.out.2.1 4 _ rfl; have q1 := HQ.out.2.1 1 _ rfl))
  have hqs : qs = seq := by
    have h := HQ1.out
    rw [HP.out.1] at h
    exact (congrArg Bk.En.seq h).trans HP.out.2
  subst hqs
  go_quiet (fail)
  go_wp2
  go_ret
  refine ⟨by rw [HF.out]; rfl, T, top, ⟨p, HM4.out.below (below_drewN (Below.refl _ _) nq), HT.out.below (below_drewN HB4.out nq), HSm.out⟩, grown_any (below_drewN HB4.out nq) _, fun _ => ⟨rfl, rfl⟩, fun e => ?_⟩
  rw [HF.out] at e
  cases e
end Go.Proofs.Ytfmbnoafmnbhcaa
