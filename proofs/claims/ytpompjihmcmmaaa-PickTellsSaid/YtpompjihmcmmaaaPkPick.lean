/- The next job: where no level is full, and where level 0 is. -/
import Derived.Test.YtpompjihmcmmaaaPkOver
import Derived.Test.YtpompjihmcmmaaaPkSpan
import Derived.Test.YtpompjihmcmmaaaPkPFull
import Derived.Deep.DeepCutAuto
import Derived.Deep.CutBlock
namespace Go.Proofs.Ytpompjihmcmmaaa
open Go.RowKit
set_option maxRecDepth 100000 in
theorem bstep_callA {w : World} {ops : Array Oper} {o : Oper} {a : Act} {K : Act → World → Prop} {Q : Exit → Act → World → Prop} {E : Prop} {F : FuncId} {vals : Array Value} {T : Array TypeId} (hw : Region.wanted o (yielded ops a.tmps) = true) (d : Nat) (hd : o.dst = some d) (args : Array Operand)
    (ho : o.op = .call { callee := .value (.func F), args := args, argTypes := T }) (hx : args.map a.eval = vals) (hcF : ∀ (args : Array Value) (wx : World), (callFunc F args).run Try.prog wx = .ok (.enter F args) wx)
    (h : Calls Try.prog F vals w fun e w' => ∃ v, e = .returned v ∧ K (a.put (some d) v) w') :
    if Region.wanted o (yielded ops a.tmps) = true then Oper.wp Try.prog o a w K Q else E := by
  rw [if_pos hw]
  unfold Oper.wp execOp
  have e1 : a.eval (.func F) = .func (.func F) #[] #[] := rfl
  simp only [ho, resolve, invoke, Deferred.ofValue, e1, Sem.run_bind, Sem.run_pure, Result.andThen_ok, hx]
  simp only [Array.empty_append, Array.append_empty, hcF]
  refine h.mono ?_
  rintro e w' ⟨v, rfl, hk⟩
  rw [← hd] at hk
  exact hk
theorem bstep_call1 {w : World} {ops : Array Oper} {o : Oper} {a : Act} {K : Act → World → Prop} {Q : Exit → Act → World → Prop} {E : Prop} {F : FuncId} {vx : Value} {T : TypeId} (hw : Region.wanted o (yielded ops a.tmps) = true) (d : Nat) (hd : o.dst = some d) (x : Operand)
    (ho : o.op = .call { callee := .value (.func F), args := #[x], argTypes := #[T] }) (hx : a.eval x = vx) (hcF : ∀ (args : Array Value) (wx : World), (callFunc F args).run Try.prog wx = .ok (.enter F args) wx)
    (h : Calls Try.prog F #[vx] w fun e w' => ∃ v, e = .returned v ∧ K (a.put (some d) v) w') :
    if Region.wanted o (yielded ops a.tmps) = true then Oper.wp Try.prog o a w K Q else E :=
  bstep_callA hw d hd #[x] ho (by simp [hx]) hcF h
theorem bstep_call4 {w : World} {ops : Array Oper} {o : Oper} {a : Act} {K : Act → World → Prop} {Q : Exit → Act → World → Prop} {E : Prop} {F : FuncId} {vx vy vz vt : Value} {T : Array TypeId} (hw : Region.wanted o (yielded ops a.tmps) = true) (d : Nat) (hd : o.dst = some d) (x y z t : Operand)
    (ho : o.op = .call { callee := .value (.func F), args := #[x, y, z, t], argTypes := T }) (hx : a.eval x = vx) (hy : a.eval y = vy) (hz : a.eval z = vz) (ht : a.eval t = vt) (hcF : ∀ (args : Array Value) (wx : World), (callFunc F args).run Try.prog wx = .ok (.enter F args) wx)
    (h : Calls Try.prog F #[vx, vy, vz, vt] w fun e w' => ∃ v, e = .returned v ∧ K (a.put (some d) v) w') :
    if Region.wanted o (yielded ops a.tmps) = true then Oper.wp Try.prog o a w K Q else E :=
  bstep_callA hw d hd #[x, y, z, t] ho (by simp [hx, hy, hz, ht]) hcF h
theorem run_enter {F : FuncId} {fn : Func} (hf : Try.prog.funcs[F]? = some fn) (hname : (fn.name == "runtime.NumGoroutine") = false) (hb : fn.body.isNone = false) (args : Array Value) (w : World) : (callFunc F args).run Try.prog w = .ok (.enter F args) w := by
  unfold callFunc
  rw [Sem.run_bind]
  show (Result.ok Try.prog w).andThen _ = _
  rw [Result.andThen_ok]
  simp only [hf, hname, hb, Bool.false_eq_true, if_false]
  rfl
theorem enter_ids (args : Array Value) (w : World) : (callFunc 22 args).run Try.prog w = .ok (.enter 22 args) w := run_enter Try.func22 (by kernel_rfl) (by kernel_rfl) args w
theorem enter_over (args : Array Value) (w : World) : (callFunc 12 args).run Try.prog w = .ok (.enter 12 args) w := run_enter Try.func12 (by kernel_rfl) (by kernel_rfl) args w
namespace Pk
theorem full_zero {l : List Tb} {r : List Int} (h : full l = 0 :: r) : 3 < count l 0 := by
  unfold full at h
  have h0 : more l 0 = true := by
    cases hm : more l 0 with
    | true => rfl
    | false =>
      exfalso
      rw [show List.range 3 = [0, 1, 2] from rfl] at h
      simp only [List.filter_cons, hm, List.filter_nil] at h
      cases h1 : more l 1 <;> cases h2 : more l 2 <;> simp [h1, h2] at h
  have := of_decide_eq_true h0
  unfold lim at this
  simp at this
  omega
def at0 (x : Tb) : Bool := decide (x.lv = 0)
theorem count_at0 (l : List Tb) : count l 0 = (l.filter at0).length := rfl
end Pk
set_option maxRecDepth 100000 in
set_option maxHeartbeats 4000000 in
theorem pick1_any (x : Pk.Tb) (b1 : Nat) (w : World) (h1 : w.cell? ⟨b1, 0, none⟩ = some (.int .i64 0)) (l1 : b1 < w.heap.size) :
    Calls Try.prog 35 #[.agg x.cells.toArray, .pointer (some ⟨b1, 0, none⟩)] w fun e w' => e = .returned (.bool (Pk.at0 x)) ∧ Below w.heap.size w w' := by
  obtain ⟨id, ep, P, pn, pc, sz, lv, ct, lo, hi, tp⟩ := x
  show Calls _ _ #[.agg #[.int .i64 id, .int .i64 ep, .slice P pn pc, .int .i64 sz, .int .i64 lv, .int .i64 ct, .string lo, .string hi, .int .i64 tp], .pointer (some ⟨b1, 0, none⟩)] _ _
  have HB := Lib.hid (show Below w.heap.size w (w.alloc (.cells #[.int .i64 id, .int .i64 ep, .slice P pn pc, .int .i64 sz, .int .i64 lv, .int .i64 ct, .string lo, .string hi, .int .i64 tp] 58)) from (Below.refl _ _).alloc (Nat.le_refl _) _)
  have c1 : (w.alloc (.cells #[.int .i64 id, .int .i64 ep, .slice P pn pc, .int .i64 sz, .int .i64 lv, .int .i64 ct, .string lo, .string hi, .int .i64 tp] 58)).cell? ⟨b1, 0, none⟩ = some (.int .i64 0) := (HB.out.cell l1).trans h1
  clear h1 l1
  unfold Pk.at0
  dsimp only
  generalize hans : decide (lv = 0) = ans
  have HF := Lib.hid (show (lv == 0) = ans by rw [← hans]; by_cases h : lv = 0 <;> simp [h])
  have hf := HF.out
  clear hans
  go_enter Try.func35, Try.ntmps35
  go_wp2
  go_ret
  exact ⟨rfl, HB.out⟩
set_option maxRecDepth 100000 in
set_option maxHeartbeats 4000000 in
theorem pick_none (a b : Int) (L : Option Addr) (ln lc : Nat) (A : Option Addr) (n c : Nat) (l : List Pk.Tb) (w : World) (hr : RdTb w A n l) (hn : n ≤ 1000) (hf : Pk.full l = []) :
    Calls Try.prog 17 #[.agg (Pk.ver a b L ln lc A n c)] w fun e w' => e = .returned (.tuple #[.agg #[.int .i64 0, .slice none 0 0, .slice none 0 0], .bool false]) ∧ Below w.heap.size w w' := by
  have HV := Lib.hid ((Holds.new w #[.int .i64 a, .int .i64 b, .slice L ln lc, .slice A n c] 25).alloc (.cells #[.int .i64 0, .slice none 0 0, .slice none 0 0] 39))
  have HJ := Lib.hid (Holds.new (w.alloc (.cells #[.int .i64 a, .int .i64 b, .slice L ln lc, .slice A n c] 25)) #[.int .i64 0, .slice none 0 0, .slice none 0 0] 39)
  simp only [World.size_alloc] at HJ
  have HB0 := Lib.hid (show Below w.heap.size w ((w.alloc (.cells #[.int .i64 a, .int .i64 b, .slice L ln lc, .slice A n c] 25)).alloc (.cells #[.int .i64 0, .slice none 0 0, .slice none 0 0] 39)) from ((Below.refl _ _).alloc (Nat.le_refl _) _).alloc (by simp) _)
  have HFu := Lib.hid (fun (u : World) (hb : Below w.heap.size w u) => pfull_any a b L ln lc A n c l u (hr.below hb) (by omega))
  rw [hf] at HFu
  clear hr hf
  show Calls _ _ #[.agg #[.int .i64 a, .int .i64 b, .slice L ln lc, .slice A n c]] _ _
  go_enter Try.func17, Try.ntmps17
  go_upto_region 1 with fail
  generalize ((w.alloc (.cells #[.int .i64 a, .int .i64 b, .slice L ln lc, .slice A n c] 25)).alloc (.cells #[.int .i64 0, .slice none 0 0, .slice none 0 0] 39)) = u at *
  have v0 := HV.out.at_ 0 rfl
  have v1 := HV.out.at_ 1 rfl
  have v2 := HV.out.at_ 2 rfl
  have v3 := HV.out.at_ 3 rfl
  have HFx := Lib.hid (HFu.out u HB0.out)
  go_wp2_with fail
  refine HFx.out.mono ?_
  rintro e w3 ⟨B, d, rfl, _, hb3⟩
  have HB3 := Lib.hid (below_next HB0.out hb3)
  have HJ3 := Lib.hid (show Holds w3 (w.heap.size + 1) [.int .i64 0, .slice none 0 0, .slice none 0 0] from HJ.out.below hb3)
  clear hb3 v0 v1 v2 v3
  have j0 := HJ3.out.at_ 0 rfl
  have j1 := HJ3.out.at_ 1 rfl
  have j2 := HJ3.out.at_ 2 rfl
  have f0 := HJ3.out.2.2 0
  have f1 := HJ3.out.2.2 1
  have f2 := HJ3.out.2.2 2
  go_wp2
  have hW := HJ3.out.set3 (.int .i64 0) (.slice none 0 0) (.slice none 0 0)
  have w0 := hW.at_ 0 rfl
  have w1 := hW.at_ 1 rfl
  have w2 := hW.at_ 2 rfl
  refine ⟨rfl, _, ?_, rfl, ((HB3.out.setCell (p := ⟨w.heap.size + 1, 0, none⟩) (by simp) _).setCell (p := ⟨w.heap.size + 1, 1, none⟩) (by simp) _).setCell (p := ⟨w.heap.size + 1, 2, none⟩) (by simp) _⟩
  simp [results, Try.results17, go_sem, w0, w1, w2]
namespace Pk
theorem all_at0 {l : List Tb} (h : ∀ x ∈ l, x.lv = 0) : l.filter at0 = l := List.filter_eq_self.2 (fun x hx => decide_eq_true (h x hx))
theorem over_none {l : List Tb} (h : ∀ x ∈ l, x.lv = 0) (low high : ByteArray) : over l 1 low high = [] := by
  unfold over
  have : l.filter (hit 1 low high) = [] := List.filter_eq_nil_iff.2 (fun x hx => by unfold hit; rw [h x hx]; simp)
  rw [this]; rfl
theorem idl_len (l : List Tb) : (insAll (idl l)).length = l.length := by rw [insAll_len]; unfold idl; rw [List.length_map]
end Pk
/-- The cells that region 10 reads and writes. -/
theorem boxes {w v : World} {q r t : Nat} {x0 x1 x2 x3 : Value} (h1 : Holds w q [x0, x1, x2, x3]) (h2 : Holds w r [.int .i64 0, .slice none 0 0, .slice none 0 0]) (h3 : Holds w t [.int .i64 0]) (hb : Below w.heap.size w v) :
    (v.cell? ⟨q, 0, none⟩ = some x0 ∧ v.cell? ⟨q, 1, none⟩ = some x1 ∧ v.cell? ⟨q, 2, none⟩ = some x2 ∧ v.cell? ⟨q, 3, none⟩ = some x3) ∧ (v.cell? ⟨r, 0, none⟩ = some (.int .i64 0) ∧ v.cell? ⟨r, 1, none⟩ = some (.slice none 0 0) ∧ v.cell? ⟨r, 2, none⟩ = some (.slice none 0 0)) ∧ (v.frozen? ⟨r, 0, none⟩ = false ∧ v.frozen? ⟨r, 1, none⟩ = false ∧ v.frozen? ⟨r, 2, none⟩ = false) ∧ v.cell? ⟨t, 0, none⟩ = some (.int .i64 0) := by
  have k1 := h1.below hb
  have k2 := h2.below hb
  have k3 := h3.below hb
  exact ⟨⟨k1.at_ 0 rfl, k1.at_ 1 rfl, k1.at_ 2 rfl, k1.at_ 3 rfl⟩, ⟨k2.at_ 0 rfl, k2.at_ 1 rfl, k2.at_ 2 rfl⟩, ⟨k2.2.2 0, k2.2.2 1, k2.2.2 2⟩, k3.at_ 0 rfl⟩
/-- A job of level 0, no table of the next level. -/
def GivesJob (w : World) (n : Nat) (l : List Int) (e : Ending) (w' : World) : Prop :=
  ∃ I ci O co, e = .returned (.tuple #[.agg #[.int .i64 0, .slice I n ci, .slice O 0 co], .bool true]) ∧ RdI w' I n l ∧ Below w.heap.size w w'
theorem own_from {I : Option Addr} {n a b : Nat} (h : a ≤ b) (ho : 0 < n → ∃ g, I = some ⟨g, 0, none⟩ ∧ b ≤ g) : 0 < n → ∃ g, I = some ⟨g, 0, none⟩ ∧ a ≤ g := fun hn => by
  obtain ⟨g, e, hg⟩ := ho hn
  exact ⟨g, e, Nat.le_trans h hg⟩
theorem job_done {w w6 v : World} {I O : Option Addr} {IL : List Int} {n i3 o5 : Nat} (hl : IL.length = n) (hr : RdI v I IL.length IL) (ho : 0 < IL.length → ∃ g, I = some ⟨g, 0, none⟩ ∧ w6.heap.size ≤ g) (hs : w.heap.size + 1 < w6.heap.size) (hB : Below w.heap.size w w6) (hb : Below w6.heap.size w6 v) (hJ : Holds w6 (w.heap.size + 1) [.int .i64 0, .slice none 0 0, .slice none 0 0]) :
    GivesJob w n IL (.returned (.tuple #[.agg #[.int .i64 0, .slice I IL.length i3, .slice O 0 o5], .bool true])) (((v.setCell ⟨w.heap.size + 1, 0, none⟩ (.int .i64 0)).setCell ⟨w.heap.size + 1, 1, none⟩ (.slice I IL.length i3)).setCell ⟨w.heap.size + 1, 2, none⟩ (.slice O 0 o5)) ∧
    Holds (((v.setCell ⟨w.heap.size + 1, 0, none⟩ (.int .i64 0)).setCell ⟨w.heap.size + 1, 1, none⟩ (.slice I IL.length i3)).setCell ⟨w.heap.size + 1, 2, none⟩ (.slice O 0 o5)) (w.heap.size + 1) [.int .i64 0, .slice I IL.length i3, .slice O 0 o5] := by
  subst hl
  refine ⟨⟨I, i3, O, o5, rfl, ((hr.far ho (p := ⟨w.heap.size + 1, 0, none⟩) hs _).far ho (p := ⟨w.heap.size + 1, 1, none⟩) hs _).far ho (p := ⟨w.heap.size + 1, 2, none⟩) hs _, ?_⟩, (hJ.below hb).set3 _ _ _⟩
  exact (((below_next hB hb).setCell (p := ⟨w.heap.size + 1, 0, none⟩) (by simp) _).setCell (p := ⟨w.heap.size + 1, 1, none⟩) (by simp) _).setCell (p := ⟨w.heap.size + 1, 2, none⟩) (by simp) _
set_option maxRecDepth 100000 in
set_option maxHeartbeats 8000000 in
theorem pick_zero (a b : Int) (L : Option Addr) (ln lc : Nat) (A : Option Addr) (n c : Nat) (l : List Pk.Tb) (r : List Int) (w : World) (hr : RdTb w A n l) (hn : n ≤ 1000) (hf : Pk.full l = 0 :: r) (h0 : ∀ x ∈ l, x.lv = 0) :
    Calls Try.prog 17 #[.agg (Pk.ver a b L ln lc A n c)] w (GivesJob w n (Pk.insAll (Pk.idl l))) := by
  have HV := Lib.hid ((Holds.new w #[.int .i64 a, .int .i64 b, .slice L ln lc, .slice A n c] 25).alloc (.cells #[.int .i64 0, .slice none 0 0, .slice none 0 0] 39))
  have HJ := Lib.hid (Holds.new (w.alloc (.cells #[.int .i64 a, .int .i64 b, .slice L ln lc, .slice A n c] 25)) #[.int .i64 0, .slice none 0 0, .slice none 0 0] 39)
  simp only [World.size_alloc] at HJ
  have HB0 := Lib.hid (show Below w.heap.size w ((w.alloc (.cells #[.int .i64 a, .int .i64 b, .slice L ln lc, .slice A n c] 25)).alloc (.cells #[.int .i64 0, .slice none 0 0, .slice none 0 0] 39)) from ((Below.refl _ _).alloc (Nat.le_refl _) _).alloc (by simp) _)
  have HSz := Lib.hid (show w.heap.size + 1 < ((w.alloc (.cells #[.int .i64 a, .int .i64 b, .slice L ln lc, .slice A n c] 25)).alloc (.cells #[.int .i64 0, .slice none 0 0, .slice none 0 0] 39)).heap.size by simp)
  have HFu := Lib.hid (fun (u : World) (hb : Below w.heap.size w u) => pfull_any a b L ln lc A n c l u (hr.below hb) (by omega))
  have hm3 := Pk.full_zero hf
  have hA0 := Pk.all_at0 h0
  rw [Pk.count_at0, hA0, hr.1] at hm3
  rw [hf] at HFu
  have HTh := Lib.hid (fun (p : Addr) (u : World) (hb : Below w.heap.size w u) hF => those_any 35 #[.pointer (some p)] Pk.at0 a b L ln lc A n c l u (hr.below hb) (by omega) hF (fun _ _ => rfl))
  rw [hA0] at HTh
  have HOv := Lib.hid (fun (lo hi : ByteArray) (u : World) (hb : Below w.heap.size w u) => overlap_any a b L ln lc A n c l 1 lo hi u (hr.below hb) (by omega))
  have HOn := Lib.hid (fun (lo hi : ByteArray) => Pk.over_none h0 lo hi)
  have HL := Lib.hid hr.1
  have HIl := Lib.hid (show (Pk.insAll (Pk.idl l)).length = n by rw [Pk.idl_len]; exact hr.1)
  clear hr hf h0 hA0
  show Calls _ _ #[.agg #[.int .i64 a, .int .i64 b, .slice L ln lc, .slice A n c]] _ _
  go_enter Try.func17, Try.ntmps17
  have hmf : ∀ (fn : Fn) (first cap : Array Value) (w : World), (Instr.makeFunc fn first cap).run Try.prog w = .ok (.func fn first cap) w := fun _ _ _ _ => rfl
  go_upto_region 1 with fail
  generalize ((w.alloc (.cells #[.int .i64 a, .int .i64 b, .slice L ln lc, .slice A n c] 25)).alloc (.cells #[.int .i64 0, .slice none 0 0, .slice none 0 0] 39)) = u at *
  replace HV : Hid (Holds u w.heap.size [.int .i64 a, .int .i64 b, .slice L ln lc, .slice A n c]) := HV
  replace HJ : Hid (Holds u (w.heap.size + 1) [.int .i64 0, .slice none 0 0, .slice none 0 0]) := HJ
  have v0 := HV.out.at_ 0 rfl
  have v1 := HV.out.at_ 1 rfl
  have v2 := HV.out.at_ 2 rfl
  have v3 := HV.out.at_ 3 rfl
  have HFx := Lib.hid (HFu.out u HB0.out)
  go_wp2_with fail
  refine HFx.out.mono ?_
  rintro e w3 ⟨B, d, rfl, hO3, hb3⟩
  obtain ⟨g3, o3, rfl, _, hc3⟩ := RdI.at_ (k := 0) (x := 0) hO3.ints rfl
  have z0 : w3.cell? ⟨g3, o3, none⟩ = some (.int .i64 0) := hc3 w3 (Below.refl _ _)
  generalize hF : (0 :: r).length = F at *
  have hF0 : (0 : Int) < (F : Int) := by have : (0 :: r).length = r.length + 1 := rfl; omega
  have e0 : ((F : Int) == 0) = false := beq_eq_false_iff_ne.2 (by omega)
  clear hF hO3 hc3
  have HB3 := Lib.hid (below_next HB0.out hb3)
  have hal : Below w3.heap.size w3 (w3.alloc (.cells #[.int .i64 0] 3)) := (Below.refl _ _).alloc (Nat.le_refl _) _
  have HT4 := Lib.hid (show Holds (w3.alloc (.cells #[.int .i64 0] 3)) w3.heap.size [.int .i64 0] from Holds.new w3 #[.int .i64 0] 3)
  have HV4 := Lib.hid ((HV.out.below hb3).below hal)
  have HJ4 := Lib.hid ((HJ.out.below hb3).below hal)
  have HB4 := Lib.hid (below_next HB3.out hal)
  clear hb3 hal v0 v1 v2 v3
  go_upto_region 5 with fail
  generalize (w3.alloc (.cells #[.int .i64 0] 3)) = w4 at *
  generalize w3.heap.size = bt at *
  clear z0 e0 hF0 HB3 HB0 HFu HFx HV HJ
  have v0 := HV4.out.at_ 0 rfl
  have v1 := HV4.out.at_ 1 rfl
  have v2 := HV4.out.at_ 2 rfl
  have v3 := HV4.out.at_ 3 rfl
  have HTx := Lib.hid (HTh.out ⟨bt, 0, none⟩ w4 HB4.out (fun x wx _ hb => pick1_any x bt wx ((HT4.out.below hb).at_ 0 rfl) (HT4.out.below hb).1))
  go_wp2_with fail
  refine HTx.out.mono ?_
  rintro e w5 ⟨E5, e5, rfl, hO5, hb5⟩
  rw [HL.out] at hO5 ⊢
  have HO5 := Lib.hid hO5.rd
  have HV5 := Lib.hid (HV4.out.below hb5)
  have HJ5 := Lib.hid (HJ4.out.below hb5)
  have HT5 := Lib.hid (HT4.out.below hb5)
  have HB5 := Lib.hid (below_next HB4.out hb5)
  clear hO5 hb5 v0 v1 v2 v3 HTx HTh
  have t0 := HT5.out.at_ 0 rfl
  have HSp := Lib.hid (span_any E5 n e5 l w5 HO5.out HL.out (by omega) (by omega))
  go_wp2_with fail
  refine HSp.out.mono ?_
  rintro e w6 ⟨⟨lo, hi, rfl⟩, hb6⟩
  have HO6 := Lib.hid (HO5.out.below hb6)
  have HV6 := Lib.hid (HV5.out.below hb6)
  have HJ6 := Lib.hid (HJ5.out.below hb6)
  have HT6 := Lib.hid (HT5.out.below hb6)
  have HB6 := Lib.hid (below_next HB5.out hb6)
  have HS6 := Lib.hid (show w.heap.size + 1 < w6.heap.size from HJ6.out.1)
  clear hb6 t0 HSp HO5 HV5 HJ5 HT5 HB5
  go_upto_region 10 with fail
  have HId := Lib.hid (fun (v : World) (hv : Below w6.heap.size w6 v) => ids_any E5 n e5 l v (HO6.out.below hv) HL.out (by omega))
  have HOx := Lib.hid (fun (v : World) (hv : Below w6.heap.size w6 v) => HOv.out lo hi v (below_next HB6.out hv))
  rw [HOn.out lo hi] at HOx
  have D0 : Below w6.heap.size w6 w6.drew := (Below.refl _ _).drew
  obtain ⟨⟨v0, v1, v2, v3⟩, ⟨j0, j1, j2⟩, ⟨f0, f1, f2⟩, t0⟩ := boxes HV6.out HJ6.out HT6.out D0
  generalize hIL : Pk.insAll (Pk.idl l) = IL at *
  clear hIL
  go_region_law ((first
    | (refine bstep_call1 (by rfl) 34 rfl (.tmp 33) rfl rfl enter_ids ((HId.out _ D0).mono ?_); rintro e v3 ⟨I3, i3, rfl, hl3, hr3, hb3, ho3⟩; have T3 := D0.trans (hb3.mono D0.size); have HR3 := Lib.hid hr3; have HO3 := Lib.hid ho3; obtain ⟨⟨v0, v1, v2, v3'⟩, ⟨j0, j1, j2⟩, ⟨f0, f1, f2⟩, t0⟩ := boxes HV6.out HJ6.out HT6.out T3; clear hb3 ho3 hr3 hl3; refine ⟨_, rfl, ?_⟩)
    | (refine bstep_call4 (by rfl) 40 rfl (.tmp 35) (.tmp 37) (.tmp 38) (.tmp 39) rfl rfl rfl rfl rfl enter_over ((HOx.out _ T3).mono ?_); rintro e v5 ⟨O5, o5, rfl, _, _, hb5, _⟩; have T5 := T3.trans (hb5.mono T3.size); have HR5 := Lib.hid (HR3.out.below hb5); have HO5 := Lib.hid (own_from D0.size HO3.out); obtain ⟨⟨v0, v1, v2, v3'⟩, ⟨j0, j1, j2⟩, ⟨f0, f1, f2⟩, t0⟩ := boxes HV6.out HJ6.out HT6.out T5; have HT5 := Lib.hid T5; clear hb5 T5; refine ⟨_, rfl, ?_⟩)
    | (refine bstep_call4 (by rfl) 40 rfl (.tmp 35) (.tmp 37) (.tmp 38) (.tmp 39) rfl rfl rfl rfl rfl enter_over ((HOx.out _ D0).mono ?_); rintro e v3 ⟨O5, o5, rfl, _, _, hb3, _⟩; have T4 := D0.trans (hb3.mono D0.size); obtain ⟨⟨v0, v1, v2, v3'⟩, ⟨j0, j1, j2⟩, ⟨f0, f1, f2⟩, t0⟩ := boxes HV6.out HJ6.out HT6.out T4; clear hb3; refine ⟨_, rfl, ?_⟩)
    | (refine bstep_call1 (by rfl) 34 rfl (.tmp 33) rfl rfl enter_ids ((HId.out _ T4).mono ?_); rintro e v5 ⟨I3, i3, rfl, hl3, hr5, hb5, ho5⟩; have T5 := T4.trans (hb5.mono T4.size); have HR5 := Lib.hid hr5; have HO5 := Lib.hid (own_from T4.size ho5); obtain ⟨⟨v0, v1, v2, v3'⟩, ⟨j0, j1, j2⟩, ⟨f0, f1, f2⟩, t0⟩ := boxes HV6.out HJ6.out HT6.out T5; have HT5 := Lib.hid T5; clear hb5 T5 hr5 ho5 hl3; refine ⟨_, rfl, ?_⟩)))
  all_goals
    go_wp2
    obtain ⟨hG, hW⟩ := job_done (O := O5) (i3 := i3) (o5 := o5) HIl.out HR5.out HO5.out HS6.out HB6.out HT5.out HJ6.out
    have w0 := hW.at_ 0 rfl
    have w1 := hW.at_ 1 rfl
    have w2 := hW.at_ 2 rfl
    refine ⟨rfl, _, ?_, hG⟩
    clear hG hW
    simp [results, Try.results17, go_sem, w0, w1, w2]
end Go.Proofs.Ytpompjihmcmmaaa
