/- Package block's mayBe: are these a block's entries? -/
import Derived.Test.YtbfjcpblbmlfcaaBkCmp
import Derived.Test.YtbfjcpblbmlfcaaStepV
import Derived.Deep.RegionHeldLaw
namespace Go.Proofs.Ytbfjcpblbmlfcaa
open Go.RowKit
theorem run_enter {F : FuncId} {fn : Func} (hf : Try.prog.funcs[F]? = some fn) (hname : (fn.name == "runtime.NumGoroutine") = false) (hb : fn.body.isNone = false) (args : Array Value) (w : World) : (callFunc F args).run Try.prog w = .ok (.enter F args) w := by
  unfold callFunc
  rw [Sem.run_bind]
  show (Result.ok Try.prog w).andThen _ = _
  rw [Result.andThen_ok]
  simp only [hf, hname, hb, Bool.false_eq_true, if_false]
  rfl
set_option maxRecDepth 100000 in
theorem enter_check (args : Array Value) (w : World) : (callFunc 37 args).run Try.prog w = .ok (.enter 37 args) w := run_enter Try.func37 (by kernel_rfl) (by kernel_rfl) args w
set_option maxRecDepth 100000 in
theorem enter_compare (args : Array Value) (w : World) : (callFunc 35 args).run Try.prog w = .ok (.enter 35 args) w := run_enter Try.func35 (by kernel_rfl) (by kernel_rfl) args w
/-- A call of a Go function of one argument, at a step of a drawn region. -/
theorem step_call1 {w : World} {ops : Array Oper} {o : Oper} {a : Act} {K : Act → World → Prop} {Q : Exit → Act → World → Prop} {E : Prop} {F : FuncId} {vx : Value} {T : TypeId} (hw : Region.wanted o (yielded ops a.tmps) = true) (d : Nat) (hd : o.dst = some d) (x : Operand)
    (ho : o.op = .call { callee := .value (.func F), args := #[x], argTypes := #[T] }) (hx : a.eval x = vx) (hcF : ∀ (args : Array Value) (wx : World), (callFunc F args).run Try.prog wx = .ok (.enter F args) wx)
    (h : Calls Try.prog F #[vx] w fun e w' => ∃ v, e = .returned v ∧ K (a.put (some d) v) w') :
    if Region.wanted o (yielded ops a.tmps) = true then Oper.wp Try.prog o a w K Q else E := by
  rw [if_pos hw]
  unfold Oper.wp execOp
  have e1 : a.eval (.func F) = .func (.func F) #[] #[] := rfl
  simp only [ho, resolve, invoke, Deferred.ofValue, e1, Sem.run_bind, Sem.run_pure, Result.andThen_ok, List.map_toArray, List.map_cons, List.map_nil, hx]
  simp only [Array.empty_append, Array.append_empty, hcF]
  refine h.mono ?_
  rintro e w' ⟨v, rfl, hk⟩
  rw [← hd] at hk
  exact hk
/-- A call of a Go function of two arguments, at a step of a drawn region. -/
theorem step_call2 {w : World} {ops : Array Oper} {o : Oper} {a : Act} {K : Act → World → Prop} {Q : Exit → Act → World → Prop} {E : Prop} {F : FuncId} {vx vy : Value} {T U : TypeId} (hw : Region.wanted o (yielded ops a.tmps) = true) (d : Nat) (hd : o.dst = some d) (x y : Operand)
    (ho : o.op = .call { callee := .value (.func F), args := #[x, y], argTypes := #[T, U] }) (hx : a.eval x = vx) (hy : a.eval y = vy) (hcF : ∀ (args : Array Value) (wx : World), (callFunc F args).run Try.prog wx = .ok (.enter F args) wx)
    (h : Calls Try.prog F #[vx, vy] w fun e w' => ∃ v, e = .returned v ∧ K (a.put (some d) v) w') :
    if Region.wanted o (yielded ops a.tmps) = true then Oper.wp Try.prog o a w K Q else E := by
  rw [if_pos hw]
  unfold Oper.wp execOp
  have e1 : a.eval (.func F) = .func (.func F) #[] #[] := rfl
  simp only [ho, resolve, invoke, Deferred.ofValue, e1, Sem.run_bind, Sem.run_pure, Result.andThen_ok, List.map_toArray, List.map_cons, List.map_nil, hx, hy]
  simp only [Array.empty_append, Array.append_empty, hcF]
  refine h.mono ?_
  rintro e w' ⟨v, rfl, hk⟩
  rw [← hd] at hk
  exact hk
namespace Bk
/-- The entries up to a number may be, and stand in order. -/
def upto (es : List (En × Sl)) (k : Nat) : Prop := (∀ (i : Nat) (p : En × Sl), i < k → es[i]? = some p → ok p.1 = true) ∧ ∀ (i : Nat) (p q : En × Sl), i + 1 < k → es[i]? = some p → es[i + 1]? = some q → cmp p.1 q.1 < 0
/-- A block's entries. -/
def fine (es : List (En × Sl)) : Prop := upto es es.length ∧ 1 ≤ es.length ∧ es.length ≤ 64
end Bk
/-- A bool that tells whether P. -/
def GivesTell (w : World) (P : Prop) (e : Ending) (w' : World) : Prop := ∃ t : Bool, e = .returned (.bool t) ∧ (t = true ↔ P) ∧ Below w.heap.size w w'
theorem tell_no {w w' : World} {P : Prop} (h : ¬ P) (hb : Below w.heap.size w w') : GivesTell w P (.returned (.bool false)) w' := ⟨false, rfl, ⟨(fun e => by cases e), fun e => absurd e h⟩, hb⟩
theorem tell_yes {w w' : World} {P : Prop} (h : P) (hb : Below w.heap.size w w') : GivesTell w P (.returned (.bool true)) w' := ⟨true, rfl, ⟨fun _ => h, fun _ => rfl⟩, hb⟩
set_option maxRecDepth 100000 in
set_option maxHeartbeats 8000000 in
theorem maybe_any (A : Option Addr) (n c : Nat) (es : List (Bk.En × Bk.Sl)) (w : World) (h : RdE w A n es) (hn : n ≤ 1000000) (hc : n ≤ c) :
    Calls Try.prog 19 #[.slice A n c] w (GivesTell w (Bk.fine es)) := by
  have HR := Lib.hid h
  clear h
  go_enter Try.func19, Try.ntmps19
  go_wp2
  go_loopw [7] (fun i wr => ∃ k : Nat, k ≤ n ∧ i = .int .i64 (k : Int) ∧ Hid (Bk.upto es k) ∧ Hid (Below w.heap.size w wr)) (fun i _ => n - (intOf i).toNat)
  case atStart => exact ⟨0, by omega, rfl, Lib.hid ⟨fun i p hi => by omega, fun i p q hi => by omega⟩, Lib.hid (Below.refl _ _)⟩
  case round =>
    rename_i wr hrel
    obtain ⟨k, hk, rfl, HU, HB⟩ := hrel
    by_cases hkn : k = n
    · subst hkn
      have hlen := HR.out.1
      have hfine : Bk.fine es ↔ 1 ≤ k ∧ k ≤ 64 := by
        unfold Bk.fine
        rw [hlen]
        exact ⟨fun h => h.2, fun h => ⟨HU.out, h⟩⟩
      have Hf := Lib.hid hfine
      clear hfine hlen
      by_cases h1 : k < 1
      · have h1' : ¬ (1 : Int) ≤ (k : Int) := by omega
        go_wp2
        go_ret
        exact tell_no (fun e => by have := (Hf.out.1 e).1; omega) HB.out
      · have h1' : (1 : Int) ≤ (k : Int) := by omega
        by_cases h2 : k ≤ 64
        · have h2' : (k : Int) ≤ 64 := by omega
          go_wp2
          go_ret
          exact tell_yes (Hf.out.2 ⟨by omega, h2⟩) HB.out
        · have h2' : ¬ (k : Int) ≤ 64 := by omega
          go_wp2
          go_ret
          exact tell_no (fun e => h2 (Hf.out.1 e).2) HB.out
    · have hki : (k : Int) < (n : Int) := by omega
      obtain ⟨p, hp⟩ : ∃ p, es[k]? = some p := ⟨_, List.getElem?_eq_getElem (by rw [HR.out.1]; omega)⟩
      obtain ⟨b, o, rfl, hbl, hcell⟩ := HR.out.at_ hp
      have hat := HR.out.2.2 p (List.mem_of_getElem? hp)
      have Hp := Lib.hid hp
      have hchk := Lib.hid (fun (wx : World) (hb : Below w.heap.size w wx) => check_any p wx (hat.below hb))
      have hcmp := Lib.hid (fun (q : Bk.En × Bk.Sl) (wx : World) => compare_any q p wx)
      obtain ⟨⟨key, seq, del, val⟩, V, vn, vc⟩ := p
      have e0 := (HB.out.cell (p := ⟨b, o + (k * 4 + 0), none⟩) hbl).trans (hcell 0 _ rfl)
      have e1 := (HB.out.cell (p := ⟨b, o + (k * 4 + 1), none⟩) hbl).trans (hcell 1 _ rfl)
      have e2 := (HB.out.cell (p := ⟨b, o + (k * 4 + 2), none⟩) hbl).trans (hcell 2 _ rfl)
      have e3 := (HB.out.cell (p := ⟨b, o + (k * 4 + 3), none⟩) hbl).trans (hcell 3 _ rfl)
      rw [Nat.add_zero] at e0
      rw [← Nat.add_assoc] at e1 e2 e3
      have Hbl := Lib.hid hbl
      clear hp hcell hat hbl
      have hbox := Holds.new wr #[Value.string key, .int .i64 seq, .bool del, .slice V vn vc] 37
      have hbw : Below w.heap.size w (wr.alloc (.cells #[Value.string key, .int .i64 seq, .bool del, .slice V vn vc] 37)) := HB.out.alloc HB.out.size _
      have HBox := Lib.hid hbox
      have HBw := Lib.hid hbw
      have hbox1 := hbox.1
      clear hbox hbw
      go_wp2
      clear e0 e1 e2 e3
      have hww : wr.heap.size < (wr.alloc (.cells #[Value.string key, .int .i64 seq, .bool del, .slice V vn vc] 37)).heap.size := hbox1
      have HWw := Lib.hid hww
      clear hww hbox1
      generalize wr.alloc (.cells #[Value.string key, .int .i64 seq, .bool del, .slice V vn vc] 37) = W at *
      have hWs : w.heap.size ≤ W.heap.size := HBw.out.size
      have c0 := HBox.out.at_ 0 rfl
      have c1 := HBox.out.at_ 1 rfl
      have c2 := HBox.out.at_ 2 rfl
      have c3 := HBox.out.at_ 3 rfl
      have HBd := Lib.hid HBw.out.drew
      have HBd0 := Lib.hid ((Below.refl W.heap.size W).drew)
      have hcl : ∀ v, Below W.heap.size W v → v.cell? ⟨wr.heap.size, 0, none⟩ = some (.string key) ∧ v.cell? ⟨wr.heap.size, 1, none⟩ = some (.int .i64 seq) ∧ v.cell? ⟨wr.heap.size, 2, none⟩ = some (.bool del) ∧ v.cell? ⟨wr.heap.size, 3, none⟩ = some (.slice V vn vc) := fun v hv => ⟨(hv.cell HWw.out).trans c0, (hv.cell HWw.out).trans c1, (hv.cell HWw.out).trans c2, (hv.cell HWw.out).trans c3⟩
      have HCl := Lib.hid hcl
      clear hcl
      cases hok : Bk.ok ⟨key, seq, del, val⟩ with
      | false =>
        have hno : ¬ Bk.fine es := fun e => by
          have := e.1.1 k _ (by rw [HR.out.1]; omega) Hp.out
          rw [hok] at this
          cases this
        have chk : ∀ wx : World, Below w.heap.size w wx → Calls Try.prog 37 #[.agg #[.string key, .int .i64 seq, .bool del, .slice V vn vc]] wx fun e w' => e = .returned (.int .i64 100) ∧ Below wx.heap.size wx w' := fun wx hb => by
          have h := hchk.out wx hb
          rw [hok] at h
          exact h
        have Chk := Lib.hid chk
        have Hno := Lib.hid hno
        clear chk hno hok hchk
        refine region_class (fun w' => Below W.heap.size W w') (by kernel_rfl) (by kernel_rfl) HBd0.out ?_
        repeat (go_big_quiet_step ((first | (intro _; with_reducible rfl) | (intro hq; exact calls_class hq (Chk.out _ (below_next HBw.out hq))) | (intro hq; obtain ⟨e0, e1, e2, e3⟩ := HCl.out _ hq; simp [e0, e1, e2, e3, Result.andThen]; with_reducible rfl))))
        refine wpQuiet_nil ?_
        intro v9 hv9
        have HQ := Lib.hid (below_next HBw.out hv9)
        go_wp2
        go_ret
        exact tell_no Hno.out HQ.out
      | true =>
        have chk : ∀ wx : World, Below w.heap.size w wx → Calls Try.prog 37 #[.agg #[.string key, .int .i64 seq, .bool del, .slice V vn vc]] wx fun e w' => e = .returned (.int .i64 0) ∧ Below wx.heap.size wx w' := fun wx hb => by
          have h := hchk.out wx hb
          rw [hok] at h
          exact h
        have Chk := Lib.hid chk
        have Hok := Lib.hid hok
        clear chk hok hchk
        by_cases hk0 : k = 0
        · subst hk0
          have hup : Bk.upto es (0 + 1) := ⟨fun i p hi hp => by
            obtain rfl : i = 0 := by omega
            rw [Hp.out] at hp
            injection hp with hp
            subst hp
            exact Hok.out, fun i p q hi => by omega⟩
          have Hup := Lib.hid hup
          clear hup
          refine region_class (fun w' => Below W.heap.size W w') (by kernel_rfl) (by kernel_rfl) HBd0.out ?_
          repeat (go_big_quiet_step ((first | (intro _; with_reducible rfl) | (intro hq; exact calls_class hq (Chk.out _ (below_next HBw.out hq))) | (intro hq; obtain ⟨e0, e1, e2, e3⟩ := HCl.out _ hq; simp [e0, e1, e2, e3, Result.andThen]; with_reducible rfl))))
          refine wpQuiet_nil ?_
          intro v9 hv9
          have HQ := Lib.hid (below_next HBw.out hv9)
          go_wp2
          go_roundw
          case rel => exact ⟨0 + 1, by omega, by simp only [Value.int.injEq, true_and]; omega, Hup, HQ⟩
          case measure => simp [intOf]; omega
        · obtain ⟨j, rfl⟩ : ∃ j, k = j + 1 := ⟨k - 1, by omega⟩
          have hj : j < es.length := by rw [HR.out.1]; omega
          obtain ⟨q, hq⟩ : ∃ q, es[j]? = some q := ⟨_, List.getElem?_eq_getElem hj⟩
          obtain ⟨b', o', hA, hbl', hcell'⟩ := HR.out.at_ hq
          cases hA
          have hcm := hcmp.out q
          have Hq := Lib.hid hq
          obtain ⟨⟨qkey, qseq, qdel, qval⟩, qV, qn, qc⟩ := q
          have hcq : ∀ v, Below W.heap.size W v → v.cell? ⟨b, o + j * 4, none⟩ = some (.string qkey) ∧ v.cell? ⟨b, o + j * 4 + 1, none⟩ = some (.int .i64 qseq) ∧ v.cell? ⟨b, o + j * 4 + 2, none⟩ = some (.bool qdel) ∧ v.cell? ⟨b, o + j * 4 + 3, none⟩ = some (.slice qV qn qc) := fun v hv => ⟨((below_next HBw.out hv).cell hbl').trans (hcell' 0 _ rfl), ((below_next HBw.out hv).cell hbl').trans (hcell' 1 _ rfl), ((below_next HBw.out hv).cell hbl').trans (hcell' 2 _ rfl), ((below_next HBw.out hv).cell hbl').trans (hcell' 3 _ rfl)⟩
          have HCq := Lib.hid hcq
          have hcm2 : ∀ wx : World, Calls Try.prog 35 #[.agg #[.string qkey, .int .i64 qseq, .bool qdel, .slice qV qn qc], .agg #[.string key, .int .i64 seq, .bool del, .slice V vn vc]] wx fun e w' => e = .returned (.int .i64 (Bk.cmp ⟨qkey, qseq, qdel, qval⟩ ⟨key, seq, del, val⟩)) ∧ Below wx.heap.size wx w' := hcm
          generalize hz : Bk.cmp ⟨qkey, qseq, qdel, qval⟩ ⟨key, seq, del, val⟩ = z at hcm2
          have Cmp := Lib.hid hcm2
          have Hz := Lib.hid hz
          clear hcq hcm2 hz hcm hq hcell' hcmp hbl' hj
          have hjj : ((j + 1 : Nat) : Int) - 1 = (j : Int) := by omega
          have hjb : j < 1000000 := by omega
          have hjn : (j : Int) < (n : Int) := by omega
          by_cases hz0 : 0 ≤ z
          · have hno : ¬ Bk.fine es := fun e => by
              have := e.1.2 j _ _ (by rw [HR.out.1]; omega) Hq.out Hp.out
              rw [Hz.out] at this
              omega
            have Hno := Lib.hid hno
            clear hno
            refine region_class (fun w' => Below W.heap.size W w') (by kernel_rfl) (by kernel_rfl) HBd0.out ?_
            repeat (go_big_quiet_step ((first | (intro _; with_reducible rfl) | (intro hq; exact calls_class hq (Chk.out _ (below_next HBw.out hq))) | (intro hq; exact calls_class hq (Cmp.out _)) | (intro hq; obtain ⟨e0, e1, e2, e3⟩ := HCl.out _ hq; simp [e0, e1, e2, e3, Result.andThen]; with_reducible rfl) | (intro hq; obtain ⟨e0, e1, e2, e3⟩ := HCq.out _ hq; simp [e0, e1, e2, e3, Result.andThen]; with_reducible rfl))))
            refine wpQuiet_nil ?_
            intro v9 hv9
            have HQ := Lib.hid (below_next HBw.out hv9)
            go_wp2
            go_ret
            exact tell_no Hno.out HQ.out
          · have hup : Bk.upto es (j + 1 + 1) := ⟨fun i p hi hp => by
              by_cases hij : i = j + 1
              · subst hij
                rw [Hp.out] at hp
                injection hp with hp
                subst hp
                exact Hok.out
              · exact HU.out.1 i p (by omega) hp, fun i p q hi hp hq => by
              by_cases hij : i = j
              · subst hij
                rw [Hq.out] at hp
                rw [Hp.out] at hq
                injection hp with hp
                injection hq with hq
                subst hp hq
                rw [Hz.out]
                omega
              · exact HU.out.2 i p q (by omega) hp hq⟩
            have Hup := Lib.hid hup
            clear hup
            refine region_class (fun w' => Below W.heap.size W w') (by kernel_rfl) (by kernel_rfl) HBd0.out ?_
            repeat (go_big_quiet_step ((first | (intro _; with_reducible rfl) | (intro hq; exact calls_class hq (Chk.out _ (below_next HBw.out hq))) | (intro hq; exact calls_class hq (Cmp.out _)) | (intro hq; obtain ⟨e0, e1, e2, e3⟩ := HCl.out _ hq; simp [e0, e1, e2, e3, Result.andThen]; with_reducible rfl) | (intro hq; obtain ⟨e0, e1, e2, e3⟩ := HCq.out _ hq; simp [e0, e1, e2, e3, Result.andThen]; with_reducible rfl))))
            refine wpQuiet_nil ?_
            intro v9 hv9
            have HQ := Lib.hid (below_next HBw.out hv9)
            go_wp2
            go_roundw
            case rel => exact ⟨j + 1 + 1, by omega, by simp only [Value.int.injEq, true_and]; omega, Hup, HQ⟩
            case measure => simp [intOf]; omega
end Go.Proofs.Ytbfjcpblbmlfcaa
