/- A net's calls: what each tells, and what the net holds behind it. -/
import Derived.Test.YthganbbiclmgpaaMlDel
import Derived.Deep.Cut
namespace Go.Proofs.Ythganbbiclmgpaa
open Go.RowKit
theorem step_appC {s : Nat} {w : World} {base n cap : Nat} {A : Option Addr} {vs : List Value} {S E : TypeId} {z : Value} {bytes : Nat} (O : Many s S E z bytes) {ops : Array Oper} {o : Oper} {a : Act} {K : Act → World → Prop} {Q : Exit → Act → World → Prop} {F : Prop} (hw : Region.wanted o (yielded ops a.tmps) = true) (d : Nat) (hd : o.dst = some d) (s1 x : Operand)
    (ho : o.op = .call { callee := .builtin .append, args := #[s1, x], argTypes := #[S, S] })
    (hs : a.eval s1 = .slice A n cap) (hown : OwnC s w base E A n cap vs) (ad : Addr) (m c : Nat) (news : List Value) (h1 : ∀ u ∈ news, u.oneCell' = true) (hx : a.eval x = .slice (some ad) m c) (hr : RdC s w (some ad) m news) (hlen : n + m ≤ 1000000) (hbase : base ≤ w.heap.size)
    (h : ∀ A' cap' w', GrewC s w w' base E A A' n cap (n + m) cap' (vs ++ news) → K (a.put (some d) (.slice A' (n + m) cap')) w') :
    if Region.wanted o (yielded ops a.tmps) = true then Oper.wp Try.prog o a w K Q else F := by
  rw [if_pos hw]
  obtain ⟨A', cap', w', hrun, hg⟩ := run_appC O hown ad m c news h1 hr hlen hbase o.type
  unfold Oper.wp execOp
  simp only [ho, resolve, invoke, builtin, Sem.run_bind, Sem.run_pure, Result.andThen_ok, List.map_toArray, List.map_cons, List.map_nil, hs, hx, hrun]
  have h2 := h A' cap' w' hg
  rw [← hd] at h2
  exact h2
namespace Ml
/-- What Send tells. -/
def sendE (l : List M) (m : M) : Int := if ok m then (if 256 ≤ l.length then 3 else 0) else 260
/-- The mails behind Send. -/
def sendL (l : List M) (m : M) : List M := if ok m && decide (l.length < 256) then l ++ [m] else l
/-- What is told of a number. -/
def hasE (l : List M) (i : Int) : Int := if 0 ≤ i ∧ i < l.length then 0 else 5
def atM (l : List M) (i : Int) : M := if 0 ≤ i ∧ i < l.length then (l[i.toNat]?).getD zero else zero
def takeL (l : List M) (i : Int) : List M := if 0 ≤ i ∧ i < l.length then cut l i.toNat else l
def twinE (l : List M) (i : Int) : Int := if 0 ≤ i ∧ i < l.length then (if 256 ≤ l.length then 3 else 0) else 5
def twinL (l : List M) (i : Int) : List M := if 0 ≤ i ∧ i < l.length then (if 256 ≤ l.length then l else l ++ [atM l i]) else l
end Ml
/-- A call that tells this, and leaves these mails. -/
def GivesNet (g : Nat) (A : Option Addr) (cap : Nat) (l : List Ml.M) (w : World) (v : Value) (l' : List Ml.M) (e : Ending) (w' : World) : Prop :=
  e = .returned v ∧ ∃ A' cap', Moved g A cap l w A' cap' l' w'
theorem Moved.push {g cap c6 : Nat} {A A6 : Option Addr} {l : List Ml.M} {m : Ml.M} {w w6 : World} (h : NetIs w g A cap l) (hg : GrewC 3 w w6 (g + 1) 28 A A6 l.length cap (l.length + 1) c6 (Ml.flat l ++ Ml.cells m)) :
    Moved g A cap l w A6 c6 (l ++ [m]) (w6.setCell ⟨g, 1, none⟩ (.slice A6 (l.length + 1) c6)) := by
  have hlen : (l ++ [m]).length = l.length + 1 := by simp
  have hfl : Ml.flat (l ++ [m]) = Ml.flat l ++ Ml.cells m := by rw [Ml.flat_append]; simp [Ml.flat]
  have hown : ∀ k, (Value.slice A l.length cap).ownBlock = some k → g + 1 ≤ k ∧ k < w.heap.size := fun k hk => h.row.blk k hk
  have hbx := (h.box.grown hg.grew (fun e => by have := (hown _ e).1; omega)).set 1 (.slice A6 (l.length + 1) c6) (by simp)
  refine ⟨⟨by rw [hlen]; exact hbx, ?_⟩, ⟨hg.grew.os, hg.grew.tape, hg.grew.output, by simpa [World.setCell] using hg.grew.size, fun k h1 h2 h3 => ?_⟩, fun k hk => ?_⟩
  · rw [hlen, hfl]
    exact hg.own.grown (grown_setCell w6 ⟨g, 1, none⟩ _) (.inr fun g' e e2 => by
      injection e with e
      have e : g = g' := e
      have := (hg.own.blk _ e2).1
      omega)
  · rw [Below.heap_setCell _ _ _ _ (fun e => h2 e)]
    exact hg.grew.block k h1 (Ne.symm h3)
  · rw [hlen] at hk
    rcases hg.blk with e | e
    · rw [e] at hk; exact .inl hk
    · rw [e] at hk
      injection hk with hk
      exact .inr (by omega)
theorem Moved.after {g cap cap' : Nat} {A A' : Option Addr} {l l' : List Ml.M} {w v w' : World} (hn : NetIs w g A cap l) (hb : Below w.heap.size w v) (h : Moved g A cap l v A' cap' l' w') : Moved g A cap l w A' cap' l' w' :=
  ((Moved.here hn).below hb).then h
set_option maxRecDepth 100000 in
set_option maxHeartbeats 4000000 in
theorem put_any (g cap : Nat) (A : Option Addr) (l : List Ml.M) (m : Ml.M) (w : World) (h : NetIs w g A cap l) (hl : l.length ≤ 1000) :
    Calls Try.prog 35 #[.pointer (some ⟨g, 1, none⟩), .agg (Ml.cells m).toArray] w (GivesNet g A cap l w (.tuple #[]) (l ++ [m])) := by
  obtain ⟨f, t, s⟩ := m
  have hg0 := h.box.1
  have hb0 : Below w.heap.size w (w.alloc (.cells #[Value.int .i64 f, .int .i64 t, .string s] 28)) := (Below.refl _ _).alloc (Nat.le_refl _) _
  have h1 := h.below hb0
  have hbx := Holds.new w #[Value.int .i64 f, .int .i64 t, .string s] 28
  have HB0 := Lib.hid hb0
  show Calls _ _ #[.pointer (some ⟨g, 1, none⟩), .agg #[.int .i64 f, .int .i64 t, .string s]] _ _
  go_enter Try.func35, Try.ntmps35
  go_wp2_with fail
  generalize (w.alloc (.cells #[Value.int .i64 f, .int .i64 t, .string s] 28)) = w1 at *
  have hd : NetIs w1.drew g A cap l := h1.below (Below.refl _ _).drew
  have hda : NetIs (w1.alloc (.cells #[Value.int .i64 f, .int .i64 t, .string s] 28)).drew g A cap l := (h1.below ((Below.refl _ _).alloc (Nat.le_refl _) _)).below (Below.refl _ _).drew
  have hxd := hbx.below (Below.refl _ _).drew
  have hxa := (hbx.alloc (.cells #[Value.int .i64 f, .int .i64 t, .string s] 28)).below (Below.refl _ _).drew
  have c1 := hd.box.at_ 1 rfl
  have c1' := hda.box.at_ 1 rfl
  have x0 := hxd.at_ 0 rfl
  have x1 := hxd.at_ 1 rfl
  have x2 := hxd.at_ 2 rfl
  have x0' := hxa.at_ 0 rfl
  have x1' := hxa.at_ 1 rfl
  have x2' := hxa.at_ 2 rfl
  have hbase : g + 1 ≤ (w1.alloc (.cells #[Value.int .i64 f, .int .i64 t, .string s] 28)).drew.heap.size := by have := hda.box.1; omega
  have hrd : RdC 3 (w1.alloc (.cells #[Value.int .i64 f, .int .i64 t, .string s] 28)).drew (some ⟨w1.heap.size, 0, none⟩) 1 (Ml.cells ⟨f, t, s⟩) := (rdc_new 3 w1 28 (Ml.cells ⟨f, t, s⟩) 1 rfl (0, 0)).drew
  go_region_law (refine step_appC manyR (by simp [Region.wanted]) 10 rfl (.tmp 7) (.tmp 9) rfl rfl hda.row ⟨w1.heap.size, 0, none⟩ 1 1 (Ml.cells ⟨f, t, s⟩) (Ml.cells_one _) rfl hrd (by omega) hbase ?_; intro A6 c6 w6 hg6; have c16 := (hda.box.grown hg6.grew (fun e => by have := (hda.row.blk _ e).1; omega)).at_ 1 rfl; have z16 := (hda.box.grown hg6.grew (fun e => by have := (hda.row.blk _ e).1; omega)).2.2 1)
  all_goals
    refine ⟨rfl, _, results_none rfl _ _ _, rfl, A6, c6, Moved.after h (below_next hb0 ((Below.refl _ _).alloc (Nat.le_refl _) _).drew) (Moved.push hda hg6)⟩
theorem run_enter {F : FuncId} {fn : Func} (hf : Try.prog.funcs[F]? = some fn) (hname : (fn.name == "runtime.NumGoroutine") = false) (hb : fn.body.isNone = false) (args : Array Value) (w : World) : (callFunc F args).run Try.prog w = .ok (.enter F args) w := by
  unfold callFunc
  rw [Sem.run_bind]
  show (Result.ok Try.prog w).andThen _ = _
  rw [Result.andThen_ok]
  simp only [hf, hname, hb, Bool.false_eq_true, if_false]
  rfl
set_option maxRecDepth 100000 in
theorem enter_put (args : Array Value) (w : World) : (callFunc 35 args).run Try.prog w = .ok (.enter 35 args) w := run_enter Try.func35 (by kernel_rfl) (by kernel_rfl) args w
/-- A call of a Go function of two arguments whose result nobody takes, at a step of a drawn region. -/
theorem step_callN {w : World} {ops : Array Oper} {o : Oper} {a : Act} {K : Act → World → Prop} {Q : Exit → Act → World → Prop} {E : Prop} {F : FuncId} {vx vy : Value} {T U : TypeId} (hw : Region.wanted o (yielded ops a.tmps) = true) (hd : o.dst = none) (x y : Operand)
    (ho : o.op = .call { callee := .value (.func F), args := #[x, y], argTypes := #[T, U] }) (hx : a.eval x = vx) (hy : a.eval y = vy) (hcF : ∀ (args : Array Value) (wx : World), (callFunc F args).run Try.prog wx = .ok (.enter F args) wx)
    (h : Calls Try.prog F #[vx, vy] w fun e w' => ∃ v, e = .returned v ∧ K (a.put none v) w') :
    if Region.wanted o (yielded ops a.tmps) = true then Oper.wp Try.prog o a w K Q else E := by
  rw [if_pos hw]
  unfold Oper.wp execOp
  have e1 : a.eval (.func F) = .func (.func F) #[] #[] := rfl
  simp only [ho, resolve, invoke, Deferred.ofValue, e1, Sem.run_bind, Sem.run_pure, Result.andThen_ok, List.map_toArray, List.map_cons, List.map_nil, hx, hy]
  simp only [Array.empty_append, Array.append_empty, hcF]
  refine h.mono ?_
  rintro e w' ⟨v, rfl, hk⟩
  rw [← hd] at hk
  exact hk
theorem Moved.quiet {g cap : Nat} {A : Option Addr} {l : List Ml.M} {w w' : World} (h : NetIs w g A cap l) (hb : Below w.heap.size w w') : Moved g A cap l w A cap l w' := (Moved.here h).below hb
set_option maxRecDepth 100000 in
set_option maxHeartbeats 4000000 in
theorem send_any (g cap : Nat) (A : Option Addr) (l : List Ml.M) (m : Ml.M) (w : World) (h : NetIs w g A cap l) (hl : l.length ≤ 1000) :
    Calls Try.prog 10 #[.pointer (some ⟨g, 0, none⟩), .agg (Ml.cells m).toArray] w (GivesNet g A cap l w (.int .i64 (Ml.sendE l m)) (Ml.sendL l m)) := by
  have HM := Lib.hid (fun wx => maybe_any m wx)
  have HP := Lib.hid (fun (wx : World) (hx : NetIs wx g A cap l) => put_any g cap A l m wx hx hl)
  have hb0 : Below w.heap.size w (w.alloc (.cells (Ml.cells m).toArray 28)) := (Below.refl _ _).alloc (Nat.le_refl _) _
  have hN0 := h.below hb0
  have hbx := Holds.new w (Ml.cells m).toArray 28
  have HN := Lib.hid h
  have H0 := Lib.hid hN0
  have HB0 := Lib.hid hb0
  have Hbx := Lib.hid hbx
  have Hs : Hid (Ml.sendE l m = if Ml.ok m then (if 256 ≤ l.length then 3 else 0) else 260) := Lib.hid rfl
  have HL : Hid (Ml.sendL l m = if Ml.ok m && decide (l.length < 256) then l ++ [m] else l) := Lib.hid rfl
  obtain ⟨f, t, s⟩ := m
  have hW : (w.alloc (.cells (Ml.cells ⟨f, t, s⟩).toArray 28)) = (w.alloc (.cells #[Value.int .i64 f, .int .i64 t, .string s] 28)) := rfl
  rw [hW] at H0 HB0 Hbx
  clear h hb0 hN0 hbx hW
  show Calls _ _ #[.pointer (some ⟨g, 0, none⟩), .agg #[.int .i64 f, .int .i64 t, .string s]] _ _
  go_enter Try.func10, Try.ntmps10
  go_wp2_with fail
  generalize (w.alloc (.cells #[Value.int .i64 f, .int .i64 t, .string s] 28)) = w1 at *
  refine (ismade_any g true _ w1 H0.out.box).mono ?_
  rintro e w2 ⟨rfl, rfl⟩
  have b0 := Hbx.out.at_ 0 rfl
  have b1 := Hbx.out.at_ 1 rfl
  have b2 := Hbx.out.at_ 2 rfl
  go_wp2_with fail
  refine (HM.out w1).mono ?_
  rintro e w2 ⟨rfl, hb2⟩
  have N2 := Lib.hid (H0.out.below hb2)
  have HB2 := Lib.hid (below_next HB0.out hb2)
  have c1 := N2.out.box.at_ 1 rfl
  have d := Hbx.out.below hb2
  have d0 := d.at_ 0 rfl
  have d1 := d.at_ 1 rfl
  have d2 := d.at_ 2 rfl
  clear b0 b1 b2 hb2 d
  cases hok : Ml.ok ⟨f, t, s⟩ with
  | false =>
    have E1 := Hs.out
    have E2 := HL.out
    rw [hok] at E1 E2
    simp only [Bool.false_eq_true, if_false, Bool.false_and] at E1 E2
    have HE := Lib.hid (And.intro E1 E2)
    clear E1 E2 hok
    go_wp2
    go_ret
    rw [HE.out.1, HE.out.2]
    exact ⟨rfl, A, cap, Moved.quiet HN.out HB2.out⟩
  | true =>
    by_cases h256 : 256 ≤ l.length
    · have h256i : (256 : Int) ≤ (l.length : Int) := by omega
      have E1 := Hs.out
      have E2 := HL.out
      rw [hok, if_pos h256] at E1
      rw [hok, decide_eq_false (by omega)] at E2
      simp only [if_true, Bool.and_false, Bool.false_eq_true, if_false] at E1 E2
      have HE := Lib.hid (And.intro E1 E2)
      clear E1 E2 hok
      go_wp2
      go_ret
      rw [HE.out.1, HE.out.2]
      exact ⟨rfl, A, cap, Moved.quiet HN.out HB2.out⟩
    · have h256i : ¬ (256 : Int) ≤ (l.length : Int) := by omega
      have E1 := Hs.out
      have E2 := HL.out
      rw [hok, if_neg h256] at E1
      rw [hok, decide_eq_true (by omega)] at E2
      simp only [if_true, Bool.and_true] at E1 E2
      have HE := Lib.hid (And.intro E1 E2)
      clear E1 E2 hok
      have hND := N2.out.below (Below.refl _ _).drew
      have hb3 := (Below.refl w2.heap.size w2).drew
      have e0 : w2.drew.cell? ⟨w.heap.size, 0, none⟩ = some (.int .i64 f) := d0
      have e1 : w2.drew.cell? ⟨w.heap.size, 1, none⟩ = some (.int .i64 t) := d1
      have e2 : w2.drew.cell? ⟨w.heap.size, 2, none⟩ = some (.string s) := d2
      go_upto_region 7 with fail
      go_region_with (go_at_call 35; refine (HP.out _ hND).mono ?_; rintro e w4 ⟨rfl, A4, c4, hm4⟩)
      all_goals
        have HM4 := Lib.hid (Moved.after HN.out (below_next HB2.out hb3) hm4)
        clear hm4
        go_wp2
        go_ret
        rw [HE.out.1, HE.out.2]
        exact ⟨rfl, A4, c4, HM4.out⟩
end Go.Proofs.Ythganbbiclmgpaa
