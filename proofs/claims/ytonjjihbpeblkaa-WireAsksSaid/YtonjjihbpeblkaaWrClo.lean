/- The functions that package wire hands to its walk. -/
import Derived.Test.YtonjjihbpeblkaaWrNum
import Derived.Test.YtonjjihbpeblkaaStepV
import Derived.Deep.RegionHeld3
import Derived.Deep.RegionHeldLaw
namespace Go.Proofs.Ytonjjihbpeblkaa
open Go.RowKit
theorem step_appB {w : World} {base n cap : Nat} {A : Option Addr} {l : List Nat} {ops : Array Oper} {o : Oper} {a : Act} {K : Act → World → Prop} {Q : Exit → Act → World → Prop} {E : Prop} (hw : Region.wanted o (yielded ops a.tmps) = true) (d : Nat) (hd : o.dst = some d) (s x : Operand)
    (ho : o.op = .call { callee := .builtin .append, args := #[s, x], argTypes := #[25, 25] })
    (hs : a.eval s = .slice A n cap) (hown : Own w base A n cap l) (B : Option Addr) (m c : Nat) (news : List Nat) (hx : a.eval x = .slice B m c) (hr : Rd w B m news) (hlen : n + m ≤ 100000000) (hbase : base ≤ w.heap.size)
    (h : ∀ A' cap' w', Grew w w' base A A' n cap (n + m) cap' (l ++ news) → K (a.put (some d) (.slice A' (n + m) cap')) w') :
    if Region.wanted o (yielded ops a.tmps) = true then Oper.wp Try.prog o a w K Q else E := by
  rw [if_pos hw]
  obtain ⟨A', cap', w', hrun, hg⟩ := run_appB hown B m c news hr hlen hbase o.type
  unfold Oper.wp execOp
  simp only [ho, resolve, invoke, builtin, Sem.run_bind, Sem.run_pure, Result.andThen_ok, List.map_toArray, List.map_cons, List.map_nil, hs, hx, hrun]
  have h2 := h A' cap' w' hg
  rw [← hd] at h2
  exact h2
/-- A function with a body is entered. -/
theorem run_enter {F : FuncId} {fn : Func} (hf : Try.prog.funcs[F]? = some fn) (hname : (fn.name == "runtime.NumGoroutine") = false) (hb : fn.body.isNone = false) (args : Array Value) (w : World) : (callFunc F args).run Try.prog w = .ok (.enter F args) w := by
  unfold callFunc
  rw [Sem.run_bind]
  show (Result.ok Try.prog w).andThen _ = _
  rw [Result.andThen_ok]
  simp only [hf, hname, hb, Bool.false_eq_true, if_false]
  rfl
set_option maxRecDepth 100000 in
theorem enter_num (args : Array Value) (w : World) : (callFunc 28 args).run Try.prog w = .ok (.enter 28 args) w := run_enter Try.func28 (by kernel_rfl) (by kernel_rfl) args w
set_option maxRecDepth 100000 in
theorem enter_text (args : Array Value) (w : World) : (callFunc 48 args).run Try.prog w = .ok (.enter 48 args) w := run_enter Try.func48 (by kernel_rfl) (by kernel_rfl) args w
/-- A call of a Go function of one argument, at a step of a drawn region. -/
theorem step_call1 {w : World} {ops : Array Oper} {o : Oper} {a : Act} {K : Act → World → Prop} {Q : Exit → Act → World → Prop} {E : Prop} {F : FuncId} {vx : Value} {T : TypeId} (hw : Region.wanted o (yielded ops a.tmps) = true) (d : Nat) (hd : o.dst = some d) (x : Operand)
    (ho : o.op = .call { callee := .value (.func F), args := #[x], argTypes := #[T] }) (hx : a.eval x = vx) (hcF : ∀ (args : Array Value) (wx : World), (callFunc F args).run Try.prog wx = .ok (.enter F args) wx)
    (h : Calls Try.prog F #[vx] w fun e w' => ∃ v, e = .returned v ∧ K (a.put (some d) v) w') :
    if Region.wanted o (yielded ops a.tmps) = true then Oper.wp Try.prog o a w K Q else E := by
  rw [if_pos hw]
  unfold Oper.wp execOp
  have e1 : a.eval (.func F) = .func (.func F) #[] #[] := rfl
  simp only [ho, resolve, invoke, Deferred.ofValue, e1, Sem.run_bind, Sem.run_pure, Result.andThen_ok, List.map_toArray, List.map_cons, List.map_nil, hx]
  simp only [Array.empty_append, Array.append_empty, hcF]
  refine h.mono ?_
  rintro e w' ⟨v, rfl, hk⟩
  rw [← hd] at hk
  exact hk
set_option maxRecDepth 100000 in
theorem zeroi_any (a : Addr) (v : Value) (w : World) (hc : w.cell? a = some v) (hz : w.frozen? a = false) :
    Calls Try.prog 25 #[.pointer (some a)] w fun e w' => e = .returned (.tuple #[]) ∧ w' = w.setCell a (.int .i64 0) := by
  go_enter Try.func25, Try.ntmps25
  go_wp2
  go_end0
  exact ⟨rfl, rfl⟩
set_option maxRecDepth 100000 in
theorem zeros_any (a : Addr) (v : Value) (w : World) (hc : w.cell? a = some v) (hz : w.frozen? a = false) :
    Calls Try.prog 26 #[.pointer (some a)] w fun e w' => e = .returned (.tuple #[]) ∧ w' = w.setCell a (.string ⟨#[]⟩) := by
  go_enter Try.func26, Try.ntmps26
  go_wp2
  go_end0
  exact ⟨rfl, rfl⟩
set_option maxRecDepth 100000 in
theorem mzeroi_any (a : Addr) (v : Value) (w : World) (hc : w.cell? a = some v) (hz : w.frozen? a = false) :
    Calls Try.prog 41 #[.pointer (some a)] w fun e w' => e = .returned (.tuple #[]) ∧ w' = w.setCell a (.int .i64 0) := by
  go_enter Try.func41, Try.ntmps41
  go_wp2
  go_end0
  exact ⟨rfl, rfl⟩
set_option maxRecDepth 100000 in
theorem mzeros_any (a : Addr) (v : Value) (w : World) (hc : w.cell? a = some v) (hz : w.frozen? a = false) :
    Calls Try.prog 42 #[.pointer (some a)] w fun e w' => e = .returned (.tuple #[]) ∧ w' = w.setCell a (.string ⟨#[]⟩) := by
  go_enter Try.func42, Try.ntmps42
  go_wp2
  go_end0
  exact ⟨rfl, rfl⟩
/-- What a field that is taken leaves. -/
def GivesField (w : World) (a : Addr) (g : Nat) (o : Option (Value × List Nat)) (e : Ending) (w' : World) : Prop :=
  match o with
  | none => e = .panicked Wr.pan ∧ Below w.heap.size w w'
  | some (v, r) => e = .returned (.tuple #[]) ∧ ∃ B c, w'.cell? ⟨g, 0, none⟩ = some (.slice B r.length c) ∧ w'.cell? a = some v ∧ Own w' w.heap.size B r.length c r ∧ Upd [⟨g, 0, none⟩, a] w w'
/-- Two cells written, one behind the other. -/
theorem two_set {w w1 : World} {a : Addr} {g : Nat} {v x va vg : Value} {B : Option Addr} {n c : Nat} {r : List Nat} (ha : w.cell? a = some va) (hg : w.cell? ⟨g, 0, none⟩ = some vg) (hne : a.block ≠ g) (hb : Below w.heap.size w w1) (ho : Own w1 w.heap.size B n c r) (hla : a.block < w.heap.size) (hlg : g < w.heap.size) :
    ((w1.setCell a v).setCell ⟨g, 0, none⟩ x).cell? ⟨g, 0, none⟩ = some x ∧ ((w1.setCell a v).setCell ⟨g, 0, none⟩ x).cell? a = some v ∧ Own ((w1.setCell a v).setCell ⟨g, 0, none⟩ x) w.heap.size B n c r ∧ Upd [⟨g, 0, none⟩, a] w ((w1.setCell a v).setCell ⟨g, 0, none⟩ x) := by
  have ha1 : w1.cell? a = some va := (hb.cell hla).trans ha
  have hg1 : w1.cell? ⟨g, 0, none⟩ = some vg := (hb.cell (p := ⟨g, 0, none⟩) hlg).trans hg
  have hne1 : a ≠ ⟨g, 0, none⟩ := fun e => hne (by rw [e])
  refine ⟨World.cell?_setCell_same _ _ _ ((World.cell?_setCell_other _ _ _ _ hne1).trans hg1), (World.cell?_setCell_other _ _ _ _ (Ne.symm hne1)).trans (World.cell?_setCell_same _ _ _ ha1), ?_, ?_⟩
  · have h1 : Own (w1.setCell a v) w.heap.size B n c r := ho.grown (row := some a.block) ⟨rfl, rfl, rfl, by simp [World.setCell], fun k hk hne => Below.heap_setCell _ _ _ _ (fun e => hne (by rw [e]))⟩ (.inr fun g' hg' e => by
      injection hg' with hg'
      have := (ho.blk _ e).1
      omega)
    exact h1.grown (row := some g) ⟨rfl, rfl, rfl, by simp [World.setCell], fun k hk hne => Below.heap_setCell _ _ _ _ (fun e => hne (by rw [e]))⟩ (.inr fun g' hg' e => by
      injection hg' with hg'
      have := (h1.blk _ e).1
      omega)
  · exact ((Upd.of_below hb).trans (Upd.set v (by simp))).trans (Upd.set x (by simp))
set_option maxRecDepth 100000 in
theorem takei_any (a : Addr) (g : Nat) (va : Value) (B : Option Addr) (n c : Nat) (l : List Nat) (w : World) (ha : w.cell? a = some va) (hza : w.frozen? a = false) (hg : w.cell? ⟨g, 0, none⟩ = some (.slice B n c)) (hzg : w.frozen? ⟨g, 0, none⟩ = false)
    (hne : a.block ≠ g) (hla : a.block < w.heap.size) (hlg : g < w.heap.size) (hl : Rd w B n l) (hc : n ≤ c) (hn : n ≤ 1000000) :
    Calls Try.prog 52 #[.pointer (some a), .pointer (some ⟨g, 0, none⟩)] w (GivesField w a g ((Wr.num l).map fun p => (.int .i64 (p.1 : Int), p.2))) := by
  have hnum := wnumber_any B n c l w hl hc hn
  have hne1 : a ≠ ⟨g, 0, none⟩ := fun e => hne (by rw [e])
  rcases h : Wr.num l with _ | ⟨v, r⟩
  · rw [h] at hnum
    have Hn := Lib.hid hnum
    clear hnum h
    go_enter Try.func52, Try.ntmps52
    go_wp2_with (first | (go_at_call 33; refine Hn.out.mono ?_; rintro e w1 ⟨rfl, hb1⟩))
    exact ⟨rfl, rfl, hb1⟩
  · rw [h] at hnum
    have Hn := Lib.hid hnum
    clear hnum h
    go_enter Try.func52, Try.ntmps52
    go_wp2_with (first | (go_at_call 33; refine Hn.out.mono ?_; rintro e w1 ⟨A1, c1, rfl, ho1, hb1⟩; have k1 := (hb1.cell hla).trans ha; have k2 := (hb1.frozen hla).trans hza; have k3 := (hb1.cell (p := ⟨g, 0, none⟩) hlg).trans hg; have k4 := (hb1.frozen (p := ⟨g, 0, none⟩) hlg).trans hzg))
    have h2 := two_set (v := .int .i64 (v : Int)) (x := .slice A1 r.length c1) ha hg hne hb1 ho1 hla hlg
    go_end0
    exact ⟨rfl, A1, c1, h2⟩
set_option maxRecDepth 100000 in
theorem takes_any (a : Addr) (g : Nat) (va : Value) (B : Option Addr) (n c : Nat) (l : List Nat) (w : World) (ha : w.cell? a = some va) (hza : w.frozen? a = false) (hg : w.cell? ⟨g, 0, none⟩ = some (.slice B n c)) (hzg : w.frozen? ⟨g, 0, none⟩ = false)
    (hne : a.block ≠ g) (hla : a.block < w.heap.size) (hlg : g < w.heap.size) (hl : Rd w B n l) (hc : n ≤ c) (hn : n ≤ 1000000) :
    Calls Try.prog 53 #[.pointer (some a), .pointer (some ⟨g, 0, none⟩)] w (GivesField w a g ((Cd.takeText l 4096).map fun p => (.string (str p.1), p.2))) := by
  have hnum := taketext_any B n c 4096 l w hl hc hn (by omega)
  have hne1 : a ≠ ⟨g, 0, none⟩ := fun e => hne (by rw [e])
  rcases h : Cd.takeText l 4096 with _ | ⟨v, r⟩
  · rw [h] at hnum
    have Hn := Lib.hid hnum
    clear hnum h
    go_enter Try.func53, Try.ntmps53
    go_wp2_with (first | (go_at_call 54; refine Hn.out.mono ?_; rintro e w1 ⟨rfl, hb1⟩))
    exact ⟨rfl, rfl, hb1⟩
  · rw [h] at hnum
    have Hn := Lib.hid hnum
    clear hnum h
    go_enter Try.func53, Try.ntmps53
    go_wp2_with (first | (go_at_call 54; refine Hn.out.mono ?_; rintro e w1 ⟨A1, c1, rfl, ho1, hb1⟩; have k1 := (hb1.cell hla).trans ha; have k2 := (hb1.frozen hla).trans hza; have k3 := (hb1.cell (p := ⟨g, 0, none⟩) hlg).trans hg; have k4 := (hb1.frozen (p := ⟨g, 0, none⟩) hlg).trans hzg))
    have h2 := two_set (v := .string (str v)) (x := .slice A1 r.length c1) ha hg hne hb1 ho1 hla hlg
    go_end0
    exact ⟨rfl, A1, c1, h2⟩
/-- The variable g holds the bytes l, in memory of the call's own that is apart from the blocks from g on up to z. -/
structure PutAt (base g z : Nat) (l : List Nat) (w : World) : Prop where
  lt : g < z
  top : z ≤ w.heap.size
  le : base ≤ g
  free : w.frozen? ⟨g, 0, none⟩ = false
  row : ∃ B c, w.cell? ⟨g, 0, none⟩ = some (.slice B l.length c) ∧ Own w base B l.length c l ∧ ∀ k, (Value.slice B l.length c).ownBlock = some k → k < g ∨ z ≤ k
/-- What lies behind g, up to z, is as it was. -/
def Side (g z : Nat) (w w' : World) : Prop := ∀ b i, g < b → b < z → w'.cell? ⟨b, i, none⟩ = w.cell? ⟨b, i, none⟩ ∧ w'.frozen? ⟨b, i, none⟩ = w.frozen? ⟨b, i, none⟩
theorem Side.refl (g z : Nat) (w : World) : Side g z w w := fun _ _ _ _ => ⟨rfl, rfl⟩
theorem Side.trans {g z : Nat} {w v u : World} (h : Side g z w v) (k : Side g z v u) : Side g z w u := fun b i h1 h2 => ⟨(k b i h1 h2).1.trans (h b i h1 h2).1, (k b i h1 h2).2.trans (h b i h1 h2).2⟩
theorem Holds.side {g z b : Nat} {w v : World} {cs : List Value} (k : Holds w b cs) (h : Side g z w v) (hs : w.heap.size ≤ v.heap.size) (h1 : g < b) (h2 : b < z) : Holds v b cs :=
  ⟨Nat.lt_of_lt_of_le k.1 hs, fun i x hx => (h b i h1 h2).1.trans (k.2.1 i x hx), fun i => (h b i h1 h2).2.trans (k.2.2 i)⟩
/-- What a field that is put leaves: g holds what was there and the field's bytes. -/
def GivesPut (w : World) (base g z : Nat) (l : List Nat) (o : Option (List Nat)) (e : Ending) (w' : World) : Prop :=
  match o with
  | none => e = .panicked Wr.pan ∧ w' = w
  | some r => e = .returned (.tuple #[]) ∧ PutAt base g z (l ++ r) w' ∧ Below base w w' ∧ Side g z w w'
/-- Behind an append to a row of the call's own: a cell below it, and one beside it. -/
theorem far_two {w w' : World} {base n c g : Nat} {B : Option Addr} {l : List Nat} {a : Addr} {x y : Value} (hg : w.grownBy w' (Value.slice B n c).ownBlock) (hl : Own w base B n c l) (ha : a.block < base) (hb : base ≤ w.heap.size) (hlg : g < w.heap.size) (hbg : ∀ k, (Value.slice B n c).ownBlock = some k → k ≠ g)
    (hx : w.cell? a = some x) (hy : w.cell? ⟨g, 0, none⟩ = some y) (hz : w.frozen? ⟨g, 0, none⟩ = false) : w'.cell? a = some x ∧ w'.cell? ⟨g, 0, none⟩ = some y ∧ w'.frozen? ⟨g, 0, none⟩ = false :=
  ⟨(World.grownBy.cell_far hg a (by omega) (fun e => by have := (hl.blk _ e.symm).1; omega)).trans hx, (World.grownBy.cell_far hg ⟨g, 0, none⟩ hlg (fun e => hbg g e.symm rfl)).trans hy, (World.grownBy.frozen_far hg ⟨g, 0, none⟩ hlg (fun e => hbg g e.symm rfl)).trans hz⟩
namespace Wr
/-- A number's bytes: none of those below 0. -/
def encI (n : Int) : Option (List Nat) := if n < 0 then none else some (Cd.num n.toNat)
/-- A text's bytes: none of those that are too long. -/
def encS (s : ByteArray) : Option (List Nat) := if 4096 < s.size then none else some (Cd.text s)
end Wr
theorem put_end {w v4 v5 : World} {base g z n c c5 : Nat} {B A5 : Option Addr} {l r : List Nat} (hl : Own w base B n c l) (hgb : base ≤ g) (hgz : g < z) (hlg : z ≤ w.heap.size) (hbg : ∀ k, (Value.slice B n c).ownBlock = some k → k < g ∨ z ≤ k) (hb4 : Below w.drew.heap.size w.drew v4)
    (hg5 : Grew v4 v5 base B A5 n c (n + r.length) c5 (l ++ r)) {x : Value} (c7 : v5.cell? ⟨g, 0, none⟩ = some x) (z7 : v5.frozen? ⟨g, 0, none⟩ = false) :
    PutAt base g z (l ++ r) (v5.setCell ⟨g, 0, none⟩ (.slice A5 (n + r.length) c5)) ∧ Below base w (v5.setCell ⟨g, 0, none⟩ (.slice A5 (n + r.length) c5)) ∧ Side g z w (v5.setCell ⟨g, 0, none⟩ (.slice A5 (n + r.length) c5)) := by
  have hs4 : w.heap.size ≤ v4.heap.size := hb4.size
  have hl4 := hl.drew.below hb4
  have hb5 : Below base w v5 := hg5.below (((Below.refl base w).drew).trans (hb4.mono (by show base ≤ w.heap.size; omega))) (by omega) (fun k e => (hl4.blk k e).1)
  have e : (l ++ r).length = n + r.length := by rw [List.length_append, hl.1]
  have hbg5 : ∀ k, (Value.slice A5 (n + r.length) c5).ownBlock = some k → k < g ∨ z ≤ k := by
    intro k hk
    rcases hg5.blk with h | h
    · exact hbg k (h ▸ hk)
    · rw [h] at hk
      injection hk with hk
      omega
  have hs5 : v4.heap.size ≤ v5.heap.size := World.grownBy.size hg5.grew
  have hss : (v5.setCell ⟨g, 0, none⟩ (.slice A5 (n + r.length) c5)).heap.size = v5.heap.size := by simp [World.setCell]
  refine ⟨⟨hgz, by rw [hss]; omega, hgb, (World.frozen?_setCell _ _ _ _).trans z7, A5, c5, ?_, ?_, ?_⟩, ?_, ?_⟩
  · rw [e]; exact World.cell?_setCell_same _ _ _ c7
  · rw [e]
    exact hg5.own.grown (row := some g) ⟨rfl, rfl, rfl, by simp [World.setCell], fun k hk hne => Below.heap_setCell _ _ _ _ (fun e => hne (by rw [e]))⟩ (.inr fun g' hg' e => by
      injection hg' with hg'
      have := hbg5 _ e
      omega)
  · rw [e]; exact hbg5
  · exact hb5.trans ⟨rfl, rfl, rfl, by simp [World.setCell], fun k hk => Below.heap_setCell _ _ _ _ (fun e => by have e2 : k = g := e; omega)⟩
  · intro b i h1 h2
    have hne : (⟨g, 0, none⟩ : Addr) ≠ ⟨b, i, none⟩ := fun e => by injection e with e1; omega
    have hbo : some b ≠ (Value.slice B n c).ownBlock := fun e => by have := hbg b e.symm; omega
    have hbl : b < v4.heap.size := by omega
    have hbw : b < w.drew.heap.size := by show b < w.heap.size; omega
    exact ⟨(World.cell?_setCell_other _ _ _ _ hne).trans ((World.grownBy.cell_far hg5.grew ⟨b, i, none⟩ hbl hbo).trans (hb4.cell (p := ⟨b, i, none⟩) hbw)), (World.frozen?_setCell _ _ _ _).trans ((World.grownBy.frozen_far hg5.grew ⟨b, i, none⟩ hbl hbo).trans (hb4.frozen (p := ⟨b, i, none⟩) hbw))⟩
set_option maxRecDepth 100000 in
theorem puti_any (a : Addr) (g z base : Nat) (x : Int) (hx : x < 9223372036854775808) (B : Option Addr) (n c : Nat) (l : List Nat) (w : World) (ha : w.cell? a = some (.int .i64 x)) (hg : w.cell? ⟨g, 0, none⟩ = some (.slice B n c)) (hzg : w.frozen? ⟨g, 0, none⟩ = false)
    (hla : a.block < base) (hgz : g < z) (hlz : z ≤ w.heap.size) (hgb : base ≤ g) (hl : Own w base B n c l) (hn : n ≤ 1000000) (hbz : ∀ k, (Value.slice B n c).ownBlock = some k → k < g ∨ z ≤ k) :
    Calls Try.prog 46 #[.pointer (some a), .pointer (some ⟨g, 0, none⟩)] w (GivesPut w base g z l (Wr.encI x)) := by
  have hlg : g < w.heap.size := Nat.lt_of_lt_of_le hgz hlz
  have hbg : ∀ k, (Value.slice B n c).ownBlock = some k → k ≠ g := fun k e => by have := hbz k e; omega
  unfold Wr.encI
  by_cases h0 : x < 0
  · rw [if_pos h0]
    go_enter Try.func46, Try.ntmps46
    go_wp2
    exact ⟨rfl, rfl, rfl⟩
  · rw [if_neg h0]
    obtain ⟨y, rfl⟩ := Int.eq_ofNat_of_zero_le (show 0 ≤ x by omega)
    have hy : y < 18446744073709551616 := by omega
    have hw := wrap_u64_nat y hy
    have hlen := Cd.num_length y
    have hlg2 : base ≤ w.heap.size := by omega
    have hex : g < w.drew.heap.size := hlg
    rw [Int.toNat_natCast]
    clear hx
    go_enter Try.func46, Try.ntmps46
    go_wp2
    have hnum := num_any y hy
    have Hnum := Lib.hid hnum
    clear hnum
    have c0 : w.drew.cell? a = some (.int .i64 (y : Int)) := ha
    have c1 : w.drew.cell? ⟨g, 0, none⟩ = some (.slice B n c) := hg
    have z1 : w.drew.frozen? ⟨g, 0, none⟩ = false := hzg
    have hlw : a.block < w.drew.heap.size := Nat.lt_of_lt_of_le hla hlg2
    have hne1 : (⟨g, 0, none⟩ : Addr) ≠ a := fun e => by rw [← e] at hla; exact absurd hgb (Nat.not_le.2 hla)
    go_region_law (first | (refine step_call1 (by rfl) 13 rfl (.tmp 12) rfl rfl enter_num ((Hnum.out _).mono ?_); rintro e v4 ⟨A4, cap4, rfl, ho4, hb4⟩; refine ⟨_, rfl, ?_⟩; have c4 := (hb4.cell hlw).trans c0; have c5 := (hb4.cell (p := ⟨g, 0, none⟩) hlg).trans c1; have z5 := (hb4.frozen (p := ⟨g, 0, none⟩) hlg).trans z1; have hl4 := hl.drew.below hb4; have hs4 : base ≤ v4.heap.size := Nat.le_trans hlg2 hb4.size) | (refine step_appB (by rfl) 14 rfl (.tmp 8) (.tmp 13) rfl rfl hl4 A4 (Cd.num y).length cap4 (Cd.num y) rfl ho4.rd (by omega) hs4 ?_; intro A5 c5' v5 hg5; obtain ⟨c6, c7, z7⟩ := far_two hg5.grew hl4 hla hs4 (Nat.lt_of_lt_of_le hlg hb4.size) hbg c4 c5 z5))
    all_goals
      go_end0
      exact ⟨rfl, put_end hl hgb hgz hlz hbz hb4 hg5 c7 z7⟩
set_option maxRecDepth 100000 in
theorem puts_any (a : Addr) (g z base : Nat) (s : ByteArray) (B : Option Addr) (n c : Nat) (l : List Nat) (w : World) (ha : w.cell? a = some (.string s)) (hg : w.cell? ⟨g, 0, none⟩ = some (.slice B n c)) (hzg : w.frozen? ⟨g, 0, none⟩ = false)
    (hla : a.block < base) (hgz : g < z) (hlz : z ≤ w.heap.size) (hgb : base ≤ g) (hl : Own w base B n c l) (hn : n ≤ 1000000) (hbz : ∀ k, (Value.slice B n c).ownBlock = some k → k < g ∨ z ≤ k) :
    Calls Try.prog 47 #[.pointer (some a), .pointer (some ⟨g, 0, none⟩)] w (GivesPut w base g z l (Wr.encS s)) := by
  have hlg : g < w.heap.size := Nat.lt_of_lt_of_le hgz hlz
  have hbg : ∀ k, (Value.slice B n c).ownBlock = some k → k ≠ g := fun k e => by have := hbz k e; omega
  unfold Wr.encS
  by_cases h0 : 4096 < s.size
  · rw [if_pos h0]
    go_enter Try.func47, Try.ntmps47
    go_wp2
    exact ⟨rfl, rfl, rfl⟩
  · rw [if_neg h0]
    have hlen : (Cd.text s).length ≤ 4107 := by
      have := Cd.num_length s.size
      unfold Cd.text
      rw [List.length_append, bs_length]
      omega
    have hlg2 : base ≤ w.heap.size := by omega
    have hex : g < w.drew.heap.size := hlg
    have hnum := text_any s (by omega)
    go_enter Try.func47, Try.ntmps47
    go_wp2
    have Hnum := Lib.hid hnum
    clear hnum
    have c0 : w.drew.cell? a = some (.string s) := ha
    have c1 : w.drew.cell? ⟨g, 0, none⟩ = some (.slice B n c) := hg
    have z1 : w.drew.frozen? ⟨g, 0, none⟩ = false := hzg
    have hlw : a.block < w.drew.heap.size := Nat.lt_of_lt_of_le hla hlg2
    have hne1 : (⟨g, 0, none⟩ : Addr) ≠ a := fun e => by rw [← e] at hla; exact absurd hgb (Nat.not_le.2 hla)
    go_region_law (first | (refine step_call1 (by rfl) 13 rfl (.tmp 12) rfl rfl enter_text ((Hnum.out _).mono ?_); rintro e v4 ⟨A4, cap4, rfl, ho4, hb4⟩; refine ⟨_, rfl, ?_⟩; have c4 := (hb4.cell hlw).trans c0; have c5 := (hb4.cell (p := ⟨g, 0, none⟩) hlg).trans c1; have z5 := (hb4.frozen (p := ⟨g, 0, none⟩) hlg).trans z1; have hl4 := hl.drew.below hb4; have hs4 : base ≤ v4.heap.size := Nat.le_trans hlg2 hb4.size) | (refine step_appB (by rfl) 14 rfl (.tmp 9) (.tmp 13) rfl rfl hl4 A4 (Cd.text s).length cap4 (Cd.text s) rfl ho4.rd (by omega) hs4 ?_; intro A5 c5' v5 hg5; obtain ⟨c6, c7, z7⟩ := far_two hg5.grew hl4 hla hs4 (Nat.lt_of_lt_of_le hlg hb4.size) hbg c4 c5 z5))
    all_goals
      go_end0
      exact ⟨rfl, put_end hl hgb hgz hlz hbz hb4 hg5 c7 z7⟩
end Go.Proofs.Ytonjjihbpeblkaa
