/- What take within super's Decode returns; words for rows of pairs, for closures called in a drawn region. What reading a superblock gives. Within super's Decode: the place in the payload, the superblock that grows, and what take makes of them. -/
import Derived.Test.YtbdomhookjmmgaaSuM
import Derived.Test.YtbdomhookjmmgaaFrLowB
import Derived.Test.YtbdomhookjmmgaaRg
import Derived.Test.YtbdomhookjmmgaaSuCheck
import Derived.Test.YtbdomhookjmmgaaFrAny
namespace Go.Proofs.Ytbdomhookjmmgaa
open Go.RowKit Fr Su
set_option linter.unusedVariables false
set_option maxRecDepth 100000 in
set_option maxHeartbeats 1000000 in
theorem stake_num (s o x a n : Nat) (A : Option Addr) (c : Nat) (l : List Nat) (w : World) (hx : w.cell? ⟨x, 0, none⟩ = some (.slice A n c)) (hxw : x < w.heap.size) (hl : Rd w A n l) (ha : Holds w a [.int .i64 (o : Int)]) (hs : s ≤ 4) (hos : o + s ≤ n) (hn : n ≤ 1000) (hxa : x ≠ a) (hne : ∀ g q, A = some ⟨g, q, none⟩ → g ≠ a) :
    Calls Try.prog 54 #[.int .i64 (s : Int), .pointer (some ⟨x, 0, none⟩), .pointer (some ⟨a, 0, none⟩)] w (GivesNum a w (F l o s) (o + s)) := by
  have HX := Lib.hid hx
  have HL := Lib.hid hl
  have HA := Lib.hid ha
  have HNE := Lib.hid hne
  clear hx hl ha hne
  go_enter Try.func54, Try.ntmps54
  go_wp2
  go_loopw [5, 8] (fun v i wr => ∃ j : Nat, j ≤ s ∧ i = .int .i64 (j : Int) ∧ v = .int .i64 (F l o j : Int) ∧ Holds wr a [.int .i64 ((o + j : Nat) : Int)] ∧ Ch2 a a w wr) (fun _ i _ => s - (intOf i).toNat)
  case atStart => exact ⟨0, by omega, rfl, by rw [F_zero]; rfl, HA.out, Ch2.refl _ _ _⟩
  case round =>
    obtain ⟨j, hj, rfl, rfl, hA, hC⟩ := hrel
    have cx := (hC.cell (p := ⟨x, 0, none⟩) hxw hxa hxa).trans HX.out
    by_cases hjs : j < s
    · have hji : (j : Int) < (s : Int) := by omega
      obtain ⟨t, ht⟩ : ∃ t, t = o + j := ⟨_, rfl⟩
      have ht128 : t < n := by omega
      have hti : (t : Int) < (n : Int) := by omega
      rw [← ht] at hA
      obtain ⟨g, q, y, hAg, hg, hy, hy2, hcell⟩ := HL.out.at_ ht128
      have hgn := HNE.out g q hAg
      have cy := (hC.cell (p := ⟨g, q + t, none⟩) hg hgn hgn).trans hcell
      have ca := hA.at_ 0 rfl
      have fa := hA.2.2 0
      have hF := F_succ (l := l) (o := o) (s := j) (x := y) (by rw [← ht]; exact hy)
      have hFl := F_lt (l := l) (fun z hz => HL.out.lt hz) o j
      have hA2 := hA.set 0 (.int .i64 ((t + 1 : Nat) : Int)) (by simp)
      have hC2 := hC.trans (Ch2.set1 a a 0 wr (.int .i64 ((t + 1 : Nat) : Int)))
      have hw8 : IntKind.i64.wrap (8 * (j : Int)) = 8 * (j : Int) := by rw [IntKind.wrap_i64]; omega
      subst hAg
      have HF := Lib.hid hF
      have HT := Lib.hid ht
      have HA2 := Lib.hid hA2
      have HC2 := Lib.hid hC2
      clear hcell hy hF hA2 hC2 hA hC ht
      go_wp2_with fail
      have hor := or_num (F l o j) y j (by omega) hFl hy2
      rw [← HF.out] at hor
      have hA3 := HA2.out
      have hC3 := HC2.out
      rw [show ((t + 1 : Nat) : Int) = (t : Int) + 1 by omega] at hA3 hC3
      have hA4 : Holds (wr.setCell ⟨a, 0, none⟩ (.int .i64 ((t : Int) + 1))) a [.int .i64 ((o + (j + 1) : Nat) : Int)] := by
        rw [show ((o + (j + 1) : Nat) : Int) = (t : Int) + 1 by rw [HT.out]; omega]
        exact hA3
      clear hA3
      go_roundw
      case rel => exact ⟨j + 1, by omega, by go_num, by rw [hor], hA4, hC3⟩
      case measure => simp [intOf]; omega
    · have hjs2 : j = s := by omega
      subst hjs2
      go_wp2
      go_ret
      exact ⟨rfl, hA, hC⟩
theorem manyPs : Many 2 22 93 (.agg #[.int .i64 0, .int .i64 0]) 16 := ⟨by kernel_rfl, Try.underlying22, rfl, by omega, by omega⟩
theorem rdc_two (w : World) (x y : Value) (t : TypeId) : RdC 2 (w.alloc (.cells #[x, y] t)) (some ⟨w.heap.size, 0, none⟩) 1 [x, y] :=
  ⟨rfl, fun _ => ⟨w.heap.size, 0, rfl, by simp, fun j v hv => by
    rw [Nat.zero_add, World.cell?_alloc_mark]
    match j, hv with
    | 0, hv => simpa using hv
    | 1, hv => simpa using hv⟩⟩
theorem wp_appC {s : Nat} {w : World} {base n cap : Nat} {A : Option Addr} {vs : List Value} {S E : TypeId} {z : Value} {bytes : Nat} (O : Many s S E z bytes) {o : Oper} {a : Act} {K : Act → World → Prop} {Q : Exit → Act → World → Prop} (d : Nat) (hd : o.dst = some d) (s1 x : Operand)
    (ho : o.op = .call { callee := .builtin .append, args := #[s1, x], argTypes := #[S, S] })
    (hs : a.eval s1 = .slice A n cap) (hown : OwnC s w base E A n cap vs) (ad : Addr) (m c : Nat) (news : List Value) (h1 : ∀ u ∈ news, u.oneCell' = true) (hx : a.eval x = .slice (some ad) m c) (hr : RdC s w (some ad) m news) (hlen : n + m ≤ 1000000) (hbase : base ≤ w.heap.size)
    (h : ∀ A' cap' w', GrewC s w w' base E A A' n cap (n + m) cap' (vs ++ news) → K (a.put (some d) (.slice A' (n + m) cap')) w') : Oper.wp Try.prog o a w K Q := by
  obtain ⟨A', cap', w', hrun, hg⟩ := run_appC O hown ad m c news h1 hr hlen hbase o.type
  unfold Oper.wp execOp
  simp only [ho, resolve, invoke, builtin, Sem.run_bind, Sem.run_pure, Result.andThen_ok, List.map_toArray, List.map_cons, List.map_nil, hs, hx, hrun]
  have h2 := h A' cap' w' hg
  rw [← hd] at h2
  exact h2
/-- A closure of one argument, with two captured. -/
theorem wp_clo1 {w : World} {o : Oper} {a : Act} {K : Act → World → Prop} {Q : Exit → Act → World → Prop} {F : FuncId} {vx p q : Value} {T : TypeId} (d : Nat) (hd : o.dst = some d) (f x : Operand)
    (ho : o.op = .call { callee := .value f, args := #[x], argTypes := #[T] }) (hf : a.eval f = .func (.func F) #[] #[p, q]) (hx : a.eval x = vx) (hcF : ∀ (args : Array Value) (wx : World), (callFunc F args).run Try.prog wx = .ok (.enter F args) wx)
    (h : Calls Try.prog F #[vx, p, q] w fun e w' => ∃ v, e = .returned v ∧ K (a.put (some d) v) w') : Oper.wp Try.prog o a w K Q := by
  unfold Oper.wp execOp
  simp only [ho, resolve, invoke, Deferred.ofValue, hf, Sem.run_bind, Sem.run_pure, Result.andThen_ok, List.map_toArray, List.map_cons, List.map_nil, hx]
  simp only [Array.empty_append, hcF]
  refine h.mono ?_
  rintro e w' ⟨v, rfl, hk⟩
  rw [← hd] at hk
  exact hk
set_option maxRecDepth 100000 in
theorem enter_stake (args : Array Value) (w : World) : (callFunc 54 args).run Try.prog w = .ok (.enter 54 args) w := run_enter Try.func54 (by kernel_rfl) (by kernel_rfl) args w
end Go.Proofs.Ytbdomhookjmmgaa
namespace Go.Proofs.Ytbdomhookjmmgaa
open Go.RowKit Fr Su
set_option linter.unusedVariables false
/-- A superblock and an error. -/
def GivesSu (w : World) (s : S) (r : Int) (e : Ending) (w' : World) : Prop :=
  ∃ (A : Option Addr) (c : Nat), e = .returned (.tuple #[.agg #[.int .i64 s.g, .int .i64 s.e, .int .i64 s.i, .int .i64 s.m, .slice A s.ps.length c], .int .i64 r]) ∧ RdC 2 w' A s.ps.length (pv s.ps) ∧ (∀ b o, A = some ⟨b, o, none⟩ → w.heap.size ≤ b) ∧ Below w.heap.size w w'
theorem OwnC.new_ {s : Nat} {w : World} {base n cap b o : Nat} {E : TypeId} {A : Option Addr} {vs : List Value} (h : OwnC s w base E A n cap vs) (e : A = some ⟨b, o, none⟩) : base ≤ b := by
  subst e
  rcases h.2 with ⟨hv, _⟩ | ⟨g, c, cur, hv, hb, _⟩
  · cases hv
  · injection hv with h1 _ _
    injection h1 with h1
    injection h1 with h1 _ _
    subst h1
    exact hb
theorem RdC.other {s : Nat} {w : World} {A : Option Addr} {n b i : Nat} {vs : List Value} (h : RdC s w A n vs) (hb : ∀ g o, A = some ⟨g, o, none⟩ → g ≠ b) (v : Value) : RdC s (w.setCell ⟨b, i, none⟩ v) A n vs := by
  refine ⟨h.1, fun hn => ?_⟩
  obtain ⟨g, o, rfl, hg, hc⟩ := h.2 hn
  refine ⟨g, o, rfl, by simpa [World.setCell] using hg, fun j x hx => ?_⟩
  rw [World.cell?_setCell_other w _ _ _ (fun e => hb g o rfl (by injection e with e1 _; exact e1.symm))]
  exact hc j x hx
theorem RdC.other5 {s : Nat} {w : World} {A : Option Addr} {n b : Nat} {vs : List Value} (h : RdC s w A n vs) (hb : ∀ g o, A = some ⟨g, o, none⟩ → g ≠ b) (y0 y1 y2 y3 y4 : Value) : RdC s (((((w.setCell ⟨b, 0, none⟩ y0).setCell ⟨b, 1, none⟩ y1).setCell ⟨b, 2, none⟩ y2).setCell ⟨b, 3, none⟩ y3).setCell ⟨b, 4, none⟩ y4) A n vs :=
  ((((h.other hb y0).other hb y1).other hb y2).other hb y3).other hb y4
theorem Holds.set5 {w : World} {b : Nat} {x0 x1 x2 x3 x4 : Value} (k : Holds w b [x0, x1, x2, x3, x4]) (y0 y1 y2 y3 y4 : Value) : Holds (((((w.setCell ⟨b, 0, none⟩ y0).setCell ⟨b, 1, none⟩ y1).setCell ⟨b, 2, none⟩ y2).setCell ⟨b, 3, none⟩ y3).setCell ⟨b, 4, none⟩ y4) b [y0, y1, y2, y3, y4] :=
  ((((k.set 0 y0 (by simp)).set 1 y1 (by simp)).set 2 y2 (by simp)).set 3 y3 (by simp)).set 4 y4 (by simp)
theorem below_set5' {w a : World} {b B : Nat} (h : Below B a w) (hb : B ≤ b) (y0 y1 y2 y3 y4 : Value) : Below B a (((((w.setCell ⟨b, 0, none⟩ y0).setCell ⟨b, 1, none⟩ y1).setCell ⟨b, 2, none⟩ y2).setCell ⟨b, 3, none⟩ y3).setCell ⟨b, 4, none⟩ y4) :=
  ((((h.setCell (p := ⟨b, 0, none⟩) hb y0).setCell (p := ⟨b, 1, none⟩) hb y1).setCell (p := ⟨b, 2, none⟩) hb y2).setCell (p := ⟨b, 3, none⟩) hb y3).setCell (p := ⟨b, 4, none⟩) hb y4
end Go.Proofs.Ytbdomhookjmmgaa
namespace Go.Proofs.Ytbdomhookjmmgaa
open Go.RowKit Fr Su
set_option linter.unusedVariables false
/-- Cell at_ holds the place in the payload, block sb the superblock so far, its pairs a row of one's own; what else world a had is as it was. -/
structure PairsAt (a : World) (at_ sb : Nat) (G E I M : Int) (j : Nat) (w : World) (ps : List (Int × Int)) : Prop where
  cell : ∃ A c, Holds w sb [.int .i64 G, .int .i64 E, .int .i64 I, .int .i64 M, .slice A ps.length c] ∧ OwnC 2 w a.heap.size 93 A ps.length c (pv ps)
  pos : Holds w at_ [.int .i64 (j : Int)]
  ch : Ch2 at_ sb a w
  old : at_ < a.heap.size ∧ sb < a.heap.size ∧ at_ ≠ sb
theorem Rd.ch2 {w v : World} {b q n x y : Nat} {l : List Nat} (h : Rd w (some ⟨b, q, none⟩) n l) (hc : Ch2 x y w v) (h1 : b ≠ x) (h2 : b ≠ y) : Rd v (some ⟨b, q, none⟩) n l := by
  refine ⟨h.1, h.2.1, fun hn => ?_⟩
  obtain ⟨b', q', e, hb, hcell⟩ := h.2.2 hn
  injection e with e
  injection e with e1 e2
  subst e1 e2
  exact ⟨b, q, rfl, Nat.lt_of_lt_of_le hb hc.size, fun j z hj => (hc.cell (p := ⟨b, q + j, none⟩) hb h1 h2).trans (hcell j z hj)⟩
theorem OwnC.ch1 {s : Nat} {w v : World} {base n cap x : Nat} {E : TypeId} {A : Option Addr} {vs : List Value} (h : OwnC s w base E A n cap vs) (hc : Ch2 x x w v) (hx : x < base) : OwnC s v base E A n cap vs :=
  h.grown (row := some x) ⟨hc.os, hc.tape, hc.output, hc.size, fun k hk hne => hc.block k hk (fun e => hne (by rw [e])) (fun e => hne (by rw [e]))⟩ (.inr fun g e e2 => by injection e with e; have := (h.blk g e2).1; omega)
theorem Ch2.wide {x y : Nat} {w v : World} (h : Ch2 x x w v) : Ch2 x y w v := ⟨h.os, h.tape, h.output, h.size, fun k hk h1 _ => h.block k hk h1 h1⟩
theorem Ch2.swap {x y : Nat} {w v : World} (h : Ch2 x y w v) : Ch2 y x w v := ⟨h.os, h.tape, h.output, h.size, fun k hk h1 h2 => h.block k hk h2 h1⟩
theorem OwnC.set5 {s : Nat} {w : World} {base n cap b : Nat} {E : TypeId} {A : Option Addr} {vs : List Value} (h : OwnC s w base E A n cap vs) (hb : b < base) (y0 y1 y2 y3 y4 : Value) : OwnC s (((((w.setCell ⟨b, 0, none⟩ y0).setCell ⟨b, 1, none⟩ y1).setCell ⟨b, 2, none⟩ y2).setCell ⟨b, 3, none⟩ y3).setCell ⟨b, 4, none⟩ y4) base E A n cap vs :=
  h.ch1 (((((Ch2.set1 b b 0 w y0).trans (Ch2.set1 b b 1 _ y1)).trans (Ch2.set1 b b 2 _ y2)).trans (Ch2.set1 b b 3 _ y3)).trans (Ch2.set1 b b 4 _ y4)) hb
theorem PairsAt.drew {a w : World} {at_ sb : Nat} {G E I M : Int} {j : Nat} {ps : List (Int × Int)} (h : PairsAt a at_ sb G E I M j w ps) : PairsAt a at_ sb G E I M j w.drew ps := by
  obtain ⟨A, c, hX, hO⟩ := h.cell
  exact ⟨⟨A, c, hX, hO.drew⟩, h.pos, h.ch.drew, h.old⟩
/-- Behind what is stored in the superblock's cells. -/
theorem PairsAt.put {a w : World} {at_ sb : Nat} {G E I M I' M' : Int} {j : Nat} {ps : List (Int × Int)} (h : PairsAt a at_ sb G E I M j w ps) : PairsAt a at_ sb G E I' M' j ((w.setCell ⟨sb, 2, none⟩ (.int .i64 I')).setCell ⟨sb, 3, none⟩ (.int .i64 M')) ps := by
  obtain ⟨A, c, hX, hO⟩ := h.cell
  have h1 := (hX.set 2 (.int .i64 I') (by simp)).set 3 (.int .i64 M') (by simp)
  have hc := (Ch2.set1 sb sb 2 w (.int .i64 I')).trans (Ch2.set1 sb sb 3 _ (.int .i64 M'))
  exact ⟨⟨A, c, h1, hO.ch1 hc h.old.2.1⟩, h.pos.ch2 hc h.old.2.2 h.old.2.2, h.ch.trans (hc.wide.swap), h.old⟩
theorem take_pairs {a w : World} {at_ sb x n : Nat} {b q c : Nat} {G E I M : Int} {j : Nat} {ps : List (Int × Int)} {l : List Nat} (h : PairsAt a at_ sb G E I M j w ps) (hx : Holds a x [.slice (some ⟨b, q, none⟩) n c]) (hl : Rd a (some ⟨b, q, none⟩) n l) (hn : n ≤ 1000) (s : Nat) (hs : s ≤ 4) (hj : j + s ≤ n) (hne : x ≠ at_ ∧ x ≠ sb ∧ b ≠ at_ ∧ b ≠ sb) :
    Calls Try.prog 54 #[.int .i64 (s : Int), .pointer (some ⟨x, 0, none⟩), .pointer (some ⟨at_, 0, none⟩)] w fun e w' => e = .returned (.int .i64 (F l j s : Int)) ∧ PairsAt a at_ sb G E I M (j + s) w' ps ∧ Ch2 at_ at_ w w' := by
  have hxw := hx.ch2 h.ch hne.1 hne.2.1
  have hlw := hl.ch2 h.ch hne.2.2.1 hne.2.2.2
  refine (stake_num s j x at_ n (some ⟨b, q, none⟩) c l w (hxw.at_ 0 rfl) hxw.1 hlw h.pos hs hj hn hne.1 (fun g q' e => by injection e with e; injection e with e1 e2; rw [← e1]; exact hne.2.2.1)).mono ?_
  rintro e w' ⟨rfl, hp, hc⟩
  obtain ⟨A, c', hX, hO⟩ := h.cell
  exact ⟨rfl, ⟨⟨A, c', hX.ch2 hc (fun e => h.old.2.2 e.symm) (fun e => h.old.2.2 e.symm), hO.ch1 hc h.old.1⟩, hp, h.ch.trans hc.wide, h.old⟩, hc⟩
/-- One pair more, stored in the superblock. -/
theorem PairsAt.more {a w1 w3 : World} {at_ sb : Nat} {G E I M : Int} {j : Nat} {ps : List (Int × Int)} {A A3 : Option Addr} {c c3 : Nat} {X Y : Int} {t : TypeId} (hP : PairsAt a at_ sb G E I M j w1 ps) (hX : Holds w1 sb [.int .i64 G, .int .i64 E, .int .i64 I, .int .i64 M, .slice A ps.length c]) (hO : OwnC 2 w1 a.heap.size 93 A ps.length c (pv ps))
    (hg : GrewC 2 (w1.alloc (.cells #[.int .i64 X, .int .i64 Y] t)) w3 a.heap.size 93 A A3 ps.length c (ps.length + 1) c3 (pv ps ++ [.int .i64 X, .int .i64 Y])) :
    Holds w3 sb [.int .i64 G, .int .i64 E, .int .i64 I, .int .i64 M, .slice A ps.length c] ∧ PairsAt a at_ sb G E I M j (w3.setCell ⟨sb, 4, none⟩ (.slice A3 (ps.length + 1) c3)) (ps ++ [(X, Y)]) := by
  have hal : (a.heap.size : Nat) ≤ w1.heap.size := hP.ch.size
  have hX3 : Holds w3 sb [.int .i64 G, .int .i64 E, .int .i64 I, .int .i64 M, .slice A ps.length c] := (hX.alloc _).grown hg.grew (fun e => by have := (hO.blk sb e.symm).1; have := hP.old.2.1; omega)
  have hp3 : Holds w3 at_ [.int .i64 (j : Int)] := (hP.pos.alloc _).grown hg.grew (fun e => by have := (hO.blk at_ e.symm).1; have := hP.old.1; omega)
  have hpv : pv (ps ++ [(X, Y)]) = pv ps ++ [.int .i64 X, .int .i64 Y] := by unfold pv flat; rw [List.flatMap_append, List.map_append]; rfl
  have hlen : (ps ++ [(X, Y)]).length = ps.length + 1 := by simp
  have hch : Ch2 at_ sb a w3 := ⟨hg.grew.os.trans hP.ch.os, hg.grew.tape.trans hP.ch.tape, hg.grew.output.trans hP.ch.output, by have := hg.grew.size; simp at this; omega, fun k hk h1 h2 => by
    have e1 : w3.heap[k]? = (w1.alloc (.cells #[.int .i64 X, .int .i64 Y] t)).heap[k]? := hg.grew.block k (by simp; omega) (fun e => by have := (hO.blk k e.symm).1; omega)
    have e2 : (w1.alloc (.cells #[.int .i64 X, .int .i64 Y] t)).heap[k]? = w1.heap[k]? := Below.heap_alloc _ _ _ (by omega)
    exact e1.trans (e2.trans (hP.ch.block k hk h1 h2))⟩
  refine ⟨hX3, ⟨⟨A3, c3, ?_, ?_⟩, hp3.other hP.old.2.2, hch.trans (Ch2.set2 at_ sb 4 w3 _), hP.old⟩⟩
  · rw [hlen]; exact hX3.set 4 _ (by simp)
  · rw [hlen, hpv]; exact hg.own.ch1 (Ch2.set1 sb sb 4 w3 _) hP.old.2.1
theorem PairsAt.more_at {a w1 w3 : World} {at_ sb n : Nat} {G E I M : Int} {j : Nat} {ps : List (Int × Int)} {A A3 : Option Addr} {c c3 : Nat} {X Y : Int} {t : TypeId} (hP : PairsAt a at_ sb G E I M j w1 ps) (hX : Holds w1 sb [.int .i64 G, .int .i64 E, .int .i64 I, .int .i64 M, .slice A n c]) (hO : OwnC 2 w1 a.heap.size 93 A n c (pv ps)) (hn : ps.length = n)
    (hg : GrewC 2 (w1.alloc (.cells #[.int .i64 X, .int .i64 Y] t)) w3 a.heap.size 93 A A3 n c (n + 1) c3 (pv ps ++ [.int .i64 X, .int .i64 Y])) :
    Holds w3 sb [.int .i64 G, .int .i64 E, .int .i64 I, .int .i64 M, .slice A n c] ∧ PairsAt a at_ sb G E I M j (w3.setCell ⟨sb, 4, none⟩ (.slice A3 (n + 1) c3)) (ps ++ [(X, Y)]) := by
  subst hn
  exact hP.more hX hO hg
section
variable {a w : World} {at_ sb x n : Nat} {b q c : Nat} {G E I M : Int} {j : Nat} {ps : List (Int × Int)} {l : List Nat}
theorem take_4 (h : PairsAt a at_ sb G E I M j w ps) (hx : Holds a x [.slice (some ⟨b, q, none⟩) n c]) (hl : Rd a (some ⟨b, q, none⟩) n l) (hn : n ≤ 1000) (hj : j + 4 ≤ n) (hne : x ≠ at_ ∧ x ≠ sb ∧ b ≠ at_ ∧ b ≠ sb) :
    Calls Try.prog 54 #[.int .i64 4, .pointer (some ⟨x, 0, none⟩), .pointer (some ⟨at_, 0, none⟩)] w fun e w' => e = .returned (.int .i64 (F l j 4 : Int)) ∧ PairsAt a at_ sb G E I M (j + 4) w' ps ∧ Ch2 at_ at_ w w' := take_pairs h hx hl hn 4 (by omega) hj hne
theorem take_2 (h : PairsAt a at_ sb G E I M j w ps) (hx : Holds a x [.slice (some ⟨b, q, none⟩) n c]) (hl : Rd a (some ⟨b, q, none⟩) n l) (hn : n ≤ 1000) (hj : j + 2 ≤ n) (hne : x ≠ at_ ∧ x ≠ sb ∧ b ≠ at_ ∧ b ≠ sb) :
    Calls Try.prog 54 #[.int .i64 2, .pointer (some ⟨x, 0, none⟩), .pointer (some ⟨at_, 0, none⟩)] w fun e w' => e = .returned (.int .i64 (F l j 2 : Int)) ∧ PairsAt a at_ sb G E I M (j + 2) w' ps ∧ Ch2 at_ at_ w w' := take_pairs h hx hl hn 2 (by omega) hj hne
theorem take_1 (h : PairsAt a at_ sb G E I M j w ps) (hx : Holds a x [.slice (some ⟨b, q, none⟩) n c]) (hl : Rd a (some ⟨b, q, none⟩) n l) (hn : n ≤ 1000) (hj : j + 1 ≤ n) (hne : x ≠ at_ ∧ x ≠ sb ∧ b ≠ at_ ∧ b ≠ sb) :
    Calls Try.prog 54 #[.int .i64 1, .pointer (some ⟨x, 0, none⟩), .pointer (some ⟨at_, 0, none⟩)] w fun e w' => e = .returned (.int .i64 (F l j 1 : Int)) ∧ PairsAt a at_ sb G E I M (j + 1) w' ps ∧ Ch2 at_ at_ w w' := take_pairs h hx hl hn 1 (by omega) hj hne
end
end Go.Proofs.Ytbdomhookjmmgaa
