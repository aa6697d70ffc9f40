/- What rights' take makes of bytes: so many numbers, none too great, and nothing behind them. -/
import Derived.Test.YtionaciiaahacaaAccBytes
namespace Go.Proofs.Ytionaciiaahacaa
open Go.RowKit
set_option linter.unusedVariables false
namespace Ac
/-- So many numbers at the beginning, none too great, and what stands behind. -/
def takeN : Nat → List Nat → Option (List Nat × List Nat)
  | 0, l => some ([], l)
  | k + 1, l =>
    match Cd.takeNum l with
    | none => none
    | some (x, r) => if 1125899906842624 < x then none else match takeN k r with
      | none => none
      | some (xs, r') => some (x :: xs, r')
/-- Just so many numbers. -/
def just (k : Nat) (l : List Nat) : Option (List Nat) :=
  match takeN k l with
  | some (xs, []) => some xs
  | _ => none
theorem takeN_none {k : Nat} {l : List Nat} (h : Cd.takeNum l = none) : takeN (k + 1) l = none := by
  unfold takeN; rw [h]
theorem takeN_great {k : Nat} {l r : List Nat} {x : Nat} (h : Cd.takeNum l = some (x, r)) (hx : 1125899906842624 < x) : takeN (k + 1) l = none := by
  unfold takeN; rw [h]; show (if _ then _ else _) = _; rw [if_pos hx]
theorem takeN_some {k : Nat} {l r : List Nat} {x : Nat} (h : Cd.takeNum l = some (x, r)) (hx : ¬ 1125899906842624 < x) : takeN (k + 1) l = (takeN k r).map fun p => (x :: p.1, p.2) := by
  conv => lhs; unfold takeN
  rw [h]; show (if _ then _ else _) = _; rw [if_neg hx]
  cases takeN k r <;> rfl
/-- What is known behind some rounds. -/
def Sofar (k i : Nat) (l cur pre : List Nat) : Prop := pre.length = i ∧ takeN k l = (takeN (k - i) cur).map fun p => (pre ++ p.1, p.2)
theorem Sofar.start (k : Nat) (l : List Nat) : Sofar k 0 l l [] := ⟨rfl, by rw [Nat.sub_zero]; cases takeN k l <;> rfl⟩
theorem Sofar.none_ {k i : Nat} {l cur pre : List Nat} (h : Sofar k i l cur pre) (hi : i < k) (hn : Cd.takeNum cur = none) : takeN k l = none := by
  rw [h.2, show k - i = (k - i - 1) + 1 by omega, takeN_none hn]; rfl
theorem Sofar.great {k i : Nat} {l cur pre r : List Nat} {x : Nat} (h : Sofar k i l cur pre) (hi : i < k) (hn : Cd.takeNum cur = some (x, r)) (hx : 1125899906842624 < x) : takeN k l = none := by
  rw [h.2, show k - i = (k - i - 1) + 1 by omega, takeN_great hn hx]; rfl
theorem Sofar.next {k i : Nat} {l cur pre r : List Nat} {x : Nat} (h : Sofar k i l cur pre) (hi : i < k) (hn : Cd.takeNum cur = some (x, r)) (hx : ¬ 1125899906842624 < x) : Sofar k (i + 1) l r (pre ++ [x]) := by
  refine ⟨by rw [List.length_append, h.1]; rfl, ?_⟩
  rw [h.2, show k - i = (k - (i + 1)) + 1 by omega, takeN_some hn hx]
  cases takeN (k - (i + 1)) r with
  | none => rfl
  | some p => simp
theorem Sofar.end_ {k : Nat} {l cur pre : List Nat} (h : Sofar k k l cur pre) : takeN k l = some (pre, cur) := by
  rw [h.2, Nat.sub_self]
  show some (pre ++ [], cur) = _
  rw [List.append_nil]
end Ac
/-- TakeNum's rest is memory of its own. -/
def GivesTakeO (w : World) (o : Option (Nat × List Nat)) (e : Ending) (w' : World) : Prop :=
  match o with
  | none => e = .returned (.tuple #[.int .u64 0, .slice none 0 0, .bool false]) ∧ Below w.heap.size w w'
  | some (v, r) => ∃ A cap, e = .returned (.tuple #[.int .u64 (v : Int), .slice A r.length cap, .bool true]) ∧ Own w' w.heap.size A r.length cap r ∧ Below w.heap.size w w'
set_option maxRecDepth 100000 in
theorem takenum_own (A : Option Addr) (n cap : Nat) (l : List Nat) (w : World) (hl : Rd w A n l) (hc : n ≤ cap) (hn : n ≤ 1000000) :
    Calls Try.prog 58 #[.slice A n cap] w (GivesTakeO w (Cd.takeNum l)) := by
  have hnum := number_any A n cap l w hl hc hn
  rcases htk : Cd.takeNum l with _ | ⟨v, r⟩
  · rw [htk] at hnum
    have Hnum := Lib.hid hnum
    clear hnum
    go_enter Try.func58, Try.ntmps58
    go_wp2_with (first | (go_at_call 60; refine Hnum.out.mono ?_; rintro e w1 ⟨rfl, rfl⟩))
    go_ret3
    exact ⟨rfl, Below.refl _ _⟩
  · rw [htk] at hnum
    have Hnum := Lib.hid hnum
    have hlen := hl.1
    have Hlen := Lib.hid hlen
    clear hnum htk hlen
    go_enter Try.func58, Try.ntmps58
    go_wp2_with (first | (go_at_call 60; refine Hnum.out.mono ?_; rintro e w1 ⟨rfl, k, rfl, hk1, hk2, hr, hv⟩; rw [Hlen.out] at hk2; have hk0 : ((k : Int) == 0) = false := (by rw [beq_eq_false_iff_ne]; omega); have Hr := Lib.hid hr; clear hr) | (go_at_call 61; refine (own_drop A n cap k l _ hl hk2 hc hn).mono ?_; rintro e w2 ⟨A2, c2, rfl, ho2, hb2⟩))
    all_goals
      go_ret3
      rw [Hr.out]
      refine ⟨A2, c2, ?_, ho2, hb2⟩
      rw [List.length_drop]
      rfl
theorem grown_then {a b c : World} {row : Option Nat} (h : a.grownBy b row) (hb : Below b.heap.size b c) : a.grownBy c row :=
  ⟨hb.os.trans h.os, hb.tape.trans h.tape, hb.output.trans h.output, Nat.le_trans h.size hb.size, fun k hk hne => (hb.block k (Nat.lt_of_lt_of_le hk h.size)).trans (h.block k hk hne)⟩
/-- How take ends. -/
def GivesTaken (w : World) (bA k : Nat) (o : Option (List Nat)) (e : Ending) (w' : World) : Prop :=
  ∃ xs : List Value, e = .returned (.bool (takeOk o)) ∧ Holds w' bA xs ∧ xs.length = k ∧ (∀ ys, o = some ys → xs = ys.map fun (x : Nat) => Value.int .i64 (x : Int)) ∧ w.grownBy w' (some bA)
theorem rd_apart {w : World} {A : Option Addr} {n bA i : Nat} {l : List Nat} {v : Value} (h : Rd w A n l) (hap : 0 < n → ∀ b o, A = some ⟨b, o, none⟩ → b ≠ bA) : Rd (w.setCell ⟨bA, i, none⟩ v) A n l := by
  refine ⟨h.1, h.2.1, fun hn => ?_⟩
  obtain ⟨b, o, rfl, hb, hc⟩ := h.2.2 hn
  have hne := hap hn b o rfl
  exact ⟨b, o, rfl, by simpa [World.setCell] using hb, fun j x hx => by rw [World.cell?_setCell_other w _ _ _ (fun e => hne (by injection e with e1 _; exact e1.symm))]; exact hc j x hx⟩
theorem grown_set {w w' : World} {b i : Nat} {v : Value} (h : w.grownBy w' (some b)) : w.grownBy (w'.setCell ⟨b, i, none⟩ v) (some b) :=
  ⟨h.os, h.tape, h.output, by simpa [World.setCell] using h.size, fun k hk hne => by
    have := h.block k hk hne
    rw [← this]
    exact Below.heap_setCell _ _ _ _ (fun e => hne (by rw [e]))⟩
set_option maxRecDepth 100000 in
set_option maxHeartbeats 1000000 in
theorem take_any (A : Option Addr) (n cap bP bA k : Nat) (lb : List Nat) (old : List Value) (w : World) (hl : Rd w A n lb) (hc : n ≤ cap) (hn : n ≤ 1000) (hP : ∀ j, j < k → w.cell? ⟨bP, j, none⟩ = some (.pointer (some ⟨bA, j, none⟩))) (hPA : bP ≠ bA) (hPb : bP < w.heap.size) (hA : Holds w bA old) (hold : old.length = k) (hk : k ≤ 10)
    (hap : 0 < n → ∀ b o, A = some ⟨b, o, none⟩ → b ≠ bA) :
    Calls Try.prog 53 #[.slice A n cap, .slice (some ⟨bP, 0, none⟩) k k] w (GivesTaken w bA k (Ac.just k lb)) := by
  have HP := Lib.hid hP
  have Hold := Lib.hid hold
  clear hP hold
  go_enter Try.func53, Try.ntmps53
  go_wp2
  go_loopw [0, 12] (fun sb i wr => ∃ (j m c : Nat) (B : Option Addr) (cur pre : List Nat) (xs : List Value), j ≤ k ∧ i = .int .i64 (j : Int) ∧ sb = .slice B m c ∧ m ≤ 1000 ∧ m ≤ c ∧ Rd wr B m cur ∧ Hid (0 < m → ∀ b o, B = some ⟨b, o, none⟩ → b ≠ bA) ∧ Holds wr bA xs ∧ w.grownBy wr (some bA) ∧ Hid (Ac.Sofar k j lb cur pre) ∧ Hid (xs.length = k ∧ xs.take j = pre.map fun (x : Nat) => Value.int .i64 (x : Int))) (fun _ i _ => k - (intOf i).toNat)
  case atStart => exact ⟨0, n, cap, A, lb, [], old, by omega, rfl, rfl, by omega, hc, hl, Lib.hid hap, hA, World.grownBy.refl w _, Lib.hid (Ac.Sofar.start k lb), Lib.hid ⟨Hold.out, rfl⟩⟩
  case round =>
    obtain ⟨j, m, c, B, cur, pre, xs, hj, rfl, rfl, hm, hmc, hr, hap', hX, hg, hS, hxs⟩ := hrel
    by_cases hjk : j < k
    · have hjk' : (j : Int) < (k : Int) := by omega
      have hcp : wr.cell? ⟨bP, 0 + j, none⟩ = some (.pointer (some ⟨bA, j, none⟩)) := by
        rw [Nat.zero_add]
        exact hg.cell (HP.out j hjk) (fun e => hPA (by injection e))
      rw [Nat.zero_add] at hcp
      have ht := takenum_own B m c cur wr hr hmc (by omega)
      rcases htk : Cd.takeNum cur with _ | ⟨x, r⟩
      · rw [htk] at ht
        have hnone : Ac.just k lb = none := by unfold Ac.just; rw [hS.out.none_ hjk htk]
        have Hnone := Lib.hid hnone
        clear hnone htk
        go_wp2_with fail
        refine ht.mono ?_
        rintro e v2 ⟨rfl, hb2⟩
        go_wp2_with fail
        go_ret
        rw [Hnone.out]
        exact ⟨xs, rfl, hX.below hb2, hxs.out.1, (fun ys h => by cases h), grown_then hg hb2⟩
      · rw [htk] at ht
        have hrb := (takeNum_bound htk).2.1
        rw [hr.1] at hrb
        by_cases hgreat : 1125899906842624 < x
        · have hnone : Ac.just k lb = none := by unfold Ac.just; rw [hS.out.great hjk htk hgreat]
          have Hnone := Lib.hid hnone
          have hg' : (1125899906842624 : Int) < (x : Int) := by omega
          clear hnone htk
          go_wp2_with fail
          refine ht.mono ?_
          rintro e v2 ⟨A2, c2, rfl, ho2, hb2⟩
          go_wp2_with fail
          go_ret
          rw [Hnone.out]
          exact ⟨xs, rfl, hX.below hb2, hxs.out.1, (fun ys h => by cases h), grown_then hg hb2⟩
        · have hnext := hS.out.next hjk htk hgreat
          have Hnext := Lib.hid hnext
          have hg' : ¬ (1125899906842624 : Int) < (x : Int) := by omega
          have hg2 : (x : Int) ≤ 1125899906842624 := by omega
          have hw : IntKind.i64.wrap (x : Int) = (x : Int) := by rw [IntKind.wrap_i64]; omega
          have hxj : xs[j]? = some (xs[j]'(by rw [hxs.out.1]; exact hjk)) := List.getElem?_eq_getElem _
          have hbAlt := hX.1
          clear htk hnext
          go_wp2_with fail
          refine ht.mono ?_
          rintro e v2 ⟨A2, c2, rfl, ho2, hb2⟩
          have hX2 := hX.below hb2
          have hcell := hX2.at_ j hxj
          have hfree := hX2.2.2 j
          have hg3 : w.grownBy v2 (some bA) := grown_then hg hb2
          have hap2 : 0 < r.length → ∀ b o, A2 = some ⟨b, o, none⟩ → b ≠ bA := by
            intro h0 b o hA2
            obtain ⟨g, hgA, hgb, _⟩ := ho2.form h0
            rw [hA2] at hgA
            injection hgA with e1
            injection e1 with e1 _
            omega
          have Hap2 := Lib.hid hap2
          have hrd2 := rd_apart (i := j) (v := .int .i64 (x : Int)) ho2.rd hap2
          have hset := hX2.set j (.int .i64 (x : Int)) (by rw [hxs.out.1]; exact hjk)
          have hc2 := ho2.cap
          clear hxj hX2 ho2 ht hap2
          go_wp2_with fail
          go_roundw
          case rel =>
            refine ⟨j + 1, r.length, c2, A2, r, pre ++ [x], xs.set j (.int .i64 (x : Int)), by omega, by go_num, rfl, by omega, hc2, hrd2, Hap2, hset, grown_set hg3, Hnext, Lib.hid ⟨by rw [List.length_set]; exact hxs.out.1, ?_⟩⟩
            have hlen : j < xs.length := by rw [hxs.out.1]; exact hjk
            rw [List.take_add_one, List.take_set_of_le (Nat.le_refl _), hxs.out.2, List.getElem?_set_self hlen, List.map_append]
            rfl
          case measure => simp [intOf]; omega
    · have hjk2 : j = k := by omega
      subst hjk2
      have hend := hS.out.end_
      have hxsk : xs = pre.map fun (x : Nat) => Value.int .i64 (x : Int) := by
        have := hxs.out.2
        rwa [List.take_of_length_le (Nat.le_of_eq hxs.out.1)] at this
      have hjj : ¬ (j : Int) < (j : Int) := by omega
      by_cases hm0 : m = 0
      · have hcur : cur = [] := List.eq_nil_of_length_eq_zero (by rw [hr.1]; exact hm0)
        have hjust : Ac.just j lb = some pre := by unfold Ac.just; rw [hend, hcur]
        have hb0 : ((m : Int) == 0) = true := by rw [beq_iff_eq]; omega
        have Hj := Lib.hid hjust
        have Hx := Lib.hid hxsk
        clear hm0 hcur hjust hend hxsk
        go_wp2_with fail
        go_ret
        rw [Hj.out]
        exact ⟨xs, rfl, hX, hxs.out.1, (fun ys h => by injection h with h; rw [← h]; exact Hx.out), hg⟩
      · have hjust : Ac.just j lb = none := by
          unfold Ac.just
          rw [hend]
          cases hcur : cur with
          | nil => exact absurd (by rw [← hr.1, hcur]; rfl) hm0
          | cons y t => rfl
        have hb0 : ((m : Int) == 0) = false := by rw [beq_eq_false_iff_ne]; omega
        have Hj := Lib.hid hjust
        clear hm0 hjust hend hxsk
        go_wp2_with fail
        go_ret
        rw [Hj.out]
        exact ⟨xs, rfl, hX, hxs.out.1, (fun ys h => by cases h), hg⟩
end Go.Proofs.Ytionaciiaahacaa
