/- What outbox's ReadNum, ReadInbox, ReadIntent and the document's return. -/
import Derived.Test.YtaoiokilnmpniaaBoxBytes
namespace Go.Proofs.Ytaoiokilnmpniaa
open Go.RowKit
set_option linter.unusedVariables false
namespace Ob
def readN (l : List Nat) : Int × Int :=
  match Cd.takeNum l with
  | none => (0, 215)
  | some (v, r) => if r = [] ∧ v ≤ 1099511627776 then ((v : Int), 0) else (0, 215)
def readB (l : List Nat) : Int × Nat × Int :=
  match Cd.takeNum l with
  | none => (0, 0, 215)
  | some (v, r) =>
    match Cd.takeNum r with
    | none => (0, 0, 215)
    | some (x, q) => if q = [] ∧ v ≤ 1099511627776 ∧ x % 2 = 0 then ((v : Int), x, 0) else (0, 0, 215)
def readI (l : List Nat) : ByteArray × Int × Int :=
  match Cd.takeText l 16 with
  | none => (⟨#[]⟩, 0, 215)
  | some (t, r) =>
    match Cd.takeNum r with
    | none => (⟨#[]⟩, 0, 215)
    | some (x, q) => if q = [] ∧ isI (str t) (x : Int) = true then (str t, (x : Int), 0) else (⟨#[]⟩, 0, 215)
theorem takeNum_nil : Cd.takeNum [] = none := by rfl
end Ob
def GivesIntent (w : World) (r : ByteArray × Int × Int) (e : Ending) (w' : World) : Prop := e = .returned (.tuple #[intentV r.1 r.2.1, .int .i64 r.2.2]) ∧ Below w.heap.size w w'
def GivesNum2 (w : World) (r : Int × Int) (e : Ending) (w' : World) : Prop := e = .returned (.tuple #[.int .i64 r.1, .int .i64 r.2]) ∧ Below w.heap.size w w'
theorem taken_pos {r : List Nat} (h : ¬ r = []) : 0 < r.length := by cases r with | nil => exact absurd rfl h | cons a b => simp
theorem takeText_bound {l t r : List Nat} (h : Cd.takeText l 16 = some (t, r)) : t.length ≤ 16 ∧ r.length ≤ l.length := by
  unfold Cd.takeText at h
  rcases hn : Cd.takeNum l with _ | ⟨v, q⟩
  · rw [hn] at h; cases h
  · rw [hn] at h
    replace h : (if (16 : Int) < 0 ∨ (16 : Int) < (v : Int) ∨ q.length < v then none else some (q.take v, q.drop v)) = some (t, r) := h
    have hb := (takeNum_bound hn).2.1
    split at h
    · cases h
    · rename_i h1
      injection h with h
      injection h with h2 h3
      subst h2 h3
      refine ⟨?_, ?_⟩
      · rw [List.length_take]; omega
      · rw [List.length_drop]; omega
theorem str_len (t : List Nat) : (str t).size = t.length := by
  unfold str
  show (List.toArray _).size = _
  simp
set_option maxRecDepth 100000 in
set_option maxHeartbeats 1000000 in
theorem readnum_any (A : Option Addr) (n cap : Nat) (l : List Nat) (w : World) (hl : Rd w A n l) (hc : n ≤ cap) (hn : n ≤ 1000000) :
    Calls Try.prog 46 #[.slice A n cap] w (GivesNum2 w (Ob.readN l)) := by
  have ht := takenum_any A n cap l w hl hc hn
  unfold Ob.readN
  rcases htk : Cd.takeNum l with _ | ⟨v, r⟩
  · rw [htk] at ht
    have Ht := Lib.hid ht
    clear ht htk
    go_enter Try.func46, Try.ntmps46
    go_wp2_with fail
    refine Ht.out.mono ?_
    rintro e v1 ⟨rfl, hb1⟩
    go_wp2_with fail
    go_ret2
    exact ⟨rfl, hb1⟩
  · rw [htk] at ht
    have hv := (takeNum_bound htk).1
    have hrl : r.length ≤ 1000000 := by have := (takeNum_bound htk).2.1; rw [hl.1] at this; omega
    have Ht := Lib.hid ht
    clear ht htk
    show Calls _ _ _ _ (GivesNum2 w (if r = [] ∧ v ≤ 1099511627776 then ((v : Int), 0) else (0, 215)))
    by_cases hr : r = []
    · subst hr
      by_cases hm : v ≤ 1099511627776
      · have hm' : ¬ (1099511627776 : Int) < (v : Int) := by omega
        have hw : IntKind.i64.wrap (v : Int) = (v : Int) := by rw [IntKind.wrap_i64]; omega
        rw [if_pos ⟨rfl, hm⟩]
        go_enter Try.func46, Try.ntmps46
        go_wp2_with fail
        refine Ht.out.mono ?_
        rintro e v1 ⟨A1, c1, rfl, hr1, hc1, hb1⟩
        go_wp2_with fail
        go_ret2
        exact ⟨rfl, hb1⟩
      · have hm' : (1099511627776 : Int) < (v : Int) := by omega
        rw [if_neg (fun h => hm h.2)]
        go_enter Try.func46, Try.ntmps46
        go_wp2_with fail
        refine Ht.out.mono ?_
        rintro e v1 ⟨A1, c1, rfl, hr1, hc1, hb1⟩
        go_wp2_with fail
        go_ret2
        exact ⟨rfl, hb1⟩
    · have hp := taken_pos hr
      rw [if_neg (fun h => hr h.1)]
      go_enter Try.func46, Try.ntmps46
      go_wp2_with fail
      refine Ht.out.mono ?_
      rintro e v1 ⟨A1, c1, rfl, hr1, hc1, hb1⟩
      go_wp2_with fail
      go_ret2
      exact ⟨rfl, hb1⟩
set_option maxRecDepth 100000 in
set_option maxHeartbeats 1000000 in
theorem rreadnum_any (A : Option Addr) (n cap : Nat) (l : List Nat) (w : World) (hl : Rd w A n l) (hc : n ≤ cap) (hn : n ≤ 1000000) :
    Calls Try.prog 47 #[.slice A n cap] w (GivesNum2 w (Ob.readN l)) := by
  have ht := rtakenum_any A n cap l w hl hc hn
  unfold Ob.readN
  rcases htk : Cd.takeNum l with _ | ⟨v, r⟩
  · rw [htk] at ht
    have Ht := Lib.hid ht
    clear ht htk
    go_enter Try.func47, Try.ntmps47
    go_wp2_with fail
    refine Ht.out.mono ?_
    rintro e v1 ⟨rfl, hb1⟩
    go_wp2_with fail
    go_ret2
    exact ⟨rfl, hb1⟩
  · rw [htk] at ht
    have hv := (takeNum_bound htk).1
    have hrl : r.length ≤ 1000000 := by have := (takeNum_bound htk).2.1; rw [hl.1] at this; omega
    have Ht := Lib.hid ht
    clear ht htk
    show Calls _ _ _ _ (GivesNum2 w (if r = [] ∧ v ≤ 1099511627776 then ((v : Int), 0) else (0, 215)))
    by_cases hr : r = []
    · subst hr
      by_cases hm : v ≤ 1099511627776
      · have hm' : ¬ (1099511627776 : Int) < (v : Int) := by omega
        have hw : IntKind.i64.wrap (v : Int) = (v : Int) := by rw [IntKind.wrap_i64]; omega
        rw [if_pos ⟨rfl, hm⟩]
        go_enter Try.func47, Try.ntmps47
        go_wp2_with fail
        refine Ht.out.mono ?_
        rintro e v1 ⟨A1, c1, rfl, hr1, hc1, hb1⟩
        go_wp2_with fail
        go_ret2
        exact ⟨rfl, hb1⟩
      · have hm' : (1099511627776 : Int) < (v : Int) := by omega
        rw [if_neg (fun h => hm h.2)]
        go_enter Try.func47, Try.ntmps47
        go_wp2_with fail
        refine Ht.out.mono ?_
        rintro e v1 ⟨A1, c1, rfl, hr1, hc1, hb1⟩
        go_wp2_with fail
        go_ret2
        exact ⟨rfl, hb1⟩
    · have hp := taken_pos hr
      rw [if_neg (fun h => hr h.1)]
      go_enter Try.func47, Try.ntmps47
      go_wp2_with fail
      refine Ht.out.mono ?_
      rintro e v1 ⟨A1, c1, rfl, hr1, hc1, hb1⟩
      go_wp2_with fail
      go_ret2
      exact ⟨rfl, hb1⟩
set_option maxRecDepth 100000 in
set_option maxHeartbeats 1000000 in
theorem readbox_any (A : Option Addr) (n cap : Nat) (l : List Nat) (w : World) (hl : Rd w A n l) (hc : n ≤ cap) (hn : n ≤ 1000000) :
    Calls Try.prog 48 #[.slice A n cap] w (GivesBox w (Ob.readB l)) := by
  have hb0 : Below w.heap.size w (w.alloc (.cells #[.int .i64 0, .int .u64 0] 24)) := (Below.refl _ _).alloc (Nat.le_refl _) _
  have ht := fun (W : World) (hb : Below w.heap.size w W) => takenum_any A n cap l W (hl.below hb) hc hn
  have k0 := Holds.new w #[.int .i64 0, .int .u64 0] 24
  unfold Ob.readB
  rcases htk : Cd.takeNum l with _ | ⟨v, r⟩
  · rw [htk] at ht
    have Ht := Lib.hid ht
    have hu := fun W : World => takenum_any none 0 0 [] W (Rd.nil _ _) (by omega) (by omega)
    rw [Ob.takeNum_nil] at hu
    have Hu := Lib.hid hu
    clear ht htk hu
    go_enter Try.func48, Try.ntmps48
    go_wp2_with fail
    refine (Ht.out _ hb0).mono ?_
    rintro e v1 ⟨rfl, hb1⟩
    have k1 := k0.below hb1
    have hx1 := below_next hb0 hb1
    go_wp2_with fail
    refine (Hu.out _).mono ?_
    rintro e v2 ⟨rfl, hb2⟩
    have k2 := k1.below hb2
    have hx2 := below_next hx1 hb2
    have c0 := k2.at_ 0 rfl
    have c1 := k2.at_ 1 rfl
    have z0 := k2.2.2 0
    have z1 := k2.2.2 1
    have hsz := k2.1
    have kr := Holds.set2 k2 (.int .i64 0) (.int .u64 0)
    have r0 := kr.at_ 0 rfl
    have r1 := kr.at_ 1 rfl
    clear kr
    go_wp2_with fail
    exact bodyPost_ret (v := .tuple #[.agg #[.int .i64 0, .int .u64 0], .int .i64 215]) (by simp [results, Try.results48, go_sem, r0, r1]) rfl ⟨rfl, (by repeat (first | exact hx2 | refine Below.setCell ?_ (by simp <;> omega) _ | refine Below.alloc ?_ (by simp <;> omega) _))⟩
  · rw [htk] at ht
    have hrl : r.length ≤ 1000000 := by have := (takeNum_bound htk).2.1; rw [hl.1] at this; omega
    have hvb := (takeNum_bound htk).1
    have Ht := Lib.hid ht
    clear ht htk
    have hu := fun (W : World) (B : Option Addr) (c : Nat) (h1 : Rd W B r.length r) (h2 : r.length ≤ c) => takenum_any B r.length c r W h1 h2 hrl
    dsimp only
    rcases htk2 : Cd.takeNum r with _ | ⟨x, q⟩
    · rw [htk2] at hu
      have Hu := Lib.hid hu
      clear hu htk2
      show Calls _ _ _ _ (GivesBox w (0, 0, 215))
      go_enter Try.func48, Try.ntmps48
      go_wp2_with fail
      refine (Ht.out _ hb0).mono ?_
      rintro e v1 ⟨A1, c1, rfl, hr1, hc1, hb1⟩
      have k1 := k0.below hb1
      have hx1 := below_next hb0 hb1
      go_wp2_with fail
      refine (Hu.out _ _ _ hr1 hc1).mono ?_
      rintro e v2 ⟨rfl, hb2⟩
      have k2 := k1.below hb2
      have hx2 := below_next hx1 hb2
      have c0 := k2.at_ 0 rfl
      have c1 := k2.at_ 1 rfl
      have z0 := k2.2.2 0
      have z1 := k2.2.2 1
      have hsz := k2.1
      have kr := Holds.set2 k2 (.int .i64 0) (.int .u64 0)
      have r0 := kr.at_ 0 rfl
      have r1 := kr.at_ 1 rfl
      clear kr
      go_wp2_with fail
      exact bodyPost_ret (v := .tuple #[.agg #[.int .i64 0, .int .u64 0], .int .i64 215]) (by simp [results, Try.results48, go_sem, r0, r1]) rfl ⟨rfl, (by repeat (first | exact hx2 | refine Below.setCell ?_ (by simp <;> omega) _ | refine Below.alloc ?_ (by simp <;> omega) _))⟩
    · rw [htk2] at hu
      have hql : q.length ≤ 1000000 := by have := (takeNum_bound htk2).2.1; omega
      have hxb := (takeNum_bound htk2).1
      have Hu := Lib.hid hu
      clear hu htk2
      show Calls _ _ _ _ (GivesBox w (if q = [] ∧ v ≤ 1099511627776 ∧ x % 2 = 0 then ((v : Int), x, 0) else (0, 0, 215)))
      by_cases hq : q = []
      · subst hq
        by_cases hm : v ≤ 1099511627776
        · have hm' : ¬ (1099511627776 : Int) < (v : Int) := by omega
          have hw : IntKind.i64.wrap (v : Int) = (v : Int) := by rw [IntKind.wrap_i64]; omega
          by_cases h2 : x % 2 = 0
          · rw [if_pos ⟨rfl, hm, h2⟩]
            have ho : (bits .and .u64 (x : Int) 1 == 1) = false := by rw [odd_and x hxb]; exact decide_eq_false (by omega)
            clear h2 hm
            go_enter Try.func48, Try.ntmps48
            go_wp2_with fail
            refine (Ht.out _ hb0).mono ?_
            rintro e v1 ⟨A1, c1, rfl, hr1, hc1, hb1⟩
            have k1 := k0.below hb1
            have hx1 := below_next hb0 hb1
            go_wp2_with fail
            refine (Hu.out _ _ _ hr1 hc1).mono ?_
            rintro e v2 ⟨A2, c2, rfl, hr2, hc2, hb2⟩
            have k2 := k1.below hb2
            have hx2 := below_next hx1 hb2
            have c0 := k2.at_ 0 rfl
            have c1 := k2.at_ 1 rfl
            have z0 := k2.2.2 0
            have z1 := k2.2.2 1
            have hsz := k2.1
            have kr := Holds.set2 k2 (.int .i64 (v : Int)) (.int .u64 (x : Int))
            have r0 := kr.at_ 0 rfl
            have r1 := kr.at_ 1 rfl
            clear kr
            go_wp2_with fail
            exact bodyPost_ret (v := .tuple #[.agg #[.int .i64 (v : Int), .int .u64 (x : Int)], .int .i64 0]) (by simp [results, Try.results48, go_sem, r0, r1]) rfl ⟨rfl, (by repeat (first | exact hx2 | refine Below.setCell ?_ (by simp <;> omega) _ | refine Below.alloc ?_ (by simp <;> omega) _))⟩
          · rw [if_neg (fun h => h2 h.2.2)]
            have ho : (bits .and .u64 (x : Int) 1 == 1) = true := by rw [odd_and x hxb]; exact decide_eq_true (by omega)
            clear h2 hm
            go_enter Try.func48, Try.ntmps48
            go_wp2_with fail
            refine (Ht.out _ hb0).mono ?_
            rintro e v1 ⟨A1, c1, rfl, hr1, hc1, hb1⟩
            have k1 := k0.below hb1
            have hx1 := below_next hb0 hb1
            go_wp2_with fail
            refine (Hu.out _ _ _ hr1 hc1).mono ?_
            rintro e v2 ⟨A2, c2, rfl, hr2, hc2, hb2⟩
            have k2 := k1.below hb2
            have hx2 := below_next hx1 hb2
            have c0 := k2.at_ 0 rfl
            have c1 := k2.at_ 1 rfl
            have z0 := k2.2.2 0
            have z1 := k2.2.2 1
            have hsz := k2.1
            have kr := Holds.set2 k2 (.int .i64 0) (.int .u64 0)
            have r0 := kr.at_ 0 rfl
            have r1 := kr.at_ 1 rfl
            clear kr
            go_wp2_with fail
            exact bodyPost_ret (v := .tuple #[.agg #[.int .i64 0, .int .u64 0], .int .i64 215]) (by simp [results, Try.results48, go_sem, r0, r1]) rfl ⟨rfl, (by repeat (first | exact hx2 | refine Below.setCell ?_ (by simp <;> omega) _ | refine Below.alloc ?_ (by simp <;> omega) _))⟩
        · have hm' : (1099511627776 : Int) < (v : Int) := by omega
          rw [if_neg (fun h => hm h.2.1)]
          clear hm
          go_enter Try.func48, Try.ntmps48
          go_wp2_with fail
          refine (Ht.out _ hb0).mono ?_
          rintro e v1 ⟨A1, c1, rfl, hr1, hc1, hb1⟩
          have k1 := k0.below hb1
          have hx1 := below_next hb0 hb1
          go_wp2_with fail
          refine (Hu.out _ _ _ hr1 hc1).mono ?_
          rintro e v2 ⟨A2, c2, rfl, hr2, hc2, hb2⟩
          have k2 := k1.below hb2
          have hx2 := below_next hx1 hb2
          have c0 := k2.at_ 0 rfl
          have c1 := k2.at_ 1 rfl
          have z0 := k2.2.2 0
          have z1 := k2.2.2 1
          have hsz := k2.1
          have kr := Holds.set2 k2 (.int .i64 0) (.int .u64 0)
          have r0 := kr.at_ 0 rfl
          have r1 := kr.at_ 1 rfl
          clear kr
          go_wp2_with fail
          exact bodyPost_ret (v := .tuple #[.agg #[.int .i64 0, .int .u64 0], .int .i64 215]) (by simp [results, Try.results48, go_sem, r0, r1]) rfl ⟨rfl, (by repeat (first | exact hx2 | refine Below.setCell ?_ (by simp <;> omega) _ | refine Below.alloc ?_ (by simp <;> omega) _))⟩
      · have hp := taken_pos hq
        rw [if_neg (fun h => hq h.1)]
        go_enter Try.func48, Try.ntmps48
        go_wp2_with fail
        refine (Ht.out _ hb0).mono ?_
        rintro e v1 ⟨A1, c1, rfl, hr1, hc1, hb1⟩
        have k1 := k0.below hb1
        have hx1 := below_next hb0 hb1
        go_wp2_with fail
        refine (Hu.out _ _ _ hr1 hc1).mono ?_
        rintro e v2 ⟨A2, c2, rfl, hr2, hc2, hb2⟩
        have k2 := k1.below hb2
        have hx2 := below_next hx1 hb2
        have c0 := k2.at_ 0 rfl
        have c1 := k2.at_ 1 rfl
        have z0 := k2.2.2 0
        have z1 := k2.2.2 1
        have hsz := k2.1
        have kr := Holds.set2 k2 (.int .i64 0) (.int .u64 0)
        have r0 := kr.at_ 0 rfl
        have r1 := kr.at_ 1 rfl
        clear kr
        go_wp2_with fail
        exact bodyPost_ret (v := .tuple #[.agg #[.int .i64 0, .int .u64 0], .int .i64 215]) (by simp [results, Try.results48, go_sem, r0, r1]) rfl ⟨rfl, (by repeat (first | exact hx2 | refine Below.setCell ?_ (by simp <;> omega) _ | refine Below.alloc ?_ (by simp <;> omega) _))⟩
set_option maxRecDepth 100000 in
set_option maxHeartbeats 1000000 in
theorem rreadbox_any (A : Option Addr) (n cap : Nat) (l : List Nat) (w : World) (hl : Rd w A n l) (hc : n ≤ cap) (hn : n ≤ 1000000) :
    Calls Try.prog 49 #[.slice A n cap] w (GivesBox w (Ob.readB l)) := by
  have hb0 : Below w.heap.size w (w.alloc (.cells #[.int .i64 0, .int .u64 0] 24)) := (Below.refl _ _).alloc (Nat.le_refl _) _
  have ht := fun (W : World) (hb : Below w.heap.size w W) => rtakenum_any A n cap l W (hl.below hb) hc hn
  have k0 := Holds.new w #[.int .i64 0, .int .u64 0] 24
  unfold Ob.readB
  rcases htk : Cd.takeNum l with _ | ⟨v, r⟩
  · rw [htk] at ht
    have Ht := Lib.hid ht
    have hu := fun W : World => rtakenum_any none 0 0 [] W (Rd.nil _ _) (by omega) (by omega)
    rw [Ob.takeNum_nil] at hu
    have Hu := Lib.hid hu
    clear ht htk hu
    go_enter Try.func49, Try.ntmps49
    go_wp2_with fail
    refine (Ht.out _ hb0).mono ?_
    rintro e v1 ⟨rfl, hb1⟩
    have k1 := k0.below hb1
    have hx1 := below_next hb0 hb1
    go_wp2_with fail
    refine (Hu.out _).mono ?_
    rintro e v2 ⟨rfl, hb2⟩
    have k2 := k1.below hb2
    have hx2 := below_next hx1 hb2
    have c0 := k2.at_ 0 rfl
    have c1 := k2.at_ 1 rfl
    have z0 := k2.2.2 0
    have z1 := k2.2.2 1
    have hsz := k2.1
    have kr := Holds.set2 k2 (.int .i64 0) (.int .u64 0)
    have r0 := kr.at_ 0 rfl
    have r1 := kr.at_ 1 rfl
    clear kr
    go_wp2_with fail
    exact bodyPost_ret (v := .tuple #[.agg #[.int .i64 0, .int .u64 0], .int .i64 215]) (by simp [results, Try.results49, go_sem, r0, r1]) rfl ⟨rfl, (by repeat (first | exact hx2 | refine Below.setCell ?_ (by simp <;> omega) _ | refine Below.alloc ?_ (by simp <;> omega) _))⟩
  · rw [htk] at ht
    have hrl : r.length ≤ 1000000 := by have := (takeNum_bound htk).2.1; rw [hl.1] at this; omega
    have hvb := (takeNum_bound htk).1
    have Ht := Lib.hid ht
    clear ht htk
    have hu := fun (W : World) (B : Option Addr) (c : Nat) (h1 : Rd W B r.length r) (h2 : r.length ≤ c) => rtakenum_any B r.length c r W h1 h2 hrl
    dsimp only
    rcases htk2 : Cd.takeNum r with _ | ⟨x, q⟩
    · rw [htk2] at hu
      have Hu := Lib.hid hu
      clear hu htk2
      show Calls _ _ _ _ (GivesBox w (0, 0, 215))
      go_enter Try.func49, Try.ntmps49
      go_wp2_with fail
      refine (Ht.out _ hb0).mono ?_
      rintro e v1 ⟨A1, c1, rfl, hr1, hc1, hb1⟩
      have k1 := k0.below hb1
      have hx1 := below_next hb0 hb1
      go_wp2_with fail
      refine (Hu.out _ _ _ hr1 hc1).mono ?_
      rintro e v2 ⟨rfl, hb2⟩
      have k2 := k1.below hb2
      have hx2 := below_next hx1 hb2
      have c0 := k2.at_ 0 rfl
      have c1 := k2.at_ 1 rfl
      have z0 := k2.2.2 0
      have z1 := k2.2.2 1
      have hsz := k2.1
      have kr := Holds.set2 k2 (.int .i64 0) (.int .u64 0)
      have r0 := kr.at_ 0 rfl
      have r1 := kr.at_ 1 rfl
      clear kr
      go_wp2_with fail
      exact bodyPost_ret (v := .tuple #[.agg #[.int .i64 0, .int .u64 0], .int .i64 215]) (by simp [results, Try.results49, go_sem, r0, r1]) rfl ⟨rfl, (by repeat (first | exact hx2 | refine Below.setCell ?_ (by simp <;> omega) _ | refine Below.alloc ?_ (by simp <;> omega) _))⟩
    · rw [htk2] at hu
      have hql : q.length ≤ 1000000 := by have := (takeNum_bound htk2).2.1; omega
      have hxb := (takeNum_bound htk2).1
      have Hu := Lib.hid hu
      clear hu htk2
      show Calls _ _ _ _ (GivesBox w (if q = [] ∧ v ≤ 1099511627776 ∧ x % 2 = 0 then ((v : Int), x, 0) else (0, 0, 215)))
      by_cases hq : q = []
      · subst hq
        by_cases hm : v ≤ 1099511627776
        · have hm' : ¬ (1099511627776 : Int) < (v : Int) := by omega
          have hw : IntKind.i64.wrap (v : Int) = (v : Int) := by rw [IntKind.wrap_i64]; omega
          by_cases h2 : x % 2 = 0
          · rw [if_pos ⟨rfl, hm, h2⟩]
            have ho : ((x : Int) % 2 == 1) = false := by rw [Bool.eq_iff_iff, beq_iff_eq]; simp; omega
            have ho2 : ((x : Int).tmod 2 == 1) = false := by rw [Int.tmod_eq_emod_of_nonneg (by omega)]; exact ho
            clear h2 hm
            go_enter Try.func49, Try.ntmps49
            go_wp2_with fail
            refine (Ht.out _ hb0).mono ?_
            rintro e v1 ⟨A1, c1, rfl, hr1, hc1, hb1⟩
            have k1 := k0.below hb1
            have hx1 := below_next hb0 hb1
            go_wp2_with fail
            refine (Hu.out _ _ _ hr1 hc1).mono ?_
            rintro e v2 ⟨A2, c2, rfl, hr2, hc2, hb2⟩
            have k2 := k1.below hb2
            have hx2 := below_next hx1 hb2
            have c0 := k2.at_ 0 rfl
            have c1 := k2.at_ 1 rfl
            have z0 := k2.2.2 0
            have z1 := k2.2.2 1
            have hsz := k2.1
            have kr := Holds.set2 k2 (.int .i64 (v : Int)) (.int .u64 (x : Int))
            have r0 := kr.at_ 0 rfl
            have r1 := kr.at_ 1 rfl
            clear kr
            go_wp2_with fail
            exact bodyPost_ret (v := .tuple #[.agg #[.int .i64 (v : Int), .int .u64 (x : Int)], .int .i64 0]) (by simp [results, Try.results49, go_sem, r0, r1]) rfl ⟨rfl, (by repeat (first | exact hx2 | refine Below.setCell ?_ (by simp <;> omega) _ | refine Below.alloc ?_ (by simp <;> omega) _))⟩
          · rw [if_neg (fun h => h2 h.2.2)]
            have ho : ((x : Int) % 2 == 1) = true := by rw [Bool.eq_iff_iff, beq_iff_eq]; simp; omega
            have ho2 : ((x : Int).tmod 2 == 1) = true := by rw [Int.tmod_eq_emod_of_nonneg (by omega)]; exact ho
            clear h2 hm
            go_enter Try.func49, Try.ntmps49
            go_wp2_with fail
            refine (Ht.out _ hb0).mono ?_
            rintro e v1 ⟨A1, c1, rfl, hr1, hc1, hb1⟩
            have k1 := k0.below hb1
            have hx1 := below_next hb0 hb1
            go_wp2_with fail
            refine (Hu.out _ _ _ hr1 hc1).mono ?_
            rintro e v2 ⟨A2, c2, rfl, hr2, hc2, hb2⟩
            have k2 := k1.below hb2
            have hx2 := below_next hx1 hb2
            have c0 := k2.at_ 0 rfl
            have c1 := k2.at_ 1 rfl
            have z0 := k2.2.2 0
            have z1 := k2.2.2 1
            have hsz := k2.1
            have kr := Holds.set2 k2 (.int .i64 0) (.int .u64 0)
            have r0 := kr.at_ 0 rfl
            have r1 := kr.at_ 1 rfl
            clear kr
            go_wp2_with fail
            exact bodyPost_ret (v := .tuple #[.agg #[.int .i64 0, .int .u64 0], .int .i64 215]) (by simp [results, Try.results49, go_sem, r0, r1]) rfl ⟨rfl, (by repeat (first | exact hx2 | refine Below.setCell ?_ (by simp <;> omega) _ | refine Below.alloc ?_ (by simp <;> omega) _))⟩
        · have hm' : (1099511627776 : Int) < (v : Int) := by omega
          rw [if_neg (fun h => hm h.2.1)]
          clear hm
          go_enter Try.func49, Try.ntmps49
          go_wp2_with fail
          refine (Ht.out _ hb0).mono ?_
          rintro e v1 ⟨A1, c1, rfl, hr1, hc1, hb1⟩
          have k1 := k0.below hb1
          have hx1 := below_next hb0 hb1
          go_wp2_with fail
          refine (Hu.out _ _ _ hr1 hc1).mono ?_
          rintro e v2 ⟨A2, c2, rfl, hr2, hc2, hb2⟩
          have k2 := k1.below hb2
          have hx2 := below_next hx1 hb2
          have c0 := k2.at_ 0 rfl
          have c1 := k2.at_ 1 rfl
          have z0 := k2.2.2 0
          have z1 := k2.2.2 1
          have hsz := k2.1
          have kr := Holds.set2 k2 (.int .i64 0) (.int .u64 0)
          have r0 := kr.at_ 0 rfl
          have r1 := kr.at_ 1 rfl
          clear kr
          go_wp2_with fail
          exact bodyPost_ret (v := .tuple #[.agg #[.int .i64 0, .int .u64 0], .int .i64 215]) (by simp [results, Try.results49, go_sem, r0, r1]) rfl ⟨rfl, (by repeat (first | exact hx2 | refine Below.setCell ?_ (by simp <;> omega) _ | refine Below.alloc ?_ (by simp <;> omega) _))⟩
      · have hp := taken_pos hq
        rw [if_neg (fun h => hq h.1)]
        go_enter Try.func49, Try.ntmps49
        go_wp2_with fail
        refine (Ht.out _ hb0).mono ?_
        rintro e v1 ⟨A1, c1, rfl, hr1, hc1, hb1⟩
        have k1 := k0.below hb1
        have hx1 := below_next hb0 hb1
        go_wp2_with fail
        refine (Hu.out _ _ _ hr1 hc1).mono ?_
        rintro e v2 ⟨A2, c2, rfl, hr2, hc2, hb2⟩
        have k2 := k1.below hb2
        have hx2 := below_next hx1 hb2
        have c0 := k2.at_ 0 rfl
        have c1 := k2.at_ 1 rfl
        have z0 := k2.2.2 0
        have z1 := k2.2.2 1
        have hsz := k2.1
        have kr := Holds.set2 k2 (.int .i64 0) (.int .u64 0)
        have r0 := kr.at_ 0 rfl
        have r1 := kr.at_ 1 rfl
        clear kr
        go_wp2_with fail
        exact bodyPost_ret (v := .tuple #[.agg #[.int .i64 0, .int .u64 0], .int .i64 215]) (by simp [results, Try.results49, go_sem, r0, r1]) rfl ⟨rfl, (by repeat (first | exact hx2 | refine Below.setCell ?_ (by simp <;> omega) _ | refine Below.alloc ?_ (by simp <;> omega) _))⟩
set_option maxRecDepth 100000 in
set_option maxHeartbeats 1000000 in
theorem readintent_any (A : Option Addr) (n cap : Nat) (l : List Nat) (w : World) (hl : Rd w A n l) (hc : n ≤ cap) (hn : n ≤ 1000000) :
    Calls Try.prog 50 #[.slice A n cap] w (GivesIntent w (Ob.readI l)) := by
  have hb0 : Below w.heap.size w (w.alloc (.cells #[.string ⟨#[]⟩, .int .i64 0] 58)) := (Below.refl _ _).alloc (Nat.le_refl _) _
  have ht := fun (W : World) (hb : Below w.heap.size w W) => taketext_any A n cap 16 l W (hl.below hb) hc hn (by omega)
  have k0 := Holds.new w #[.string ⟨#[]⟩, .int .i64 0] 58
  unfold Ob.readI
  rcases htk : Cd.takeText l 16 with _ | ⟨v, r⟩
  · rw [htk] at ht
    have Ht := Lib.hid ht
    have hu := fun W : World => takenum_any none 0 0 [] W (Rd.nil _ _) (by omega) (by omega)
    rw [Ob.takeNum_nil] at hu
    have Hu := Lib.hid hu
    clear ht htk hu
    go_enter Try.func50, Try.ntmps50
    go_wp2_with fail
    refine (Ht.out _ hb0).mono ?_
    rintro e v1 ⟨rfl, hb1⟩
    have k1 := k0.below hb1
    have hx1 := below_next hb0 hb1
    go_wp2_with fail
    refine (Hu.out _).mono ?_
    rintro e v2 ⟨rfl, hb2⟩
    have k2 := k1.below hb2
    have hx2 := below_next hx1 hb2
    have c0 := k2.at_ 0 rfl
    have c1 := k2.at_ 1 rfl
    have z0 := k2.2.2 0
    have z1 := k2.2.2 1
    have hsz := k2.1
    have kr := Holds.set2 k2 (.string ⟨#[]⟩) (.int .i64 0)
    have r0 := kr.at_ 0 rfl
    have r1 := kr.at_ 1 rfl
    clear kr
    go_wp2_with fail
    exact bodyPost_ret (v := .tuple #[.agg #[.string ⟨#[]⟩, .int .i64 0], .int .i64 215]) (by simp [results, Try.results50, go_sem, r0, r1]) rfl ⟨rfl, (by repeat (first | exact hx2 | refine Below.setCell ?_ (by simp <;> omega) _ | refine Below.alloc ?_ (by simp <;> omega) _))⟩
  · rw [htk] at ht
    have hrl : r.length ≤ 1000000 := by have := (takeText_bound htk).2; rw [hl.1] at this; omega
    have hsz16 : (str v).size ≤ 16 := by rw [str_len]; exact (takeText_bound htk).1
    have Ht := Lib.hid ht
    clear ht htk
    have hu := fun (W : World) (B : Option Addr) (c : Nat) (h1 : Rd W B r.length r) (h2 : r.length ≤ c) => takenum_any B r.length c r W h1 h2 hrl
    dsimp only
    rcases htk2 : Cd.takeNum r with _ | ⟨x, q⟩
    · rw [htk2] at hu
      have Hu := Lib.hid hu
      clear hu htk2
      show Calls _ _ _ _ (GivesIntent w (⟨#[]⟩, 0, 215))
      go_enter Try.func50, Try.ntmps50
      go_wp2_with fail
      refine (Ht.out _ hb0).mono ?_
      rintro e v1 ⟨A1, c1, rfl, hr1, hc1, hb1⟩
      have k1 := k0.below hb1
      have hx1 := below_next hb0 hb1
      go_wp2_with fail
      refine (Hu.out _ _ _ hr1 hc1).mono ?_
      rintro e v2 ⟨rfl, hb2⟩
      have k2 := k1.below hb2
      have hx2 := below_next hx1 hb2
      have c0 := k2.at_ 0 rfl
      have c1 := k2.at_ 1 rfl
      have z0 := k2.2.2 0
      have z1 := k2.2.2 1
      have hsz := k2.1
      have kr := Holds.set2 k2 (.string ⟨#[]⟩) (.int .i64 0)
      have r0 := kr.at_ 0 rfl
      have r1 := kr.at_ 1 rfl
      clear kr
      go_wp2_with fail
      exact bodyPost_ret (v := .tuple #[.agg #[.string ⟨#[]⟩, .int .i64 0], .int .i64 215]) (by simp [results, Try.results50, go_sem, r0, r1]) rfl ⟨rfl, (by repeat (first | exact hx2 | refine Below.setCell ?_ (by simp <;> omega) _ | refine Below.alloc ?_ (by simp <;> omega) _))⟩
    · rw [htk2] at hu
      have hql : q.length ≤ 1000000 := by have := (takeNum_bound htk2).2.1; omega
      have hxb := (takeNum_bound htk2).1
      have Hu := Lib.hid hu
      clear hu htk2
      show Calls _ _ _ _ (GivesIntent w (if q = [] ∧ Ob.isI (str v) (x : Int) = true then (str v, (x : Int), 0) else (⟨#[]⟩, 0, 215)))
      by_cases hq : q = []
      · subst hq
        have hisI : Ob.isI (str v) (x : Int) = decide (1 ≤ (str v).size ∧ 1 ≤ x ∧ x ≤ 1125899906842624) := by
          unfold Ob.isI nameB withinB
          rw [Bool.eq_iff_iff, Bool.and_eq_true, decide_eq_true_iff, decide_eq_true_iff, decide_eq_true_iff]
          omega
        have hi := fun W => isintent_any (str v) (x : Int) W (by omega)
        unfold intentV at hi
        clear hisI
        by_cases hm : x ≤ 1125899906842624
        · have hm' : ¬ (1125899906842624 : Int) < (x : Int) := by omega
          have hw : IntKind.i64.wrap (x : Int) = (x : Int) := by rw [IntKind.wrap_i64]; omega
          cases hI : Ob.isI (str v) (x : Int)
          · rw [if_neg (fun h => Bool.noConfusion h.2)]
            rw [hI] at hi
            have Hi := Lib.hid hi
            clear hi hI
            go_enter Try.func50, Try.ntmps50
            go_wp2_with fail
            refine (Ht.out _ hb0).mono ?_
            rintro e v1 ⟨A1, c1, rfl, hr1, hc1, hb1⟩
            have k1 := k0.below hb1
            have hx1 := below_next hb0 hb1
            go_wp2_with fail
            refine (Hu.out _ _ _ hr1 hc1).mono ?_
            rintro e v2 ⟨A2, c2, rfl, hr2, hc2, hb2⟩
            have k2 := k1.below hb2
            have hx2 := below_next hx1 hb2
            go_wp2_with fail
            refine (Hi.out _).mono ?_
            rintro e v3 ⟨rfl, rfl⟩
            have k3 := (k2.alloc (.cells #[.string (str v), .int .i64 (x : Int)] 58)).alloc (.cells #[.string (str v), .int .i64 (x : Int)] 58)
            have k4 := (Holds.new v2 #[.string (str v), .int .i64 (x : Int)] 58).alloc (.cells #[.string (str v), .int .i64 (x : Int)] 58)
            have hx3 : Below w.heap.size w ((v2.alloc (.cells #[.string (str v), .int .i64 (x : Int)] 58)).alloc (.cells #[.string (str v), .int .i64 (x : Int)] 58)) := (hx2.alloc hx2.size _).alloc (hx2.alloc hx2.size (.cells #[.string (str v), .int .i64 (x : Int)] 58)).size _
            clear k2 hx2
            generalize ((v2.alloc (.cells #[.string (str v), .int .i64 (x : Int)] 58)).alloc (.cells #[.string (str v), .int .i64 (x : Int)] 58)) = W3 at *
            have d0 := k4.at_ 0 rfl
            have d1 := k4.at_ 1 rfl
            have c0 := k3.at_ 0 rfl
            have c1 := k3.at_ 1 rfl
            have z0 := k3.2.2 0
            have z1 := k3.2.2 1
            have hsz := k3.1
            have kr := Holds.set2 k3 (.string ⟨#[]⟩) (.int .i64 0)
            have r0 := kr.at_ 0 rfl
            have r1 := kr.at_ 1 rfl
            clear kr
            go_wp2_with fail
            exact bodyPost_ret (v := .tuple #[.agg #[.string ⟨#[]⟩, .int .i64 0], .int .i64 215]) (by simp [results, Try.results50, go_sem, r0, r1]) rfl ⟨rfl, (by repeat (first | exact hx3 | refine Below.setCell ?_ (by simp <;> omega) _ | refine Below.alloc ?_ (by simp <;> omega) _))⟩
          · rw [if_pos ⟨rfl, rfl⟩]
            rw [hI] at hi
            have Hi := Lib.hid hi
            clear hi hI
            go_enter Try.func50, Try.ntmps50
            go_wp2_with fail
            refine (Ht.out _ hb0).mono ?_
            rintro e v1 ⟨A1, c1, rfl, hr1, hc1, hb1⟩
            have k1 := k0.below hb1
            have hx1 := below_next hb0 hb1
            go_wp2_with fail
            refine (Hu.out _ _ _ hr1 hc1).mono ?_
            rintro e v2 ⟨A2, c2, rfl, hr2, hc2, hb2⟩
            have k2 := k1.below hb2
            have hx2 := below_next hx1 hb2
            go_wp2_with fail
            refine (Hi.out _).mono ?_
            rintro e v3 ⟨rfl, rfl⟩
            have k3 := (k2.alloc (.cells #[.string (str v), .int .i64 (x : Int)] 58)).alloc (.cells #[.string (str v), .int .i64 (x : Int)] 58)
            have k4 := (Holds.new v2 #[.string (str v), .int .i64 (x : Int)] 58).alloc (.cells #[.string (str v), .int .i64 (x : Int)] 58)
            have hx3 : Below w.heap.size w ((v2.alloc (.cells #[.string (str v), .int .i64 (x : Int)] 58)).alloc (.cells #[.string (str v), .int .i64 (x : Int)] 58)) := (hx2.alloc hx2.size _).alloc (hx2.alloc hx2.size (.cells #[.string (str v), .int .i64 (x : Int)] 58)).size _
            clear k2 hx2
            generalize ((v2.alloc (.cells #[.string (str v), .int .i64 (x : Int)] 58)).alloc (.cells #[.string (str v), .int .i64 (x : Int)] 58)) = W3 at *
            have d0 := k4.at_ 0 rfl
            have d1 := k4.at_ 1 rfl
            have c0 := k3.at_ 0 rfl
            have c1 := k3.at_ 1 rfl
            have z0 := k3.2.2 0
            have z1 := k3.2.2 1
            have hsz := k3.1
            have kr := Holds.set2 k3 (.string (str v)) (.int .i64 (x : Int))
            have r0 := kr.at_ 0 rfl
            have r1 := kr.at_ 1 rfl
            clear kr
            go_wp2_with fail
            exact bodyPost_ret (v := .tuple #[.agg #[.string (str v), .int .i64 (x : Int)], .int .i64 0]) (by simp [results, Try.results50, go_sem, r0, r1]) rfl ⟨rfl, (by repeat (first | exact hx3 | refine Below.setCell ?_ (by simp <;> omega) _ | refine Below.alloc ?_ (by simp <;> omega) _))⟩
        · have hm' : (1125899906842624 : Int) < (x : Int) := by omega
          rw [if_neg (fun h => by have h2 := h.2; unfold Ob.isI withinB at h2; rw [Bool.and_eq_true, decide_eq_true_iff] at h2; omega)]
          clear hi hm
          go_enter Try.func50, Try.ntmps50
          go_wp2_with fail
          refine (Ht.out _ hb0).mono ?_
          rintro e v1 ⟨A1, c1, rfl, hr1, hc1, hb1⟩
          have k1 := k0.below hb1
          have hx1 := below_next hb0 hb1
          go_wp2_with fail
          refine (Hu.out _ _ _ hr1 hc1).mono ?_
          rintro e v2 ⟨A2, c2, rfl, hr2, hc2, hb2⟩
          have k2 := k1.below hb2
          have hx2 := below_next hx1 hb2
          have c0 := k2.at_ 0 rfl
          have c1 := k2.at_ 1 rfl
          have z0 := k2.2.2 0
          have z1 := k2.2.2 1
          have hsz := k2.1
          have kr := Holds.set2 k2 (.string ⟨#[]⟩) (.int .i64 0)
          have r0 := kr.at_ 0 rfl
          have r1 := kr.at_ 1 rfl
          clear kr
          go_wp2_with fail
          exact bodyPost_ret (v := .tuple #[.agg #[.string ⟨#[]⟩, .int .i64 0], .int .i64 215]) (by simp [results, Try.results50, go_sem, r0, r1]) rfl ⟨rfl, (by repeat (first | exact hx2 | refine Below.setCell ?_ (by simp <;> omega) _ | refine Below.alloc ?_ (by simp <;> omega) _))⟩
      · have hp := taken_pos hq
        rw [if_neg (fun h => hq h.1)]
        go_enter Try.func50, Try.ntmps50
        go_wp2_with fail
        refine (Ht.out _ hb0).mono ?_
        rintro e v1 ⟨A1, c1, rfl, hr1, hc1, hb1⟩
        have k1 := k0.below hb1
        have hx1 := below_next hb0 hb1
        go_wp2_with fail
        refine (Hu.out _ _ _ hr1 hc1).mono ?_
        rintro e v2 ⟨A2, c2, rfl, hr2, hc2, hb2⟩
        have k2 := k1.below hb2
        have hx2 := below_next hx1 hb2
        have c0 := k2.at_ 0 rfl
        have c1 := k2.at_ 1 rfl
        have z0 := k2.2.2 0
        have z1 := k2.2.2 1
        have hsz := k2.1
        have kr := Holds.set2 k2 (.string ⟨#[]⟩) (.int .i64 0)
        have r0 := kr.at_ 0 rfl
        have r1 := kr.at_ 1 rfl
        clear kr
        go_wp2_with fail
        exact bodyPost_ret (v := .tuple #[.agg #[.string ⟨#[]⟩, .int .i64 0], .int .i64 215]) (by simp [results, Try.results50, go_sem, r0, r1]) rfl ⟨rfl, (by repeat (first | exact hx2 | refine Below.setCell ?_ (by simp <;> omega) _ | refine Below.alloc ?_ (by simp <;> omega) _))⟩
set_option maxRecDepth 100000 in
set_option maxHeartbeats 1000000 in
theorem rreadintent_any (A : Option Addr) (n cap : Nat) (l : List Nat) (w : World) (hl : Rd w A n l) (hc : n ≤ cap) (hn : n ≤ 1000000) :
    Calls Try.prog 51 #[.slice A n cap] w (GivesIntent w (Ob.readI l)) := by
  have hb0 : Below w.heap.size w (w.alloc (.cells #[.string ⟨#[]⟩, .int .i64 0] 58)) := (Below.refl _ _).alloc (Nat.le_refl _) _
  have ht := fun (W : World) (hb : Below w.heap.size w W) => rtaketext_any A n cap 16 l W (hl.below hb) hc hn (by omega)
  have k0 := Holds.new w #[.string ⟨#[]⟩, .int .i64 0] 58
  unfold Ob.readI
  rcases htk : Cd.takeText l 16 with _ | ⟨v, r⟩
  · rw [htk] at ht
    have Ht := Lib.hid ht
    have hu := fun W : World => rtakenum_any none 0 0 [] W (Rd.nil _ _) (by omega) (by omega)
    rw [Ob.takeNum_nil] at hu
    have Hu := Lib.hid hu
    clear ht htk hu
    go_enter Try.func51, Try.ntmps51
    go_wp2_with fail
    refine (Ht.out _ hb0).mono ?_
    rintro e v1 ⟨rfl, hb1⟩
    have k1 := k0.below hb1
    have hx1 := below_next hb0 hb1
    go_wp2_with fail
    refine (Hu.out _).mono ?_
    rintro e v2 ⟨rfl, hb2⟩
    have k2 := k1.below hb2
    have hx2 := below_next hx1 hb2
    have c0 := k2.at_ 0 rfl
    have c1 := k2.at_ 1 rfl
    have z0 := k2.2.2 0
    have z1 := k2.2.2 1
    have hsz := k2.1
    have kr := Holds.set2 k2 (.string ⟨#[]⟩) (.int .i64 0)
    have r0 := kr.at_ 0 rfl
    have r1 := kr.at_ 1 rfl
    clear kr
    go_wp2_with fail
    exact bodyPost_ret (v := .tuple #[.agg #[.string ⟨#[]⟩, .int .i64 0], .int .i64 215]) (by simp [results, Try.results51, go_sem, r0, r1]) rfl ⟨rfl, (by repeat (first | exact hx2 | refine Below.setCell ?_ (by simp <;> omega) _ | refine Below.alloc ?_ (by simp <;> omega) _))⟩
  · rw [htk] at ht
    have hrl : r.length ≤ 1000000 := by have := (takeText_bound htk).2; rw [hl.1] at this; omega
    have hsz16 : (str v).size ≤ 16 := by rw [str_len]; exact (takeText_bound htk).1
    have Ht := Lib.hid ht
    clear ht htk
    have hu := fun (W : World) (B : Option Addr) (c : Nat) (h1 : Rd W B r.length r) (h2 : r.length ≤ c) => rtakenum_any B r.length c r W h1 h2 hrl
    dsimp only
    rcases htk2 : Cd.takeNum r with _ | ⟨x, q⟩
    · rw [htk2] at hu
      have Hu := Lib.hid hu
      clear hu htk2
      show Calls _ _ _ _ (GivesIntent w (⟨#[]⟩, 0, 215))
      go_enter Try.func51, Try.ntmps51
      go_wp2_with fail
      refine (Ht.out _ hb0).mono ?_
      rintro e v1 ⟨A1, c1, rfl, hr1, hc1, hb1⟩
      have k1 := k0.below hb1
      have hx1 := below_next hb0 hb1
      go_wp2_with fail
      refine (Hu.out _ _ _ hr1 hc1).mono ?_
      rintro e v2 ⟨rfl, hb2⟩
      have k2 := k1.below hb2
      have hx2 := below_next hx1 hb2
      have c0 := k2.at_ 0 rfl
      have c1 := k2.at_ 1 rfl
      have z0 := k2.2.2 0
      have z1 := k2.2.2 1
      have hsz := k2.1
      have kr := Holds.set2 k2 (.string ⟨#[]⟩) (.int .i64 0)
      have r0 := kr.at_ 0 rfl
      have r1 := kr.at_ 1 rfl
      clear kr
      go_wp2_with fail
      exact bodyPost_ret (v := .tuple #[.agg #[.string ⟨#[]⟩, .int .i64 0], .int .i64 215]) (by simp [results, Try.results51, go_sem, r0, r1]) rfl ⟨rfl, (by repeat (first | exact hx2 | refine Below.setCell ?_ (by simp <;> omega) _ | refine Below.alloc ?_ (by simp <;> omega) _))⟩
    · rw [htk2] at hu
      have hql : q.length ≤ 1000000 := by have := (takeNum_bound htk2).2.1; omega
      have hxb := (takeNum_bound htk2).1
      have Hu := Lib.hid hu
      clear hu htk2
      show Calls _ _ _ _ (GivesIntent w (if q = [] ∧ Ob.isI (str v) (x : Int) = true then (str v, (x : Int), 0) else (⟨#[]⟩, 0, 215)))
      by_cases hq : q = []
      · subst hq
        have hisI : Ob.isI (str v) (x : Int) = decide (1 ≤ (str v).size ∧ 1 ≤ x ∧ x ≤ 1125899906842624) := by
          unfold Ob.isI nameB withinB
          rw [Bool.eq_iff_iff, Bool.and_eq_true, decide_eq_true_iff, decide_eq_true_iff, decide_eq_true_iff]
          omega
        rw [hisI]
        clear hisI
        by_cases h0 : (str v).size = 0
        · rw [if_neg (fun h => by have h2 := of_decide_eq_true h.2; omega)]
          have h0' : ((str v).size : Int) = 0 := by omega
          have h0b : (((str v).size : Int) == 0) = true := by rw [beq_iff_eq]; exact h0'
          go_enter Try.func51, Try.ntmps51
          go_wp2_with fail
          refine (Ht.out _ hb0).mono ?_
          rintro e v1 ⟨A1, c1, rfl, hr1, hc1, hb1⟩
          have k1 := k0.below hb1
          have hx1 := below_next hb0 hb1
          go_wp2_with fail
          refine (Hu.out _ _ _ hr1 hc1).mono ?_
          rintro e v2 ⟨A2, c2, rfl, hr2, hc2, hb2⟩
          have k2 := k1.below hb2
          have hx2 := below_next hx1 hb2
          have c0 := k2.at_ 0 rfl
          have c1 := k2.at_ 1 rfl
          have z0 := k2.2.2 0
          have z1 := k2.2.2 1
          have hsz := k2.1
          have kr := Holds.set2 k2 (.string ⟨#[]⟩) (.int .i64 0)
          have r0 := kr.at_ 0 rfl
          have r1 := kr.at_ 1 rfl
          clear kr
          go_wp2_with fail
          exact bodyPost_ret (v := .tuple #[.agg #[.string ⟨#[]⟩, .int .i64 0], .int .i64 215]) (by simp [results, Try.results51, go_sem, r0, r1]) rfl ⟨rfl, (by repeat (first | exact hx2 | refine Below.setCell ?_ (by simp <;> omega) _ | refine Below.alloc ?_ (by simp <;> omega) _))⟩
        · have h0' : ¬ ((str v).size : Int) = 0 := by omega
          have h0b : (((str v).size : Int) == 0) = false := by rw [beq_eq_false_iff_ne]; exact h0'
          by_cases h1 : x < 1
          · rw [if_neg (fun h => by have h2 := of_decide_eq_true h.2; omega)]
            have h1' : (x : Int) < 1 := by omega
            go_enter Try.func51, Try.ntmps51
            go_wp2_with fail
            refine (Ht.out _ hb0).mono ?_
            rintro e v1 ⟨A1, c1, rfl, hr1, hc1, hb1⟩
            have k1 := k0.below hb1
            have hx1 := below_next hb0 hb1
            go_wp2_with fail
            refine (Hu.out _ _ _ hr1 hc1).mono ?_
            rintro e v2 ⟨A2, c2, rfl, hr2, hc2, hb2⟩
            have k2 := k1.below hb2
            have hx2 := below_next hx1 hb2
            have c0 := k2.at_ 0 rfl
            have c1 := k2.at_ 1 rfl
            have z0 := k2.2.2 0
            have z1 := k2.2.2 1
            have hsz := k2.1
            have kr := Holds.set2 k2 (.string ⟨#[]⟩) (.int .i64 0)
            have r0 := kr.at_ 0 rfl
            have r1 := kr.at_ 1 rfl
            clear kr
            go_wp2_with fail
            exact bodyPost_ret (v := .tuple #[.agg #[.string ⟨#[]⟩, .int .i64 0], .int .i64 215]) (by simp [results, Try.results51, go_sem, r0, r1]) rfl ⟨rfl, (by repeat (first | exact hx2 | refine Below.setCell ?_ (by simp <;> omega) _ | refine Below.alloc ?_ (by simp <;> omega) _))⟩
          · have h1' : ¬ (x : Int) < 1 := by omega
            by_cases hm : x ≤ 1125899906842624
            · have hm' : ¬ (1125899906842624 : Int) < (x : Int) := by omega
              have hw : IntKind.i64.wrap (x : Int) = (x : Int) := by rw [IntKind.wrap_i64]; omega
              rw [if_pos ⟨rfl, decide_eq_true (by omega)⟩]
              go_enter Try.func51, Try.ntmps51
              go_wp2_with fail
              refine (Ht.out _ hb0).mono ?_
              rintro e v1 ⟨A1, c1, rfl, hr1, hc1, hb1⟩
              have k1 := k0.below hb1
              have hx1 := below_next hb0 hb1
              go_wp2_with fail
              refine (Hu.out _ _ _ hr1 hc1).mono ?_
              rintro e v2 ⟨A2, c2, rfl, hr2, hc2, hb2⟩
              have k2 := k1.below hb2
              have hx2 := below_next hx1 hb2
              have c0 := k2.at_ 0 rfl
              have c1 := k2.at_ 1 rfl
              have z0 := k2.2.2 0
              have z1 := k2.2.2 1
              have hsz := k2.1
              have kr := Holds.set2 k2 (.string (str v)) (.int .i64 (x : Int))
              have r0 := kr.at_ 0 rfl
              have r1 := kr.at_ 1 rfl
              clear kr
              go_wp2_with fail
              exact bodyPost_ret (v := .tuple #[.agg #[.string (str v), .int .i64 (x : Int)], .int .i64 0]) (by simp [results, Try.results51, go_sem, r0, r1]) rfl ⟨rfl, (by repeat (first | exact hx2 | refine Below.setCell ?_ (by simp <;> omega) _ | refine Below.alloc ?_ (by simp <;> omega) _))⟩
            · have hm' : (1125899906842624 : Int) < (x : Int) := by omega
              rw [if_neg (fun h => by have h2 := of_decide_eq_true h.2; omega)]
              go_enter Try.func51, Try.ntmps51
              go_wp2_with fail
              refine (Ht.out _ hb0).mono ?_
              rintro e v1 ⟨A1, c1, rfl, hr1, hc1, hb1⟩
              have k1 := k0.below hb1
              have hx1 := below_next hb0 hb1
              go_wp2_with fail
              refine (Hu.out _ _ _ hr1 hc1).mono ?_
              rintro e v2 ⟨A2, c2, rfl, hr2, hc2, hb2⟩
              have k2 := k1.below hb2
              have hx2 := below_next hx1 hb2
              have c0 := k2.at_ 0 rfl
              have c1 := k2.at_ 1 rfl
              have z0 := k2.2.2 0
              have z1 := k2.2.2 1
              have hsz := k2.1
              have kr := Holds.set2 k2 (.string ⟨#[]⟩) (.int .i64 0)
              have r0 := kr.at_ 0 rfl
              have r1 := kr.at_ 1 rfl
              clear kr
              go_wp2_with fail
              exact bodyPost_ret (v := .tuple #[.agg #[.string ⟨#[]⟩, .int .i64 0], .int .i64 215]) (by simp [results, Try.results51, go_sem, r0, r1]) rfl ⟨rfl, (by repeat (first | exact hx2 | refine Below.setCell ?_ (by simp <;> omega) _ | refine Below.alloc ?_ (by simp <;> omega) _))⟩
      · have hp := taken_pos hq
        rw [if_neg (fun h => hq h.1)]
        go_enter Try.func51, Try.ntmps51
        go_wp2_with fail
        refine (Ht.out _ hb0).mono ?_
        rintro e v1 ⟨A1, c1, rfl, hr1, hc1, hb1⟩
        have k1 := k0.below hb1
        have hx1 := below_next hb0 hb1
        go_wp2_with fail
        refine (Hu.out _ _ _ hr1 hc1).mono ?_
        rintro e v2 ⟨A2, c2, rfl, hr2, hc2, hb2⟩
        have k2 := k1.below hb2
        have hx2 := below_next hx1 hb2
        have c0 := k2.at_ 0 rfl
        have c1 := k2.at_ 1 rfl
        have z0 := k2.2.2 0
        have z1 := k2.2.2 1
        have hsz := k2.1
        have kr := Holds.set2 k2 (.string ⟨#[]⟩) (.int .i64 0)
        have r0 := kr.at_ 0 rfl
        have r1 := kr.at_ 1 rfl
        clear kr
        go_wp2_with fail
        exact bodyPost_ret (v := .tuple #[.agg #[.string ⟨#[]⟩, .int .i64 0], .int .i64 215]) (by simp [results, Try.results51, go_sem, r0, r1]) rfl ⟨rfl, (by repeat (first | exact hx2 | refine Below.setCell ?_ (by simp <;> omega) _ | refine Below.alloc ?_ (by simp <;> omega) _))⟩
end Go.Proofs.Ytaoiokilnmpniaa
