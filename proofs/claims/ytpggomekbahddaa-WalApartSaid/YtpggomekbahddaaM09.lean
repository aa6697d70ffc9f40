/- The document's Cut. Fragments read off bytes: frag's fragment. Records in memory while Join puts them together; goOn. What take of frag's joined does: a scope with five labels. A scope with two labels. -/
import Derived.Test.YtpggomekbahddaaM07
import Derived.Test.YtpggomekbahddaaM08
import Derived.LoopTactic
import Derived.Test.YtpggomekbahddaaM06
import Derived.Deep.QuietTactic
import Derived.ScopeJumps
import Derived.WalkMore
import Derived.Deep.RegionHeld3
namespace Go.Proofs.Ytpggomekbahddaa
open Go.RowKit
set_option linter.unusedVariables false
/-- Payloads that are full, and the one that is being filled, which is in no row yet. -/
structure Two (a v : World) (A : Option Addr) (n cap : Nat) (vs : List Value) (out : List (List Nat)) (B : Option Addr) (c : Nat) (cur : List Nat) : Prop where
  below : Below a.heap.size a v
  row : OwnV v a.heap.size 23 A n cap vs
  items : Items v (Cold a.heap.size (Value.slice A n cap).ownBlock (Value.slice B cur.length c).ownBlock) vs out
  now : Own v a.heap.size B cur.length c cur
  apart : (Value.slice B cur.length c).ownBlock = none ∨ (Value.slice B cur.length c).ownBlock ≠ (Value.slice A n cap).ownBlock
section
variable {a v v' : World} {A A' B B' : Option Addr} {n cap cap' c c' m : Nat} {vs : List Value} {out : List (List Nat)} {cur news : List Nat}
theorem Two.start (a : World) : Two a a none 0 0 [] [] none 0 [] := ⟨Below.refl _ _, OwnV.none_ _ _ _, Items.nil _ _, Own.none_ _ _, .inl rfl⟩
theorem Two.keep (h : Two a v A n cap vs out B c cur) (hb : Below v.heap.size v v') : Two a v' A n cap vs out B c cur :=
  ⟨h.below.trans (hb.mono h.below.size), h.row.below hb, h.items.below hb, h.now.below hb, h.apart⟩
theorem Two.alloc (h : Two a v A n cap vs out B c cur) (o : Obj) : Two a (v.alloc o) A n cap vs out B c cur := h.keep ((Below.refl _ _).alloc (Nat.le_refl _) o)
theorem Two.app (h : Two a v A n cap vs out B c cur) (hg : Grew v v' a.heap.size B B' cur.length c (cur.length + m) c' (cur ++ news)) (hm : news.length = m) : Two a v' A n cap vs out B' c' (cur ++ news) := by
  have hl : (cur ++ news).length = cur.length + m := by rw [List.length_append, hm]
  have hbl := h.now.blk
  have hrl := h.row.blk
  refine ⟨hg.below h.below h.below.size (fun g e => (hbl g e).1), h.row.grown hg.grew ?_, ?_, by rw [hl]; exact hg.own, ?_⟩
  · rcases h.apart with e | e
    · exact .inl e
    · exact .inr fun g e1 e2 => e (by rw [e1, e2])
  · have h1 := h.items.imp (Y := fun b => Cold a.heap.size (Value.slice A n cap).ownBlock (Value.slice B' (cur ++ news).length c').ownBlock b ∧ some b ≠ (Value.slice B cur.length c).ownBlock) (fun b hb hx => ⟨⟨hx.1, hx.2.1, by
      rw [hl]
      rcases hg.blk with e | e
      · rw [e]; exact hx.2.2
      · rw [e]; intro e2; injection e2 with e2; omega⟩, hx.2.2⟩)
    exact (h1.grown hg.grew (fun b hb hx => hx.2)).imp fun b hb hx => hx.1
  · rw [hl]
    rcases hg.blk with e | e
    · rw [e]; exact h.apart
    · rw [e]
      refine .inr fun e2 => ?_
      have := (hrl _ e2.symm).2
      omega
/-- The payload that is being filled, as one that is full. -/
theorem Two.item (h : Two a v A n cap vs out B c cur) : Items v (fun b => a.heap.size ≤ b ∧ some b ≠ (Value.slice A n cap).ownBlock) (vs ++ [.slice B cur.length c]) (out ++ [cur]) := by
  refine (h.items.imp fun b hb hx => ⟨hx.1, hx.2.1⟩).snoc ⟨B, c, rfl, h.now.rd, h.now.cap, ?_, fun b o e hl => ?_⟩
  · rcases h.now.2.2.2 with ⟨_, h0⟩ | ⟨g, c', cur', _, _, _, h1, h2, _⟩
    · omega
    · simp only [maxLen] at h2; omega
  · subst e
    have := h.now.blk b rfl
    refine ⟨this.1, ?_⟩
    rcases h.apart with e | e
    · cases e
    · exact e
theorem Two.push (h : Two a v A n cap vs out B c cur) (hg : GrewV v v' a.heap.size 23 A A' n cap (n + 1) cap' (vs ++ [.slice B cur.length c])) : Two a v' A' (n + 1) cap' (vs ++ [.slice B cur.length c]) (out ++ [cur]) none 0 [] := by
  have hrb := h.row.blk
  refine ⟨hg.below h.below h.below.size (fun g e => (hrb g e).1), hg.own, ?_, Own.none_ _ _, .inl rfl⟩
  have h1 := h.item.imp (Y := fun b => Cold a.heap.size (Value.slice A' (n + 1) cap').ownBlock (Value.slice none ([] : List Nat).length 0).ownBlock b ∧ some b ≠ (Value.slice A n cap).ownBlock) (fun b hb hx => ⟨⟨hx.1, by
      rcases hg.blk with e | e
      · rw [e]; exact hx.2
      · rw [e]; intro e2; injection e2 with e2; omega, fun e2 => by cases e2⟩, hx.2⟩)
  exact (h1.grown hg.grew (fun b hb hx => hx.2)).imp fun b hb hx => hx.1
end
theorem run_to (A : Option Addr) (n c t : Nat) (ht : t ≤ n) (hc : n ≤ c) (w : World) : (Instr.slice 23 (.slice A n c) none (some (.int .i64 (t : Int))) none).run Try.prog w = .ok (.slice A t c) w := by
  have h2 : t ≤ c := by omega
  simp [Instr.slice, run_underlying Try.underlying23, Instr.sliceBounds, Instr.sliceBound, asIntOf, go_sem, h2]
theorem run_from (A : Option Addr) (n c f : Nat) (hf : f ≤ n) (hc : n ≤ c) (w : World) : (Instr.slice 23 (.slice A n c) (some (.int .i64 (f : Int))) none none).run Try.prog w = .ok (.slice (partOf A c f) (n - f) (c - f)) w := by
  unfold partOf
  by_cases e : c = f
  · subst e
    simp [Instr.slice, run_underlying Try.underlying23, Instr.sliceBounds, Instr.sliceBound, asIntOf, go_sem, hf]
  · simp [Instr.slice, run_underlying Try.underlying23, Instr.sliceBounds, Instr.sliceBound, asIntOf, go_sem, hf, e]
theorem rd_from {w : World} {A : Option Addr} {n c f : Nat} {l : List Nat} (h : Rd w A n l) (hf : f ≤ n) (hc : n ≤ c) : Rd w (partOf A c f) (n - f) (l.drop f) := by
  have := rd_cut (t := n) h hf (Nat.le_refl _) hc
  rw [List.take_of_length_le (by rw [List.length_drop, h.1]; exact Nat.le_refl _)] at this
  exact this
/-- How much is to be done for a record. -/
def todo (s over : Value) : Nat := match s, over with
  | .slice _ n _, .bool false => n + 1
  | _, _ => 0
/-- What is kept within a record. -/
def KeepR (goal st : Fg.St) (rest : List Nat) (begun over : Bool) : Prop := Fg.Fit st ∧ st.1.length ≤ 100000 ∧ (over = true → st = goal) ∧ (over = false → Fg.cut1 rest begun st = goal)
end Go.Proofs.Ytpggomekbahddaa
namespace Go.Proofs.Ytpggomekbahddaa
open Go.RowKit
set_option linter.unusedVariables false
namespace Fg
/-- The fragment at the beginning: its kind and its bytes. -/
def frag1 (p : List Nat) : Option (Nat × List Nat) :=
  match p with
  | k :: n :: rest => if 1 ≤ k ∧ k ≤ 4 ∧ n ≤ 106 ∧ n ≤ rest.length then some (k, rest.take n) else none
  | _ => none
theorem frag1_short {p : List Nat} (h : p.length < 2) : frag1 p = none := by
  match p, h with
  | [], _ => rfl
  | [_], _ => rfl
  | _ :: _ :: _, h => simp at h; omega
theorem frag1_at {p : List Nat} {k n : Nat} (h0 : p[0]? = some k) (h1 : p[1]? = some n) : frag1 p = if 1 ≤ k ∧ k ≤ 4 ∧ n ≤ 106 ∧ n ≤ p.length - 2 then some (k, (p.drop 2).take n) else none := by
  match p, h0, h1 with
  | k' :: n' :: rest, h0, h1 =>
    simp at h0 h1
    subst h0 h1
    show (if 1 ≤ k' ∧ k' ≤ 4 ∧ n' ≤ 106 ∧ n' ≤ rest.length then some (k', rest.take n') else none) = _
    simp
theorem frag1_some {p : List Nat} {k : Nat} {b : List Nat} (h : frag1 p = some (k, b)) : 1 ≤ k ∧ k ≤ 4 ∧ b.length ≤ 106 ∧ 2 + b.length ≤ p.length := by
  match p, h with
  | k' :: n :: rest, h =>
    unfold frag1 at h
    simp only at h
    split at h
    · rename_i hc
      injection h with h
      injection h with e1 e2
      subst e1 e2
      refine ⟨hc.1, hc.2.1, ?_, ?_⟩
      · rw [List.length_take]; omega
      · rw [List.length_take]; simp; omega
    · cases h
end Fg
def GivesFrag (w : World) (A : Option Addr) (n : Nat) (p : List Nat) (f : Option (Nat × List Nat)) (e : Ending) (w' : World) : Prop :=
  Below w.heap.size w w' ∧ (f = none → e = .returned (.tuple #[.int .i64 0, .slice none 0 0, .bool false])) ∧
    ∀ k b, f = some (k, b) → ∃ (B : Option Addr) (d : Nat), e = .returned (.tuple #[.int .i64 (k : Int), .slice B b.length d, .bool true]) ∧ (∀ W, Rd W A n p → Rd W B b.length b) ∧ b.length ≤ d
theorem run_two (A : Option Addr) (n c t : Nat) (ht : 2 + t ≤ n) (hc : n ≤ c) (w : World) : (Instr.slice 23 (.slice A n c) (some (.int .i64 2)) (some (.int .i64 (2 + (t : Int)))) none).run Try.prog w = .ok (.slice (partOf A c 2) t (c - 2)) w := by
  have := run_cut A n c 2 (2 + t) (by omega) ht hc w
  rw [show ((2 : Nat) : Int) = 2 by rfl, show ((2 + t : Nat) : Int) = 2 + (t : Int) by omega, show 2 + t - 2 = t by omega] at this
  exact this
set_option maxRecDepth 100000 in
set_option maxHeartbeats 2000000 in
theorem fragment_any (A : Option Addr) (n c : Nat) (p : List Nat) (w : World) (hr : Rd w A n p) (hc : n ≤ c) (hn : n ≤ 108) :
    Calls Try.prog 48 #[.slice A n c] w (GivesFrag w A n p (Fg.frag1 p)) := by
  have hlen := hr.1
  by_cases h2 : n < 2
  · have hf := Fg.frag1_short (p := p) (by omega)
    rw [hf]
    have h2i : (n : Int) < 2 := by omega
    clear hf hr hlen
    go_enter Try.func48, Try.ntmps48
    go_wp2
    go_ret3
    exact ⟨Below.refl _ _, fun _ => rfl, fun k b e => by cases e⟩
  · have h2i : ¬ (n : Int) < 2 := by omega
    obtain ⟨g, o, k, rfl, hg, hk, hk256, hc0⟩ := hr.at_ (k := 0) (by omega)
    obtain ⟨m, hm, hm256⟩ := byte_at hr (show 1 < n by omega)
    have hc1 : w.cell? ⟨g, o + 1, none⟩ = some (.int .u8 (m : Int)) := by
      obtain ⟨b', o', he, _, hcc⟩ := hr.2.2 (by omega)
      injection he with he; injection he with e1 e2
      subst e1 e2
      exact hcc 1 m hm
    have hat := Fg.frag1_at hk hm
    rw [Nat.add_zero] at hc0
    have h0i : (0 : Int) < (n : Int) := by omega
    have h1i : (1 : Int) < (n : Int) := by omega
    by_cases hk1 : k < 1
    · rw [if_neg (by omega)] at hat
      rw [hat]
      have hki : (k : Int) < 1 := by omega
      have HA := Lib.hid hat
      clear hat hr hk hm hlen
      go_enter Try.func48, Try.ntmps48
      go_wp2
      go_ret3
      exact ⟨Below.refl _ _, fun _ => rfl, fun k b e => by cases e⟩
    · have hki : ¬ (k : Int) < 1 := by omega
      by_cases hk4 : 4 < k
      · rw [if_neg (by omega)] at hat
        rw [hat]
        have hk4i : (4 : Int) < (k : Int) := by omega
        clear hat hr hk hm hlen
        go_enter Try.func48, Try.ntmps48
        go_wp2
        go_ret3
        exact ⟨Below.refl _ _, fun _ => rfl, fun k b e => by cases e⟩
      · have hk4i : ¬ (4 : Int) < (k : Int) := by omega
        by_cases hm1 : 106 < m
        · rw [if_neg (by omega)] at hat
          rw [hat]
          have hmi : (106 : Int) < (m : Int) := by omega
          clear hat hr hk hm hlen
          go_enter Try.func48, Try.ntmps48
          go_wp2
          go_ret3
          exact ⟨Below.refl _ _, fun _ => rfl, fun k b e => by cases e⟩
        · have hmi : ¬ (106 : Int) < (m : Int) := by omega
          by_cases hm2 : n - 2 < m
          · rw [if_neg (by omega)] at hat
            rw [hat]
            have hm2i : (n : Int) - 2 < (m : Int) := by omega
            clear hat hr hk hm hlen
            go_enter Try.func48, Try.ntmps48
            go_wp2
            go_ret3
            exact ⟨Below.refl _ _, fun _ => rfl, fun k b e => by cases e⟩
          · have hm2i : ¬ (n : Int) - 2 < (m : Int) := by omega
            rw [if_pos (by omega)] at hat
            rw [hat]
            have hcut := fun (W : World) (h : Rd W (some ⟨g, o, none⟩) n p) => rd_cut (f := 2) (t := 2 + m) h (by omega) (by omega) hc
            rw [show 2 + m - 2 = m by omega] at hcut
            have hsl := fun W => run_two (some ⟨g, o, none⟩) n c m (by omega) hc W
            have hw2 : IntKind.i64.wrap (2 + (m : Int)) = 2 + (m : Int) := by rw [IntKind.wrap_i64]; omega
            have hbl : ((p.drop 2).take m).length = m := by rw [List.length_take, List.length_drop]; omega
            have HCut := Lib.hid hcut
            have HBl := Lib.hid hbl
            have hcd : c - 2 ≥ m := by omega
            generalize (p.drop 2).take m = b at *
            clear hat hr hk hm hlen hcut hbl
            go_enter Try.func48, Try.ntmps48
            go_wp2
            go_quiet (fail)
            go_wp2
            go_ret3
            refine ⟨(Below.refl _ _).trans ⟨rfl, rfl, rfl, Nat.le_refl _, fun _ _ => rfl⟩, (fun e => by cases e), fun k' b' e => ?_⟩
            injection e with e
            injection e with e1 e2
            subst e1 e2
            exact ⟨partOf (some ⟨g, o, none⟩) c 2, c - 2, by rw [HBl.out]; rfl, by rw [HBl.out]; exact HCut.out, by rw [HBl.out]; exact hcd⟩
end Go.Proofs.Ytpggomekbahddaa
namespace Go.Proofs.Ytpggomekbahddaa
open Go.RowKit
set_option linter.unusedVariables false
namespace Fg
/-- Records that are whole, and the one that is begun. -/
abbrev Js := List (List Nat) × Option (List Nat)
/-- A fragment put behind the others; none: it can't be. -/
def jstep (s : Js) (k : Nat) (b : List Nat) : Option Js :=
  if k = 1 then some (s.1 ++ [b], none)
  else if k = 2 then some (s.1, some b)
  else match s.2 with
    | none => none
    | some x => if 8192 < x.length + b.length then none else if k = 3 then some (s.1, some (x ++ b)) else some (s.1 ++ [x ++ b], none)
end Fg
/-- What is laid of a row: its elements are laid for good; bytes that grow lie apart. -/
structure Tw (lim base : Nat) (a v : World) (A : Option Addr) (n cap : Nat) (vs : List Value) (out : List (List Nat)) (B : Option Addr) (c : Nat) (cur : List Nat) : Prop where
  le : lim ≤ base
  below : Below lim a v
  size : base ≤ v.heap.size
  row : OwnV v base 23 A n cap vs
  items : Items v (Cold base (Value.slice A n cap).ownBlock (Value.slice B cur.length c).ownBlock) vs out
  now : Own v base B cur.length c cur
  apart : (Value.slice B cur.length c).ownBlock = none ∨ (Value.slice B cur.length c).ownBlock ≠ (Value.slice A n cap).ownBlock
section
variable {lim base : Nat} {a v v' : World} {A A' B B' : Option Addr} {n cap cap' c c' m : Nat} {vs : List Value} {out : List (List Nat)} {cur news : List Nat}
theorem Tw.keep (h : Tw lim base a v A n cap vs out B c cur) (hb : Below v.heap.size v v') : Tw lim base a v' A n cap vs out B c cur :=
  ⟨h.le, h.below.trans (hb.mono (Nat.le_trans h.le h.size)), Nat.le_trans h.size hb.size, h.row.below hb, h.items.below hb, h.now.below hb, h.apart⟩
theorem Tw.alloc (h : Tw lim base a v A n cap vs out B c cur) (o : Obj) : Tw lim base a (v.alloc o) A n cap vs out B c cur := h.keep ((Below.refl _ _).alloc (Nat.le_refl _) o)
theorem Tw.drew (h : Tw lim base a v A n cap vs out B c cur) : Tw lim base a v.drew A n cap vs out B c cur := h.keep (Below.refl _ _).drew
/-- A store to a block ahead of all. -/
theorem Tw.far {p : Addr} (h : Tw lim base a v A n cap vs out B c cur) (h1 : lim ≤ p.block) (h2 : p.block < base) (u : Value) : Tw lim base a (v.setCell p u) A n cap vs out B c cur := by
  have hgr := grown_setCell v p u
  refine ⟨h.le, h.below.setCell h1 u, by simpa [World.setCell] using h.size, h.row.grown hgr (.inr fun g hg e => ?_), h.items.grown hgr (fun b hb hx e => ?_), h.now.grown hgr (.inr fun g hg e => ?_), h.apart⟩
  · injection hg with hg
    have := (h.row.blk _ e).1
    omega
  · injection e with e
    have := hx.1
    omega
  · injection hg with hg
    have := (h.now.blk _ e).1
    omega
theorem Tw.app (h : Tw lim base a v A n cap vs out B c cur) (hg : Grew v v' base B B' cur.length c (cur.length + m) c' (cur ++ news)) (hm : news.length = m) : Tw lim base a v' A n cap vs out B' c' (cur ++ news) := by
  have hl : (cur ++ news).length = cur.length + m := by rw [List.length_append, hm]
  have hbl := h.now.blk
  have hrl := h.row.blk
  have hle := h.le
  refine ⟨h.le, hg.below h.below (Nat.le_trans h.le h.size) (fun g e => by have := (hbl g e).1; omega), Nat.le_trans h.size hg.grew.size, h.row.grown hg.grew ?_, ?_, by rw [hl]; exact hg.own, ?_⟩
  · rcases h.apart with e | e
    · exact .inl e
    · exact .inr fun g e1 e2 => e (by rw [e1, e2])
  · have h1 := h.items.imp (Y := fun b => Cold base (Value.slice A n cap).ownBlock (Value.slice B' (cur ++ news).length c').ownBlock b ∧ some b ≠ (Value.slice B cur.length c).ownBlock) (fun b hb hx => ⟨⟨hx.1, hx.2.1, by
      rw [hl]
      rcases hg.blk with e | e
      · rw [e]; exact hx.2.2
      · rw [e]; intro e2; injection e2 with e2; omega⟩, hx.2.2⟩)
    exact (h1.grown hg.grew (fun b hb hx => hx.2)).imp fun b hb hx => hx.1
  · rw [hl]
    rcases hg.blk with e | e
    · rw [e]; exact h.apart
    · rw [e]
      refine .inr fun e2 => ?_
      have := (hrl _ e2.symm).2
      omega
theorem Tw.item (h : Tw lim base a v A n cap vs out B c cur) : Items v (fun b => base ≤ b ∧ some b ≠ (Value.slice A n cap).ownBlock) (vs ++ [.slice B cur.length c]) (out ++ [cur]) := by
  refine (h.items.imp fun b hb hx => ⟨hx.1, hx.2.1⟩).snoc ⟨B, c, rfl, h.now.rd, h.now.cap, ?_, fun b o e hl => ?_⟩
  · rcases h.now.2.2.2 with ⟨_, h0⟩ | ⟨g, c', cur', _, _, _, h1, h2, _⟩
    · omega
    · simp only [maxLen] at h2; omega
  · subst e
    have := h.now.blk b rfl
    refine ⟨this.1, ?_⟩
    rcases h.apart with e | e
    · cases e
    · exact e
theorem Tw.push (h : Tw lim base a v A n cap vs out B c cur) (hg : GrewV v v' base 23 A A' n cap (n + 1) cap' (vs ++ [.slice B cur.length c])) : Tw lim base a v' A' (n + 1) cap' (vs ++ [.slice B cur.length c]) (out ++ [cur]) none 0 [] := by
  have hrb := h.row.blk
  have hle := h.le
  refine ⟨h.le, hg.below h.below (Nat.le_trans h.le h.size) (fun g e => by have := (hrb g e).1; omega), Nat.le_trans h.size hg.grew.size, hg.own, ?_, Own.none_ _ _, .inl rfl⟩
  have h1 := h.item.imp (Y := fun b => Cold base (Value.slice A' (n + 1) cap').ownBlock (Value.slice none ([] : List Nat).length 0).ownBlock b ∧ some b ≠ (Value.slice A n cap).ownBlock) (fun b hb hx => ⟨⟨hx.1, by
      rcases hg.blk with e | e
      · rw [e]; exact hx.2
      · rw [e]; intro e2; injection e2 with e2; omega, fun e2 => by cases e2⟩, hx.2⟩)
  exact (h1.grown hg.grew (fun b hb hx => hx.2)).imp fun b hb hx => hx.1
/-- What was begun is dropped. -/
theorem Tw.drop (h : Tw lim base a v A n cap vs out B c cur) : Tw lim base a v A n cap vs out none 0 [] :=
  ⟨h.le, h.below, h.size, h.row, h.items.imp fun b hb hx => ⟨hx.1, hx.2.1, fun e => by cases e⟩, Own.none_ _ _, .inl rfl⟩
end
/-- Join's own struct stands in block j. -/
def JAt (a : World) (j : Nat) (s : Fg.Js) (v : World) : Prop :=
  ∃ (A : Option Addr) (n cap : Nat) (vs : List Value) (B : Option Addr) (c m : Nat),
    Holds v j [.slice A n cap, .bool s.2.isSome, .slice B m c] ∧ j < a.heap.size + 1 ∧ a.heap.size ≤ j ∧
      match s.2 with
      | none => Tw a.heap.size (j + 1) a v A n cap vs s.1 none 0 []
      | some cur => m = cur.length ∧ Tw a.heap.size (j + 1) a v A n cap vs s.1 B c cur
theorem JAt.keep {a v v' : World} {j : Nat} {s : Fg.Js} (h : JAt a j s v) (hb : Below v.heap.size v v') : JAt a j s v' := by
  obtain ⟨A, n, cap, vs, B, c, m, h1, h2, h3, h4⟩ := h
  refine ⟨A, n, cap, vs, B, c, m, h1.below hb, h2, h3, ?_⟩
  cases hs : s.2 with
  | none => rw [hs] at h4; exact h4.keep hb
  | some cur => rw [hs] at h4; exact ⟨h4.1, h4.2.keep hb⟩
theorem JAt.below {a v : World} {j : Nat} {s : Fg.Js} (h : JAt a j s v) : Below a.heap.size a v := by
  obtain ⟨A, n, cap, vs, B, c, m, h1, h2, h3, h4⟩ := h
  cases hs : s.2 with
  | none => rw [hs] at h4; exact h4.below
  | some cur => rw [hs] at h4; exact h4.2.below
/-- What is open, if anything. -/
theorem JAt.shut {a v : World} {j : Nat} {L : List (List Nat)} (h : JAt a j (L, none) v) : ∃ (A : Option Addr) (n cap : Nat) (vs : List Value) (B : Option Addr) (c m : Nat), Holds v j [.slice A n cap, .bool false, .slice B m c] ∧ a.heap.size = j ∧ Tw a.heap.size (j + 1) a v A n cap vs L none 0 [] := by
  obtain ⟨A, n, cap, vs, B, c, m, h1, h2, h3, h4⟩ := h
  exact ⟨A, n, cap, vs, B, c, m, h1, by omega, h4⟩
theorem JAt.opened {a v : World} {j : Nat} {L : List (List Nat)} {cur : List Nat} (h : JAt a j (L, some cur) v) : ∃ (A : Option Addr) (n cap : Nat) (vs : List Value) (B : Option Addr) (c : Nat), Holds v j [.slice A n cap, .bool true, .slice B cur.length c] ∧ a.heap.size = j ∧ Tw a.heap.size (j + 1) a v A n cap vs L B c cur := by
  obtain ⟨A, n, cap, vs, B, c, m, h1, h2, h3, rfl, h4⟩ := h
  exact ⟨A, n, cap, vs, B, c, h1, by omega, h4⟩
/-- Whatever is open: the row, and that it may be dropped. -/
theorem JAt.any {a v : World} {j : Nat} {s : Fg.Js} (h : JAt a j s v) : ∃ (A : Option Addr) (n cap : Nat) (vs : List Value) (B : Option Addr) (c m : Nat), Holds v j [.slice A n cap, .bool s.2.isSome, .slice B m c] ∧ a.heap.size = j ∧ Tw a.heap.size (j + 1) a v A n cap vs s.1 none 0 [] := by
  obtain ⟨A, n, cap, vs, B, c, m, h1, h2, h3, h4⟩ := h
  refine ⟨A, n, cap, vs, B, c, m, h1, by omega, ?_⟩
  cases hs : s.2 with
  | none => rw [hs] at h4; exact h4
  | some cur => rw [hs] at h4; exact h4.2.drop
def GivesGo (a : World) (j : Nat) (s : Fg.Js) (b : List Nat) (e : Ending) (w' : World) : Prop :=
  match s.2 with
  | none => e = .returned (.bool false) ∧ JAt a j s w'
  | some x => if 8192 < x.length + b.length then e = .returned (.bool false) ∧ JAt a j s w' else e = .returned (.bool true) ∧ JAt a j (s.1, some (x ++ b)) w'
set_option maxRecDepth 100000 in
set_option maxHeartbeats 2000000 in
theorem goOn_any (a : World) (j : Nat) (s : Fg.Js) (A : Option Addr) (n c : Nat) (b : List Nat) (w : World) (hJ : JAt a j s w) (hb : Rd w A n b) (hn : n ≤ 108) (hx : ∀ x, s.2 = some x → x.length ≤ 8192) :
    Calls Try.prog 49 #[.pointer (some ⟨j, 0, none⟩), .slice A n c] w (GivesGo a j s b) := by
  obtain ⟨L, o⟩ := s
  have hbl := hb.1
  cases o with
  | none =>
    obtain ⟨A1, n1, cap1, vs, B, c1, m, hH, hj, hT⟩ := hJ.shut
    have z1 := hH.at_ 1 rfl
    have HJ := Lib.hid hJ
    clear hJ hH hj hT hb hx hbl
    go_enter Try.func49, Try.ntmps49
    go_wp2
    go_ret
    exact ⟨rfl, HJ.out⟩
  | some x =>
    obtain ⟨A1, n1, cap1, vs, B, c1, hH, hj, hT⟩ := hJ.opened
    have z1 := hH.at_ 1 rfl
    have z2 := hH.at_ 2 rfl
    have hx8 := hx x rfl
    by_cases hbig : 8192 < x.length + n
    · have hbi : (8192 : Int) < (x.length : Int) + (n : Int) := by omega
      have hfin : GivesGo a j (L, some x) b (.returned (.bool false)) w := by
        show if 8192 < x.length + b.length then _ else _
        rw [if_pos (by omega)]
        exact ⟨rfl, hJ⟩
      have HFin := Lib.hid hfin
      clear hJ hH hj hT hb hx hbl hfin
      go_enter Try.func49, Try.ntmps49
      go_wp2
      go_ret
      exact HFin.out
    · have hbi : ¬ (8192 : Int) < (x.length : Int) + (n : Int) := by omega
      have hno : ¬ 8192 < x.length + b.length := by omega
      have hT1 := Lib.hid hT
      have hown := hT.now
      have hba := hT.size
      have hl9 : x.length + n ≤ 100000000 := by omega
      have hH1 := Lib.hid hH
      have HBl := Lib.hid hbl
      have HJ := Lib.hid hj
      clear hJ hH hj hT hx hbl
      go_enter Try.func49, Try.ntmps49
      go_wp2_with (first | (at_builtin; refine wpList_appB rfl (.tmp 25) (.tmp 26) rfl rfl hown A n c b rfl hb hl9 hba ?_; intro A3 c3 v3 hg3; have hT3 := hT1.out.app hg3 HBl.out; have hH3 := hH1.out.gr hg3.grew (fun e => by have := (hown.blk j e.symm).1; omega); have y2 := hH3.at_ 2 rfl; have yf := hH3.2.2 2; have yl := hH3.1; have HT3 := Lib.hid hT3; have HH3 := Lib.hid hH3; clear hT3 hH3 hg3))
      go_ret
      show if 8192 < x.length + b.length then _ else _
      rw [if_neg hno]
      refine ⟨rfl, A1, n1, cap1, vs, A3, c3, (x ++ b).length, ?_, by have := HJ.out; omega, by have := HJ.out; omega, rfl, HT3.out.far (p := ⟨j, 2, none⟩) (by have := HJ.out; show a.heap.size ≤ j; omega) (by show j < j + 1; omega) _⟩
      have := HH3.out.set 2 (.slice A3 (x.length + n) c3) (by simp)
      rw [List.length_append, HBl.out]
      exact this
end Go.Proofs.Ytpggomekbahddaa
namespace Go.Proofs.Ytpggomekbahddaa
open Go.RowKit
set_option linter.unusedVariables false
/-- By a goto to label l: J l; else Q. -/
def Exit.jumps (J : Nat → Act → World → Prop) (Q : Exit → Act → World → Prop) : Exit → Act → World → Prop
  | .goto l, a, w => J l a w
  | e, a, w => Q e a w
theorem skip_seq {P : Program} {a : Act} {w : World} {Q : Exit → Act → World → Prop} {c : Code} (h : c.wp P Q a w) : (Code.skip.seq c).wp P Q a w := by
  refine wp_seq ?_
  exact wp_skip h
theorem wp_scope5 {P : Program} {a : Act} {w : World} {Q : Exit → Act → World → Prop} {c r0 r1 r2 r3 r4 : Code} (J : Nat → Act → World → Prop) (μ : Nat → Act → World → Nat)
    (h0 : findLabel c 0 = some (Code.skip.seq r0)) (h1 : findLabel c 1 = some r1) (h2 : findLabel c 2 = some r2) (h3 : findLabel c 3 = some r3) (h4 : findLabel c 4 = some r4) (hJ : ∀ l a w, J l a w → l ≤ 4)
    (first : (∀ a w, J 0 a w → r0.wp P (Exit.jumps J Q) a w) → c.wp P (Exit.jumps J Q) a w)
    (p0 : ∀ a w, J 0 a w → r0.wp P (Exit.jumps (fun l' a' w' => J l' a' w' ∧ μ l' a' w' < μ 0 a w) Q) a w)
    (p1 : ∀ a w, J 1 a w → r1.wp P (Exit.jumps (fun l' a' w' => J l' a' w' ∧ μ l' a' w' < μ 1 a w) Q) a w)
    (p2 : ∀ a w, J 2 a w → r2.wp P (Exit.jumps (fun l' a' w' => J l' a' w' ∧ μ l' a' w' < μ 2 a w) Q) a w)
    (p3 : ∀ a w, J 3 a w → r3.wp P (Exit.jumps (fun l' a' w' => J l' a' w' ∧ μ l' a' w' < μ 3 a w) Q) a w)
    (p4 : ∀ a w, J 4 a w → r4.wp P (Exit.jumps (fun l' a' w' => J l' a' w' ∧ μ l' a' w' < μ 4 a w) Q) a w) : (Code.scope c).wp P Q a w := by
  have first := first (fun a w hj => Code.wp_mono (fun e a w h => by cases e <;> first | exact h | exact h.1) (p0 a w hj))
  have p0 := fun a w hj => skip_seq (p0 a w hj)
  intro b k cs
  have hall : ∀ l a w, J l a w → ∃ r, findLabel c l = some r ∧ r.wp P (Exit.jumps (fun l' a' w' => J l' a' w' ∧ μ l' a' w' < μ l a w) Q) a w := by
    intro l a w hj
    have := hJ l a w hj
    rcases (show l = 0 ∨ l = 1 ∨ l = 2 ∨ l = 3 ∨ l = 4 by omega) with rfl | rfl | rfl | rfl | rfl
    · exact ⟨_, h0, p0 a w hj⟩
    · exact ⟨r1, h1, p1 a w hj⟩
    · exact ⟨r2, h2, p2 a w hj⟩
    · exact ⟨r3, h3, p3 a w hj⟩
    · exact ⟨r4, h4, p4 a w hj⟩
  have key : ∀ n l a w, μ l a w = n → J l a w → ∀ r, findLabel c l = some r → ∃ e a' w', Q e a' w' ∧ Arrives P (lone (b.at a (.code r :: .inScope c :: k)) cs w) b k cs e a' w' := by
    intro n
    induction n using Nat.strongRecOn with
    | _ n ih =>
      intro l a w hn hj r hr
      obtain ⟨r', hr', hw⟩ := hall l a w hj
      rw [hr] at hr'
      injection hr' with hr'
      subst hr'
      obtain ⟨e, a₁, w₁, hq, harr⟩ := hw b (.inScope c :: k) cs
      cases e with
      | normal => exact ⟨.normal, a₁, w₁, hq, Steps.trans harr (.one step_inScope)⟩
      | exit id => exact ⟨.exit id, a₁, w₁, hq, fun k' hk => harr k' (by simp [exitTo, hk])⟩
      | goto l' =>
        obtain ⟨hj', hlt⟩ := hq
        obtain ⟨r2', hr2', _⟩ := hall l' a₁ w₁ hj'
        obtain ⟨e₂, a₂, w₂, hq₂, harr₂⟩ := ih _ (by omega) l' a₁ w₁ rfl hj' r2' hr2'
        exact ⟨e₂, a₂, w₂, hq₂, .of_steps (harr _ (by simp [gotoIn, hr2'])) harr₂⟩
      | ret => exact ⟨_, a₁, w₁, hq, harr⟩
      | panic ch => exact ⟨_, a₁, w₁, hq, harr⟩
      | outgrown => exact ⟨_, a₁, w₁, hq, harr⟩
  obtain ⟨e, a₁, w₁, hq, harr⟩ := first b (.inScope c :: k) cs
  cases e with
  | normal => exact ⟨.normal, a₁, w₁, hq, .head step_scope (Steps.trans harr (.one step_inScope))⟩
  | exit id => exact ⟨.exit id, a₁, w₁, hq, fun k' hk => .head step_scope (harr k' (by simp [exitTo, hk]))⟩
  | goto l' =>
    obtain ⟨r', hr', _⟩ := hall l' a₁ w₁ hq
    obtain ⟨e₂, a₂, w₂, hq₂, harr₂⟩ := key _ l' a₁ w₁ rfl hq r' hr'
    exact ⟨e₂, a₂, w₂, hq₂, .of_steps (.head step_scope (harr _ (by simp [gotoIn, hr']))) harr₂⟩
  | ret => exact ⟨_, a₁, w₁, hq, .of_steps (.one step_scope) harr⟩
  | panic ch => exact ⟨_, a₁, w₁, hq, .of_steps (.one step_scope) harr⟩
  | outgrown => exact ⟨_, a₁, w₁, hq, .of_steps (.one step_scope) harr⟩
theorem arr_range (t : Array Value) (n : Nat) (h : t.size = n) : t = ((List.range n).map fun i => t.getD i undef).toArray := by
  apply Array.ext
  · simp [h]
  · intro i h1 h2
    simp [Array.getD, h1]
set_option maxRecDepth 100000 in
theorem act84 (a : Act) (h : a.tmps.size = 84) (hd : a.defers = []) : ∃ u : Nat → Value, a = { tmps := #[u 0, u 1, u 2, u 3, u 4, u 5, u 6, u 7, u 8, u 9, u 10, u 11, u 12, u 13, u 14, u 15, u 16, u 17, u 18, u 19, u 20, u 21, u 22, u 23, u 24, u 25, u 26, u 27, u 28, u 29, u 30, u 31, u 32, u 33, u 34, u 35, u 36, u 37, u 38, u 39, u 40, u 41, u 42, u 43, u 44, u 45, u 46, u 47, u 48, u 49, u 50, u 51, u 52, u 53, u 54, u 55, u 56, u 57, u 58, u 59, u 60, u 61, u 62, u 63, u 64, u 65, u 66, u 67, u 68, u 69, u 70, u 71, u 72, u 73, u 74, u 75, u 76, u 77, u 78, u 79, u 80, u 81, u 82, u 83], defers := [] } ∧ ∀ i, u i = a.tmps.getD i undef := by
  refine ⟨fun i => a.tmps.getD i undef, ?_, fun i => rfl⟩
  have e := arr_range a.tmps 84 h
  obtain ⟨t, d⟩ := a
  dsimp at e hd
  subst hd
  conv => lhs; rw [e]
  rfl
namespace Fg
def runF : Nat → List Nat → Js → Option Js
  | 0, _, _ => none
  | f + 1, p, s =>
    if p = [] then some s else match frag1 p with
      | none => none
      | some (k, b) => match jstep s k b with
        | none => none
        | some s' => runF f (p.drop (2 + b.length)) s'
/-- All fragments of a payload, one behind the other. -/
def run (p : List Nat) (s : Js) : Option Js := runF (p.length + 1) p s
theorem runF_fuel {f : Nat} {p : List Nat} {s : Js} (h : p.length < f) : runF f p s = run p s := by
  unfold run
  induction f using Nat.strongRecOn generalizing p s with
  | _ f ih =>
    match f, h with
    | f + 1, h =>
      unfold runF
      by_cases e : p = []
      · rw [if_pos e, if_pos e]
      · rw [if_neg e, if_neg e]
        cases hf : frag1 p with
        | none => rfl
        | some kb =>
          obtain ⟨k, b⟩ := kb
          dsimp only
          cases hs : jstep s k b with
          | none => rfl
          | some s' =>
            dsimp only
            have hb := frag1_some hf
            have hl : (p.drop (2 + b.length)).length < p.length := by rw [List.length_drop]; omega
            rw [ih f (by omega) (by omega)]
            by_cases e2 : p.length = f
            · rw [e2, ih f (by omega) (by omega)]
            · rw [ih p.length (by omega) hl]
theorem run_nil (s : Js) : run [] s = some s := rfl
theorem run_none {p : List Nat} {s : Js} (h : p ≠ []) (hf : frag1 p = none) : run p s = none := by
  unfold run runF; rw [if_neg h, hf]
theorem run_step {p : List Nat} {s : Js} {k : Nat} {b : List Nat} (hf : frag1 p = some (k, b)) : run p s = match jstep s k b with | none => none | some s' => run (p.drop (2 + b.length)) s' := by
  have hb := frag1_some hf
  have hp : p ≠ [] := by intro e; rw [e] at hb; simp at hb
  conv => lhs; unfold run runF
  rw [if_neg hp, hf]
  dsimp only
  cases jstep s k b with
  | none => rfl
  | some s' =>
    dsimp only
    rw [runF_fuel (by rw [List.length_drop]; omega)]
/-- What may be begun is not too long. -/
def JFit (s : Js) : Prop := ∀ x, s.2 = some x → x.length ≤ 8192
theorem JFit.step {s s' : Js} {k : Nat} {b : List Nat} (hb : b.length ≤ 106) (h : jstep s k b = some s') : JFit s' := by
  unfold jstep at h
  by_cases h1 : k = 1
  · rw [if_pos h1] at h; injection h with h; subst h; intro x e; cases e
  · rw [if_neg h1] at h
    by_cases h2 : k = 2
    · rw [if_pos h2] at h; injection h with h; subst h; intro x e; injection e with e; subst e; omega
    · rw [if_neg h2] at h
      cases hs : s.2 with
      | none => rw [hs] at h; cases h
      | some y =>
        rw [hs] at h
        dsimp only at h
        by_cases h8 : 8192 < y.length + b.length
        · rw [if_pos h8] at h; cases h
        · rw [if_neg h8] at h
          by_cases h3 : k = 3
          · rw [if_pos h3] at h; injection h with h; subst h; intro x e; injection e with e; subst e; rw [List.length_append]; omega
          · rw [if_neg h3] at h; injection h with h; subst h; intro x e; cases e
theorem jstep_many {s s' : Js} {k : Nat} {b : List Nat} (h : jstep s k b = some s') : ∃ t, s'.1 = s.1 ++ t ∧ t.length ≤ 1 := by
  unfold jstep at h
  by_cases h1 : k = 1
  · rw [if_pos h1] at h; injection h with h; subst h; exact ⟨[b], rfl, Nat.le_refl _⟩
  · rw [if_neg h1] at h
    by_cases h2 : k = 2
    · rw [if_pos h2] at h; injection h with h; subst h; exact ⟨[], by simp, by simp⟩
    · rw [if_neg h2] at h
      cases hs : s.2 with
      | none => rw [hs] at h; cases h
      | some y =>
        rw [hs] at h
        dsimp only at h
        by_cases h8 : 8192 < y.length + b.length
        · rw [if_pos h8] at h; cases h
        · rw [if_neg h8] at h
          by_cases h3 : k = 3
          · rw [if_pos h3] at h; injection h with h; subst h; exact ⟨[], by simp, by simp⟩
          · rw [if_neg h3] at h; injection h with h; subst h; exact ⟨[y ++ b], rfl, Nat.le_refl _⟩
/-- A payload put behind others. -/
def jpay (s : Js) (p : List Nat) : Option Js := if 108 < p.length then none else run p s
end Fg
end Go.Proofs.Ytpggomekbahddaa
namespace Go.Proofs.Ytpggomekbahddaa
open Go.RowKit
set_option linter.unusedVariables false
theorem wp_scope2 {P : Program} {a : Act} {w : World} {Q : Exit → Act → World → Prop} {c r0 r1 : Code} (J : Nat → Act → World → Prop) (μ : Nat → Act → World → Nat)
    (h1 : findLabel c 1 = some (Code.skip.seq r1)) (h0 : findLabel c 0 = some r0) (hJ : ∀ l a w, J l a w → l ≤ 1)
    (first : (∀ a w, J 1 a w → r1.wp P (Exit.jumps J Q) a w) → c.wp P (Exit.jumps J Q) a w)
    (p1 : ∀ a w, J 1 a w → r1.wp P (Exit.jumps (fun l' a' w' => J l' a' w' ∧ μ l' a' w' < μ 1 a w) Q) a w)
    (p0 : ∀ a w, J 0 a w → r0.wp P (Exit.jumps (fun l' a' w' => J l' a' w' ∧ μ l' a' w' < μ 0 a w) Q) a w) : (Code.scope c).wp P Q a w := by
  have first := first (fun a w hj => Code.wp_mono (fun e a w h => by cases e <;> first | exact h | exact h.1) (p1 a w hj))
  have p1 := fun a w hj => skip_seq (p1 a w hj)
  intro b k cs
  have hall : ∀ l a w, J l a w → ∃ r, findLabel c l = some r ∧ r.wp P (Exit.jumps (fun l' a' w' => J l' a' w' ∧ μ l' a' w' < μ l a w) Q) a w := by
    intro l a w hj
    have := hJ l a w hj
    rcases (show l = 0 ∨ l = 1 by omega) with rfl | rfl
    · exact ⟨r0, h0, p0 a w hj⟩
    · exact ⟨_, h1, p1 a w hj⟩
  have key : ∀ n l a w, μ l a w = n → J l a w → ∀ r, findLabel c l = some r → ∃ e a' w', Q e a' w' ∧ Arrives P (lone (b.at a (.code r :: .inScope c :: k)) cs w) b k cs e a' w' := by
    intro n
    induction n using Nat.strongRecOn with
    | _ n ih =>
      intro l a w hn hj r hr
      obtain ⟨r', hr', hw⟩ := hall l a w hj
      rw [hr] at hr'
      injection hr' with hr'
      subst hr'
      obtain ⟨e, a₁, w₁, hq, harr⟩ := hw b (.inScope c :: k) cs
      cases e with
      | normal => exact ⟨.normal, a₁, w₁, hq, Steps.trans harr (.one step_inScope)⟩
      | exit id => exact ⟨.exit id, a₁, w₁, hq, fun k' hk => harr k' (by simp [exitTo, hk])⟩
      | goto l' =>
        obtain ⟨hj', hlt⟩ := hq
        obtain ⟨r2', hr2', _⟩ := hall l' a₁ w₁ hj'
        obtain ⟨e₂, a₂, w₂, hq₂, harr₂⟩ := ih _ (by omega) l' a₁ w₁ rfl hj' r2' hr2'
        exact ⟨e₂, a₂, w₂, hq₂, .of_steps (harr _ (by simp [gotoIn, hr2'])) harr₂⟩
      | ret => exact ⟨_, a₁, w₁, hq, harr⟩
      | panic ch => exact ⟨_, a₁, w₁, hq, harr⟩
      | outgrown => exact ⟨_, a₁, w₁, hq, harr⟩
  obtain ⟨e, a₁, w₁, hq, harr⟩ := first b (.inScope c :: k) cs
  cases e with
  | normal => exact ⟨.normal, a₁, w₁, hq, .head step_scope (Steps.trans harr (.one step_inScope))⟩
  | exit id => exact ⟨.exit id, a₁, w₁, hq, fun k' hk => .head step_scope (harr k' (by simp [exitTo, hk]))⟩
  | goto l' =>
    obtain ⟨r', hr', _⟩ := hall l' a₁ w₁ hq
    obtain ⟨e₂, a₂, w₂, hq₂, harr₂⟩ := key _ l' a₁ w₁ rfl hq r' hr'
    exact ⟨e₂, a₂, w₂, hq₂, .of_steps (.head step_scope (harr _ (by simp [gotoIn, hr']))) harr₂⟩
  | ret => exact ⟨_, a₁, w₁, hq, .of_steps (.one step_scope) harr⟩
  | panic ch => exact ⟨_, a₁, w₁, hq, .of_steps (.one step_scope) harr⟩
  | outgrown => exact ⟨_, a₁, w₁, hq, .of_steps (.one step_scope) harr⟩
set_option maxRecDepth 100000 in
theorem act68 (a : Act) (h : a.tmps.size = 68) (hd : a.defers = []) : ∃ u : Nat → Value, a = { tmps := #[u 0, u 1, u 2, u 3, u 4, u 5, u 6, u 7, u 8, u 9, u 10, u 11, u 12, u 13, u 14, u 15, u 16, u 17, u 18, u 19, u 20, u 21, u 22, u 23, u 24, u 25, u 26, u 27, u 28, u 29, u 30, u 31, u 32, u 33, u 34, u 35, u 36, u 37, u 38, u 39, u 40, u 41, u 42, u 43, u 44, u 45, u 46, u 47, u 48, u 49, u 50, u 51, u 52, u 53, u 54, u 55, u 56, u 57, u 58, u 59, u 60, u 61, u 62, u 63, u 64, u 65, u 66, u 67], defers := [] } ∧ ∀ i, u i = a.tmps.getD i undef := by
  refine ⟨fun i => a.tmps.getD i undef, ?_, fun i => rfl⟩
  have e := arr_range a.tmps 68 h
  obtain ⟨t, d⟩ := a
  dsimp at e hd
  subst hd
  conv => lhs; rw [e]
  rfl
end Go.Proofs.Ytpggomekbahddaa
