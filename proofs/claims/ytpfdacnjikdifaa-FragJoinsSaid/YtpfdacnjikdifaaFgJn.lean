/- Records in memory while Join puts them together; goOn. -/
import Derived.Test.YtpfdacnjikdifaaFgFrag
namespace Go.Proofs.Ytpfdacnjikdifaa
open Go.RowKit
set_option linter.unusedVariables false
namespace Fg
/-- Records that are whole, and the one that is begun. -/
abbrev Js := List (List Nat) × Option (List Nat)
/-- A fragment put behind the others; none: it can't be. -/
def jstep (s : Js) (k : Nat) (b : List Nat) : Option Js :=
  if k = 1 then some (s.1 ++ [b], none)
  else if k = 2 then some (s.1, some b)
  else match s.2 with
    | none => none
    | some x => if 8192 < x.length + b.length then none else if k = 3 then some (s.1, some (x ++ b)) else some (s.1 ++ [x ++ b], none)
end Fg
/-- What is laid of a row: its elements are laid for good; bytes that grow lie apart. -/
structure Tw (lim base : Nat) (a v : World) (A : Option Addr) (n cap : Nat) (vs : List Value) (out : List (List Nat)) (B : Option Addr) (c : Nat) (cur : List Nat) : Prop where
  le : lim ≤ base
  below : Below lim a v
  size : base ≤ v.heap.size
  row : OwnV v base 29 A n cap vs
  items : Items v (Cold base (Value.slice A n cap).ownBlock (Value.slice B cur.length c).ownBlock) vs out
  now : Own v base B cur.length c cur
  apart : (Value.slice B cur.length c).ownBlock = none ∨ (Value.slice B cur.length c).ownBlock ≠ (Value.slice A n cap).ownBlock
section
variable {lim base : Nat} {a v v' : World} {A A' B B' : Option Addr} {n cap cap' c c' m : Nat} {vs : List Value} {out : List (List Nat)} {cur news : List Nat}
theorem Tw.keep (h : Tw lim base a v A n cap vs out B c cur) (hb : Below v.heap.size v v') : Tw lim base a v' A n cap vs out B c cur :=
  ⟨h.le, h.below.trans (hb.mono (Nat.le_trans h.le h.size)), Nat.le_trans h.size hb.size, h.row.below hb, h.items.below hb, h.now.below hb, h.apart⟩
theorem Tw.alloc (h : Tw lim base a v A n cap vs out B c cur) (o : Obj) : Tw lim base a (v.alloc o) A n cap vs out B c cur := h.keep ((Below.refl _ _).alloc (Nat.le_refl _) o)
theorem Tw.drew (h : Tw lim base a v A n cap vs out B c cur) : Tw lim base a v.drew A n cap vs out B c cur := h.keep (Below.refl _ _).drew
/-- A store to a block ahead of all. -/
theorem Tw.far {p : Addr} (h : Tw lim base a v A n cap vs out B c cur) (h1 : lim ≤ p.block) (h2 : p.block < base) (u : Value) : Tw lim base a (v.setCell p u) A n cap vs out B c cur := by
  have hgr := grown_setCell v p u
  refine ⟨h.le, h.below.setCell h1 u, by simpa [World.setCell] using h.size, h.row.grown hgr (.inr fun g hg e => ?_), h.items.grown hgr (fun b hb hx e => ?_), h.now.grown hgr (.inr fun g hg e => ?_), h.apart⟩
  · injection hg with hg
    have := (h.row.blk _ e).1
    omega
  · injection e with e
    have := hx.1
    omega
  · injection hg with hg
    have := (h.now.blk _ e).1
    omega
theorem Tw.app (h : Tw lim base a v A n cap vs out B c cur) (hg : Grew v v' base B B' cur.length c (cur.length + m) c' (cur ++ news)) (hm : news.length = m) : Tw lim base a v' A n cap vs out B' c' (cur ++ news) := by
  have hl : (cur ++ news).length = cur.length + m := by rw [List.length_append, hm]
  have hbl := h.now.blk
  have hrl := h.row.blk
  have hle := h.le
  refine ⟨h.le, hg.below h.below (Nat.le_trans h.le h.size) (fun g e => by have := (hbl g e).1; omega), Nat.le_trans h.size hg.grew.size, h.row.grown hg.grew ?_, ?_, by rw [hl]; exact hg.own, ?_⟩
  · rcases h.apart with e | e
    · exact .inl e
    · exact .inr fun g e1 e2 => e (by rw [e1, e2])
  · have h1 := h.items.imp (Y := fun b => Cold base (Value.slice A n cap).ownBlock (Value.slice B' (cur ++ news).length c').ownBlock b ∧ some b ≠ (Value.slice B cur.length c).ownBlock) (fun b hb hx => ⟨⟨hx.1, hx.2.1, by
      rw [hl]
      rcases hg.blk with e | e
      · rw [e]; exact hx.2.2
      · rw [e]; intro e2; injection e2 with e2; omega⟩, hx.2.2⟩)
    exact (h1.grown hg.grew (fun b hb hx => hx.2)).imp fun b hb hx => hx.1
  · rw [hl]
    rcases hg.blk with e | e
    · rw [e]; exact h.apart
    · rw [e]
      refine .inr fun e2 => ?_
      have := (hrl _ e2.symm).2
      omega
theorem Tw.item (h : Tw lim base a v A n cap vs out B c cur) : Items v (fun b => base ≤ b ∧ some b ≠ (Value.slice A n cap).ownBlock) (vs ++ [.slice B cur.length c]) (out ++ [cur]) := by
  refine (h.items.imp fun b hb hx => ⟨hx.1, hx.2.1⟩).snoc ⟨B, c, rfl, h.now.rd, h.now.cap, ?_, fun b o e hl => ?_⟩
  · rcases h.now.2.2.2 with ⟨_, h0⟩ | ⟨g, c', cur', _, _, _, h1, h2, _⟩
    · omega
    · simp only [maxLen] at h2; omega
  · subst e
    have := h.now.blk b rfl
    refine ⟨this.1, ?_⟩
    rcases h.apart with e | e
    · cases e
    · exact e
theorem Tw.push (h : Tw lim base a v A n cap vs out B c cur) (hg : GrewV v v' base 29 A A' n cap (n + 1) cap' (vs ++ [.slice B cur.length c])) : Tw lim base a v' A' (n + 1) cap' (vs ++ [.slice B cur.length c]) (out ++ [cur]) none 0 [] := by
  have hrb := h.row.blk
  have hle := h.le
  refine ⟨h.le, hg.below h.below (Nat.le_trans h.le h.size) (fun g e => by have := (hrb g e).1; omega), Nat.le_trans h.size hg.grew.size, hg.own, ?_, Own.none_ _ _, .inl rfl⟩
  have h1 := h.item.imp (Y := fun b => Cold base (Value.slice A' (n + 1) cap').ownBlock (Value.slice none ([] : List Nat).length 0).ownBlock b ∧ some b ≠ (Value.slice A n cap).ownBlock) (fun b hb hx => ⟨⟨hx.1, by
      rcases hg.blk with e | e
      · rw [e]; exact hx.2
      · rw [e]; intro e2; injection e2 with e2; omega, fun e2 => by cases e2⟩, hx.2⟩)
  exact (h1.grown hg.grew (fun b hb hx => hx.2)).imp fun b hb hx => hx.1
/-- What was begun is dropped. -/
theorem Tw.drop (h : Tw lim base a v A n cap vs out B c cur) : Tw lim base a v A n cap vs out none 0 [] :=
  ⟨h.le, h.below, h.size, h.row, h.items.imp fun b hb hx => ⟨hx.1, hx.2.1, fun e => by cases e⟩, Own.none_ _ _, .inl rfl⟩
end
/-- Join's own struct stands in block j. -/
def JAt (a : World) (j : Nat) (s : Fg.Js) (v : World) : Prop :=
  ∃ (A : Option Addr) (n cap : Nat) (vs : List Value) (B : Option Addr) (c m : Nat),
    Holds v j [.slice A n cap, .bool s.2.isSome, .slice B m c] ∧ j < a.heap.size + 1 ∧ a.heap.size ≤ j ∧
      match s.2 with
      | none => Tw a.heap.size (j + 1) a v A n cap vs s.1 none 0 []
      | some cur => m = cur.length ∧ Tw a.heap.size (j + 1) a v A n cap vs s.1 B c cur
theorem JAt.keep {a v v' : World} {j : Nat} {s : Fg.Js} (h : JAt a j s v) (hb : Below v.heap.size v v') : JAt a j s v' := by
  obtain ⟨A, n, cap, vs, B, c, m, h1, h2, h3, h4⟩ := h
  refine ⟨A, n, cap, vs, B, c, m, h1.below hb, h2, h3, ?_⟩
  cases hs : s.2 with
  | none => rw [hs] at h4; exact h4.keep hb
  | some cur => rw [hs] at h4; exact ⟨h4.1, h4.2.keep hb⟩
theorem JAt.below {a v : World} {j : Nat} {s : Fg.Js} (h : JAt a j s v) : Below a.heap.size a v := by
  obtain ⟨A, n, cap, vs, B, c, m, h1, h2, h3, h4⟩ := h
  cases hs : s.2 with
  | none => rw [hs] at h4; exact h4.below
  | some cur => rw [hs] at h4; exact h4.2.below
/-- What is open, if anything. -/
theorem JAt.shut {a v : World} {j : Nat} {L : List (List Nat)} (h : JAt a j (L, none) v) : ∃ (A : Option Addr) (n cap : Nat) (vs : List Value) (B : Option Addr) (c m : Nat), Holds v j [.slice A n cap, .bool false, .slice B m c] ∧ a.heap.size = j ∧ Tw a.heap.size (j + 1) a v A n cap vs L none 0 [] := by
  obtain ⟨A, n, cap, vs, B, c, m, h1, h2, h3, h4⟩ := h
  exact ⟨A, n, cap, vs, B, c, m, h1, by omega, h4⟩
theorem JAt.opened {a v : World} {j : Nat} {L : List (List Nat)} {cur : List Nat} (h : JAt a j (L, some cur) v) : ∃ (A : Option Addr) (n cap : Nat) (vs : List Value) (B : Option Addr) (c : Nat), Holds v j [.slice A n cap, .bool true, .slice B cur.length c] ∧ a.heap.size = j ∧ Tw a.heap.size (j + 1) a v A n cap vs L B c cur := by
  obtain ⟨A, n, cap, vs, B, c, m, h1, h2, h3, rfl, h4⟩ := h
  exact ⟨A, n, cap, vs, B, c, h1, by omega, h4⟩
/-- Whatever is open: the row, and that it may be dropped. -/
theorem JAt.any {a v : World} {j : Nat} {s : Fg.Js} (h : JAt a j s v) : ∃ (A : Option Addr) (n cap : Nat) (vs : List Value) (B : Option Addr) (c m : Nat), Holds v j [.slice A n cap, .bool s.2.isSome, .slice B m c] ∧ a.heap.size = j ∧ Tw a.heap.size (j + 1) a v A n cap vs s.1 none 0 [] := by
  obtain ⟨A, n, cap, vs, B, c, m, h1, h2, h3, h4⟩ := h
  refine ⟨A, n, cap, vs, B, c, m, h1, by omega, ?_⟩
  cases hs : s.2 with
  | none => rw [hs] at h4; exact h4
  | some cur => rw [hs] at h4; exact h4.2.drop
def GivesGo (a : World) (j : Nat) (s : Fg.Js) (b : List Nat) (e : Ending) (w' : World) : Prop :=
  match s.2 with
  | none => e = .returned (.bool false) ∧ JAt a j s w'
  | some x => if 8192 < x.length + b.length then e = .returned (.bool false) ∧ JAt a j s w' else e = .returned (.bool true) ∧ JAt a j (s.1, some (x ++ b)) w'
set_option maxRecDepth 100000 in
set_option maxHeartbeats 2000000 in
theorem goOn_any (a : World) (j : Nat) (s : Fg.Js) (A : Option Addr) (n c : Nat) (b : List Nat) (w : World) (hJ : JAt a j s w) (hb : Rd w A n b) (hn : n ≤ 108) (hx : ∀ x, s.2 = some x → x.length ≤ 8192) :
    Calls Try.prog 28 #[.pointer (some ⟨j, 0, none⟩), .slice A n c] w (GivesGo a j s b) := by
  obtain ⟨L, o⟩ := s
  have hbl := hb.1
  cases o with
  | none =>
    obtain ⟨A1, n1, cap1, vs, B, c1, m, hH, hj, hT⟩ := hJ.shut
    have z1 := hH.at_ 1 rfl
    have HJ := Lib.hid hJ
    clear hJ hH hj hT hb hx hbl
    go_enter Try.func28, Try.ntmps28
    go_wp2
    go_ret
    exact ⟨rfl, HJ.out⟩
  | some x =>
    obtain ⟨A1, n1, cap1, vs, B, c1, hH, hj, hT⟩ := hJ.opened
    have z1 := hH.at_ 1 rfl
    have z2 := hH.at_ 2 rfl
    have hx8 := hx x rfl
    by_cases hbig : 8192 < x.length + n
    · have hbi : (8192 : Int) < (x.length : Int) + (n : Int) := by omega
      have hfin : GivesGo a j (L, some x) b (.returned (.bool false)) w := by
        show if 8192 < x.length + b.length then _ else _
        rw [if_pos (by omega)]
        exact ⟨rfl, hJ⟩
      have HFin := Lib.hid hfin
      clear hJ hH hj hT hb hx hbl hfin
      go_enter Try.func28, Try.ntmps28
      go_wp2
      go_ret
      exact HFin.out
    · have hbi : ¬ (8192 : Int) < (x.length : Int) + (n : Int) := by omega
      have hno : ¬ 8192 < x.length + b.length := by omega
      have hT1 := Lib.hid hT
      have hown := hT.now
      have hba := hT.size
      have hl9 : x.length + n ≤ 100000000 := by omega
      have hH1 := Lib.hid hH
      have HBl := Lib.hid hbl
      have HJ := Lib.hid hj
      clear hJ hH hj hT hx hbl
      go_enter Try.func28, Try.ntmps28
      go_wp2_with (first | (at_builtin; refine wpList_appB rfl (.tmp 25) (.tmp 26) rfl rfl hown A n c b rfl hb hl9 hba ?_; intro A3 c3 v3 hg3; have hT3 := hT1.out.app hg3 HBl.out; have hH3 := hH1.out.gr hg3.grew (fun e => by have := (hown.blk j e.symm).1; omega); have y2 := hH3.at_ 2 rfl; have yf := hH3.2.2 2; have yl := hH3.1; have HT3 := Lib.hid hT3; have HH3 := Lib.hid hH3; clear hT3 hH3 hg3))
      go_ret
      show if 8192 < x.length + b.length then _ else _
      rw [if_neg hno]
      refine ⟨rfl, A1, n1, cap1, vs, A3, c3, (x ++ b).length, ?_, by have := HJ.out; omega, by have := HJ.out; omega, rfl, HT3.out.far (p := ⟨j, 2, none⟩) (by have := HJ.out; show a.heap.size ≤ j; omega) (by show j < j + 1; omega) _⟩
      have := HH3.out.set 2 (.slice A3 (x.length + n) c3) (by simp)
      rw [List.length_append, HBl.out]
      exact this
end Go.Proofs.Ytpfdacnjikdifaa
