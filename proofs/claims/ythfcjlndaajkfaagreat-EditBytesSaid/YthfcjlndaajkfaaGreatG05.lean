/- Rows of logs and of tables of the call's own, with their pairs. Pairs stay where a block of their own is written. edit.mayBe at a kind that is none. edit.mayBe: kinds 1, 2. edit.mayBe: kinds 3. -/
import Derived.Test.YthfcjlndaajkfaaGreatG04
import Derived.Deep.CutBlock
import Derived.Deep.DeepCutAuto
namespace Go.Proofs.YthfcjlndaajkfaaGreat
open Go.RowKit
def blkOf (A : Option Addr) : Option Nat := A.map (·.block)
theorem ownBlock_eq (A : Option Addr) (n c : Nat) : (Value.slice A n c).ownBlock = blkOf A := by cases A <;> rfl
/-- Two addresses lead to two blocks, or one to none. -/
def Off (P A : Option Addr) : Prop := ∀ g, blkOf P = some g → blkOf A ≠ some g
theorem Off.symm {P A : Option Addr} (h : Off P A) : Off A P := fun g h1 h2 => h g h2 h1
/-- Pairs in memory of the call's own. -/
def OwP (w : World) (base : Nat) (P : Option Addr) (pn pc : Nat) (ps : List (Int × Int)) : Prop := ps.length = pn ∧ OwnC 2 w base 64 P pn pc (Pk.iv (Ed.fl ps))
theorem OwnC.capLe {s : Nat} {w : World} {base n cap : Nat} {E : TypeId} {A : Option Addr} {vs : List Value} (h : OwnC s w base E A n cap vs) : cap ≤ 9223372036854775807 := by
  rcases h.2 with ⟨hv, h0⟩ | ⟨g, c, cur, hv, hb, hg, hnc, hc, hs, ht⟩
  · injection hv with _ _ h3; omega
  · injection hv with _ _ h3
    simp only [maxLen] at hc
    omega
section
variable {w w' : World} {base pn pc : Nat} {P : Option Addr} {ps : List (Int × Int)}
theorem OwP.rd (h : OwP w base P pn pc ps) : RdPs w P pn ps := ⟨h.1, h.2.rd⟩
theorem OwP.ok (h : OwP w base P pn pc ps) : PairsOk w P pn pc ps := ⟨h.rd, h.2.fits, by have := h.2.fits; have := h.2.capLe; omega⟩
theorem OwP.grown {row : Option Nat} (h : OwP w base P pn pc ps) (hg : w.grownBy w' row) (hne : ∀ g, row = some g → blkOf P ≠ some g) : OwP w' base P pn pc ps := by
  refine ⟨h.1, h.2.grown hg (.inr fun g hr => ?_)⟩
  rw [ownBlock_eq]
  exact hne g hr
theorem OwP.below (h : OwP w base P pn pc ps) (hb : Below w.heap.size w w') : OwP w' base P pn pc ps := ⟨h.1, h.2.below hb⟩
theorem OwP.base_ {base' : Nat} (h : OwP w base P pn pc ps) (hb : base' ≤ base) : OwP w base' P pn pc ps := ⟨h.1, h.2.base_ hb⟩
theorem OwP.lt (h : OwP w base P pn pc ps) : ∀ g, blkOf P = some g → base ≤ g ∧ g < w.heap.size := fun g hg => h.2.blk g (by rw [ownBlock_eq]; exact hg)
end
theorem OwnC.lt {s : Nat} {w : World} {base n cap : Nat} {E : TypeId} {A : Option Addr} {vs : List Value} (h : OwnC s w base E A n cap vs) : ∀ g, blkOf A = some g → base ≤ g ∧ g < w.heap.size := fun g hg => h.blk g (by rw [ownBlock_eq]; exact hg)
/-- Logs in memory of the call's own. -/
structure OwLs (w : World) (base : Nat) (A : Option Addr) (n c : Nat) (L : List (Ed.Lg × List (Int × Int))) : Prop where
  len : L.length = n
  row : OwnC 4 w base 62 A n c (Ed.lflat (L.map (·.1)))
  fit : ∀ x ∈ L, x.1.fits
  prs : ∀ x ∈ L, OwP w base x.1.P x.1.pn x.1.pc x.2
  off : ∀ x ∈ L, Off x.1.P A
/-- Tables in memory of the call's own. -/
structure OwTs (w : World) (base : Nat) (A : Option Addr) (n c : Nat) (L : List (Pk.Tb × List (Int × Int))) : Prop where
  len : L.length = n
  row : OwnC 9 w base 35 A n c (Pk.flat (L.map (·.1)))
  fit : ∀ x ∈ L, x.1.fits
  prs : ∀ x ∈ L, OwP w base x.1.P x.1.pn x.1.pc x.2
  off : ∀ x ∈ L, Off x.1.P A
section
variable {w w' : World} {base n c : Nat} {A : Option Addr}
theorem OwLs.rd {L : List (Ed.Lg × List (Int × Int))} (h : OwLs w base A n c L) : RdLs w A n L := ⟨h.len, h.row.rd, fun x hx => ⟨h.fit x hx, (h.prs x hx).ok⟩⟩
theorem OwTs.rd {L : List (Pk.Tb × List (Int × Int))} (h : OwTs w base A n c L) : RdTs w A n L := ⟨⟨by rw [List.length_map]; exact h.len, h.row.rd, fun x hx => by
  obtain ⟨y, hy, rfl⟩ := List.mem_map.1 hx
  exact h.fit y hy⟩, fun x hx => (h.prs x hx).ok⟩
theorem OwLs.grown {row : Option Nat} {L : List (Ed.Lg × List (Int × Int))} (h : OwLs w base A n c L) (hg : w.grownBy w' row) (hA : ∀ g, row = some g → blkOf A ≠ some g) (hP : ∀ x ∈ L, ∀ g, row = some g → blkOf x.1.P ≠ some g) : OwLs w' base A n c L :=
  ⟨h.len, h.row.grown hg (.inr fun g hr => by rw [ownBlock_eq]; exact hA g hr), h.fit, fun x hx => (h.prs x hx).grown hg (hP x hx), h.off⟩
theorem OwTs.grown {row : Option Nat} {L : List (Pk.Tb × List (Int × Int))} (h : OwTs w base A n c L) (hg : w.grownBy w' row) (hA : ∀ g, row = some g → blkOf A ≠ some g) (hP : ∀ x ∈ L, ∀ g, row = some g → blkOf x.1.P ≠ some g) : OwTs w' base A n c L :=
  ⟨h.len, h.row.grown hg (.inr fun g hr => by rw [ownBlock_eq]; exact hA g hr), h.fit, fun x hx => (h.prs x hx).grown hg (hP x hx), h.off⟩
theorem OwLs.below {L : List (Ed.Lg × List (Int × Int))} (h : OwLs w base A n c L) (hb : Below w.heap.size w w') : OwLs w' base A n c L := h.grown (grown_of_below hb) (fun g hg => by cases hg) (fun x hx g hg => by cases hg)
theorem OwTs.below {L : List (Pk.Tb × List (Int × Int))} (h : OwTs w base A n c L) (hb : Below w.heap.size w w') : OwTs w' base A n c L := h.grown (grown_of_below hb) (fun g hg => by cases hg) (fun x hx g hg => by cases hg)
theorem OwLs.base_ {base' : Nat} {L : List (Ed.Lg × List (Int × Int))} (h : OwLs w base A n c L) (hb : base' ≤ base) : OwLs w base' A n c L := ⟨h.len, h.row.base_ hb, h.fit, fun x hx => (h.prs x hx).base_ hb, h.off⟩
theorem OwTs.base_ {base' : Nat} {L : List (Pk.Tb × List (Int × Int))} (h : OwTs w base A n c L) (hb : base' ≤ base) : OwTs w base' A n c L := ⟨h.len, h.row.base_ hb, h.fit, fun x hx => (h.prs x hx).base_ hb, h.off⟩
end
/-- A version in memory of the call's own: no block of its logs is one of its tables'. -/
structure OwV (w : World) (base : Nat) (A : Option Addr) (n c : Nat) (L : List (Ed.Lg × List (Int × Int))) (B : Option Addr) (m d : Nat) (M : List (Pk.Tb × List (Int × Int))) : Prop where
  ls : OwLs w base A n c L
  ts : OwTs w base B m d M
  ab : Off A B
  lb : ∀ x ∈ L, Off x.1.P B
  ta : ∀ x ∈ M, Off x.1.P A
section
variable {w w' : World} {base n c m d : Nat} {A B : Option Addr} {L : List (Ed.Lg × List (Int × Int))} {M : List (Pk.Tb × List (Int × Int))}
theorem OwV.grown {row : Option Nat} (h : OwV w base A n c L B m d M) (hg : w.grownBy w' row) (hr : ∀ g, row = some g → g < base) : OwV w' base A n c L B m d M :=
  ⟨h.ls.grown hg (fun g hrg e => by have := hr g hrg; have := (h.ls.row.lt g e).1; omega) (fun x hx g hrg e => by have := hr g hrg; have := ((h.ls.prs x hx).lt g e).1; omega),
   h.ts.grown hg (fun g hrg e => by have := hr g hrg; have := (h.ts.row.lt g e).1; omega) (fun x hx g hrg e => by have := hr g hrg; have := ((h.ts.prs x hx).lt g e).1; omega), h.ab, h.lb, h.ta⟩
theorem OwV.below (h : OwV w base A n c L B m d M) (hb : Below w.heap.size w w') : OwV w' base A n c L B m d M := ⟨h.ls.below hb, h.ts.below hb, h.ab, h.lb, h.ta⟩
theorem OwV.base_ {base' : Nat} (h : OwV w base A n c L B m d M) (hb : base' ≤ base) : OwV w base' A n c L B m d M := ⟨h.ls.base_ hb, h.ts.base_ hb, h.ab, h.lb, h.ta⟩
end
theorem grown_cell (w : World) (b i : Nat) (u : Value) : w.grownBy (w.setCell ⟨b, i, none⟩ u) (some b) := ⟨rfl, rfl, rfl, by simp [World.setCell], fun k _ hk2 => Below.heap_setCell _ _ _ _ (fun e => hk2 (by rw [e]))⟩
/-- One cell of one struct of a row is written. -/
theorem Ed.flat_set {α : Type} {f : α → List Value} {s : Nat} (hs : ∀ x, (f x).length = s) {j : Nat} {v : Value} (hj : j < s) : ∀ {l : List α} {k : Nat} {x x' : α}, l[k]? = some x → f x' = (f x).set j v → (l.flatMap f).set (k * s + j) v = (l.set k x').flatMap f
  | [], k, x, x', h, _ => by cases h
  | y :: ys, 0, x, x', h, he => by
    have h : y = x := by simpa using h
    subst h
    rw [Nat.zero_mul, Nat.zero_add, List.flatMap_cons, List.set_cons_zero, List.flatMap_cons, List.set_append_left _ _ (by rw [hs]; exact hj), he]
  | y :: ys, k + 1, x, x', h, he => by
    rw [List.flatMap_cons, List.set_cons_succ, List.flatMap_cons, List.set_append_right _ _ (by rw [hs, Nat.succ_mul]; omega), hs, show (k + 1) * s + j - s = k * s + j by rw [Nat.succ_mul]; omega, Ed.flat_set hs hj (by simpa using h) he]
theorem set_same {vs : List Value} {i : Nat} {v : Value} (h : vs[i]? = some v) : vs.set i v = vs := by
  obtain ⟨hi, hg⟩ := List.getElem?_eq_some_iff.1 h
  rw [← hg, List.set_getElem_self]
/-- A row in memory of the call's own. -/
def GivesC (s : Nat) (E : TypeId) (w : World) (n : Nat) (vs : List Value) (e : Ending) (w' : World) : Prop :=
  ∃ B d, e = .returned (.slice B n d) ∧ OwnC s w' w.heap.size E B n d vs ∧ Below w.heap.size w w'
theorem Ed.lflat_one (l : List Ed.Lg) : ∀ u ∈ Ed.lflat l, u.oneCell' = true := by
  intro u hu
  obtain ⟨x, _, hx⟩ := List.mem_flatMap.1 hu
  simp only [Ed.Lg.cells, List.mem_cons, List.not_mem_nil, or_false] at hx
  rcases hx with rfl | rfl | rfl | rfl <;> rfl
theorem Pk.flat_one (l : List Pk.Tb) : ∀ u ∈ Pk.flat l, u.oneCell' = true := by
  intro u hu
  obtain ⟨x, _, hx⟩ := List.mem_flatMap.1 hu
  exact Pk.cells_one x u hx
end Go.Proofs.YthfcjlndaajkfaaGreat
namespace Go.Proofs.YthfcjlndaajkfaaGreat
open Go.RowKit
theorem PairsOk.blk {w : World} {P : Option Addr} {pn pc : Nat} {ps : List (Int × Int)} (h : PairsOk w P pn pc ps) {g o : Nat} (e : P = some ⟨g, o, none⟩) (h0 : 0 < pn) : g < w.heap.size := by
  obtain ⟨b, o2, e2, hb, _⟩ := h.1.2.2 h0
  rw [e] at e2
  injection e2 with e2
  injection e2 with e2 _
  omega
theorem pairs_grown {w w' : World} {P : Option Addr} {pn pc b : Nat} {ps : List (Int × Int)} (h : PairsOk w P pn pc ps) (hne : ∀ g o, P = some ⟨g, o, none⟩ → 0 < pn → g ≠ b) (hg : w.grownBy w' (some b)) : PairsOk w' P pn pc ps :=
  ⟨⟨h.1.1, h.1.2.grown hg (fun h0 g o e e2 => by injection e2 with e2; exact hne g o e h0 e2.symm)⟩, h.2⟩
end Go.Proofs.YthfcjlndaajkfaaGreat
namespace Go.Proofs.YthfcjlndaajkfaaGreat
open Go.RowKit
set_option linter.unusedVariables false
set_option maxRecDepth 100000 in
set_option maxHeartbeats 16000000 in
theorem may0_any (kd : Int) (hk : kd ≠ 1 ∧ kd ≠ 2 ∧ kd ≠ 3 ∧ kd ≠ 4 ∧ kd ≠ 5 ∧ kd ≠ 6 ∧ kd ≠ 7) (id nn pid pep : Int) (P : Option Addr) (pn pc : Nat) (ps : List (Int × Int)) (tid tep : Int) (Q : Option Addr) (qn qc : Nat) (sz lv ct : Int) (lo hi : ByteArray) (tp : Int) (qs : List (Int × Int)) (w : World) (hP : PairsOk w P pn pc ps) (hQ : PairsOk w Q qn qc qs) (hls : lo.size ≤ 9223372036854775807 ∧ hi.size ≤ 9223372036854775807) (hfit : (⟨tid, tep, Q, qn, qc, sz, lv, ct, lo, hi, tp⟩ : Pk.Tb).fits) :
    Calls Tryz.prog 47 #[.agg #[.int .i64 kd, .int .i64 id, .int .i64 nn, .int .i64 pid, .int .i64 pep, .slice P pn pc, .int .i64 tid, .int .i64 tep, .slice Q qn qc, .int .i64 sz, .int .i64 lv, .int .i64 ct, .string lo, .string hi, .int .i64 tp]] w fun e w' => e = .returned (.bool (⟨kd, id, nn, ⟨pid, pep, ps⟩, ⟨⟨tid, tep, qs⟩, sz, lv, ct, lo, hi, tp⟩⟩ : Ed.Et).ok) ∧ Below w.heap.size w w' := by
  have hal : Below w.heap.size w (w.alloc (.cells #[.int .i64 kd, .int .i64 id, .int .i64 nn, .int .i64 pid, .int .i64 pep, .slice P pn pc, .int .i64 tid, .int .i64 tep, .slice Q qn qc, .int .i64 sz, .int .i64 lv, .int .i64 ct, .string lo, .string hi, .int .i64 tp] 37)) := (Below.refl _ _).alloc (Nat.le_refl _) _
  have HX := Lib.hid (Holds.new w #[.int .i64 kd, .int .i64 id, .int .i64 nn, .int .i64 pid, .int .i64 pep, .slice P pn pc, .int .i64 tid, .int .i64 tep, .slice Q qn qc, .int .i64 sz, .int .i64 lv, .int .i64 ct, .string lo, .string hi, .int .i64 tp] 37)
  have HB := Lib.hid hal
  have HP := Lib.hid (hP.below hal)
  have HQ := Lib.hid (hQ.below hal)
  have HFit := Lib.hid (And.intro hls hfit)
  have HUs := Lib.hid (show (w.alloc (.cells #[.int .i64 kd, .int .i64 id, .int .i64 nn, .int .i64 pid, .int .i64 pep, .slice P pn pc, .int .i64 tid, .int .i64 tep, .slice Q qn qc, .int .i64 sz, .int .i64 lv, .int .i64 ct, .string lo, .string hi, .int .i64 tp] 37)).heap.size = w.heap.size + 1 by simp)
  clear hal hP hQ hls hfit
  have HA := Lib.hid (show false = (⟨kd, id, nn, ⟨pid, pep, ps⟩, ⟨⟨tid, tep, qs⟩, sz, lv, ct, lo, hi, tp⟩⟩ : Ed.Et).ok from by obtain ⟨h1, h2, h3, h4, h5, h6, h7⟩ := hk; unfold Ed.Et.ok; dsimp only; rw [if_neg h1, if_neg h2, if_neg h3, if_neg h4, if_neg h5, if_neg h6, if_neg h7])
  generalize (⟨kd, id, nn, ⟨pid, pep, ps⟩, ⟨⟨tid, tep, qs⟩, sz, lv, ct, lo, hi, tp⟩⟩ : Ed.Et).ok = ans at *
  go_enter Tryz.func47, Tryz.ntmps47
  go_upto_region 1 with fail
  generalize (w.alloc (.cells #[.int .i64 kd, .int .i64 id, .int .i64 nn, .int .i64 pid, .int .i64 pep, .slice P pn pc, .int .i64 tid, .int .i64 tep, .slice Q qn qc, .int .i64 sz, .int .i64 lv, .int .i64 ct, .string lo, .string hi, .int .i64 tp] 37)) = u at *
  replace HX : Hid (Holds u w.heap.size [.int .i64 kd, .int .i64 id, .int .i64 nn, .int .i64 pid, .int .i64 pep, .slice P pn pc, .int .i64 tid, .int .i64 tep, .slice Q qn qc, .int .i64 sz, .int .i64 lv, .int .i64 ct, .string lo, .string hi, .int .i64 tp]) := HX
  go_cut [3, 4] from 3 to 5 (fun s3 s4 wx => s3 = .bool true ∧ s4 = .pointer (some ⟨w.heap.size + 1, 0, none⟩) ∧ Hid (Holds wx w.heap.size [.int .i64 kd, .int .i64 id, .int .i64 nn, .int .i64 pid, .int .i64 pep, .slice P pn pc, .int .i64 tid, .int .i64 tep, .slice Q qn qc, .int .i64 sz, .int .i64 lv, .int .i64 ct, .string lo, .string hi, .int .i64 tp] ∧ Holds wx (w.heap.size + 1) [.int .i64 kd, .int .i64 id, .int .i64 nn, .int .i64 pid, .int .i64 pep, .slice P pn pc, .int .i64 tid, .int .i64 tep, .slice Q qn qc, .int .i64 sz, .int .i64 lv, .int .i64 ct, .string lo, .string hi, .int .i64 tp] ∧ Below u.heap.size u wx))
  case first =>
    have Hsh := Lib.hid (HX.out.below (show Below u.heap.size u u.drew from (Below.refl _ _).drew))
    obtain ⟨x0, x1, x2, x3, x4, x5, x6, x7, x8, x9, x10, x11, x12, x13, x14⟩ := Hsh.out.all15
    clear Hsh
    have Hsh := Lib.hid (HX.out.below (show Below u.heap.size u (u.alloc (.cells #[.int .i64 0, .int .i64 0, .int .i64 0, .int .i64 0, .int .i64 0, .slice none 0 0, .int .i64 0, .int .i64 0, .slice none 0 0, .int .i64 0, .int .i64 0, .int .i64 0, .string ⟨#[]⟩, .string ⟨#[]⟩, .int .i64 0] 37)) from (Below.refl _ _).alloc (Nat.le_refl _) _))
    obtain ⟨z0, z1, z2, z3, z4, z5, z6, z7, z8, z9, z10, z11, z12, z13, z14⟩ := Hsh.out.all15
    clear Hsh
    have hus := HUs.out
    go_region
    all_goals
      go_wp2_with fail
      go_meet
      case rel =>
        have hal : Below u.heap.size u (u.drew.alloc (.cells #[.int .i64 kd, .int .i64 id, .int .i64 nn, .int .i64 pid, .int .i64 pep, .slice P pn pc, .int .i64 tid, .int .i64 tep, .slice Q qn qc, .int .i64 sz, .int .i64 lv, .int .i64 ct, .string lo, .string hi, .int .i64 tp] 37)) := ((Below.refl _ _).drew).alloc (Nat.le_refl _) _
        exact ⟨rfl, by rw [← hus], Lib.hid ⟨HX.out.below hal, by rw [← hus]; exact Holds.new u.drew #[.int .i64 kd, .int .i64 id, .int .i64 nn, .int .i64 pid, .int .i64 pep, .slice P pn pc, .int .i64 tid, .int .i64 tep, .slice Q qn qc, .int .i64 sz, .int .i64 lv, .int .i64 ct, .string lo, .string hi, .int .i64 tp] 37, hal⟩⟩
  case rest =>
  obtain ⟨rfl, rfl, HC⟩ := hcut
  have HB2 := Lib.hid (below_next HB.out HC.out.2.2)
  have HP2 := Lib.hid (HP.out.below HC.out.2.2)
  have HQ2 := Lib.hid (HQ.out.below HC.out.2.2)
  have HX2 := Lib.hid HC.out.1
  have HY2 := Lib.hid HC.out.2.1
  clear HX HB HP HQ HC HUs
  have ne0 : w.heap.size ≠ w.heap.size + 1 := by omega
  have x0 := HX2.out.at_ 0 rfl
  have q1 : (kd == 1) = false := beq_eq_false_iff_ne.2 hk.1
  have q2 : (kd == 2) = false := beq_eq_false_iff_ne.2 hk.2.1
  have q3 : (kd == 3) = false := beq_eq_false_iff_ne.2 hk.2.2.1
  have q4 : (kd == 4) = false := beq_eq_false_iff_ne.2 hk.2.2.2.1
  have q5 : (kd == 5) = false := beq_eq_false_iff_ne.2 hk.2.2.2.2.1
  have q6 : (kd == 6) = false := beq_eq_false_iff_ne.2 hk.2.2.2.2.2.1
  have q7 : (kd == 7) = false := beq_eq_false_iff_ne.2 hk.2.2.2.2.2.2
  go_wp2
  go_ret
  exact ⟨by rw [← HA.out]; rfl, HB2.out⟩
end Go.Proofs.YthfcjlndaajkfaaGreat
namespace Go.Proofs.YthfcjlndaajkfaaGreat
open Go.RowKit
set_option linter.unusedVariables false
set_option maxRecDepth 100000 in
set_option maxHeartbeats 16000000 in
theorem may1_any (id nn pid pep : Int) (P : Option Addr) (pn pc : Nat) (ps : List (Int × Int)) (tid tep : Int) (Q : Option Addr) (qn qc : Nat) (sz lv ct : Int) (lo hi : ByteArray) (tp : Int) (qs : List (Int × Int)) (w : World) (hP : PairsOk w P pn pc ps) (hQ : PairsOk w Q qn qc qs) (hls : lo.size ≤ 9223372036854775807 ∧ hi.size ≤ 9223372036854775807) (hfit : (⟨tid, tep, Q, qn, qc, sz, lv, ct, lo, hi, tp⟩ : Pk.Tb).fits) :
    Calls Tryz.prog 47 #[.agg #[.int .i64 1, .int .i64 id, .int .i64 nn, .int .i64 pid, .int .i64 pep, .slice P pn pc, .int .i64 tid, .int .i64 tep, .slice Q qn qc, .int .i64 sz, .int .i64 lv, .int .i64 ct, .string lo, .string hi, .int .i64 tp]] w fun e w' => e = .returned (.bool (⟨1, id, nn, ⟨pid, pep, ps⟩, ⟨⟨tid, tep, qs⟩, sz, lv, ct, lo, hi, tp⟩⟩ : Ed.Et).ok) ∧ Below w.heap.size w w' := by
  have hal : Below w.heap.size w (w.alloc (.cells #[.int .i64 1, .int .i64 id, .int .i64 nn, .int .i64 pid, .int .i64 pep, .slice P pn pc, .int .i64 tid, .int .i64 tep, .slice Q qn qc, .int .i64 sz, .int .i64 lv, .int .i64 ct, .string lo, .string hi, .int .i64 tp] 37)) := (Below.refl _ _).alloc (Nat.le_refl _) _
  have HX := Lib.hid (Holds.new w #[.int .i64 1, .int .i64 id, .int .i64 nn, .int .i64 pid, .int .i64 pep, .slice P pn pc, .int .i64 tid, .int .i64 tep, .slice Q qn qc, .int .i64 sz, .int .i64 lv, .int .i64 ct, .string lo, .string hi, .int .i64 tp] 37)
  have HB := Lib.hid hal
  have HPw := Lib.hid (show (∀ g o, P = some ⟨g, o, none⟩ → 0 < pn → g ≠ w.heap.size + 1) ∧ (∀ g o, Q = some ⟨g, o, none⟩ → 0 < qn → g ≠ w.heap.size + 1) from ⟨fun g o e h0 => by have := hP.blk e h0; omega, fun g o e h0 => by have := hQ.blk e h0; omega⟩)
  have HP := Lib.hid (hP.below hal)
  have HQ := Lib.hid (hQ.below hal)
  have HFit := Lib.hid (And.intro hls hfit)
  have HUs := Lib.hid (show (w.alloc (.cells #[.int .i64 1, .int .i64 id, .int .i64 nn, .int .i64 pid, .int .i64 pep, .slice P pn pc, .int .i64 tid, .int .i64 tep, .slice Q qn qc, .int .i64 sz, .int .i64 lv, .int .i64 ct, .string lo, .string hi, .int .i64 tp] 37)).heap.size = w.heap.size + 1 by simp)
  clear hal hP hQ hls hfit
  have HA := Lib.hid (show (Ed.from_ nn 1 2147483647 && (id == 0) && (⟨pid, pep, ps⟩ : Ed.Pl).eq Ed.noP && (⟨⟨tid, tep, qs⟩, sz, lv, ct, lo, hi, tp⟩ : Ed.Ta).eq Ed.noT) = (⟨1, id, nn, ⟨pid, pep, ps⟩, ⟨⟨tid, tep, qs⟩, sz, lv, ct, lo, hi, tp⟩⟩ : Ed.Et).ok from rfl)
  generalize (⟨1, id, nn, ⟨pid, pep, ps⟩, ⟨⟨tid, tep, qs⟩, sz, lv, ct, lo, hi, tp⟩⟩ : Ed.Et).ok = ans at *
  go_enter Tryz.func47, Tryz.ntmps47
  go_upto_region 1 with fail
  generalize (w.alloc (.cells #[.int .i64 1, .int .i64 id, .int .i64 nn, .int .i64 pid, .int .i64 pep, .slice P pn pc, .int .i64 tid, .int .i64 tep, .slice Q qn qc, .int .i64 sz, .int .i64 lv, .int .i64 ct, .string lo, .string hi, .int .i64 tp] 37)) = u at *
  replace HX : Hid (Holds u w.heap.size [.int .i64 1, .int .i64 id, .int .i64 nn, .int .i64 pid, .int .i64 pep, .slice P pn pc, .int .i64 tid, .int .i64 tep, .slice Q qn qc, .int .i64 sz, .int .i64 lv, .int .i64 ct, .string lo, .string hi, .int .i64 tp]) := HX
  go_cut [3, 4] from 3 to 5 (fun s3 s4 wx => s3 = .bool true ∧ s4 = .pointer (some ⟨w.heap.size + 1, 0, none⟩) ∧ Hid (Holds wx w.heap.size [.int .i64 1, .int .i64 id, .int .i64 nn, .int .i64 pid, .int .i64 pep, .slice P pn pc, .int .i64 tid, .int .i64 tep, .slice Q qn qc, .int .i64 sz, .int .i64 lv, .int .i64 ct, .string lo, .string hi, .int .i64 tp] ∧ Holds wx (w.heap.size + 1) [.int .i64 1, .int .i64 id, .int .i64 nn, .int .i64 pid, .int .i64 pep, .slice P pn pc, .int .i64 tid, .int .i64 tep, .slice Q qn qc, .int .i64 sz, .int .i64 lv, .int .i64 ct, .string lo, .string hi, .int .i64 tp] ∧ Below u.heap.size u wx))
  case first =>
    have Hsh := Lib.hid (HX.out.below (show Below u.heap.size u u.drew from (Below.refl _ _).drew))
    obtain ⟨x0, x1, x2, x3, x4, x5, x6, x7, x8, x9, x10, x11, x12, x13, x14⟩ := Hsh.out.all15
    clear Hsh
    have Hsh := Lib.hid (HX.out.below (show Below u.heap.size u (u.alloc (.cells #[.int .i64 0, .int .i64 0, .int .i64 0, .int .i64 0, .int .i64 0, .slice none 0 0, .int .i64 0, .int .i64 0, .slice none 0 0, .int .i64 0, .int .i64 0, .int .i64 0, .string ⟨#[]⟩, .string ⟨#[]⟩, .int .i64 0] 37)) from (Below.refl _ _).alloc (Nat.le_refl _) _))
    obtain ⟨z0, z1, z2, z3, z4, z5, z6, z7, z8, z9, z10, z11, z12, z13, z14⟩ := Hsh.out.all15
    clear Hsh
    have hus := HUs.out
    go_region
    all_goals
      go_wp2_with fail
      go_meet
      case rel =>
        have hal : Below u.heap.size u (u.drew.alloc (.cells #[.int .i64 1, .int .i64 id, .int .i64 nn, .int .i64 pid, .int .i64 pep, .slice P pn pc, .int .i64 tid, .int .i64 tep, .slice Q qn qc, .int .i64 sz, .int .i64 lv, .int .i64 ct, .string lo, .string hi, .int .i64 tp] 37)) := ((Below.refl _ _).drew).alloc (Nat.le_refl _) _
        exact ⟨rfl, by rw [← hus], Lib.hid ⟨HX.out.below hal, by rw [← hus]; exact Holds.new u.drew #[.int .i64 1, .int .i64 id, .int .i64 nn, .int .i64 pid, .int .i64 pep, .slice P pn pc, .int .i64 tid, .int .i64 tep, .slice Q qn qc, .int .i64 sz, .int .i64 lv, .int .i64 ct, .string lo, .string hi, .int .i64 tp] 37, hal⟩⟩
  case rest =>
  obtain ⟨rfl, rfl, HC⟩ := hcut
  have HB2 := Lib.hid (below_next HB.out HC.out.2.2)
  have HP2 := Lib.hid (HP.out.below HC.out.2.2)
  have HQ2 := Lib.hid (HQ.out.below HC.out.2.2)
  have HX2 := Lib.hid HC.out.1
  have HY2 := Lib.hid HC.out.2.1
  clear HX HB HP HQ HC HUs
  have ne0 : w.heap.size ≠ w.heap.size + 1 := by omega
  have F1 := within_any nn 1 2147483647 wc
  generalize Ed.from_ nn 1 2147483647 = k0 at *
  have F1 := Lib.hid F1
  have x0 := HX2.out.at_ 0 rfl
  have x2 := HX2.out.at_ 2 rfl
  go_wp2_with fail
  refine F1.out.mono ?_
  rintro e v ⟨rfl, rfl⟩
  clear F1 x0 x2
  have HX3 := HX2
  have HY3 := HY2
  have HB3 := HB2
  have HP3 := HP2
  have HQ3 := HQ2
  clear HX2 HY2 HB2 HP2 HQ2
  have HPb := Lib.hid (show (∀ g o, P = some ⟨g, o, none⟩ → 0 < pn → g ≠ w.heap.size + 1) ∧ (∀ g o, Q = some ⟨g, o, none⟩ → 0 < qn → g ≠ w.heap.size + 1) from HPw.out)
  have y2 := HY3.out.at_ 2 rfl
  have yf2 := HY3.out.2.2 2
  have HY4 := Lib.hid (show Holds (v.setCell ⟨w.heap.size + 1, 2, none⟩ (.int .i64 0)) (w.heap.size + 1) [.int .i64 1, .int .i64 id, .int .i64 0, .int .i64 pid, .int .i64 pep, .slice P pn pc, .int .i64 tid, .int .i64 tep, .slice Q qn qc, .int .i64 sz, .int .i64 lv, .int .i64 ct, .string lo, .string hi, .int .i64 tp] from (HY3.out.set 2 (.int .i64 0) (by simp)))
  have HX4 := Lib.hid (show Holds (v.setCell ⟨w.heap.size + 1, 2, none⟩ (.int .i64 0)) w.heap.size [.int .i64 1, .int .i64 id, .int .i64 nn, .int .i64 pid, .int .i64 pep, .slice P pn pc, .int .i64 tid, .int .i64 tep, .slice Q qn qc, .int .i64 sz, .int .i64 lv, .int .i64 ct, .string lo, .string hi, .int .i64 tp] from (HX3.out.other ne0))
  have HB4 := Lib.hid (show Below w.heap.size w (v.setCell ⟨w.heap.size + 1, 2, none⟩ (.int .i64 0)) from (HB3.out.setCell (Nat.le_succ _) _))
  have hgr : v.grownBy (v.setCell ⟨w.heap.size + 1, 2, none⟩ (.int .i64 0)) (some (w.heap.size + 1)) := (World.grownBy.refl v (some (w.heap.size + 1))).trans (grown_cell _ _ _ _)
  have HP4 := Lib.hid (pairs_grown HP3.out HPb.out.1 hgr)
  have HQ4 := Lib.hid (pairs_grown HQ3.out HPb.out.2 hgr)
  go_upto_region 17 with fail
  clear y2 yf2 hgr HX4 HX3 HY3 HB3 HP3 HQ3 HPb
  generalize (v.setCell ⟨w.heap.size + 1, 2, none⟩ (.int .i64 0)) = q at *
  have S1 : Calls Tryz.prog 67 #[.agg #[.int .i64 pid, .int .i64 pep, .slice P pn pc], .agg #[.int .i64 0, .int .i64 0, .slice none 0 0]] q fun e w' => e = .returned (.bool ((⟨pid, pep, ps⟩ : Ed.Pl).eq Ed.noP)) ∧ Below q.heap.size q w' := sameplace_any pid pep P pn pc ps 0 0 none 0 0 [] q HP4.out.1 ⟨rfl, RdC.nil _ _ _⟩ HP4.out.2.2 (by omega)
  generalize (⟨pid, pep, ps⟩ : Ed.Pl).eq Ed.noP = k2 at *
  have S1 := Lib.hid S1
  have S2 : ∀ v, Below q.heap.size q v → Calls Tryz.prog 46 #[.agg #[.int .i64 tid, .int .i64 tep, .slice Q qn qc, .int .i64 sz, .int .i64 lv, .int .i64 ct, .string lo, .string hi, .int .i64 tp], .agg #[.int .i64 0, .int .i64 0, .slice none 0 0, .int .i64 0, .int .i64 0, .int .i64 0, .string ⟨#[]⟩, .string ⟨#[]⟩, .int .i64 0]] v fun e w' => e = .returned (.bool ((⟨⟨tid, tep, qs⟩, sz, lv, ct, lo, hi, tp⟩ : Ed.Ta).eq Ed.noT)) ∧ Below v.heap.size v w' := fun v hv => sametable_any tid tep Q qn qc sz lv ct lo hi tp qs 0 0 none 0 0 0 0 0 ⟨#[]⟩ ⟨#[]⟩ 0 [] v (HQ4.out.1.below hv) ⟨rfl, RdC.nil _ _ _⟩ HQ4.out.2.2 (by omega)
  generalize (⟨⟨tid, tep, qs⟩, sz, lv, ct, lo, hi, tp⟩ : Ed.Ta).eq Ed.noT = k3 at *
  have S2 := Lib.hid S2
  have r1 := HY4.out.at_ 1 rfl
  have r2 := HY4.out.at_ 2 rfl
  have r3 := HY4.out.at_ 3 rfl
  have r4 := HY4.out.at_ 4 rfl
  have r5 := HY4.out.at_ 5 rfl
  cases k0 with
  | false =>
    have HF := Lib.hid (show false = ans by rw [← HA.out]; simp)
    go_wp2
    go_ret
    exact ⟨by rw [← HF.out]; rfl, HB4.out⟩
  | true =>
  cases g1 : (id == 0) with
  | false =>
    rw [g1] at HA
    have HF := Lib.hid (show false = ans by rw [← HA.out]; simp)
    go_wp2
    go_ret
    exact ⟨by rw [← HF.out]; rfl, HB4.out⟩
  | true =>
  rw [g1] at HA
  go_wp2_with fail
  refine S1.out.mono ?_
  rintro e v1 ⟨rfl, hb1⟩
  have HV1 := Lib.hid (below_next HB4.out hb1)
  have HT1 := Lib.hid (S2.out v1 hb1)
  have s6 := (HY4.out.below hb1).at_ 6 rfl
  have s7 := (HY4.out.below hb1).at_ 7 rfl
  have s8 := (HY4.out.below hb1).at_ 8 rfl
  have s9 := (HY4.out.below hb1).at_ 9 rfl
  have s10 := (HY4.out.below hb1).at_ 10 rfl
  have s11 := (HY4.out.below hb1).at_ 11 rfl
  have s12 := (HY4.out.below hb1).at_ 12 rfl
  have s13 := (HY4.out.below hb1).at_ 13 rfl
  have s14 := (HY4.out.below hb1).at_ 14 rfl
  clear hb1 r1 r2 r3 r4 r5 S1 S2 HY4 HP4 HQ4 HB4
  cases k2 with
  | false =>
    have HF := Lib.hid (show false = ans by rw [← HA.out]; simp)
    go_wp2
    go_ret
    exact ⟨by rw [← HF.out]; rfl, HV1.out⟩
  | true =>
  go_wp2_with fail
  refine HT1.out.mono ?_
  rintro e v2 ⟨rfl, hb2⟩
  have HV2 := Lib.hid (below_next HV1.out hb2)
  clear hb2
  have HF := Lib.hid (show k3 = ans by rw [← HA.out]; simp)
  go_wp2
  go_ret
  exact ⟨by rw [← HF.out]; rfl, HV2.out⟩
set_option maxRecDepth 100000 in
set_option maxHeartbeats 16000000 in
theorem may2_any (id nn pid pep : Int) (P : Option Addr) (pn pc : Nat) (ps : List (Int × Int)) (tid tep : Int) (Q : Option Addr) (qn qc : Nat) (sz lv ct : Int) (lo hi : ByteArray) (tp : Int) (qs : List (Int × Int)) (w : World) (hP : PairsOk w P pn pc ps) (hQ : PairsOk w Q qn qc qs) (hls : lo.size ≤ 9223372036854775807 ∧ hi.size ≤ 9223372036854775807) (hfit : (⟨tid, tep, Q, qn, qc, sz, lv, ct, lo, hi, tp⟩ : Pk.Tb).fits) :
    Calls Tryz.prog 47 #[.agg #[.int .i64 2, .int .i64 id, .int .i64 nn, .int .i64 pid, .int .i64 pep, .slice P pn pc, .int .i64 tid, .int .i64 tep, .slice Q qn qc, .int .i64 sz, .int .i64 lv, .int .i64 ct, .string lo, .string hi, .int .i64 tp]] w fun e w' => e = .returned (.bool (⟨2, id, nn, ⟨pid, pep, ps⟩, ⟨⟨tid, tep, qs⟩, sz, lv, ct, lo, hi, tp⟩⟩ : Ed.Et).ok) ∧ Below w.heap.size w w' := by
  have hal : Below w.heap.size w (w.alloc (.cells #[.int .i64 2, .int .i64 id, .int .i64 nn, .int .i64 pid, .int .i64 pep, .slice P pn pc, .int .i64 tid, .int .i64 tep, .slice Q qn qc, .int .i64 sz, .int .i64 lv, .int .i64 ct, .string lo, .string hi, .int .i64 tp] 37)) := (Below.refl _ _).alloc (Nat.le_refl _) _
  have HX := Lib.hid (Holds.new w #[.int .i64 2, .int .i64 id, .int .i64 nn, .int .i64 pid, .int .i64 pep, .slice P pn pc, .int .i64 tid, .int .i64 tep, .slice Q qn qc, .int .i64 sz, .int .i64 lv, .int .i64 ct, .string lo, .string hi, .int .i64 tp] 37)
  have HB := Lib.hid hal
  have HPw := Lib.hid (show (∀ g o, P = some ⟨g, o, none⟩ → 0 < pn → g ≠ w.heap.size + 1) ∧ (∀ g o, Q = some ⟨g, o, none⟩ → 0 < qn → g ≠ w.heap.size + 1) from ⟨fun g o e h0 => by have := hP.blk e h0; omega, fun g o e h0 => by have := hQ.blk e h0; omega⟩)
  have HP := Lib.hid (hP.below hal)
  have HQ := Lib.hid (hQ.below hal)
  have HFit := Lib.hid (And.intro hls hfit)
  have HUs := Lib.hid (show (w.alloc (.cells #[.int .i64 2, .int .i64 id, .int .i64 nn, .int .i64 pid, .int .i64 pep, .slice P pn pc, .int .i64 tid, .int .i64 tep, .slice Q qn qc, .int .i64 sz, .int .i64 lv, .int .i64 ct, .string lo, .string hi, .int .i64 tp] 37)).heap.size = w.heap.size + 1 by simp)
  clear hal hP hQ hls hfit
  have HA := Lib.hid (show (Ed.from_ nn 0 1099511627776 && (id == 0) && (⟨pid, pep, ps⟩ : Ed.Pl).eq Ed.noP && (⟨⟨tid, tep, qs⟩, sz, lv, ct, lo, hi, tp⟩ : Ed.Ta).eq Ed.noT) = (⟨2, id, nn, ⟨pid, pep, ps⟩, ⟨⟨tid, tep, qs⟩, sz, lv, ct, lo, hi, tp⟩⟩ : Ed.Et).ok from rfl)
  generalize (⟨2, id, nn, ⟨pid, pep, ps⟩, ⟨⟨tid, tep, qs⟩, sz, lv, ct, lo, hi, tp⟩⟩ : Ed.Et).ok = ans at *
  go_enter Tryz.func47, Tryz.ntmps47
  go_upto_region 1 with fail
  generalize (w.alloc (.cells #[.int .i64 2, .int .i64 id, .int .i64 nn, .int .i64 pid, .int .i64 pep, .slice P pn pc, .int .i64 tid, .int .i64 tep, .slice Q qn qc, .int .i64 sz, .int .i64 lv, .int .i64 ct, .string lo, .string hi, .int .i64 tp] 37)) = u at *
  replace HX : Hid (Holds u w.heap.size [.int .i64 2, .int .i64 id, .int .i64 nn, .int .i64 pid, .int .i64 pep, .slice P pn pc, .int .i64 tid, .int .i64 tep, .slice Q qn qc, .int .i64 sz, .int .i64 lv, .int .i64 ct, .string lo, .string hi, .int .i64 tp]) := HX
  go_cut [3, 4] from 3 to 5 (fun s3 s4 wx => s3 = .bool true ∧ s4 = .pointer (some ⟨w.heap.size + 1, 0, none⟩) ∧ Hid (Holds wx w.heap.size [.int .i64 2, .int .i64 id, .int .i64 nn, .int .i64 pid, .int .i64 pep, .slice P pn pc, .int .i64 tid, .int .i64 tep, .slice Q qn qc, .int .i64 sz, .int .i64 lv, .int .i64 ct, .string lo, .string hi, .int .i64 tp] ∧ Holds wx (w.heap.size + 1) [.int .i64 2, .int .i64 id, .int .i64 nn, .int .i64 pid, .int .i64 pep, .slice P pn pc, .int .i64 tid, .int .i64 tep, .slice Q qn qc, .int .i64 sz, .int .i64 lv, .int .i64 ct, .string lo, .string hi, .int .i64 tp] ∧ Below u.heap.size u wx))
  case first =>
    have Hsh := Lib.hid (HX.out.below (show Below u.heap.size u u.drew from (Below.refl _ _).drew))
    obtain ⟨x0, x1, x2, x3, x4, x5, x6, x7, x8, x9, x10, x11, x12, x13, x14⟩ := Hsh.out.all15
    clear Hsh
    have Hsh := Lib.hid (HX.out.below (show Below u.heap.size u (u.alloc (.cells #[.int .i64 0, .int .i64 0, .int .i64 0, .int .i64 0, .int .i64 0, .slice none 0 0, .int .i64 0, .int .i64 0, .slice none 0 0, .int .i64 0, .int .i64 0, .int .i64 0, .string ⟨#[]⟩, .string ⟨#[]⟩, .int .i64 0] 37)) from (Below.refl _ _).alloc (Nat.le_refl _) _))
    obtain ⟨z0, z1, z2, z3, z4, z5, z6, z7, z8, z9, z10, z11, z12, z13, z14⟩ := Hsh.out.all15
    clear Hsh
    have hus := HUs.out
    go_region
    all_goals
      go_wp2_with fail
      go_meet
      case rel =>
        have hal : Below u.heap.size u (u.drew.alloc (.cells #[.int .i64 2, .int .i64 id, .int .i64 nn, .int .i64 pid, .int .i64 pep, .slice P pn pc, .int .i64 tid, .int .i64 tep, .slice Q qn qc, .int .i64 sz, .int .i64 lv, .int .i64 ct, .string lo, .string hi, .int .i64 tp] 37)) := ((Below.refl _ _).drew).alloc (Nat.le_refl _) _
        exact ⟨rfl, by rw [← hus], Lib.hid ⟨HX.out.below hal, by rw [← hus]; exact Holds.new u.drew #[.int .i64 2, .int .i64 id, .int .i64 nn, .int .i64 pid, .int .i64 pep, .slice P pn pc, .int .i64 tid, .int .i64 tep, .slice Q qn qc, .int .i64 sz, .int .i64 lv, .int .i64 ct, .string lo, .string hi, .int .i64 tp] 37, hal⟩⟩
  case rest =>
  obtain ⟨rfl, rfl, HC⟩ := hcut
  have HB2 := Lib.hid (below_next HB.out HC.out.2.2)
  have HP2 := Lib.hid (HP.out.below HC.out.2.2)
  have HQ2 := Lib.hid (HQ.out.below HC.out.2.2)
  have HX2 := Lib.hid HC.out.1
  have HY2 := Lib.hid HC.out.2.1
  clear HX HB HP HQ HC HUs
  have ne0 : w.heap.size ≠ w.heap.size + 1 := by omega
  have F1 := within_any nn 0 1099511627776 wc
  generalize Ed.from_ nn 0 1099511627776 = k0 at *
  have F1 := Lib.hid F1
  have x0 := HX2.out.at_ 0 rfl
  have x2 := HX2.out.at_ 2 rfl
  go_wp2_with fail
  refine F1.out.mono ?_
  rintro e v ⟨rfl, rfl⟩
  clear F1 x0 x2
  have HX3 := HX2
  have HY3 := HY2
  have HB3 := HB2
  have HP3 := HP2
  have HQ3 := HQ2
  clear HX2 HY2 HB2 HP2 HQ2
  have HPb := Lib.hid (show (∀ g o, P = some ⟨g, o, none⟩ → 0 < pn → g ≠ w.heap.size + 1) ∧ (∀ g o, Q = some ⟨g, o, none⟩ → 0 < qn → g ≠ w.heap.size + 1) from HPw.out)
  have y2 := HY3.out.at_ 2 rfl
  have yf2 := HY3.out.2.2 2
  have HY4 := Lib.hid (show Holds (v.setCell ⟨w.heap.size + 1, 2, none⟩ (.int .i64 0)) (w.heap.size + 1) [.int .i64 2, .int .i64 id, .int .i64 0, .int .i64 pid, .int .i64 pep, .slice P pn pc, .int .i64 tid, .int .i64 tep, .slice Q qn qc, .int .i64 sz, .int .i64 lv, .int .i64 ct, .string lo, .string hi, .int .i64 tp] from (HY3.out.set 2 (.int .i64 0) (by simp)))
  have HX4 := Lib.hid (show Holds (v.setCell ⟨w.heap.size + 1, 2, none⟩ (.int .i64 0)) w.heap.size [.int .i64 2, .int .i64 id, .int .i64 nn, .int .i64 pid, .int .i64 pep, .slice P pn pc, .int .i64 tid, .int .i64 tep, .slice Q qn qc, .int .i64 sz, .int .i64 lv, .int .i64 ct, .string lo, .string hi, .int .i64 tp] from (HX3.out.other ne0))
  have HB4 := Lib.hid (show Below w.heap.size w (v.setCell ⟨w.heap.size + 1, 2, none⟩ (.int .i64 0)) from (HB3.out.setCell (Nat.le_succ _) _))
  have hgr : v.grownBy (v.setCell ⟨w.heap.size + 1, 2, none⟩ (.int .i64 0)) (some (w.heap.size + 1)) := (World.grownBy.refl v (some (w.heap.size + 1))).trans (grown_cell _ _ _ _)
  have HP4 := Lib.hid (pairs_grown HP3.out HPb.out.1 hgr)
  have HQ4 := Lib.hid (pairs_grown HQ3.out HPb.out.2 hgr)
  go_upto_region 17 with fail
  clear y2 yf2 hgr HX4 HX3 HY3 HB3 HP3 HQ3 HPb
  generalize (v.setCell ⟨w.heap.size + 1, 2, none⟩ (.int .i64 0)) = q at *
  have S1 : Calls Tryz.prog 67 #[.agg #[.int .i64 pid, .int .i64 pep, .slice P pn pc], .agg #[.int .i64 0, .int .i64 0, .slice none 0 0]] q fun e w' => e = .returned (.bool ((⟨pid, pep, ps⟩ : Ed.Pl).eq Ed.noP)) ∧ Below q.heap.size q w' := sameplace_any pid pep P pn pc ps 0 0 none 0 0 [] q HP4.out.1 ⟨rfl, RdC.nil _ _ _⟩ HP4.out.2.2 (by omega)
  generalize (⟨pid, pep, ps⟩ : Ed.Pl).eq Ed.noP = k2 at *
  have S1 := Lib.hid S1
  have S2 : ∀ v, Below q.heap.size q v → Calls Tryz.prog 46 #[.agg #[.int .i64 tid, .int .i64 tep, .slice Q qn qc, .int .i64 sz, .int .i64 lv, .int .i64 ct, .string lo, .string hi, .int .i64 tp], .agg #[.int .i64 0, .int .i64 0, .slice none 0 0, .int .i64 0, .int .i64 0, .int .i64 0, .string ⟨#[]⟩, .string ⟨#[]⟩, .int .i64 0]] v fun e w' => e = .returned (.bool ((⟨⟨tid, tep, qs⟩, sz, lv, ct, lo, hi, tp⟩ : Ed.Ta).eq Ed.noT)) ∧ Below v.heap.size v w' := fun v hv => sametable_any tid tep Q qn qc sz lv ct lo hi tp qs 0 0 none 0 0 0 0 0 ⟨#[]⟩ ⟨#[]⟩ 0 [] v (HQ4.out.1.below hv) ⟨rfl, RdC.nil _ _ _⟩ HQ4.out.2.2 (by omega)
  generalize (⟨⟨tid, tep, qs⟩, sz, lv, ct, lo, hi, tp⟩ : Ed.Ta).eq Ed.noT = k3 at *
  have S2 := Lib.hid S2
  have r1 := HY4.out.at_ 1 rfl
  have r2 := HY4.out.at_ 2 rfl
  have r3 := HY4.out.at_ 3 rfl
  have r4 := HY4.out.at_ 4 rfl
  have r5 := HY4.out.at_ 5 rfl
  cases k0 with
  | false =>
    have HF := Lib.hid (show false = ans by rw [← HA.out]; simp)
    go_wp2
    go_ret
    exact ⟨by rw [← HF.out]; rfl, HB4.out⟩
  | true =>
  cases g1 : (id == 0) with
  | false =>
    rw [g1] at HA
    have HF := Lib.hid (show false = ans by rw [← HA.out]; simp)
    go_wp2
    go_ret
    exact ⟨by rw [← HF.out]; rfl, HB4.out⟩
  | true =>
  rw [g1] at HA
  go_wp2_with fail
  refine S1.out.mono ?_
  rintro e v1 ⟨rfl, hb1⟩
  have HV1 := Lib.hid (below_next HB4.out hb1)
  have HT1 := Lib.hid (S2.out v1 hb1)
  have s6 := (HY4.out.below hb1).at_ 6 rfl
  have s7 := (HY4.out.below hb1).at_ 7 rfl
  have s8 := (HY4.out.below hb1).at_ 8 rfl
  have s9 := (HY4.out.below hb1).at_ 9 rfl
  have s10 := (HY4.out.below hb1).at_ 10 rfl
  have s11 := (HY4.out.below hb1).at_ 11 rfl
  have s12 := (HY4.out.below hb1).at_ 12 rfl
  have s13 := (HY4.out.below hb1).at_ 13 rfl
  have s14 := (HY4.out.below hb1).at_ 14 rfl
  clear hb1 r1 r2 r3 r4 r5 S1 S2 HY4 HP4 HQ4 HB4
  cases k2 with
  | false =>
    have HF := Lib.hid (show false = ans by rw [← HA.out]; simp)
    go_wp2
    go_ret
    exact ⟨by rw [← HF.out]; rfl, HV1.out⟩
  | true =>
  go_wp2_with fail
  refine HT1.out.mono ?_
  rintro e v2 ⟨rfl, hb2⟩
  have HV2 := Lib.hid (below_next HV1.out hb2)
  clear hb2
  have HF := Lib.hid (show k3 = ans by rw [← HA.out]; simp)
  go_wp2
  go_ret
  exact ⟨by rw [← HF.out]; rfl, HV2.out⟩
end Go.Proofs.YthfcjlndaajkfaaGreat
namespace Go.Proofs.YthfcjlndaajkfaaGreat
open Go.RowKit
set_option linter.unusedVariables false
set_option maxRecDepth 100000 in
set_option maxHeartbeats 16000000 in
theorem may3_any (id nn pid pep : Int) (P : Option Addr) (pn pc : Nat) (ps : List (Int × Int)) (tid tep : Int) (Q : Option Addr) (qn qc : Nat) (sz lv ct : Int) (lo hi : ByteArray) (tp : Int) (qs : List (Int × Int)) (w : World) (hP : PairsOk w P pn pc ps) (hQ : PairsOk w Q qn qc qs) (hls : lo.size ≤ 9223372036854775807 ∧ hi.size ≤ 9223372036854775807) (hfit : (⟨tid, tep, Q, qn, qc, sz, lv, ct, lo, hi, tp⟩ : Pk.Tb).fits) :
    Calls Tryz.prog 47 #[.agg #[.int .i64 3, .int .i64 id, .int .i64 nn, .int .i64 pid, .int .i64 pep, .slice P pn pc, .int .i64 tid, .int .i64 tep, .slice Q qn qc, .int .i64 sz, .int .i64 lv, .int .i64 ct, .string lo, .string hi, .int .i64 tp]] w fun e w' => e = .returned (.bool (⟨3, id, nn, ⟨pid, pep, ps⟩, ⟨⟨tid, tep, qs⟩, sz, lv, ct, lo, hi, tp⟩⟩ : Ed.Et).ok) ∧ Below w.heap.size w w' := by
  have hal : Below w.heap.size w (w.alloc (.cells #[.int .i64 3, .int .i64 id, .int .i64 nn, .int .i64 pid, .int .i64 pep, .slice P pn pc, .int .i64 tid, .int .i64 tep, .slice Q qn qc, .int .i64 sz, .int .i64 lv, .int .i64 ct, .string lo, .string hi, .int .i64 tp] 37)) := (Below.refl _ _).alloc (Nat.le_refl _) _
  have HX := Lib.hid (Holds.new w #[.int .i64 3, .int .i64 id, .int .i64 nn, .int .i64 pid, .int .i64 pep, .slice P pn pc, .int .i64 tid, .int .i64 tep, .slice Q qn qc, .int .i64 sz, .int .i64 lv, .int .i64 ct, .string lo, .string hi, .int .i64 tp] 37)
  have HB := Lib.hid hal
  have HPw := Lib.hid (show (∀ g o, P = some ⟨g, o, none⟩ → 0 < pn → g ≠ w.heap.size + 1) ∧ (∀ g o, Q = some ⟨g, o, none⟩ → 0 < qn → g ≠ w.heap.size + 1) from ⟨fun g o e h0 => by have := hP.blk e h0; omega, fun g o e h0 => by have := hQ.blk e h0; omega⟩)
  have HP := Lib.hid (hP.below hal)
  have HQ := Lib.hid (hQ.below hal)
  have HFit := Lib.hid (And.intro hls hfit)
  have HUs := Lib.hid (show (w.alloc (.cells #[.int .i64 3, .int .i64 id, .int .i64 nn, .int .i64 pid, .int .i64 pep, .slice P pn pc, .int .i64 tid, .int .i64 tep, .slice Q qn qc, .int .i64 sz, .int .i64 lv, .int .i64 ct, .string lo, .string hi, .int .i64 tp] 37)).heap.size = w.heap.size + 1 by simp)
  clear hal hP hQ hls hfit
  have HA := Lib.hid (show ((⟨pid, pep, ps⟩ : Ed.Pl).ok && (id == 0) && (nn == 0) && (⟨⟨tid, tep, qs⟩, sz, lv, ct, lo, hi, tp⟩ : Ed.Ta).eq Ed.noT) = (⟨3, id, nn, ⟨pid, pep, ps⟩, ⟨⟨tid, tep, qs⟩, sz, lv, ct, lo, hi, tp⟩⟩ : Ed.Et).ok from rfl)
  generalize (⟨3, id, nn, ⟨pid, pep, ps⟩, ⟨⟨tid, tep, qs⟩, sz, lv, ct, lo, hi, tp⟩⟩ : Ed.Et).ok = ans at *
  go_enter Tryz.func47, Tryz.ntmps47
  go_upto_region 1 with fail
  generalize (w.alloc (.cells #[.int .i64 3, .int .i64 id, .int .i64 nn, .int .i64 pid, .int .i64 pep, .slice P pn pc, .int .i64 tid, .int .i64 tep, .slice Q qn qc, .int .i64 sz, .int .i64 lv, .int .i64 ct, .string lo, .string hi, .int .i64 tp] 37)) = u at *
  replace HX : Hid (Holds u w.heap.size [.int .i64 3, .int .i64 id, .int .i64 nn, .int .i64 pid, .int .i64 pep, .slice P pn pc, .int .i64 tid, .int .i64 tep, .slice Q qn qc, .int .i64 sz, .int .i64 lv, .int .i64 ct, .string lo, .string hi, .int .i64 tp]) := HX
  go_cut [3, 4] from 3 to 5 (fun s3 s4 wx => s3 = .bool true ∧ s4 = .pointer (some ⟨w.heap.size + 1, 0, none⟩) ∧ Hid (Holds wx w.heap.size [.int .i64 3, .int .i64 id, .int .i64 nn, .int .i64 pid, .int .i64 pep, .slice P pn pc, .int .i64 tid, .int .i64 tep, .slice Q qn qc, .int .i64 sz, .int .i64 lv, .int .i64 ct, .string lo, .string hi, .int .i64 tp] ∧ Holds wx (w.heap.size + 1) [.int .i64 3, .int .i64 id, .int .i64 nn, .int .i64 pid, .int .i64 pep, .slice P pn pc, .int .i64 tid, .int .i64 tep, .slice Q qn qc, .int .i64 sz, .int .i64 lv, .int .i64 ct, .string lo, .string hi, .int .i64 tp] ∧ Below u.heap.size u wx))
  case first =>
    have Hsh := Lib.hid (HX.out.below (show Below u.heap.size u u.drew from (Below.refl _ _).drew))
    obtain ⟨x0, x1, x2, x3, x4, x5, x6, x7, x8, x9, x10, x11, x12, x13, x14⟩ := Hsh.out.all15
    clear Hsh
    have Hsh := Lib.hid (HX.out.below (show Below u.heap.size u (u.alloc (.cells #[.int .i64 0, .int .i64 0, .int .i64 0, .int .i64 0, .int .i64 0, .slice none 0 0, .int .i64 0, .int .i64 0, .slice none 0 0, .int .i64 0, .int .i64 0, .int .i64 0, .string ⟨#[]⟩, .string ⟨#[]⟩, .int .i64 0] 37)) from (Below.refl _ _).alloc (Nat.le_refl _) _))
    obtain ⟨z0, z1, z2, z3, z4, z5, z6, z7, z8, z9, z10, z11, z12, z13, z14⟩ := Hsh.out.all15
    clear Hsh
    have hus := HUs.out
    go_region
    all_goals
      go_wp2_with fail
      go_meet
      case rel =>
        have hal : Below u.heap.size u (u.drew.alloc (.cells #[.int .i64 3, .int .i64 id, .int .i64 nn, .int .i64 pid, .int .i64 pep, .slice P pn pc, .int .i64 tid, .int .i64 tep, .slice Q qn qc, .int .i64 sz, .int .i64 lv, .int .i64 ct, .string lo, .string hi, .int .i64 tp] 37)) := ((Below.refl _ _).drew).alloc (Nat.le_refl _) _
        exact ⟨rfl, by rw [← hus], Lib.hid ⟨HX.out.below hal, by rw [← hus]; exact Holds.new u.drew #[.int .i64 3, .int .i64 id, .int .i64 nn, .int .i64 pid, .int .i64 pep, .slice P pn pc, .int .i64 tid, .int .i64 tep, .slice Q qn qc, .int .i64 sz, .int .i64 lv, .int .i64 ct, .string lo, .string hi, .int .i64 tp] 37, hal⟩⟩
  case rest =>
  obtain ⟨rfl, rfl, HC⟩ := hcut
  have HB2 := Lib.hid (below_next HB.out HC.out.2.2)
  have HP2 := Lib.hid (HP.out.below HC.out.2.2)
  have HQ2 := Lib.hid (HQ.out.below HC.out.2.2)
  have HX2 := Lib.hid HC.out.1
  have HY2 := Lib.hid HC.out.2.1
  clear HX HB HP HQ HC HUs
  have ne0 : w.heap.size ≠ w.heap.size + 1 := by omega
  have F1 := mbplace_any pid pep P pn pc ps wc HP2.out.1 HP2.out.2.2
  have F1 : Calls Tryz.prog 32 #[.agg #[.int .i64 pid, .int .i64 pep, .slice P pn pc]] wc fun e w' => e = .returned (.bool (⟨pid, pep, ps⟩ : Ed.Pl).ok) ∧ Below wc.heap.size wc w' := F1
  generalize (⟨pid, pep, ps⟩ : Ed.Pl).ok = k0 at *
  have F1 := Lib.hid F1
  have x0 := HX2.out.at_ 0 rfl
  have x3 := HX2.out.at_ 3 rfl
  have x4 := HX2.out.at_ 4 rfl
  have x5 := HX2.out.at_ 5 rfl
  go_wp2_with fail
  refine F1.out.mono ?_
  rintro e v ⟨rfl, hbv⟩
  clear F1 x0 x3 x4 x5
  have HX3 := Lib.hid (HX2.out.below hbv)
  have HY3 := Lib.hid (HY2.out.below hbv)
  have HB3 := Lib.hid (below_next HB2.out hbv)
  have HP3 := Lib.hid (HP2.out.below hbv)
  have HQ3 := Lib.hid (HQ2.out.below hbv)
  clear hbv HX2 HY2 HB2 HP2 HQ2
  have HPb := Lib.hid (show (∀ g o, P = some ⟨g, o, none⟩ → 0 < pn → g ≠ w.heap.size + 1) ∧ (∀ g o, Q = some ⟨g, o, none⟩ → 0 < qn → g ≠ w.heap.size + 1) from HPw.out)
  have y3 := HY3.out.at_ 3 rfl
  have yf3 := HY3.out.2.2 3
  have y4 := HY3.out.at_ 4 rfl
  have yf4 := HY3.out.2.2 4
  have y5 := HY3.out.at_ 5 rfl
  have yf5 := HY3.out.2.2 5
  have HY4 := Lib.hid (show Holds (((v.setCell ⟨w.heap.size + 1, 3, none⟩ (.int .i64 0)).setCell ⟨w.heap.size + 1, 4, none⟩ (.int .i64 0)).setCell ⟨w.heap.size + 1, 5, none⟩ (.slice none 0 0)) (w.heap.size + 1) [.int .i64 3, .int .i64 id, .int .i64 nn, .int .i64 0, .int .i64 0, .slice none 0 0, .int .i64 tid, .int .i64 tep, .slice Q qn qc, .int .i64 sz, .int .i64 lv, .int .i64 ct, .string lo, .string hi, .int .i64 tp] from (((HY3.out.set 3 (.int .i64 0) (by simp)).set 4 (.int .i64 0) (by simp)).set 5 (.slice none 0 0) (by simp)))
  have HX4 := Lib.hid (show Holds (((v.setCell ⟨w.heap.size + 1, 3, none⟩ (.int .i64 0)).setCell ⟨w.heap.size + 1, 4, none⟩ (.int .i64 0)).setCell ⟨w.heap.size + 1, 5, none⟩ (.slice none 0 0)) w.heap.size [.int .i64 3, .int .i64 id, .int .i64 nn, .int .i64 pid, .int .i64 pep, .slice P pn pc, .int .i64 tid, .int .i64 tep, .slice Q qn qc, .int .i64 sz, .int .i64 lv, .int .i64 ct, .string lo, .string hi, .int .i64 tp] from (((HX3.out.other ne0).other ne0).other ne0))
  have HB4 := Lib.hid (show Below w.heap.size w (((v.setCell ⟨w.heap.size + 1, 3, none⟩ (.int .i64 0)).setCell ⟨w.heap.size + 1, 4, none⟩ (.int .i64 0)).setCell ⟨w.heap.size + 1, 5, none⟩ (.slice none 0 0)) from (((HB3.out.setCell (Nat.le_succ _) _).setCell (Nat.le_succ _) _).setCell (Nat.le_succ _) _))
  have hgr : v.grownBy (((v.setCell ⟨w.heap.size + 1, 3, none⟩ (.int .i64 0)).setCell ⟨w.heap.size + 1, 4, none⟩ (.int .i64 0)).setCell ⟨w.heap.size + 1, 5, none⟩ (.slice none 0 0)) (some (w.heap.size + 1)) := (((World.grownBy.refl v (some (w.heap.size + 1))).trans (grown_cell _ _ _ _)).trans (grown_cell _ _ _ _)).trans (grown_cell _ _ _ _)
  have HP4 := Lib.hid (pairs_grown HP3.out HPb.out.1 hgr)
  have HQ4 := Lib.hid (pairs_grown HQ3.out HPb.out.2 hgr)
  go_upto_region 17 with fail
  clear y3 yf3 y4 yf4 y5 yf5 hgr HX4 HX3 HY3 HB3 HP3 HQ3 HPb
  generalize (((v.setCell ⟨w.heap.size + 1, 3, none⟩ (.int .i64 0)).setCell ⟨w.heap.size + 1, 4, none⟩ (.int .i64 0)).setCell ⟨w.heap.size + 1, 5, none⟩ (.slice none 0 0)) = q at *
  have S1 : Calls Tryz.prog 67 #[.agg #[.int .i64 0, .int .i64 0, .slice none 0 0], .agg #[.int .i64 0, .int .i64 0, .slice none 0 0]] q fun e w' => e = .returned (.bool true) ∧ Below q.heap.size q w' := sameplace_any 0 0 none 0 0 [] 0 0 none 0 0 [] q ⟨rfl, RdC.nil _ _ _⟩ ⟨rfl, RdC.nil _ _ _⟩ (by omega) (by omega)
  have S1 := Lib.hid S1
  have S2 : ∀ v, Below q.heap.size q v → Calls Tryz.prog 46 #[.agg #[.int .i64 tid, .int .i64 tep, .slice Q qn qc, .int .i64 sz, .int .i64 lv, .int .i64 ct, .string lo, .string hi, .int .i64 tp], .agg #[.int .i64 0, .int .i64 0, .slice none 0 0, .int .i64 0, .int .i64 0, .int .i64 0, .string ⟨#[]⟩, .string ⟨#[]⟩, .int .i64 0]] v fun e w' => e = .returned (.bool ((⟨⟨tid, tep, qs⟩, sz, lv, ct, lo, hi, tp⟩ : Ed.Ta).eq Ed.noT)) ∧ Below v.heap.size v w' := fun v hv => sametable_any tid tep Q qn qc sz lv ct lo hi tp qs 0 0 none 0 0 0 0 0 ⟨#[]⟩ ⟨#[]⟩ 0 [] v (HQ4.out.1.below hv) ⟨rfl, RdC.nil _ _ _⟩ HQ4.out.2.2 (by omega)
  generalize (⟨⟨tid, tep, qs⟩, sz, lv, ct, lo, hi, tp⟩ : Ed.Ta).eq Ed.noT = k3 at *
  have S2 := Lib.hid S2
  have r1 := HY4.out.at_ 1 rfl
  have r2 := HY4.out.at_ 2 rfl
  have r3 := HY4.out.at_ 3 rfl
  have r4 := HY4.out.at_ 4 rfl
  have r5 := HY4.out.at_ 5 rfl
  cases k0 with
  | false =>
    have HF := Lib.hid (show false = ans by rw [← HA.out]; simp)
    go_wp2
    go_ret
    exact ⟨by rw [← HF.out]; rfl, HB4.out⟩
  | true =>
  cases g1 : (id == 0) with
  | false =>
    rw [g1] at HA
    have HF := Lib.hid (show false = ans by rw [← HA.out]; simp)
    go_wp2
    go_ret
    exact ⟨by rw [← HF.out]; rfl, HB4.out⟩
  | true =>
  rw [g1] at HA
  cases g2 : (nn == 0) with
  | false =>
    rw [g2] at HA
    have HF := Lib.hid (show false = ans by rw [← HA.out]; simp)
    go_wp2
    go_ret
    exact ⟨by rw [← HF.out]; rfl, HB4.out⟩
  | true =>
  rw [g2] at HA
  go_wp2_with fail
  refine S1.out.mono ?_
  rintro e v1 ⟨rfl, hb1⟩
  have HV1 := Lib.hid (below_next HB4.out hb1)
  have HT1 := Lib.hid (S2.out v1 hb1)
  have s6 := (HY4.out.below hb1).at_ 6 rfl
  have s7 := (HY4.out.below hb1).at_ 7 rfl
  have s8 := (HY4.out.below hb1).at_ 8 rfl
  have s9 := (HY4.out.below hb1).at_ 9 rfl
  have s10 := (HY4.out.below hb1).at_ 10 rfl
  have s11 := (HY4.out.below hb1).at_ 11 rfl
  have s12 := (HY4.out.below hb1).at_ 12 rfl
  have s13 := (HY4.out.below hb1).at_ 13 rfl
  have s14 := (HY4.out.below hb1).at_ 14 rfl
  clear hb1 r1 r2 r3 r4 r5 S1 S2 HY4 HP4 HQ4 HB4
  go_wp2_with fail
  refine HT1.out.mono ?_
  rintro e v2 ⟨rfl, hb2⟩
  have HV2 := Lib.hid (below_next HV1.out hb2)
  clear hb2
  have HF := Lib.hid (show k3 = ans by rw [← HA.out]; simp)
  go_wp2
  go_ret
  exact ⟨by rw [← HF.out]; rfl, HV2.out⟩
end Go.Proofs.YthfcjlndaajkfaaGreat
