/- What the document's reader makes of bytes, plain: the same edits as the program's. The document's Read at work: its reader, and the edit that it fills. The document's Read at work: with the pairs of its edit, and the row of edits kept clear. -/
import Derived.Test.YthfcjlndaajkfaaGreatTRbRp
import Derived.Test.YthfcjlndaajkfaaGreatTEdBkM
import Derived.Test.YthfcjlndaajkfaaGreatTEdRead
namespace Go.Proofs.YthfcjlndaajkfaaGreat
open Go.RowKit
set_option linter.unusedVariables false
set_option linter.unusedSimpArgs false
namespace Ed
def dTa (r : List Nat) (ok : Bool) : Ta × List Nat × Bool :=
  let x := dP r ok
  let a := dN x.2.1 x.2.2
  let b := dN a.2.1 a.2.2
  let c := dN b.2.1 b.2.2
  let d := dT c.2.1 c.2.2
  let e := dT d.2.1 d.2.2
  let f := dN e.2.1 e.2.2
  (⟨x.1, a.1, b.1, c.1, d.1, e.1, f.1⟩, f.2)
/-- An edit of kind k is taken. -/
def dE (k : Int) (r : List Nat) (ok : Bool) : Et × List Nat × Bool :=
  if k = 1 ∨ k = 2 then (⟨k, 0, (dN r ok).1, noP, noT⟩, (dN r ok).2)
  else if k = 4 then (⟨k, (dN r ok).1, (dN (dN r ok).2.1 (dN r ok).2.2).1, noP, noT⟩, (dN (dN r ok).2.1 (dN r ok).2.2).2)
  else if k = 3 then (⟨k, 0, 0, (dP r ok).1, noT⟩, (dP r ok).2)
  else if k = 6 then (⟨k, 0, 0, noP, (dTa r ok).1⟩, (dTa r ok).2)
  else (⟨k, (dN r ok).1, 0, noP, noT⟩, (dN r ok).2)
/-- Edits are taken, k of them, as long as it goes on and something is left. -/
def dEs : Nat → List Nat → Bool → List Et × List Nat × Bool
  | 0, r, ok => ([], r, ok)
  | _ + 1, [], ok => ([], [], ok)
  | k + 1, b :: r, ok => if ok = true then ((dE (b : Int) r ok).1 :: (dEs k (dE (b : Int) r ok).2.1 (dE (b : Int) r ok).2.2).1, (dEs k (dE (b : Int) r ok).2.1 (dE (b : Int) r ok).2.2).2) else ([], b :: r, ok)
/-- All that the document's Read takes; does it go on. -/
def dAll (l : List Nat) : List Et × Bool := ((dEs (min (dN l true).1.toNat 257) (dN l true).2.1 (dN l true).2.2).1, (dEs (min (dN l true).1.toNat 257) (dN l true).2.1 (dN l true).2.2).2.2)
def dRead (l : List Nat) : Option (List Et) :=
  if (dAll l).2 = true ∧ (dAll l).1.length ≤ 256 ∧ (dAll l).1.all Et.ok = true ∧ bytes (dAll l).1 = l then some (dAll l).1 else none
theorem dN_put {n : Int} (h0 : 0 ≤ n) (h1 : n ≤ 2199023255552) (t : List Nat) (ok : Bool) : dN (nB n ++ t) ok = (n, t, ok) := by
  unfold dN nB
  rw [takeNum_num _ (by omega)]
  dsimp only
  rw [if_neg (by omega), Int.toNat_of_nonneg h0]
theorem dT_put {s : ByteArray} (h : s.size ≤ 64) (t : List Nat) (ok : Bool) : dT (Cd.text s ++ t) ok = (s, t, ok) := by
  have hb : (bs s).length = s.size := by unfold bs; rw [List.length_map]; rfl
  have e2 : Cd.takeText (Cd.text s ++ t) 64 = some (bs s, t) := by
    unfold Cd.takeText
    rw [show Cd.text s ++ t = Cd.num s.size ++ (bs s ++ t) by unfold Cd.text; rw [List.append_assoc], takeNum_num _ (by omega)]
    dsimp only
    rw [if_neg (by rw [List.length_append, hb]; omega), ← hb, List.take_left, List.drop_left]
  unfold dT
  rw [e2]
  dsimp only
  rw [str_bs]
theorem dQs_put (t : List Nat) : ∀ (ps : List (Int × Int)), (∀ z ∈ fl ps, 0 ≤ z ∧ z ≤ 1099511627776) → dQs ps.length (pB ps ++ t) true = (ps, t, true)
  | [], _ => rfl
  | (x, y) :: ps, h => by
    have ih := dQs_put t ps (fun z hz => h z (by unfold fl at hz ⊢; rw [List.flatMap_cons]; exact List.mem_append_right _ hz))
    have hx := h x (by unfold fl; simp)
    have hy := h y (by unfold fl; simp)
    have e : pB ((x, y) :: ps) ++ t = nB x ++ (nB y ++ (pB ps ++ t)) := by unfold pB; rw [List.flatMap_cons, nsB_cons, nsB_one]; simp only [List.append_assoc]
    rw [e]
    show dQs (ps.length + 1) _ _ = _
    unfold dQs
    rw [if_pos rfl, dN_put hx.1 (by omega)]
    dsimp only
    rw [dN_put hy.1 (by omega)]
    dsimp only
    rw [ih]
theorem dP_put {p : Pl} (ho : p.ok = true) (t : List Nat) : dP (plB p ++ t) true = (p, t, true) := by
  obtain ⟨id, ep, ps⟩ := p
  unfold Pl.ok okP at ho
  simp only [Bool.and_eq_true, from_iff, List.all_eq_true] at ho
  obtain ⟨⟨⟨⟨h1, h2⟩, h3⟩, h4⟩, h5⟩ := ho
  have e : plB ⟨id, ep, ps⟩ ++ t = nB id ++ (nB ep ++ (nB (ps.length : Int) ++ (pB ps ++ t))) := by
    unfold plB
    rw [nsB_cons, nsB_cons, nsB_one]
    simp only [List.append_assoc]
    rfl
  rw [e]
  unfold dP
  rw [dN_put (by omega) (by omega)]
  dsimp only
  rw [dN_put (by omega) (by omega)]
  dsimp only
  rw [dN_put (by omega) (by omega)]
  dsimp only
  rw [show min ((ps.length : Int)).toNat 65 = ps.length by omega, dQs_put t ps (fun z hz => by have := h4 z hz; omega)]
theorem dTa_put {x : Ta} (ho : x.ok = true) (t : List Nat) : dTa (taB x ++ t) true = (x, t, true) := by
  obtain ⟨p, sz, lv, ct, lo, hi, tp⟩ := x
  have hp : p.ok = true := (okT_q ho).1
  have hp2 := hp
  unfold Ta.ok okT at ho
  simp only [Bool.and_eq_true, from_iff, Bool.not_eq_true'] at ho
  obtain ⟨⟨⟨⟨⟨⟨⟨_, h2⟩, h3⟩, h4⟩, h5⟩, h6⟩, h7⟩, _⟩ := ho
  unfold Pl.ok okP at hp2
  simp only [Bool.and_eq_true, from_iff, List.all_eq_true] at hp2
  obtain ⟨⟨⟨_, hc⟩, _⟩, _⟩ := hp2
  have e : taB ⟨p, sz, lv, ct, lo, hi, tp⟩ ++ t = plB p ++ (nB sz ++ (nB lv ++ (nB ct ++ (Cd.text lo ++ (Cd.text hi ++ (nB tp ++ t)))))) := by
    unfold taB
    rw [nsB_cons, nsB_cons, nsB_one, nsB_one]
    simp only [List.append_assoc]
  rw [e]
  unfold dTa
  rw [dP_put hp]
  dsimp only
  rw [dN_put (by omega) (by omega)]
  dsimp only
  rw [dN_put (by omega) (by omega)]
  dsimp only
  rw [dN_put (by omega) (by omega)]
  dsimp only
  rw [dT_put (by omega)]
  dsimp only
  rw [dT_put (by omega)]
  dsimp only
  rw [dN_put (by omega) (by omega)]
theorem dE_put {e : Et} (ho : e.ok = true) (t : List Nat) : dE e.kd (etB e ++ t) true = (e, t, true) := by
  obtain ⟨kd, id, n, p, x⟩ := e
  have hk := kinds ho
  dsimp only at hk ⊢
  unfold Et.ok at ho
  dsimp only at ho
  rcases hk with rfl | rfl | rfl | rfl | rfl | rfl | rfl
  · rw [if_pos rfl] at ho
    simp only [Bool.and_eq_true, from_iff, decide_eq_true_eq, Pl.eq_iff, Ta.eq_iff] at ho
    obtain ⟨⟨⟨h1, rfl⟩, rfl⟩, rfl⟩ := ho
    rw [show etB (⟨1, 0, n, noP, noT⟩ : Et) = nsB [n] from rfl]
    unfold dE
    rw [if_pos (by decide), nsB_one, dN_put (by omega) (by omega)]
  · rw [if_neg (by decide), if_pos rfl] at ho
    simp only [Bool.and_eq_true, from_iff, decide_eq_true_eq, Pl.eq_iff, Ta.eq_iff] at ho
    obtain ⟨⟨⟨h1, rfl⟩, rfl⟩, rfl⟩ := ho
    rw [show etB (⟨2, 0, n, noP, noT⟩ : Et) = nsB [n] from rfl]
    unfold dE
    rw [if_pos (by decide), nsB_one, dN_put (by omega) (by omega)]
  · rw [if_neg (by decide), if_neg (by decide), if_pos rfl] at ho
    simp only [Bool.and_eq_true, from_iff, decide_eq_true_eq, Pl.eq_iff, Ta.eq_iff] at ho
    obtain ⟨⟨⟨h1, rfl⟩, rfl⟩, rfl⟩ := ho
    rw [show etB (⟨3, 0, 0, p, noT⟩ : Et) = plB p from rfl]
    unfold dE
    rw [if_neg (by decide), if_neg (by decide), if_pos rfl, dP_put h1]
  · rw [if_neg (by decide), if_neg (by decide), if_neg (by decide), if_pos rfl] at ho
    simp only [Bool.and_eq_true, from_iff, decide_eq_true_eq, Pl.eq_iff, Ta.eq_iff] at ho
    obtain ⟨⟨⟨h1, h2⟩, rfl⟩, rfl⟩ := ho
    rw [show etB (⟨4, id, n, noP, noT⟩ : Et) = nsB [id] ++ nsB [n] from rfl]
    unfold dE
    rw [if_neg (by decide), if_pos rfl, nsB_one, nsB_one, List.append_assoc, dN_put (by omega) (by omega)]
    dsimp only
    rw [dN_put (by omega) (by omega)]
  · rw [if_neg (by decide), if_neg (by decide), if_neg (by decide), if_neg (by decide), if_pos rfl] at ho
    simp only [Bool.and_eq_true, from_iff, decide_eq_true_eq, Pl.eq_iff, Ta.eq_iff] at ho
    obtain ⟨⟨⟨h1, rfl⟩, rfl⟩, rfl⟩ := ho
    rw [show etB (⟨5, id, 0, noP, noT⟩ : Et) = nsB [id] from rfl]
    unfold dE
    rw [if_neg (by decide), if_neg (by decide), if_neg (by decide), if_neg (by decide), nsB_one, dN_put (by omega) (by omega)]
  · rw [if_neg (by decide), if_neg (by decide), if_neg (by decide), if_neg (by decide), if_neg (by decide), if_pos rfl] at ho
    simp only [Bool.and_eq_true, from_iff, decide_eq_true_eq, Pl.eq_iff, Ta.eq_iff] at ho
    obtain ⟨⟨⟨h1, rfl⟩, rfl⟩, rfl⟩ := ho
    rw [show etB (⟨6, 0, 0, noP, x⟩ : Et) = taB x from rfl]
    unfold dE
    rw [if_neg (by decide), if_neg (by decide), if_neg (by decide), if_pos rfl, dTa_put h1]
  · rw [if_neg (by decide), if_neg (by decide), if_neg (by decide), if_neg (by decide), if_neg (by decide), if_neg (by decide), if_pos rfl] at ho
    simp only [Bool.and_eq_true, from_iff, decide_eq_true_eq, Pl.eq_iff, Ta.eq_iff] at ho
    obtain ⟨⟨⟨h1, rfl⟩, rfl⟩, rfl⟩ := ho
    rw [show etB (⟨7, id, 0, noP, noT⟩ : Et) = nsB [id] from rfl]
    unfold dE
    rw [if_neg (by decide), if_neg (by decide), if_neg (by decide), if_neg (by decide), nsB_one, dN_put (by omega) (by omega)]
theorem dEs_put (t : List Nat) : ∀ (E : List Et), (∀ e ∈ E, e.ok = true) → dEs E.length (E.flatMap edB ++ t) true = (E, t, true)
  | [], _ => by unfold dEs; rfl
  | x :: E, h => by
    have ih := dEs_put t E (fun e he => h e (List.mem_cons_of_mem _ he))
    have hxo := h x (List.mem_cons_self ..)
    have hkd : ((x.kd.toNat : Nat) : Int) = x.kd := by rcases kinds hxo with h | h | h | h | h | h | h <;> rw [h] <;> rfl
    have e : (x :: E).flatMap edB ++ t = x.kd.toNat :: (etB x ++ (E.flatMap edB ++ t)) := by rw [List.flatMap_cons]; unfold edB; simp
    rw [e]
    show dEs (E.length + 1) _ _ = _
    unfold dEs
    rw [if_pos rfl, hkd, dE_put hxo]
    dsimp only
    rw [ih]
/-- The document reads the edits that the program reads. -/
theorem dRead_eq (l : List Nat) : dRead l = read l := by
  cases h : read l with
  | some E =>
    obtain ⟨hb, hl, ho⟩ := bytes_read h
    subst hb
    have ho2 := List.all_eq_true.1 ho
    have hA : dAll (bytes E) = (E, true) := by
      unfold dAll bytes
      rw [dN_put (by omega) (by omega)]
      dsimp only
      have := dEs_put [] E ho2
      rw [List.append_nil] at this
      rw [show min ((E.length : Int)).toNat 257 = E.length by omega, this]
    unfold dRead
    rw [hA, if_pos ⟨rfl, hl, ho, rfl⟩]
  | none =>
    unfold dRead
    split
    · rename_i h2
      obtain ⟨_, hl, ho, hb⟩ := h2
      have := read_bytes hl (List.all_eq_true.1 ho)
      rw [hb, h] at this
      cases this
    · rfl
end Ed
end Go.Proofs.YthfcjlndaajkfaaGreat
namespace Go.Proofs.YthfcjlndaajkfaaGreat
open Go.RowKit
set_option linter.unusedVariables false
/-- Since w0 only the reader's block and the edit's are other; the reader has r before it, the edit's cells are cs. -/
structure Ds (w0 W : World) (rb xb : Nat) (A : Option Addr) (cap : Nat) (r : List Nat) (ok : Bool) (cs : List Value) : Prop where
  rr : Rr W rb A cap r ok
  x : Holds W xb cs
  clr : 0 < r.length → blkOf A ≠ some xb
  two : Two w0 W rb xb
  ne : rb ≠ xb
  lt : rb < w0.heap.size ∧ xb < w0.heap.size
theorem Two.swap {w w' : World} {a b : Nat} (h : Two w w' a a) : Two w w' a b := ⟨h.os, h.tape, h.output, h.size, fun k hk h1 _ => h.block k hk h1 h1⟩
theorem Ds.num {w0 W W1 : World} {rb xb cap : Nat} {A : Option Addr} {r r' : List Nat} {ok ok' : Bool} {cs : List Value} {v : Value} {e : Ending} (h : Ds w0 W rb xb A cap r ok cs) (k : GivesD W rb A r v r' ok' e W1) : ∃ A' cap', Ds w0 W1 rb xb A' cap' r' ok' cs := by
  obtain ⟨_, ⟨A', cap', h1, h2⟩, h3⟩ := k
  exact ⟨A', cap', h1, h.x.two h3 (fun e => h.ne e.symm) (fun e => h.ne e.symm), Rr.clear h2 h.x.1 h.clr, h.two.trans h3.swap, h.ne, h.lt⟩
theorem Ds.place {w0 W W1 : World} {rb xb cap : Nat} {A : Option Addr} {r : List Nat} {ok : Bool} {cs : List Value} {p : Ed.Pl × List Nat × Bool} {e : Ending} (h : Ds w0 W rb xb A cap r ok cs) (k : GivesDP W rb A r p e W1) :
    ∃ P pn pc A' cap', e = .returned (.agg #[.int .i64 p.1.id, .int .i64 p.1.ep, .slice P pn pc]) ∧ OwP W1 W.heap.size P pn pc p.1.ps ∧ (0 < p.2.1.length → ∀ g, blkOf P = some g → blkOf A' ≠ some g) ∧ Ds w0 W1 rb xb A' cap' p.2.1 p.2.2 cs := by
  obtain ⟨P, pn, pc, rfl, hP, ⟨A', cap', h1, h2, h4⟩, h3⟩ := k
  exact ⟨P, pn, pc, A', cap', rfl, hP, h4, h1, h.x.two h3 (fun e => h.ne e.symm) (fun e => h.ne e.symm), Rr.clear h2 h.x.1 h.clr, h.two.trans h3.swap, h.ne, h.lt⟩
theorem Ds.set {w0 W : World} {rb xb cap : Nat} {A : Option Addr} {r : List Nat} {ok : Bool} {cs : List Value} (h : Ds w0 W rb xb A cap r ok cs) (i : Nat) (v : Value) (hi : i < cs.length) : Ds w0 (W.setCell ⟨xb, i, none⟩ v) rb xb A cap r ok (cs.set i v) :=
  have hg := grown_cell W xb i v
  ⟨h.rr.grown hg (fun e => by injection e with e; exact h.ne e.symm) h.clr, h.x.set i v hi, h.clr, h.two.trans (Two.ob hg rb), h.ne, h.lt⟩
theorem Ds.set3 {w0 W : World} {rb xb cap : Nat} {A : Option Addr} {r : List Nat} {ok : Bool} {cs : List Value} (h : Ds w0 W rb xb A cap r ok cs) (i : Nat) (v1 v2 v3 : Value) (hi : i + 2 < cs.length) : Ds w0 (((W.setCell ⟨xb, i, none⟩ v1).setCell ⟨xb, i + 1, none⟩ v2).setCell ⟨xb, i + 2, none⟩ v3) rb xb A cap r ok (((cs.set i v1).set (i + 1) v2).set (i + 2) v3) :=
  ((h.set i v1 (by omega)).set (i + 1) v2 (by rw [List.length_set]; omega)).set (i + 2) v3 (by rw [List.length_set, List.length_set]; omega)
/-- Pairs that a place was taken with stay while more is taken. -/
theorem Ds.pairs {w0 W W1 : World} {rb xb base : Nat} {P : Option Addr} {pn pc : Nat} {ps : List (Int × Int)} (h : OwP W base P pn pc ps) (t : Two W W1 rb xb) (h1 : rb < base) (h2 : xb < base) : OwP W1 base P pn pc ps := ⟨h.1, h.2.two t h1 h2⟩
namespace Ed
theorem dT_size (r : List Nat) (ok : Bool) : (dT r ok).1.size ≤ 64 := by
  unfold dT
  split
  · exact Nat.zero_le _
  · rename_i t r2 h
    unfold Cd.takeText at h
    split at h
    · cases h
    · rename_i v s hs
      split at h
      · cases h
      · injection h with h
        injection h with h _
        subst h
        show (List.map (fun (n : Nat) => UInt8.ofNat n) (List.take v s)).toArray.size ≤ 64
        simp
        omega
theorem dE_fits (k : Int) (r : List Nat) (ok : Bool) : ((dE k r ok).1.t.lo.size ≤ 64 ∧ (dE k r ok).1.t.hi.size ≤ 64 ∧ (0 ≤ (dE k r ok).1.t.lv ∧ (dE k r ok).1.t.lv ≤ 2199023255552) ∧ (0 ≤ (dE k r ok).1.t.ct ∧ (dE k r ok).1.t.ct ≤ 2199023255552) ∧ (0 ≤ (dE k r ok).1.t.p.id ∧ (dE k r ok).1.t.p.id ≤ 2199023255552)) := by
  have hz : (noT.lo.size ≤ 64 ∧ noT.hi.size ≤ 64 ∧ (0 ≤ noT.lv ∧ noT.lv ≤ 2199023255552) ∧ (0 ≤ noT.ct ∧ noT.ct ≤ 2199023255552) ∧ (0 ≤ noT.p.id ∧ noT.p.id ≤ 2199023255552)) := by decide
  unfold dE
  split
  · exact hz
  split
  · exact hz
  split
  · exact hz
  split
  · have hp : 0 ≤ (dP r ok).1.id ∧ (dP r ok).1.id ≤ 2199023255552 := by unfold dP; exact dN_q r ok
    unfold dTa
    generalize dP r ok = p at *
    exact ⟨dT_size _ _, dT_size _ _, dN_q _ _, dN_q _ _, hp⟩
  · exact hz
theorem detOf_fits {x : Er} {ps qs : List (Int × Int)} {r : List Nat} {ok : Bool} {kd : Int} (h : etOf (x, (ps, qs)) = (dE kd r ok).1) : x.t.fits := by
  have hf := dE_fits kd r ok
  rw [← h] at hf
  obtain ⟨h1, h2, h3, h4, h5⟩ := hf
  have h1 : x.t.lo.size ≤ 64 := h1
  have h2 : x.t.hi.size ≤ 64 := h2
  have h3 : 0 ≤ x.t.lv ∧ x.t.lv ≤ 2199023255552 := h3
  have h4 : 0 ≤ x.t.ct ∧ x.t.ct ≤ 2199023255552 := h4
  have h5 : 0 ≤ x.t.id ∧ x.t.id ≤ 2199023255552 := h5
  exact ⟨by omega, by omega, by omega, by omega, by omega⟩
theorem dEs_no (k : Nat) (r : List Nat) : dEs k r false = ([], r, false) := by
  cases k with
  | zero => rfl
  | succ k => cases r <;> simp [dEs]
theorem dEs_nil (k : Nat) (ok : Bool) : dEs k [] ok = ([], [], ok) := by cases k <;> rfl
end Ed
end Go.Proofs.YthfcjlndaajkfaaGreat
namespace Go.Proofs.YthfcjlndaajkfaaGreat
open Go.RowKit
set_option linter.unusedVariables false
/-- As Ds; R's row is older than w0 and is not the reader's; P and Q have pairs of their own. -/
structure Dz (w0 W : World) (rb xb : Nat) (A : Option Addr) (cap : Nat) (r : List Nat) (ok : Bool) (cs : List Value) (R : Option Addr) (P : Option Addr) (pn pc : Nat) (ps : List (Int × Int)) (Q : Option Addr) (qn qc : Nat) (qs : List (Int × Int)) : Prop where
  d : Ds w0 W rb xb A cap r ok cs
  lt : ∀ g, blkOf R = some g → g < w0.heap.size
  clr : 0 < r.length → ∀ g, blkOf R = some g → blkOf A ≠ some g
  p : OwP W w0.heap.size P pn pc ps
  q : OwP W w0.heap.size Q qn qc qs
section
variable {w0 W W1 : World} {rb xb cap pn pc qn qc : Nat} {A R P Q : Option Addr} {r : List Nat} {ok : Bool} {cs : List Value} {ps qs : List (Int × Int)}
theorem Dz.begin (h : Ds w0 W rb xb A cap r ok cs) (h1 : ∀ g, blkOf R = some g → g < w0.heap.size) (h2 : 0 < r.length → ∀ g, blkOf R = some g → blkOf A ≠ some g) : Dz w0 W rb xb A cap r ok cs R none 0 0 [] none 0 0 [] := ⟨h, h1, h2, OwP.nil _ _, OwP.nil _ _⟩
theorem Dz.num {r' : List Nat} {ok' : Bool} {v : Value} {e : Ending} (h : Dz w0 W rb xb A cap r ok cs R P pn pc ps Q qn qc qs) (k : GivesD W rb A r v r' ok' e W1) : ∃ A' cap', Dz w0 W1 rb xb A' cap' r' ok' cs R P pn pc ps Q qn qc qs := by
  obtain ⟨_, ⟨A', cap', h1, h2⟩, h3⟩ := k
  exact ⟨A', cap', ⟨h1, h.d.x.two h3 (fun e => h.d.ne e.symm) (fun e => h.d.ne e.symm), Rr.clear h2 h.d.x.1 h.d.clr, h.d.two.trans h3.swap, h.d.ne, h.d.lt⟩, h.lt,
    fun h0 g hg => Rr.clear h2 (Nat.lt_of_lt_of_le (h.lt g hg) h.d.two.size) (fun h1 => h.clr h1 g hg) h0, h.p.two h3 h.d.lt.1 h.d.lt.1, h.q.two h3 h.d.lt.1 h.d.lt.1⟩
theorem Dz.place {p : Ed.Pl × List Nat × Bool} {e : Ending} (h : Dz w0 W rb xb A cap r ok cs R P pn pc ps Q qn qc qs) (k : GivesDP W rb A r p e W1) :
    ∃ P2 pn2 pc2 A' cap', e = .returned (.agg #[.int .i64 p.1.id, .int .i64 p.1.ep, .slice P2 pn2 pc2]) ∧ OwP W1 w0.heap.size P2 pn2 pc2 p.1.ps ∧ Dz w0 W1 rb xb A' cap' p.2.1 p.2.2 cs R P pn pc ps Q qn qc qs := by
  obtain ⟨P2, pn2, pc2, rfl, hP, ⟨A', cap', h1, h2, h4⟩, h3⟩ := k
  exact ⟨P2, pn2, pc2, A', cap', rfl, hP.base_ h.d.two.size, ⟨h1, h.d.x.two h3 (fun e => h.d.ne e.symm) (fun e => h.d.ne e.symm), Rr.clear h2 h.d.x.1 h.d.clr, h.d.two.trans h3.swap, h.d.ne, h.d.lt⟩, h.lt,
    fun h0 g hg => Rr.clear h2 (Nat.lt_of_lt_of_le (h.lt g hg) h.d.two.size) (fun h1 => h.clr h1 g hg) h0, h.p.two h3 h.d.lt.1 h.d.lt.1, h.q.two h3 h.d.lt.1 h.d.lt.1⟩
theorem Dz.keepP (h : Dz w0 W rb xb A cap r ok cs R P pn pc ps Q qn qc qs) {P2 : Option Addr} {pn2 pc2 : Nat} {ps2 : List (Int × Int)} (k : OwP W w0.heap.size P2 pn2 pc2 ps2) : Dz w0 W rb xb A cap r ok cs R P2 pn2 pc2 ps2 Q qn qc qs := ⟨h.d, h.lt, h.clr, k, h.q⟩
theorem Dz.keepQ (h : Dz w0 W rb xb A cap r ok cs R P pn pc ps Q qn qc qs) {P2 : Option Addr} {pn2 pc2 : Nat} {ps2 : List (Int × Int)} (k : OwP W w0.heap.size P2 pn2 pc2 ps2) : Dz w0 W rb xb A cap r ok cs R P pn pc ps P2 pn2 pc2 ps2 := ⟨h.d, h.lt, h.clr, h.p, k⟩
theorem Dz.set (h : Dz w0 W rb xb A cap r ok cs R P pn pc ps Q qn qc qs) (i : Nat) (v : Value) (hi : i < cs.length) : Dz w0 (W.setCell ⟨xb, i, none⟩ v) rb xb A cap r ok (cs.set i v) R P pn pc ps Q qn qc qs :=
  have hg := grown_cell W xb i v
  ⟨h.d.set i v hi, h.lt, h.clr, h.p.two (Two.ob hg rb) h.d.lt.1 h.d.lt.2, h.q.two (Two.ob hg rb) h.d.lt.1 h.d.lt.2⟩
theorem Dz.set3 (h : Dz w0 W rb xb A cap r ok cs R P pn pc ps Q qn qc qs) (v1 v2 v3 : Value) (hi : 5 < cs.length) : Dz w0 (((W.setCell ⟨xb, 3, none⟩ v1).setCell ⟨xb, 4, none⟩ v2).setCell ⟨xb, 5, none⟩ v3) rb xb A cap r ok (((cs.set 3 v1).set 4 v2).set 5 v3) R P pn pc ps Q qn qc qs :=
  ((h.set 3 v1 (by omega)).set 4 v2 (by rw [List.length_set]; omega)).set 5 v3 (by rw [List.length_set, List.length_set]; omega)
theorem Dz.set6 (h : Dz w0 W rb xb A cap r ok cs R P pn pc ps Q qn qc qs) (v1 v2 v3 : Value) (hi : 8 < cs.length) : Dz w0 (((W.setCell ⟨xb, 6, none⟩ v1).setCell ⟨xb, 7, none⟩ v2).setCell ⟨xb, 8, none⟩ v3) rb xb A cap r ok (((cs.set 6 v1).set 7 v2).set 8 v3) R P pn pc ps Q qn qc qs :=
  ((h.set 6 v1 (by omega)).set 7 v2 (by rw [List.length_set]; omega)).set 8 v3 (by rw [List.length_set, List.length_set]; omega)
end
namespace Ed
theorem dE_six {k : Int} {r : List Nat} {ok : Bool} {q1 : Pl × List Nat × Bool} {q2 q3 q4 q7 : Int × List Nat × Bool} {q5 q6 : ByteArray × List Nat × Bool} (hk : k = 6) (h1 : dP r ok = q1) (h2 : dN q1.2.1 q1.2.2 = q2) (h3 : dN q2.2.1 q2.2.2 = q3) (h4 : dN q3.2.1 q3.2.2 = q4) (h5 : dT q4.2.1 q4.2.2 = q5) (h6 : dT q5.2.1 q5.2.2 = q6) (h7 : dN q6.2.1 q6.2.2 = q7) :
    dE k r ok = (⟨k, 0, 0, noP, ⟨q1.1, q2.1, q3.1, q4.1, q5.1, q6.1, q7.1⟩⟩, q7.2) := by
  have h : dTa r ok = (⟨q1.1, q2.1, q3.1, q4.1, q5.1, q6.1, q7.1⟩, q7.2) := by
    unfold dTa
    rw [h1]
    dsimp only
    rw [h2, h3, h4, h5, h6, h7]
  unfold dE
  rw [if_neg (by omega), if_neg (by omega), if_neg (by omega), if_pos hk, h]
end Ed
end Go.Proofs.YthfcjlndaajkfaaGreat
