/- Reading edits: where the reader stands, plain and in memory. edit.taken's num: the reader takes a number. -/
import Derived.Test.YthfcjlndaajkfaaGreatTEdByte
namespace Go.Proofs.YthfcjlndaajkfaaGreat
open Go.RowKit
/-- Where a part of bytes lies. -/
def partOf (A : Option Addr) (c f : Nat) : Option Addr := if c = f then A else A.map (·.add f)
theorem run_cut (A : Option Addr) (n c f t : Nat) (hf : f ≤ t) (ht : t ≤ n) (hc : n ≤ c) (w : World) : (Instr.slice 51 (.slice A n c) (some (.int .i64 (f : Int))) (some (.int .i64 (t : Int))) none).run Tryz.prog w = .ok (.slice (partOf A c f) (t - f) (c - f)) w := by
  have h2 : t ≤ c := by omega
  unfold partOf
  by_cases e : c = f
  · subst e
    simp [Instr.slice, run_underlying Tryz.underlying51, Instr.sliceBounds, Instr.sliceBound, asIntOf, go_sem, hf, h2]
  · simp [Instr.slice, run_underlying Tryz.underlying51, Instr.sliceBounds, Instr.sliceBound, asIntOf, go_sem, hf, h2, e]
theorem rd_cut {w : World} {A : Option Addr} {n c f t : Nat} {l : List Nat} (h : Rd w A n l) (hf : f ≤ t) (ht : t ≤ n) (hc : n ≤ c) : Rd w (partOf A c f) (t - f) ((l.drop f).take (t - f)) := by
  refine ⟨by rw [List.length_take, List.length_drop, h.1]; omega, fun x hx => h.lt (List.mem_of_mem_drop (List.mem_of_mem_take hx)), fun hm => ?_⟩
  obtain ⟨b, o, rfl, hb, hcl⟩ := h.2.2 (by omega)
  refine ⟨b, o + f, ?_, hb, fun j x hx => ?_⟩
  · unfold partOf
    rw [if_neg (by omega)]
    simp [Addr.add]
  · rw [List.getElem?_take] at hx
    split at hx
    · rw [List.getElem?_drop] at hx
      rw [Nat.add_assoc]
      exact hcl _ _ hx
    · cases hx
/-- All but two blocks stay. -/
structure Two (w w' : World) (ab ob : Nat) : Prop where
  os : w'.os = w.os
  tape : w'.tape = w.tape
  output : w'.output = w.output
  size : w.heap.size ≤ w'.heap.size
  block : ∀ k, k < w.heap.size → k ≠ ab → k ≠ ob → w'.heap[k]? = w.heap[k]?
theorem Two.refl (w : World) (ab ob : Nat) : Two w w ab ob := ⟨rfl, rfl, rfl, Nat.le_refl _, fun _ _ _ _ => rfl⟩
theorem Two.trans {w w1 w2 : World} {ab ob : Nat} (h : Two w w1 ab ob) (k : Two w1 w2 ab ob) : Two w w2 ab ob := ⟨k.os.trans h.os, k.tape.trans h.tape, k.output.trans h.output, Nat.le_trans h.size k.size, fun i hi h1 h2 => (k.block i (Nat.lt_of_lt_of_le hi h.size) h1 h2).trans (h.block i hi h1 h2)⟩
theorem Two.below {w w' : World} (h : Below w.heap.size w w') (ab ob : Nat) : Two w w' ab ob := ⟨h.os, h.tape, h.output, h.size, fun k hk _ _ => h.block k hk⟩
theorem Two.ab {w w' : World} {ab : Nat} (h : w.grownBy w' (some ab)) (ob : Nat) : Two w w' ab ob := ⟨h.os, h.tape, h.output, h.size, fun k hk h1 _ => h.block k hk (fun e => by injection e with e; exact h1 e)⟩
theorem Two.ob {w w' : World} {ob : Nat} (h : w.grownBy w' (some ob)) (ab : Nat) : Two w w' ab ob := ⟨h.os, h.tape, h.output, h.size, fun k hk _ h1 => h.block k hk (fun e => by injection e with e; exact h1 e)⟩
theorem Two.cell {w w' : World} {ab ob : Nat} (h : Two w w' ab ob) {p : Addr} (hp : p.block < w.heap.size) (h1 : p.block ≠ ab) (h2 : p.block ≠ ob) : w'.cell? p = w.cell? p := World.cell?_of_block (h.block _ hp h1 h2)
theorem Two.far {w w' : World} {ab ob base : Nat} (h : Two w w' ab ob) (h1 : base ≤ ab) (h2 : base ≤ ob) {a : World} (hb : Below base a w) (hs : base ≤ a.heap.size) : Below base a w' := ⟨h.os.trans hb.os, h.tape.trans hb.tape, h.output.trans hb.output, Nat.le_trans hb.size h.size, fun k hk => (h.block k (Nat.lt_of_lt_of_le hk (Nat.le_trans hs hb.size)) (by omega) (by omega)).trans (hb.block k hk)⟩
theorem Holds.two {w w' : World} {ab ob b : Nat} {cs : List Value} (k : Holds w b cs) (h : Two w w' ab ob) (h1 : b ≠ ab) (h2 : b ≠ ob) : Holds w' b cs :=
  ⟨Nat.lt_of_lt_of_le k.1 h.size, fun i v hv => (h.cell (p := ⟨b, i, none⟩) k.1 h1 h2).trans (k.2.1 i v hv), fun i => (World.frozen?_of_block (a := ⟨b, i, none⟩) (h.block b k.1 h1 h2)).trans (k.2.2 i)⟩
namespace Ed
/-- The reader takes a number. -/
def takeN (l : List Nat) (at_ : Nat) (ok : Bool) : Int × Nat × Bool :=
  match Cd.takeNum ((l.drop at_).take 10) with
  | none => (0, at_ + ((l.drop at_).take 10).length, false)
  | some (v, r) => (if ok && decide (v ≤ 1099511627776) then (v : Int) else 0, at_ + (((l.drop at_).take 10).length - r.length), ok && decide (v ≤ 1099511627776))
theorem takeN_q (l : List Nat) (at_ : Nat) (ok : Bool) : 0 ≤ (takeN l at_ ok).1 ∧ (takeN l at_ ok).1 ≤ 1099511627776 := by
  unfold takeN
  split
  · dsimp only; omega
  · dsimp only
    split
    · rename_i h
      simp only [Bool.and_eq_true, decide_eq_true_eq] at h
      omega
    · omega
end Ed
/-- Where the reader stands. -/
structure Rdr (w : World) (bb ab ob : Nat) (A : Option Addr) (n cap : Nat) (l : List Nat) (at_ : Nat) (ok : Bool) : Prop where
  b : Holds w bb [.slice A n cap]
  a : Holds w ab [.int .i64 (at_ : Int)]
  o : Holds w ob [.bool ok]
  rd : Rd w A n l
  le : at_ ≤ n
  cp : n ≤ cap
  few : n ≤ 1000000
  big : cap ≤ 9223372036854775807
  ne1 : bb ≠ ab
  ne2 : bb ≠ ob
  ne3 : ab ≠ ob
  off : 0 < n → blkOf A ≠ some ab ∧ blkOf A ≠ some ob
theorem Rdr.below {w w' : World} {bb ab ob : Nat} {A : Option Addr} {n cap : Nat} {l : List Nat} {at_ : Nat} {ok : Bool} (h : Rdr w bb ab ob A n cap l at_ ok) (hb : Below w.heap.size w w') : Rdr w' bb ab ob A n cap l at_ ok :=
  ⟨h.b.below hb, h.a.below hb, h.o.below hb, h.rd.below hb, h.le, h.cp, h.few, h.big, h.ne1, h.ne2, h.ne3, h.off⟩
theorem Rd.grownBy {w w' : World} {A : Option Addr} {n : Nat} {l : List Nat} {row : Option Nat} (h : Rd w A n l) (hg : w.grownBy w' row) (ho : 0 < n → blkOf A ≠ row) : Rd w' A n l := by
  refine ⟨h.1, h.2.1, fun hn => ?_⟩
  obtain ⟨b, o, rfl, hb, hc⟩ := h.2.2 hn
  exact ⟨b, o, rfl, Nat.lt_of_lt_of_le hb hg.size, fun j x hx => hg.cell (hc j x hx) (fun e => ho hn e)⟩
theorem Rdr.at_ {w : World} {bb ab ob : Nat} {A : Option Addr} {n cap : Nat} {l : List Nat} {a0 : Nat} {ok : Bool} (h : Rdr w bb ab ob A n cap l a0 ok) (a1 : Nat) (h1 : a1 ≤ n) : Rdr (w.setCell ⟨ab, 0, none⟩ (.int .i64 (a1 : Int))) bb ab ob A n cap l a1 ok :=
  have hg := grown_cell w ab 0 (.int .i64 (a1 : Int))
  ⟨h.b.grown hg (fun e => by injection e with e; exact h.ne1 e.symm), h.a.set 0 _ (by simp), h.o.grown hg (fun e => by injection e with e; exact h.ne3 e), h.rd.grownBy hg (fun hn => (h.off hn).1), h1, h.cp, h.few, h.big, h.ne1, h.ne2, h.ne3, h.off⟩
theorem Rdr.atz {w : World} {bb ab ob : Nat} {A : Option Addr} {n cap : Nat} {l : List Nat} {a0 : Nat} {ok : Bool} (h : Rdr w bb ab ob A n cap l a0 ok) (a1 : Nat) (z : Int) (hz : z = (a1 : Int)) (h1 : a1 ≤ n) : Rdr (w.setCell ⟨ab, 0, none⟩ (.int .i64 z)) bb ab ob A n cap l a1 ok := by subst hz; exact h.at_ a1 h1
theorem Rdr.ok_ {w : World} {bb ab ob : Nat} {A : Option Addr} {n cap : Nat} {l : List Nat} {a0 : Nat} {ok : Bool} (h : Rdr w bb ab ob A n cap l a0 ok) (k1 : Bool) : Rdr (w.setCell ⟨ob, 0, none⟩ (.bool k1)) bb ab ob A n cap l a0 k1 :=
  have hg := grown_cell w ob 0 (.bool k1)
  ⟨h.b.grown hg (fun e => by injection e with e; exact h.ne2 e.symm), h.a.grown hg (fun e => by injection e with e; exact h.ne3 e.symm), h.o.set 0 _ (by simp), h.rd.grownBy hg (fun hn => (h.off hn).2), h.le, h.cp, h.few, h.big, h.ne1, h.ne2, h.ne3, h.off⟩
/-- What taking a number gives. -/
def GivesN (w : World) (bb ab ob : Nat) (A : Option Addr) (n cap : Nat) (l : List Nat) (r : Int × Nat × Bool) (e : Ending) (w' : World) : Prop :=
  e = .returned (.int .i64 r.1) ∧ Rdr w' bb ab ob A n cap l r.2.1 r.2.2 ∧ Two w w' ab ob
end Go.Proofs.YthfcjlndaajkfaaGreat
namespace Go.Proofs.YthfcjlndaajkfaaGreat
open Go.RowKit
set_option linter.unusedVariables false
set_option maxRecDepth 100000 in
set_option maxHeartbeats 8000000 in
theorem rnum_any (bb ab ob : Nat) (A : Option Addr) (n cap : Nat) (l : List Nat) (at_ : Nat) (ok : Bool) (w : World) (h : Rdr w bb ab ob A n cap l at_ ok) :
    Calls Tryz.prog 84 #[.pointer (some ⟨bb, 0, none⟩), .pointer (some ⟨ab, 0, none⟩), .pointer (some ⟨ob, 0, none⟩)] w (GivesN w bb ab ob A n cap l (Ed.takeN l at_ ok)) := by
  have HR := Lib.hid h
  have hle := h.le
  have hcp := h.cp
  have hfew := h.few
  have hbig := h.big
  have hlen : Hid (l.length = n) := Lib.hid h.rd.1
  obtain ⟨hi, hhi⟩ : ∃ hi : Nat, hi = min n (at_ + 10) := ⟨_, rfl⟩
  have h1 : at_ ≤ hi := by omega
  have h2 : hi ≤ n := by omega
  obtain ⟨m, hm⟩ : ∃ m : Nat, hi = at_ + m := ⟨hi - at_, by omega⟩
  have hm2 : hi - at_ = m := by omega
  have hcut := fun (W : World) => run_cut A n cap at_ hi h1 h2 hcp W
  rw [hm2] at hcut
  have HRc := Lib.hid (rd_cut h.rd h1 h2 hcp)
  rw [hm2] at HRc
  have HWd := Lib.hid (show (l.drop at_).take 10 = (l.drop at_).take m by
    by_cases e : n ≤ at_ + 10
    · rw [List.take_of_length_le (by rw [List.length_drop, hlen.out]; omega), List.take_of_length_le (by rw [List.length_drop, hlen.out]; omega)]
    · congr 1; omega)
  have b0 := h.b.at_ 0 rfl
  have a0 := h.a.at_ 0 rfl
  have o0 := h.o.at_ 0 rfl
  have hmin : min (n : Int) ((at_ : Int) + 10) = (hi : Int) := by omega
  have HT := Lib.hid (takenum_own (partOf A cap at_) m (cap - at_) _ w HRc.out (by omega) (by omega))
  rw [← HWd.out] at HT
  have HRes : Hid (Ed.takeN l at_ ok = match Cd.takeNum ((l.drop at_).take 10) with
    | none => (0, at_ + m, false)
    | some (v, r) => (if ok && decide (v ≤ 1099511627776) then (v : Int) else 0, at_ + (m - r.length), ok && decide (v ≤ 1099511627776))) := Lib.hid (by
      have e : ((l.drop at_).take 10).length = m := by rw [HWd.out]; exact HRc.out.1
      unfold Ed.takeN
      rw [e]
      first | done | rfl)
  have HTb := Lib.hid (fun v r => takeNum_bound (l := (l.drop at_).take 10) (v := v) (r := r))
  have HWl := Lib.hid (show ((l.drop at_).take 10).length = m by rw [HWd.out]; exact HRc.out.1)
  have h3 : at_ + m ≤ n := by omega
  obtain ⟨pa, hpa⟩ : ∃ pa, pa = partOf A cap at_ := ⟨_, rfl⟩
  rw [← hpa] at HT hcut
  clear h hhi HWd HRc hm2 hm hpa h1 h2
  generalize Ed.takeN l at_ ok = res at *
  generalize (l.drop at_).take 10 = wd at *
  go_enter Tryz.func84, Tryz.ntmps84
  go_wp2_with fail
  refine HT.out.mono ?_
  cases htk : Cd.takeNum wd with
  | none =>
    rw [htk] at HRes
    rintro e v ⟨rfl, hb⟩
    have HRv := Lib.hid (HR.out.below hb)
    have HBv := Lib.hid hb
    clear b0 a0 o0 hcut
    have a1 := HRv.out.a.at_ 0 rfl
    have o1 := HRv.out.o.at_ 0 rfl
    have f1 := HRv.out.a.2.2 0
    have HR2 := Lib.hid (HRv.out.atz (at_ + m) ((at_ : Int) + (m : Int)) (by omega) (by omega))
    have HTw := Lib.hid (show Two w (v.setCell ⟨ab, 0, none⟩ (.int .i64 ((at_ : Int) + (m : Int)))) ab ob from (Two.below HBv.out ab ob).trans (Two.ab (grown_cell _ _ _ _) ob))
    clear hb HBv htk HT
    go_upto_region 4 with fail
    clear a1 o1 f1 HRv
    generalize v.setCell ⟨ab, 0, none⟩ (.int .i64 ((at_ : Int) + (m : Int))) = v2 at *
    cases ok with
    | false =>
      have o2 := HR2.out.o.at_ 0 rfl
      have g2 := HR2.out.o.2.2 0
      have HR3 := Lib.hid (HR2.out.ok_ false)
      have HT3 := Lib.hid (show Two w (v2.setCell ⟨ob, 0, none⟩ (.bool false)) ab ob from HTw.out.trans (Two.ob (grown_cell _ _ _ _) ab))
      go_upto_region 5 with fail
      clear o2 g2 HR2 HTw
      generalize v2.setCell ⟨ob, 0, none⟩ (.bool false) = v3 at *
      have o3 := HR3.out.o.at_ 0 rfl
      go_wp2
      go_ret
      rw [HRes.out]
      exact ⟨rfl, HR3.out, HT3.out⟩
    | true =>
      have o2 := HR2.out.o.at_ 0 rfl
      have g2 := HR2.out.o.2.2 0
      have HR3 := Lib.hid (HR2.out.ok_ false)
      have HT3 := Lib.hid (show Two w (v2.setCell ⟨ob, 0, none⟩ (.bool false)) ab ob from HTw.out.trans (Two.ob (grown_cell _ _ _ _) ab))
      go_upto_region 5 with fail
      clear o2 g2 HR2 HTw
      generalize v2.setCell ⟨ob, 0, none⟩ (.bool false) = v3 at *
      have o3 := HR3.out.o.at_ 0 rfl
      go_wp2
      go_ret
      rw [HRes.out]
      exact ⟨rfl, HR3.out, HT3.out⟩
  | some vr =>
    obtain ⟨x, r⟩ := vr
    rw [htk] at HRes
    dsimp only at HRes
    obtain ⟨hx, hrl, _⟩ := HTb.out x r htk
    rw [HWl.out] at hrl
    rintro e v ⟨R, rc, rfl, hor, hb⟩
    have HRv := Lib.hid (HR.out.below hb)
    have HBv := Lib.hid hb
    clear b0 a0 o0 hcut hor
    have a1 := HRv.out.a.at_ 0 rfl
    have o1 := HRv.out.o.at_ 0 rfl
    have f1 := HRv.out.a.2.2 0
    have HR2 := Lib.hid (HRv.out.atz (at_ + (m - r.length)) ((at_ : Int) + ((m : Int) - (r.length : Int))) (by omega) (by omega))
    have HTw := Lib.hid (show Two w (v.setCell ⟨ab, 0, none⟩ (.int .i64 ((at_ : Int) + ((m : Int) - (r.length : Int))))) ab ob from (Two.below HBv.out ab ob).trans (Two.ab (grown_cell _ _ _ _) ob))
    clear hb HBv htk HT
    go_upto_region 4 with fail
    clear a1 o1 f1 HRv
    generalize v.setCell ⟨ab, 0, none⟩ (.int .i64 ((at_ : Int) + ((m : Int) - (r.length : Int)))) = v2 at *
    cases ok with
    | false =>
      replace HRes : Hid (res = (0, at_ + (m - r.length), false)) := HRes
      have o2 := HR2.out.o.at_ 0 rfl
      have g2 := HR2.out.o.2.2 0
      have HR3 := Lib.hid (HR2.out.ok_ false)
      have HT3 := Lib.hid (show Two w (v2.setCell ⟨ob, 0, none⟩ (.bool false)) ab ob from HTw.out.trans (Two.ob (grown_cell _ _ _ _) ab))
      go_upto_region 5 with fail
      clear o2 g2 HR2 HTw
      generalize v2.setCell ⟨ob, 0, none⟩ (.bool false) = v3 at *
      have o3 := HR3.out.o.at_ 0 rfl
      go_wp2
      go_ret
      rw [HRes.out]
      exact ⟨rfl, HR3.out, HT3.out⟩
    | true =>
      rw [Bool.true_and] at HRes
      by_cases hxm : x ≤ 1099511627776
      · rw [decide_eq_true hxm] at HRes
        replace HRes : Hid (res = ((x : Int), at_ + (m - r.length), true)) := HRes
        have hxi : (x : Int) ≤ 1099511627776 := by omega
        have o2 := HR2.out.o.at_ 0 rfl
        have g2 := HR2.out.o.2.2 0
        have HR3 := Lib.hid (HR2.out.ok_ true)
        have HT3 := Lib.hid (show Two w (v2.setCell ⟨ob, 0, none⟩ (.bool true)) ab ob from HTw.out.trans (Two.ob (grown_cell _ _ _ _) ab))
        go_upto_region 5 with fail
        clear o2 g2 HR2 HTw
        generalize v2.setCell ⟨ob, 0, none⟩ (.bool true) = v3 at *
        have o3 := HR3.out.o.at_ 0 rfl
        go_wp2
        go_ret
        rw [HRes.out]
        exact ⟨rfl, HR3.out, HT3.out⟩
      · rw [decide_eq_false hxm] at HRes
        replace HRes : Hid (res = (0, at_ + (m - r.length), false)) := HRes
        have hxi : ¬ (x : Int) ≤ 1099511627776 := by omega
        have o2 := HR2.out.o.at_ 0 rfl
        have g2 := HR2.out.o.2.2 0
        have HR3 := Lib.hid (HR2.out.ok_ false)
        have HT3 := Lib.hid (show Two w (v2.setCell ⟨ob, 0, none⟩ (.bool false)) ab ob from HTw.out.trans (Two.ob (grown_cell _ _ _ _) ab))
        go_upto_region 5 with fail
        clear o2 g2 HR2 HTw
        generalize v2.setCell ⟨ob, 0, none⟩ (.bool false) = v3 at *
        have o3 := HR3.out.o.at_ 0 rfl
        go_wp2
        go_ret
        rw [HRes.out]
        exact ⟨rfl, HR3.out, HT3.out⟩
end Go.Proofs.YthfcjlndaajkfaaGreat
