/- edit.taken's text: the reader takes a text. Taking a place, plain; what the reader's calls leave as it was. edit.takePlace: the reader takes a place. Taking an edit, plain. -/
import Derived.Test.YthfcjlndaajkfaaGreatTEdNum
namespace Go.Proofs.YthfcjlndaajkfaaGreat
open Go.RowKit
set_option linter.unusedVariables false
namespace Ed
/-- The reader takes a text. -/
def takeT (l : List Nat) (at_ : Nat) (ok : Bool) : ByteArray × Nat × Bool :=
  match Cd.takeText ((l.drop at_).take 74) 64 with
  | none => (⟨#[]⟩, at_ + ((l.drop at_).take 74).length, false)
  | some (t, r) => (str t, at_ + (((l.drop at_).take 74).length - r.length), ok)
theorem takeText_bound {l : List Nat} {m : Int} {t r : List Nat} (h : Cd.takeText l m = some (t, r)) : r.length ≤ l.length ∧ ∀ x ∈ r, x ∈ l := by
  unfold Cd.takeText at h
  split at h
  · cases h
  · rename_i v s hs
    obtain ⟨_, h2, h3⟩ := takeNum_bound hs
    split at h
    · cases h
    · injection h with h
      injection h with _ h
      subst h
      exact ⟨by rw [List.length_drop]; omega, fun x hx => h3 x (List.mem_of_mem_drop hx)⟩
end Ed
/-- What taking a text gives. -/
def GivesS (w : World) (bb ab ob : Nat) (A : Option Addr) (n cap : Nat) (l : List Nat) (r : ByteArray × Nat × Bool) (e : Ending) (w' : World) : Prop :=
  e = .returned (.string r.1) ∧ Rdr w' bb ab ob A n cap l r.2.1 r.2.2 ∧ Two w w' ab ob
set_option maxRecDepth 100000 in
set_option maxHeartbeats 8000000 in
theorem rtext_any (bb ab ob : Nat) (A : Option Addr) (n cap : Nat) (l : List Nat) (at_ : Nat) (ok : Bool) (w : World) (h : Rdr w bb ab ob A n cap l at_ ok) :
    Calls Tryz.prog 86 #[.pointer (some ⟨bb, 0, none⟩), .pointer (some ⟨ab, 0, none⟩), .pointer (some ⟨ob, 0, none⟩)] w (GivesS w bb ab ob A n cap l (Ed.takeT l at_ ok)) := by
  have HR := Lib.hid h
  have hle := h.le
  have hcp := h.cp
  have hfew := h.few
  have hbig := h.big
  have hlen : Hid (l.length = n) := Lib.hid h.rd.1
  obtain ⟨hi, hhi⟩ : ∃ hi : Nat, hi = min n (at_ + 74) := ⟨_, rfl⟩
  have h1 : at_ ≤ hi := by omega
  have h2 : hi ≤ n := by omega
  obtain ⟨m, hm⟩ : ∃ m : Nat, hi = at_ + m := ⟨hi - at_, by omega⟩
  have hm2 : hi - at_ = m := by omega
  have hcut := fun (W : World) => run_cut A n cap at_ hi h1 h2 hcp W
  rw [hm2] at hcut
  have HRc := Lib.hid (rd_cut h.rd h1 h2 hcp)
  rw [hm2] at HRc
  have HWd := Lib.hid (show (l.drop at_).take 74 = (l.drop at_).take m by
    by_cases e : n ≤ at_ + 74
    · rw [List.take_of_length_le (by rw [List.length_drop, hlen.out]; omega), List.take_of_length_le (by rw [List.length_drop, hlen.out]; omega)]
    · congr 1; omega)
  have b0 := h.b.at_ 0 rfl
  have a0 := h.a.at_ 0 rfl
  have o0 := h.o.at_ 0 rfl
  have hmin : min (n : Int) ((at_ : Int) + 74) = (hi : Int) := by omega
  have hmin2 : min (n : Int) ((at_ : Int) + 10 + 64) = (hi : Int) := by omega
  have HT := Lib.hid (taketext_any (partOf A cap at_) m (cap - at_) 64 _ w HRc.out (by omega) (by omega) (by omega))
  rw [← HWd.out] at HT
  have HRes : Hid (Ed.takeT l at_ ok = match Cd.takeText ((l.drop at_).take 74) 64 with
    | none => (⟨#[]⟩, at_ + m, false)
    | some (t, r) => (str t, at_ + (m - r.length), ok)) := Lib.hid (by
      have e : ((l.drop at_).take 74).length = m := by rw [HWd.out]; exact HRc.out.1
      unfold Ed.takeT
      rw [e]
      skip)
  have HTb := Lib.hid (fun v r => Ed.takeText_bound (l := (l.drop at_).take 74) (m := 64) (t := v) (r := r))
  have HWl := Lib.hid (show ((l.drop at_).take 74).length = m by rw [HWd.out]; exact HRc.out.1)
  have h3 : at_ + m ≤ n := by omega
  obtain ⟨pa, hpa⟩ : ∃ pa, pa = partOf A cap at_ := ⟨_, rfl⟩
  rw [← hpa] at HT hcut
  clear h hhi HWd HRc hm2 hm hpa h1 h2
  generalize Ed.takeT l at_ ok = res at *
  generalize (l.drop at_).take 74 = wd at *
  go_enter Tryz.func86, Tryz.ntmps86
  go_wp2_with fail
  refine HT.out.mono ?_
  cases htk : Cd.takeText wd 64 with
  | none =>
    rw [htk] at HRes
    rintro e v ⟨rfl, hb⟩
    have HRv := Lib.hid (HR.out.below hb)
    have HBv := Lib.hid hb
    clear b0 a0 o0 hcut
    have a1 := HRv.out.a.at_ 0 rfl
    have o1 := HRv.out.o.at_ 0 rfl
    have f1 := HRv.out.a.2.2 0
    have HR2 := Lib.hid (HRv.out.atz (at_ + m) ((at_ : Int) + (m : Int)) (by omega) (by omega))
    have HTw := Lib.hid (show Two w (v.setCell ⟨ab, 0, none⟩ (.int .i64 ((at_ : Int) + (m : Int)))) ab ob from (Two.below HBv.out ab ob).trans (Two.ab (grown_cell _ _ _ _) ob))
    clear hb HBv htk HT
    go_upto_region 4 with fail
    clear a1 o1 f1 HRv
    generalize v.setCell ⟨ab, 0, none⟩ (.int .i64 ((at_ : Int) + (m : Int))) = v2 at *
    cases ok with
    | false =>
      have o2 := HR2.out.o.at_ 0 rfl
      have g2 := HR2.out.o.2.2 0
      have HR3 := Lib.hid (HR2.out.ok_ false)
      have HT3 := Lib.hid (show Two w (v2.setCell ⟨ob, 0, none⟩ (.bool false)) ab ob from HTw.out.trans (Two.ob (grown_cell _ _ _ _) ab))
      go_upto_region 5 with fail
      clear o2 g2 HR2 HTw
      generalize v2.setCell ⟨ob, 0, none⟩ (.bool false) = v3 at *
      have o3 := HR3.out.o.at_ 0 rfl
      go_wp2
      go_ret
      rw [HRes.out]
      exact ⟨rfl, HR3.out, HT3.out⟩
    | true =>
      have o2 := HR2.out.o.at_ 0 rfl
      have g2 := HR2.out.o.2.2 0
      have HR3 := Lib.hid (HR2.out.ok_ false)
      have HT3 := Lib.hid (show Two w (v2.setCell ⟨ob, 0, none⟩ (.bool false)) ab ob from HTw.out.trans (Two.ob (grown_cell _ _ _ _) ab))
      go_upto_region 5 with fail
      clear o2 g2 HR2 HTw
      generalize v2.setCell ⟨ob, 0, none⟩ (.bool false) = v3 at *
      have o3 := HR3.out.o.at_ 0 rfl
      go_wp2
      go_ret
      rw [HRes.out]
      exact ⟨rfl, HR3.out, HT3.out⟩
  | some vr =>
    obtain ⟨x, r⟩ := vr
    rw [htk] at HRes
    dsimp only at HRes
    obtain ⟨hrl, _⟩ := HTb.out x r htk
    rw [HWl.out] at hrl
    rintro e v ⟨R, rc, rfl, hor, hb⟩
    have HRv := Lib.hid (HR.out.below hb)
    have HBv := Lib.hid hb
    clear b0 a0 o0 hcut hor
    have a1 := HRv.out.a.at_ 0 rfl
    have o1 := HRv.out.o.at_ 0 rfl
    have f1 := HRv.out.a.2.2 0
    have HR2 := Lib.hid (HRv.out.atz (at_ + (m - r.length)) ((at_ : Int) + ((m : Int) - (r.length : Int))) (by omega) (by omega))
    have HTw := Lib.hid (show Two w (v.setCell ⟨ab, 0, none⟩ (.int .i64 ((at_ : Int) + ((m : Int) - (r.length : Int))))) ab ob from (Two.below HBv.out ab ob).trans (Two.ab (grown_cell _ _ _ _) ob))
    clear hb HBv htk HT
    go_upto_region 4 with fail
    clear a1 o1 f1 HRv
    generalize v.setCell ⟨ab, 0, none⟩ (.int .i64 ((at_ : Int) + ((m : Int) - (r.length : Int)))) = v2 at *
    cases ok with
    | false =>
      replace HRes : Hid (res = (str x, at_ + (m - r.length), false)) := HRes
      have o2 := HR2.out.o.at_ 0 rfl
      have g2 := HR2.out.o.2.2 0
      have HR3 := Lib.hid (HR2.out.ok_ false)
      have HT3 := Lib.hid (show Two w (v2.setCell ⟨ob, 0, none⟩ (.bool false)) ab ob from HTw.out.trans (Two.ob (grown_cell _ _ _ _) ab))
      go_upto_region 5 with fail
      clear o2 g2 HR2 HTw
      generalize v2.setCell ⟨ob, 0, none⟩ (.bool false) = v3 at *
      have o3 := HR3.out.o.at_ 0 rfl
      go_wp2
      go_ret
      rw [HRes.out]
      exact ⟨rfl, HR3.out, HT3.out⟩
    | true =>
      replace HRes : Hid (res = (str x, at_ + (m - r.length), true)) := HRes
      have o2 := HR2.out.o.at_ 0 rfl
      have g2 := HR2.out.o.2.2 0
      have HR3 := Lib.hid (HR2.out.ok_ true)
      have HT3 := Lib.hid (show Two w (v2.setCell ⟨ob, 0, none⟩ (.bool true)) ab ob from HTw.out.trans (Two.ob (grown_cell _ _ _ _) ab))
      go_upto_region 5 with fail
      clear o2 g2 HR2 HTw
      generalize v2.setCell ⟨ob, 0, none⟩ (.bool true) = v3 at *
      have o3 := HR3.out.o.at_ 0 rfl
      go_wp2
      go_ret
      rw [HRes.out]
      exact ⟨rfl, HR3.out, HT3.out⟩
end Go.Proofs.YthfcjlndaajkfaaGreat
namespace Go.Proofs.YthfcjlndaajkfaaGreat
open Go.RowKit
set_option linter.unusedVariables false
namespace Ed
def takeQs (l : List Nat) (at_ : Nat) (ok : Bool) : Nat → List (Int × Int) × Nat × Bool
  | 0 => ([], at_, ok)
  | k + 1 => ((takeQs l at_ ok k).1 ++ [((takeN l (takeQs l at_ ok k).2.1 (takeQs l at_ ok k).2.2).1, (takeN l (takeN l (takeQs l at_ ok k).2.1 (takeQs l at_ ok k).2.2).2.1 (takeN l (takeQs l at_ ok k).2.1 (takeQs l at_ ok k).2.2).2.2).1)], (takeN l (takeN l (takeQs l at_ ok k).2.1 (takeQs l at_ ok k).2.2).2.1 (takeN l (takeQs l at_ ok k).2.1 (takeQs l at_ ok k).2.2).2.2).2)
/-- The reader takes a place. -/
def takeP (l : List Nat) (at_ : Nat) (ok : Bool) : Pl × Nat × Bool :=
  let x := takeN l at_ ok
  let y := takeN l x.2.1 x.2.2
  let z := takeN l y.2.1 y.2.2
  let q := takeQs l z.2.1 z.2.2 (min z.1.toNat 65)
  (⟨x.1, y.1, q.1⟩, q.2)
theorem takeQs_len (l : List Nat) (at_ : Nat) (ok : Bool) (k : Nat) : (takeQs l at_ ok k).1.length = k := by
  induction k with
  | zero => rfl
  | succ k ih => unfold takeQs; rw [List.length_append, ih]; rfl
theorem fl_put (ps : List (Int × Int)) (a b : Int) : fl (ps ++ [(a, b)]) = fl ps ++ [a, b] := by unfold fl; rw [List.flatMap_append]; simp
end Ed
theorem OwnC.two {s : Nat} {w w' : World} {base n cap ab ob : Nat} {A : Option Addr} {vs : List Value} {E : TypeId} (h : OwnC s w base E A n cap vs) (t : Two w w' ab ob) (h1 : ab < base) (h2 : ob < base) : OwnC s w' base E A n cap vs := by
  refine ⟨h.1, ?_⟩
  rcases h.2 with h0 | ⟨g, c, cur, hv, hb, hg, rest⟩
  · exact .inl h0
  · exact .inr ⟨g, c, cur, hv, hb, (t.block g (Array.getElem?_eq_some_iff.1 hg).1 (by omega) (by omega)).trans hg, rest⟩
theorem Two.grow {w wx w' : World} {ab ob : Nat} {row : Option Nat} (h : Two w wx ab ob) (hg : wx.grownBy w' row) (hr : ∀ g, row = some g → w.heap.size ≤ g) : Two w w' ab ob :=
  ⟨hg.os.trans h.os, hg.tape.trans h.tape, hg.output.trans h.output, Nat.le_trans h.size hg.size, fun k hk h1 h2 => (hg.block k (Nat.lt_of_lt_of_le hk h.size) (fun e => by have := hr k e.symm; omega)).trans (h.block k hk h1 h2)⟩
theorem Rdr.lt {w : World} {bb ab ob : Nat} {A : Option Addr} {n cap : Nat} {l : List Nat} {a0 : Nat} {ok : Bool} (h : Rdr w bb ab ob A n cap l a0 ok) : bb < w.heap.size ∧ ab < w.heap.size ∧ ob < w.heap.size ∧ (0 < n → ∀ g, blkOf A = some g → g < w.heap.size) :=
  ⟨h.b.1, h.a.1, h.o.1, fun hn g hg => by
    obtain ⟨b, o, hA, hb, _⟩ := h.rd.2.2 hn
    rw [hA] at hg
    injection hg with hg
    have : b = g := hg
    omega⟩
theorem Rdr.grow {w w' : World} {bb ab ob fr : Nat} {A : Option Addr} {n cap : Nat} {l : List Nat} {a0 : Nat} {ok : Bool} {row : Option Nat} (h : Rdr w bb ab ob A n cap l a0 ok) (hg : w.grownBy w' row) (hr : ∀ g, row = some g → fr ≤ g) (hf : bb < fr ∧ ab < fr ∧ ob < fr ∧ (0 < n → ∀ g, blkOf A = some g → g < fr)) : Rdr w' bb ab ob A n cap l a0 ok :=
  ⟨h.b.grown hg (fun e => by have := hr _ e; omega), h.a.grown hg (fun e => by have := hr _ e; omega), h.o.grown hg (fun e => by have := hr _ e; omega), h.rd.grownBy hg (fun hn e => by
    obtain ⟨b, o, hA, hb, _⟩ := h.rd.2.2 hn
    have h1 := hf.2.2.2 hn b (by rw [hA]; rfl)
    rw [hA] at e
    have := hr b e.symm
    omega), h.le, h.cp, h.few, h.big, h.ne1, h.ne2, h.ne3, h.off⟩
theorem rd_pair (w : World) (a b : Int) (E : TypeId) : RdC 2 (w.alloc (.cells #[.int .i64 a, .int .i64 b] E)) (some ⟨w.heap.size, 0, none⟩) 1 (Pk.iv [a, b]) := by
  have h := Holds.new w #[.int .i64 a, .int .i64 b] E
  refine ⟨rfl, fun _ => ⟨_, 0, rfl, by simp, fun j v hv => ?_⟩⟩
  rw [Nat.zero_add]
  exact h.at_ j hv
set_option maxRecDepth 100000 in
theorem enter_num (args : Array Value) (w : World) : (callFunc 84 args).run Tryz.prog w = .ok (.enter 84 args) w := run_enter Tryz.func84 (by kernel_rfl) (by kernel_rfl) args w
/-- A call of a closure of no argument, at a step of a drawn region. -/
theorem step_clos {w : World} {ops : Array Oper} {o : Oper} {a : Act} {K : Act → World → Prop} {Q : Exit → Act → World → Prop} {E : Prop} {F : FuncId} {caps : Array Value} (hw : Region.wanted o (yielded ops a.tmps) = true) (d : Nat) (hd : o.dst = some d) (x : Operand)
    (ho : o.op = .call { callee := .value x, args := #[], argTypes := #[] }) (hx : a.eval x = .func (.func F) #[] caps) (hcF : ∀ (args : Array Value) (wx : World), (callFunc F args).run Tryz.prog wx = .ok (.enter F args) wx)
    (h : Calls Tryz.prog F caps w fun e w' => ∃ v, e = .returned v ∧ K (a.put (some d) v) w') :
    if Region.wanted o (yielded ops a.tmps) = true then Oper.wp Tryz.prog o a w K Q else E := by
  rw [if_pos hw]
  unfold Oper.wp execOp
  simp only [ho, resolve, invoke, Deferred.ofValue, hx, Sem.run_bind, Sem.run_pure, Result.andThen_ok, List.map_toArray, List.map_nil]
  simp only [Array.empty_append, Array.append_empty, hcF]
  refine h.mono ?_
  rintro e w' ⟨v, rfl, hk⟩
  rw [← hd] at hk
  exact hk
end Go.Proofs.YthfcjlndaajkfaaGreat
namespace Go.Proofs.YthfcjlndaajkfaaGreat
open Go.RowKit
set_option linter.unusedVariables false
/-- What taking a place gives. -/
def GivesTkP (w : World) (bb ab ob : Nat) (A : Option Addr) (n cap : Nat) (l : List Nat) (r : Ed.Pl × Nat × Bool) (e : Ending) (w' : World) : Prop :=
  ∃ P pn pc, e = .returned (.agg #[.int .i64 r.1.id, .int .i64 r.1.ep, .slice P pn pc]) ∧ OwP w' w.heap.size P pn pc r.1.ps ∧ Rdr w' bb ab ob A n cap l r.2.1 r.2.2 ∧ Two w w' ab ob
set_option maxRecDepth 100000 in
set_option maxHeartbeats 16000000 in
theorem takeplace_any (bb ab ob : Nat) (A : Option Addr) (n cap : Nat) (l : List Nat) (at_ : Nat) (ok : Bool) (w : World) (h : Rdr w bb ab ob A n cap l at_ ok) :
    Calls Tryz.prog 104 #[.func (.func 84) #[] #[.pointer (some ⟨bb, 0, none⟩), .pointer (some ⟨ab, 0, none⟩), .pointer (some ⟨ob, 0, none⟩)]] w (GivesTkP w bb ab ob A n cap l (Ed.takeP l at_ ok)) := by
  have h1 : Below w.heap.size w (w.alloc (.cells #[.int .i64 0, .int .i64 0, .slice none 0 0] 32)) := (Below.refl _ _).alloc (Nat.le_refl _) _
  have HZ := Lib.hid (Holds.new w #[.int .i64 0, .int .i64 0, .slice none 0 0] 32)
  have hlt := h.lt
  have HLt := Lib.hid hlt
  have C1 := Lib.hid (rnum_any bb ab ob A n cap l at_ ok (w.alloc (.cells #[.int .i64 0, .int .i64 0, .slice none 0 0] 32)) (h.below h1))
  have HT1 := Lib.hid (Two.below h1 ab ob)
  have hres : Ed.takeP l at_ ok = (⟨(Ed.takeN l at_ ok).1, (Ed.takeN l (Ed.takeN l at_ ok).2.1 (Ed.takeN l at_ ok).2.2).1, (Ed.takeQs l (Ed.takeN l (Ed.takeN l (Ed.takeN l at_ ok).2.1 (Ed.takeN l at_ ok).2.2).2.1 (Ed.takeN l (Ed.takeN l at_ ok).2.1 (Ed.takeN l at_ ok).2.2).2.2).2.1 (Ed.takeN l (Ed.takeN l (Ed.takeN l at_ ok).2.1 (Ed.takeN l at_ ok).2.2).2.1 (Ed.takeN l (Ed.takeN l at_ ok).2.1 (Ed.takeN l at_ ok).2.2).2.2).2.2 (min (Ed.takeN l (Ed.takeN l (Ed.takeN l at_ ok).2.1 (Ed.takeN l at_ ok).2.2).2.1 (Ed.takeN l (Ed.takeN l at_ ok).2.1 (Ed.takeN l at_ ok).2.2).2.2).1.toNat 65)).1⟩, (Ed.takeQs l (Ed.takeN l (Ed.takeN l (Ed.takeN l at_ ok).2.1 (Ed.takeN l at_ ok).2.2).2.1 (Ed.takeN l (Ed.takeN l at_ ok).2.1 (Ed.takeN l at_ ok).2.2).2.2).2.1 (Ed.takeN l (Ed.takeN l (Ed.takeN l at_ ok).2.1 (Ed.takeN l at_ ok).2.2).2.1 (Ed.takeN l (Ed.takeN l at_ ok).2.1 (Ed.takeN l at_ ok).2.2).2.2).2.2 (min (Ed.takeN l (Ed.takeN l (Ed.takeN l at_ ok).2.1 (Ed.takeN l at_ ok).2.2).2.1 (Ed.takeN l (Ed.takeN l at_ ok).2.1 (Ed.takeN l at_ ok).2.2).2.2).1.toNat 65)).2) := rfl
  generalize Ed.takeP l at_ ok = res at *
  have HRes := Lib.hid hres
  clear hres h h1 hlt
  generalize Ed.takeN l at_ ok = x at *
  go_enter Tryz.func104, Tryz.ntmps104
  go_wp2_with fail
  refine C1.out.mono ?_
  rintro e v1 ⟨rfl, hr1, ht1⟩
  have C2 := Lib.hid (rnum_any bb ab ob A n cap l x.2.1 x.2.2 v1 hr1)
  have HZ1 := Lib.hid (show Holds v1 w.heap.size [.int .i64 0, .int .i64 0, .slice none 0 0] from HZ.out.two ht1 (by have := HLt.out; omega) (by have := HLt.out; omega))
  have HT2 := Lib.hid (HT1.out.trans ht1)
  clear hr1 ht1 C1 HZ HT1
  generalize Ed.takeN l x.2.1 x.2.2 = y at *
  go_wp2_with fail
  refine C2.out.mono ?_
  rintro e v2 ⟨rfl, hr2, ht2⟩
  have hal : Below v2.heap.size v2 (v2.alloc (.cells #[.int .i64 x.1, .int .i64 y.1, .slice none 0 0] 32)) := (Below.refl _ _).alloc (Nat.le_refl _) _
  have HZ2 := Lib.hid ((HZ1.out.two ht2 (by have := HLt.out; omega) (by have := HLt.out; omega)).below hal)
  have HT3 := Lib.hid ((HT2.out.trans ht2).trans (Two.below hal ab ob))
  have HPb := Lib.hid (Holds.new v2 #[.int .i64 x.1, .int .i64 y.1, .slice none 0 0] 32)
  have hw2 : w.heap.size < v2.heap.size := Nat.lt_of_lt_of_le HZ1.out.1 ht2.size
  have C3 := Lib.hid (rnum_any bb ab ob A n cap l y.2.1 y.2.2 (v2.alloc (.cells #[.int .i64 x.1, .int .i64 y.1, .slice none 0 0] 32)) (hr2.below hal))
  clear hr2 ht2 C2 HZ1 HT2 hal
  have HQz := Lib.hid (Ed.takeN_q l y.2.1 y.2.2)
  generalize Ed.takeN l y.2.1 y.2.2 = z at *
  go_wp2_with fail
  refine C3.out.mono ?_
  generalize (v2.alloc (.cells #[.int .i64 x.1, .int .i64 y.1, .slice none 0 0] 32)) = v3 at *
  replace HPb : Hid (Holds v3 v2.heap.size [.int .i64 x.1, .int .i64 y.1, .slice none 0 0]) := HPb
  obtain ⟨pb, hpb⟩ : ∃ pb, pb = v2.heap.size := ⟨_, rfl⟩
  rw [← hpb] at HPb hw2
  rw [← hpb]
  clear hpb
  rintro e v4 ⟨rfl, hr4, ht4⟩
  have HPb4 := Lib.hid (HPb.out.two ht4 (by have := HLt.out; omega) (by have := HLt.out; omega))
  have HZ4 := Lib.hid (HZ2.out.two ht4 (by have := HLt.out; omega) (by have := HLt.out; omega))
  have HT4 := Lib.hid (HT3.out.trans ht4)
  have HR4 := Lib.hid hr4
  clear hr4 ht4 C3 HPb HZ2 HT3
  obtain ⟨c, hc⟩ : ∃ c : Nat, c = min z.1.toNat 65 := ⟨_, rfl⟩
  have hmin : min z.1 65 = (c : Int) := by have := HQz.out; omega
  have hc65 : c ≤ 65 := by omega
  rw [← hc] at HRes
  clear hc
  have HFr := Lib.hid (show bb < v4.heap.size ∧ ab < v4.heap.size ∧ ob < v4.heap.size ∧ (0 < n → ∀ g, blkOf A = some g → g < v4.heap.size) from HR4.out.lt)
  have hpb4 := HPb4.out.1
  have hzb4 := HZ4.out.1
  go_wp2_with fail
  go_loopw [13] (fun ii wr => ∃ (k : Nat) (P : Option Addr) (pc : Nat), k ≤ c ∧ ii = .int .i64 (k : Int) ∧ Hid (Rdr wr bb ab ob A n cap l (Ed.takeQs l z.2.1 z.2.2 k).2.1 (Ed.takeQs l z.2.1 z.2.2 k).2.2) ∧ Hid (Holds wr pb [.int .i64 x.1, .int .i64 y.1, .slice P k pc]) ∧ Hid (OwnC 2 wr v4.heap.size 64 P k pc (Pk.iv (Ed.fl (Ed.takeQs l z.2.1 z.2.2 k).1))) ∧ Hid (Holds wr w.heap.size [.int .i64 0, .int .i64 0, .slice none 0 0]) ∧ Hid (Two w wr ab ob) ∧ v4.heap.size ≤ wr.heap.size) (fun ii _ => c - (intOf ii).toNat)
  case atStart => exact ⟨0, none, 0, by omega, rfl, HR4, HPb4, Lib.hid (OwnC.none_ _ _ _ _), HZ4, HT4, Nat.le_refl _⟩
  case round =>
    clear HPb4 HR4 HZ4 HT4
    obtain ⟨k, P, pc, hk, rfl, HR, HP, HO, HZr, HT, hsz⟩ := hrel
    by_cases hlt : k < c
    · have hki : (k : Int) < (c : Int) := by omega
      have hk0 : (0 : Int) ≤ (k : Int) := by omega
      have C5 := Lib.hid (rnum_any bb ab ob A n cap l (Ed.takeQs l z.2.1 z.2.2 k).2.1 (Ed.takeQs l z.2.1 z.2.2 k).2.2 wr HR.out)
      have HSt := Lib.hid (show Ed.takeQs l z.2.1 z.2.2 (k + 1) = ((Ed.takeQs l z.2.1 z.2.2 k).1 ++ [((Ed.takeN l (Ed.takeQs l z.2.1 z.2.2 k).2.1 (Ed.takeQs l z.2.1 z.2.2 k).2.2).1, (Ed.takeN l (Ed.takeN l (Ed.takeQs l z.2.1 z.2.2 k).2.1 (Ed.takeQs l z.2.1 z.2.2 k).2.2).2.1 (Ed.takeN l (Ed.takeQs l z.2.1 z.2.2 k).2.1 (Ed.takeQs l z.2.1 z.2.2 k).2.2).2.2).1)], (Ed.takeN l (Ed.takeN l (Ed.takeQs l z.2.1 z.2.2 k).2.1 (Ed.takeQs l z.2.1 z.2.2 k).2.2).2.1 (Ed.takeN l (Ed.takeQs l z.2.1 z.2.2 k).2.1 (Ed.takeQs l z.2.1 z.2.2 k).2.2).2.2).2) from rfl)
      generalize Ed.takeN l (Ed.takeQs l z.2.1 z.2.2 k).2.1 (Ed.takeQs l z.2.1 z.2.2 k).2.2 = a at *
      go_wp2_with fail
      refine C5.out.mono ?_
      rintro e v5 ⟨rfl, hr5, ht5⟩
      have hf := HFr.out
      have HP5 := Lib.hid (HP.out.two ht5 (by have := HLt.out; omega) (by have := HLt.out; omega))
      have HO5 := Lib.hid (HO.out.two ht5 hf.2.1 hf.2.2.1)
      have HZ5 := Lib.hid (HZr.out.two ht5 (by have := HLt.out; omega) (by have := HLt.out; omega))
      have HT5 := Lib.hid (HT.out.trans ht5)
      have hs5 := Nat.le_trans hsz ht5.size
      have hd5 : Below v5.heap.size v5 v5.drew := (Below.refl _ _).drew
      have HPd := Lib.hid (HP5.out.below hd5)
      have HZd := Lib.hid (HZ5.out.below hd5)
      have HTd := Lib.hid (HT5.out.trans (Two.below hd5 ab ob))
      have HOd := Lib.hid (HO5.out.below hd5)
      have hsd : v4.heap.size ≤ v5.drew.heap.size := Nat.le_trans hs5 hd5.size
      have p2 := HPd.out.at_ 2 rfl
      have C6 := Lib.hid (rnum_any bb ab ob A n cap l a.2.1 a.2.2 v5.drew (hr5.below hd5))
      generalize Ed.takeN l a.2.1 a.2.2 = b at *
      clear hr5 ht5 hd5 C5 HP HO HZr HT HR hsz HP5 HO5 HZ5 HT5 hs5
      go_wp2_with fail
      go_region_law (first
        | (refine step_clos (by simp [Region.wanted]) 21 rfl (.tmp 20) rfl rfl enter_num (C6.out.mono ?_); rintro e v6 ⟨rfl, hr6, ht6⟩; have HI6 := Lib.hid (And.intro hr6 ht6); have HP6 := Lib.hid (HPd.out.two ht6 (by have := HLt.out; omega) (by have := HLt.out; omega)); have HO6 := Lib.hid (HOd.out.two ht6 hf.2.1 hf.2.2.1); have p6 := HP6.out.at_ 2 rfl; have ha6 : Below v6.heap.size v6 (v6.alloc (.cells #[.int .i64 a.1, .int .i64 b.1] 64)) := (Below.refl _ _).alloc (Nat.le_refl _) _; have HP7 := Lib.hid (HP6.out.below ha6); have p7 := HP7.out.at_ 2 rfl; have HO7 := Lib.hid (HO6.out.below ha6); have hr7 : RdC 2 (v6.alloc (.cells #[.int .i64 a.1, .int .i64 b.1] 64)) (some ⟨v6.heap.size, 0, none⟩) 1 (Pk.iv [a.1, b.1]) := rd_pair v6 a.1 b.1 64; have hb7 := Nat.le_trans (Nat.le_trans hsd ht6.size) ha6.size; clear hr6 ht6; refine ⟨_, rfl, ?_⟩)
        | (refine step_appN manyPr (by simp [Region.wanted]) 24 rfl (.tmp 18) (.tmp 23) rfl rfl HO7.out (some ⟨v6.heap.size, 0, none⟩) 1 1 (Pk.iv [a.1, b.1]) (Pk.iv_one [a.1, b.1]) rfl hr7 (by omega) hb7 ?_; intro P8 c8 v8 hg8; have HG8 := Lib.hid hg8; have HP8 := Lib.hid (HP7.out.grown hg8.grew (fun e => by have := (HO7.out.blk _ e).1; omega)); have p8 := HP8.out.at_ 2 rfl; have q8 := HP8.out.2.2 2; clear hg8))
      all_goals
        have hl := HLt.out
        have hrow : ∀ g, (Value.slice P k pc).ownBlock = some g → v4.heap.size ≤ g := fun g e => (HO7.out.blk g e).1
        have HG9 := Lib.hid (grown_cell v8 pb 2 (.slice P8 (k + 1) c8))
        have HRn := Lib.hid (((HI6.out.1.below ha6).grow HG8.out.grew (fr := w.heap.size) (fun g e => by have := hrow g e; omega) hl).grow HG9.out (fr := w.heap.size) (fun g e => by injection e with e; omega) hl)
        have HPn := Lib.hid (show Holds (v8.setCell ⟨pb, 2, none⟩ (.slice P8 (k + 1) c8)) pb [.int .i64 x.1, .int .i64 y.1, .slice P8 (k + 1) c8] from HP8.out.set 2 _ (by simp))
        have HOn := Lib.hid (show OwnC 2 (v8.setCell ⟨pb, 2, none⟩ (.slice P8 (k + 1) c8)) v4.heap.size 64 P8 (k + 1) c8 (Pk.iv (Ed.fl (Ed.takeQs l z.2.1 z.2.2 (k + 1)).1)) by
          rw [HSt.out]
          dsimp only
          rw [Ed.fl_put]
          have h9 := HG8.out.own.grown HG9.out (.inr fun g e e2 => by injection e with e; have := (HG8.out.own.blk g e2).1; omega)
          have e9 : Pk.iv (Ed.fl (Ed.takeQs l z.2.1 z.2.2 k).1 ++ [a.1, b.1]) = Pk.iv (Ed.fl (Ed.takeQs l z.2.1 z.2.2 k).1) ++ Pk.iv [a.1, b.1] := by unfold Pk.iv; rw [List.map_append]
          rw [e9]
          exact h9)
        have HZn := Lib.hid ((((HZd.out.two HI6.out.2 (by omega) (by omega)).below ha6).grown HG8.out.grew (fun e => by have := hrow _ e; omega)).grown HG9.out (fun e => by injection e with e; omega))
        have HTn := Lib.hid ((((HTd.out.trans HI6.out.2).trans (Two.below ha6 ab ob)).grow HG8.out.grew (fun g e => by have := hrow g e; omega)).grow HG9.out (fun g e => by injection e with e; omega))
        have hsn : v4.heap.size ≤ (v8.setCell ⟨pb, 2, none⟩ (.slice P8 (k + 1) c8)).heap.size := Nat.le_trans (Nat.le_trans hb7 HG8.out.grew.size) HG9.out.size
        have HRm := Lib.hid (show Rdr (v8.setCell ⟨pb, 2, none⟩ (.slice P8 (k + 1) c8)) bb ab ob A n cap l (Ed.takeQs l z.2.1 z.2.2 (k + 1)).2.1 (Ed.takeQs l z.2.1 z.2.2 (k + 1)).2.2 by rw [HSt.out]; exact HRn.out)
        clear p2 p6 p7 p8 q8 HG8 HG9 HI6 HP6 HO6 HP7 HO7 hr7 hb7 ha6 HRn HPd HZd HTd HOd C6 hrow
        go_wp2
        go_roundw
        case rel => exact ⟨k + 1, P8, c8, by omega, by go_num, HRm, HPn, HOn, HZn, HTn, hsn⟩
        case measure => simp [intOf]; omega
    · have hki : ¬ (k : Int) < (c : Int) := by omega
      have hkc : k = c := by omega
      subst hkc
      have x0 := HP.out.at_ 0 rfl
      have x1 := HP.out.at_ 1 rfl
      have x2 := HP.out.at_ 2 rfl
      have z0 := HZr.out.at_ 0 rfl
      have z1 := HZr.out.at_ 1 rfl
      have z2 := HZr.out.at_ 2 rfl
      have f0 := HZr.out.2.2 0
      have f1 := HZr.out.2.2 1
      have f2 := HZr.out.2.2 2
      have hl := HLt.out
      have HG := Lib.hid ((grown_cell wr w.heap.size 0 (.int .i64 x.1)).trans ((grown_cell _ w.heap.size 1 (.int .i64 y.1)).trans (grown_cell _ w.heap.size 2 (.slice P k pc))))
      have HF := Lib.hid (HZr.out.set3 (.int .i64 x.1) (.int .i64 y.1) (.slice P k pc))
      have HRn := Lib.hid (HR.out.grow HG.out (fr := w.heap.size) (fun g e => by injection e with e; omega) hl)
      have HTn := Lib.hid (HT.out.grow HG.out (fun g e => by injection e with e; omega))
      have HOn := Lib.hid (show OwP _ w.heap.size P k pc (Ed.takeQs l z.2.1 z.2.2 k).1 from ⟨Ed.takeQs_len _ _ _ _, (HO.out.grown HG.out (.inr fun g e e2 => by injection e with e; have := (HO.out.blk g e2).1; omega)).base_ (by omega)⟩)
      clear hlt
      go_wp2_with fail
      clear x0 x1 x2 z0 z1 z2 f0 f1 f2 HG HP HZr HO HT HR
      generalize ((wr.setCell ⟨w.heap.size, 0, none⟩ (.int .i64 x.1)).setCell ⟨w.heap.size, 1, none⟩ (.int .i64 y.1)).setCell ⟨w.heap.size, 2, none⟩ (.slice P k pc) = zz at *
      have y0 := HF.out.at_ 0 rfl
      have y1 := HF.out.at_ 1 rfl
      have y2 := HF.out.at_ 2 rfl
      refine bodyPost_ret (v := .agg #[.int .i64 x.1, .int .i64 y.1, .slice P k pc]) ?_ rfl (by rw [HRes.out]; exact ⟨P, k, pc, rfl, HOn.out, HRn.out, HTn.out⟩)
      simp [results, Tryz.results104, go_sem, y0, y1, y2]
end Go.Proofs.YthfcjlndaajkfaaGreat
namespace Go.Proofs.YthfcjlndaajkfaaGreat
open Go.RowKit
set_option linter.unusedVariables false
namespace Ed
/-- The reader takes a table. -/
def takeTa (l : List Nat) (at_ : Nat) (ok : Bool) : Ta × Nat × Bool :=
  let p := takeP l at_ ok
  let s := takeN l p.2.1 p.2.2
  let v := takeN l s.2.1 s.2.2
  let c := takeN l v.2.1 v.2.2
  let lo := takeT l c.2.1 c.2.2
  let hi := takeT l lo.2.1 lo.2.2
  let t := takeN l hi.2.1 hi.2.2
  (⟨p.1, s.1, v.1, c.1, lo.1, hi.1, t.1⟩, t.2)
/-- The reader takes what an edit's kind names. -/
def takeE (l : List Nat) (at_ : Nat) (ok : Bool) (kd : Int) : Et × Nat × Bool :=
  if kd = 4 then (⟨kd, (takeN l at_ ok).1, (takeN l (takeN l at_ ok).2.1 (takeN l at_ ok).2.2).1, noP, noT⟩, (takeN l (takeN l at_ ok).2.1 (takeN l at_ ok).2.2).2)
  else if kd = 1 then (⟨kd, 0, (takeN l at_ ok).1, noP, noT⟩, (takeN l at_ ok).2)
  else if kd = 2 then (⟨kd, 0, (takeN l at_ ok).1, noP, noT⟩, (takeN l at_ ok).2)
  else if kd = 3 then (⟨kd, 0, 0, (takeP l at_ ok).1, noT⟩, (takeP l at_ ok).2)
  else if kd = 6 then (⟨kd, 0, 0, noP, (takeTa l at_ ok).1⟩, (takeTa l at_ ok).2)
  else (⟨kd, (takeN l at_ ok).1, 0, noP, noT⟩, (takeN l at_ ok).2)
end Ed
/-- All but three blocks stay. -/
structure Three (w w' : World) (ab ob xb : Nat) : Prop where
  os : w'.os = w.os
  tape : w'.tape = w.tape
  output : w'.output = w.output
  size : w.heap.size ≤ w'.heap.size
  block : ∀ k, k < w.heap.size → k ≠ ab → k ≠ ob → k ≠ xb → w'.heap[k]? = w.heap[k]?
theorem Three.refl (w : World) (ab ob xb : Nat) : Three w w ab ob xb := ⟨rfl, rfl, rfl, Nat.le_refl _, fun _ _ _ _ _ => rfl⟩
theorem Three.two {w w1 w2 : World} {ab ob xb : Nat} (h : Three w w1 ab ob xb) (k : Two w1 w2 ab ob) : Three w w2 ab ob xb := ⟨k.os.trans h.os, k.tape.trans h.tape, k.output.trans h.output, Nat.le_trans h.size k.size, fun i hi h1 h2 h3 => (k.block i (Nat.lt_of_lt_of_le hi h.size) h1 h2).trans (h.block i hi h1 h2 h3)⟩
theorem Three.set {w w1 w2 : World} {ab ob xb : Nat} (h : Three w w1 ab ob xb) (k : w1.grownBy w2 (some xb)) : Three w w2 ab ob xb := ⟨k.os.trans h.os, k.tape.trans h.tape, k.output.trans h.output, Nat.le_trans h.size k.size, fun i hi h1 h2 h3 => (k.block i (Nat.lt_of_lt_of_le hi h.size) (fun e => by injection e with e; exact h3 e)).trans (h.block i hi h1 h2 h3)⟩
theorem Rdr.other {w w' : World} {bb ab ob xb : Nat} {A : Option Addr} {n cap : Nat} {l : List Nat} {a0 : Nat} {ok : Bool} (h : Rdr w bb ab ob A n cap l a0 ok) (hg : w.grownBy w' (some xb)) (hx : xb ≠ bb ∧ xb ≠ ab ∧ xb ≠ ob ∧ (0 < n → blkOf A ≠ some xb)) : Rdr w' bb ab ob A n cap l a0 ok :=
  ⟨h.b.grown hg (fun e => by injection e with e; exact hx.1 e), h.a.grown hg (fun e => by injection e with e; exact hx.2.1 e), h.o.grown hg (fun e => by injection e with e; exact hx.2.2.1 e), h.rd.grownBy hg hx.2.2.2, h.le, h.cp, h.few, h.big, h.ne1, h.ne2, h.ne3, h.off⟩
theorem OwP.two {w w' : World} {base ab ob : Nat} {P : Option Addr} {pn pc : Nat} {ps : List (Int × Int)} (h : OwP w base P pn pc ps) (t : Two w w' ab ob) (h1 : ab < base) (h2 : ob < base) : OwP w' base P pn pc ps := ⟨h.1, h.2.two t h1 h2⟩
theorem OwP.nil (w : World) (base : Nat) : OwP w base none 0 0 [] := ⟨rfl, OwnC.none_ _ _ _ _⟩
/-- What taking an edit gives: its cells behind the pointer, its pairs in memory of the call's own. -/
def GivesTkE (w : World) (bb ab ob xb : Nat) (A : Option Addr) (n cap : Nat) (l : List Nat) (r : Ed.Et × Nat × Bool) (e : Ending) (w' : World) : Prop :=
  e = .returned (.tuple #[]) ∧ Rdr w' bb ab ob A n cap l r.2.1 r.2.2 ∧ Three w w' ab ob xb ∧ ∃ (x : Ed.Er) (ps qs : List (Int × Int)), Holds w' xb x.cells ∧ OwP w' w.heap.size x.P x.pn x.pc ps ∧ OwP w' w.heap.size x.t.P x.t.pn x.t.pc qs ∧ Ed.etOf (x, (ps, qs)) = r.1
end Go.Proofs.YthfcjlndaajkfaaGreat
