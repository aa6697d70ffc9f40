/- Taking edits, plain; edits in memory of the call's own. edit.taken: the edits that bytes tell. edit.Read: the edits of bytes. -/
import Derived.Test.YthfcjlndaajkfaaGreatTEdTak6
import Derived.BigQuiet
namespace Go.Proofs.YthfcjlndaajkfaaGreat
open Go.RowKit
set_option linter.unusedVariables false
namespace Ed
def takesK (l : List Nat) (at_ : Nat) (ok : Bool) : Nat → Option (List Et × Nat × Bool)
  | 0 => some ([], at_, ok)
  | k + 1 => match takesK l at_ ok k with
    | none => none
    | some s => if s.2.2 = true ∧ s.2.1 < l.length then some (s.1 ++ [(takeE l (s.2.1 + 1) s.2.2 (((l[s.2.1]?).getD 0 : Nat) : Int)).1], (takeE l (s.2.1 + 1) s.2.2 (((l[s.2.1]?).getD 0 : Nat) : Int)).2) else none
/-- The edits that bytes tell, and whether they tell any. -/
def taken (l : List Nat) : List Et × Bool :=
  match takesK l (takeN l 0 true).2.1 (takeN l 0 true).2.2 (min (takeN l 0 true).1.toNat 257) with
  | none => ([], false)
  | some s => (s.1, s.2.2 && decide (s.2.1 = l.length))
theorem takesK_len {l : List Nat} {at_ : Nat} {ok : Bool} : ∀ {k : Nat} {s : List Et × Nat × Bool}, takesK l at_ ok k = some s → s.1.length = k
  | 0, s, h => by injection h with h; subst h; rfl
  | k + 1, s, h => by
    unfold takesK at h
    split at h
    · cases h
    · rename_i s0 h0
      split at h
      · injection h with h; subst h
        rw [List.length_append, takesK_len h0]; rfl
      · cases h
/-- Once taken nothing, nothing is taken further on. -/
theorem takesK_none {l : List Nat} {at_ : Nat} {ok : Bool} {k m : Nat} (h : takesK l at_ ok k = none) (hm : k ≤ m) : takesK l at_ ok m = none := by
  induction m with
  | zero => rw [show k = 0 by omega] at h; exact h
  | succ m ih =>
    by_cases e : k = m + 1
    · rw [← e]; exact h
    · have h2 := ih (by omega)
      unfold takesK
      rw [h2]
theorem takeT_size (l : List Nat) (at_ : Nat) (ok : Bool) : (takeT l at_ ok).1.size ≤ 74 := by
  unfold takeT
  split
  · exact Nat.zero_le _
  · rename_i t r h
    unfold Cd.takeText at h
    split at h
    · cases h
    · rename_i v s hs
      obtain ⟨_, h2, _⟩ := takeNum_bound hs
      rw [List.length_take] at h2
      split at h
      · cases h
      · injection h with h
        injection h with h _
        subst h
        show (List.map (fun (n : Nat) => UInt8.ofNat n) (List.take v s)).toArray.size ≤ 74
        simp
        omega
theorem takeTa_fits (l : List Nat) (at_ : Nat) (ok : Bool) : ((takeTa l at_ ok).1.lo.size ≤ 74 ∧ (takeTa l at_ ok).1.hi.size ≤ 74 ∧ (0 ≤ (takeTa l at_ ok).1.lv ∧ (takeTa l at_ ok).1.lv ≤ 1099511627776) ∧ (0 ≤ (takeTa l at_ ok).1.ct ∧ (takeTa l at_ ok).1.ct ≤ 1099511627776) ∧ (0 ≤ (takeTa l at_ ok).1.p.id ∧ (takeTa l at_ ok).1.p.id ≤ 1099511627776)) := by
  have hp : 0 ≤ (takeP l at_ ok).1.id ∧ (takeP l at_ ok).1.id ≤ 1099511627776 := by unfold takeP; exact takeN_q l at_ ok
  unfold takeTa
  generalize takeP l at_ ok = p at *
  dsimp only
  generalize takeN l p.2.1 p.2.2 = s
  have hv := takeN_q l s.2.1 s.2.2
  generalize takeN l s.2.1 s.2.2 = v at *
  have hc := takeN_q l v.2.1 v.2.2
  generalize takeN l v.2.1 v.2.2 = c at *
  have hlo := takeT_size l c.2.1 c.2.2
  generalize takeT l c.2.1 c.2.2 = lo at *
  have hhi := takeT_size l lo.2.1 lo.2.2
  generalize takeT l lo.2.1 lo.2.2 = hi at *
  exact ⟨hlo, hhi, hv, hc, hp⟩
theorem takeE_fits (l : List Nat) (at_ : Nat) (ok : Bool) (kd : Int) : ((takeE l at_ ok kd).1.t.lo.size ≤ 74 ∧ (takeE l at_ ok kd).1.t.hi.size ≤ 74 ∧ (0 ≤ (takeE l at_ ok kd).1.t.lv ∧ (takeE l at_ ok kd).1.t.lv ≤ 1099511627776) ∧ (0 ≤ (takeE l at_ ok kd).1.t.ct ∧ (takeE l at_ ok kd).1.t.ct ≤ 1099511627776) ∧ (0 ≤ (takeE l at_ ok kd).1.t.p.id ∧ (takeE l at_ ok kd).1.t.p.id ≤ 1099511627776)) := by
  have hz : (noT.lo.size ≤ 74 ∧ noT.hi.size ≤ 74 ∧ (0 ≤ noT.lv ∧ noT.lv ≤ 1099511627776) ∧ (0 ≤ noT.ct ∧ noT.ct ≤ 1099511627776) ∧ (0 ≤ noT.p.id ∧ noT.p.id ≤ 1099511627776)) := by decide
  unfold takeE
  split
  · exact hz
  split
  · exact hz
  split
  · exact hz
  split
  · exact hz
  split
  · exact takeTa_fits l at_ ok
  · exact hz
theorem etOf_fits {x : Er} {ps qs : List (Int × Int)} {l : List Nat} {at_ : Nat} {ok : Bool} {kd : Int} (h : etOf (x, (ps, qs)) = (takeE l at_ ok kd).1) : x.t.fits := by
  have hf := takeE_fits l at_ ok kd
  rw [← h] at hf
  obtain ⟨h1, h2, h3, h4, h5⟩ := hf
  have h1 : x.t.lo.size ≤ 74 := h1
  have h2 : x.t.hi.size ≤ 74 := h2
  have h3 : 0 ≤ x.t.lv ∧ x.t.lv ≤ 1099511627776 := h3
  have h4 : 0 ≤ x.t.ct ∧ x.t.ct ≤ 1099511627776 := h4
  have h5 : 0 ≤ x.t.id ∧ x.t.id ≤ 1099511627776 := h5
  exact ⟨by omega, by omega, by omega, by omega, by omega⟩
theorem er_one (x : Er) : ∀ u ∈ x.cells, u.oneCell' = true := by
  intro u hu
  simp only [Er.cells, List.mem_cons, List.not_mem_nil, or_false] at hu
  rcases hu with rfl | rfl | rfl | rfl | rfl | rfl | rfl | rfl | rfl | rfl | rfl | rfl | rfl | rfl | rfl <;> rfl
end Ed
theorem manyE : Many 15 38 37 (.agg #[.int .i64 0, .int .i64 0, .int .i64 0, .int .i64 0, .int .i64 0, .slice none 0 0, .int .i64 0, .int .i64 0, .slice none 0 0, .int .i64 0, .int .i64 0, .int .i64 0, .string ⟨#[]⟩, .string ⟨#[]⟩, .int .i64 0]) 168 := ⟨by kernel_rfl, Tryz.underlying38, by kernel_rfl, by decide, by decide⟩
/-- Edits in memory of the call's own. -/
structure OwEs (w : World) (base : Nat) (R : Option Addr) (n c : Nat) (E : List Ed.Ex) : Prop where
  len : E.length = n
  row : OwnC 15 w base 37 R n c (Ed.eflat (E.map (·.1)))
  p : ∀ x ∈ E, OwP w base x.1.P x.1.pn x.1.pc x.2.1
  t : ∀ x ∈ E, OwP w base x.1.t.P x.1.t.pn x.1.t.pc x.2.2
  fit : ∀ x ∈ E, x.1.t.fits
  offp : ∀ x ∈ E, Off x.1.P R
  offt : ∀ x ∈ E, Off x.1.t.P R
theorem OwEs.nil (w : World) (base : Nat) : OwEs w base none 0 0 [] := ⟨rfl, OwnC.none_ _ _ _ _, (fun x hx => nomatch hx), (fun x hx => nomatch hx), (fun x hx => nomatch hx), (fun x hx => nomatch hx), (fun x hx => nomatch hx)⟩
theorem OwEs.below {w w' : World} {base n c : Nat} {R : Option Addr} {E : List Ed.Ex} (h : OwEs w base R n c E) (hb : Below w.heap.size w w') : OwEs w' base R n c E := ⟨h.len, h.row.below hb, fun x hx => (h.p x hx).below hb, fun x hx => (h.t x hx).below hb, h.fit, h.offp, h.offt⟩
theorem OwEs.rd {w : World} {base n c : Nat} {R : Option Addr} {E : List Ed.Ex} (h : OwEs w base R n c E) : RdEs w R n E := ⟨h.len, h.row.rd, fun x hx => ⟨(h.p x hx).ok, (h.t x hx).ok, h.fit x hx⟩⟩
theorem OwEs.base_ {w : World} {base base' n c : Nat} {R : Option Addr} {E : List Ed.Ex} (h : OwEs w base R n c E) (hb : base' ≤ base) : OwEs w base' R n c E := ⟨h.len, h.row.base_ hb, fun x hx => (h.p x hx).base_ hb, fun x hx => (h.t x hx).base_ hb, h.fit, h.offp, h.offt⟩
theorem OwnC.three {s : Nat} {w w' : World} {base n cap ab ob xb : Nat} {A : Option Addr} {vs : List Value} {E : TypeId} (h : OwnC s w base E A n cap vs) (t : Three w w' ab ob xb) (h1 : ab < base) (h2 : ob < base) (h3 : blkOf A ≠ some xb) : OwnC s w' base E A n cap vs := by
  refine ⟨h.1, ?_⟩
  rcases h.2 with h0 | ⟨g, c, cur, hv, hb, hg, rest⟩
  · exact .inl h0
  · refine .inr ⟨g, c, cur, hv, hb, (t.block g (Array.getElem?_eq_some_iff.1 hg).1 (by omega) (by omega) (fun e => h3 ?_)).trans hg, rest⟩
    injection hv with hA _ _
    rw [hA, e]; rfl
theorem OwEs.three {w w' : World} {base n c ab ob xb : Nat} {R : Option Addr} {E : List Ed.Ex} (h : OwEs w base R n c E) (t : Three w w' ab ob xb) (h1 : ab < base) (h2 : ob < base) (h3 : blkOf R ≠ some xb) (h4 : ∀ x ∈ E, blkOf x.1.P ≠ some xb ∧ blkOf x.1.t.P ≠ some xb) : OwEs w' base R n c E :=
  ⟨h.len, h.row.three t h1 h2 h3, fun x hx => ⟨(h.p x hx).1, (h.p x hx).2.three t h1 h2 (h4 x hx).1⟩, fun x hx => ⟨(h.t x hx).1, (h.t x hx).2.three t h1 h2 (h4 x hx).2⟩, h.fit, h.offp, h.offt⟩
theorem OwEs.lt {w : World} {base n c : Nat} {R : Option Addr} {E : List Ed.Ex} (h : OwEs w base R n c E) : (∀ g, blkOf R = some g → base ≤ g ∧ g < w.heap.size) ∧ ∀ x ∈ E, (∀ g, blkOf x.1.P = some g → base ≤ g ∧ g < w.heap.size) ∧ (∀ g, blkOf x.1.t.P = some g → base ≤ g ∧ g < w.heap.size) :=
  ⟨fun g hg => h.row.blk g (by rw [ownBlock_eq]; exact hg), fun x hx => ⟨(h.p x hx).lt, (h.t x hx).lt⟩⟩
theorem OwEs.more {w w' : World} {base n c c' : Nat} {R R' : Option Addr} {E : List Ed.Ex} {x : Ed.Ex} (h : OwEs w base R n c E) (hg : GrewC 15 w w' base 37 R R' n c (n + 1) c' (Ed.eflat (E.map (·.1)) ++ x.1.cells)) (hP : OwP w base x.1.P x.1.pn x.1.pc x.2.1) (hT : OwP w base x.1.t.P x.1.t.pn x.1.t.pc x.2.2) (hf : x.1.t.fits) (ho : Off x.1.P R) (ho2 : Off x.1.t.P R) : OwEs w' base R' (n + 1) c' (E ++ [x]) := by
  have hb : blkOf R' = blkOf R ∨ blkOf R' = some w.heap.size := by have := hg.blk; rwa [ownBlock_eq, ownBlock_eq] at this
  have hG : w.grownBy w' (blkOf R) := by have := hg.grew; rwa [ownBlock_eq] at this
  have offR : ∀ Q : Option Addr, Off Q R → (∀ g, blkOf Q = some g → g < w.heap.size) → Off Q R' := fun Q hQ hl g h1 h2 => by
    rcases hb with hb | hb
    · exact hQ g h1 (hb ▸ h2)
    · rw [hb] at h2; injection h2 with h2; have := hl g h1; omega
  have hmem : ∀ y ∈ E ++ [x], y ∈ E ∨ y = x := fun y hy => by
    rcases List.mem_append.1 hy with hy | hy
    · exact .inl hy
    · exact .inr (List.mem_singleton.1 hy)
  refine ⟨by rw [List.length_append, h.len]; rfl, ?_, fun y hy => ?_, fun y hy => ?_, fun y hy => ?_, fun y hy => ?_, fun y hy => ?_⟩
  · have e : Ed.eflat ((E ++ [x]).map (·.1)) = Ed.eflat (E.map (·.1)) ++ x.1.cells := by unfold Ed.eflat; rw [List.map_append, List.flatMap_append]; simp
    rw [e]; exact hg.own
  · rcases hmem y hy with hy | rfl
    · exact (h.p y hy).grown hG (fun g hg e => h.offp y hy g e hg)
    · exact hP.grown hG (fun g hg e => ho g e hg)
  · rcases hmem y hy with hy | rfl
    · exact (h.t y hy).grown hG (fun g hg e => h.offt y hy g e hg)
    · exact hT.grown hG (fun g hg e => ho2 g e hg)
  · rcases hmem y hy with hy | rfl
    · exact h.fit y hy
    · exact hf
  · rcases hmem y hy with hy | rfl
    · exact offR _ (h.offp y hy) (fun g hg => ((h.p y hy).lt g hg).2)
    · exact offR _ ho (fun g hg => (hP.lt g hg).2)
  · rcases hmem y hy with hy | rfl
    · exact offR _ (h.offt y hy) (fun g hg => ((h.t y hy).lt g hg).2)
    · exact offR _ ho2 (fun g hg => (hT.lt g hg).2)
theorem take_any (bb ab ob xb : Nat) (A : Option Addr) (n cap : Nat) (l : List Nat) (at_ : Nat) (ok : Bool) (kd : Int) (w : World) (h : Rdr w bb ab ob A n cap l at_ ok) (hX : Holds w xb [.int .i64 kd, .int .i64 0, .int .i64 0, .int .i64 0, .int .i64 0, .slice none 0 0, .int .i64 0, .int .i64 0, .slice none 0 0, .int .i64 0, .int .i64 0, .int .i64 0, .string ⟨#[]⟩, .string ⟨#[]⟩, .int .i64 0]) (hx : xb ≠ bb ∧ xb ≠ ab ∧ xb ≠ ob ∧ (0 < n → blkOf A ≠ some xb)) :
    Calls Tryz.prog 88 #[.pointer (some ⟨xb, 0, none⟩), .func (.func 84) #[] #[.pointer (some ⟨bb, 0, none⟩), .pointer (some ⟨ab, 0, none⟩), .pointer (some ⟨ob, 0, none⟩)], .func (.func 86) #[] #[.pointer (some ⟨bb, 0, none⟩), .pointer (some ⟨ab, 0, none⟩), .pointer (some ⟨ob, 0, none⟩)]] w (GivesTkE w bb ab ob xb A n cap l (Ed.takeE l at_ ok kd)) := by
  by_cases h1 : kd = 1
  · exact take1_any bb ab ob xb A n cap l at_ ok kd h1 w h hX hx
  by_cases h2 : kd = 2
  · exact take2_any bb ab ob xb A n cap l at_ ok kd h2 w h hX hx
  by_cases h3 : kd = 3
  · exact take3_any bb ab ob xb A n cap l at_ ok kd h3 w h hX hx
  by_cases h4 : kd = 4
  · exact take4_any bb ab ob xb A n cap l at_ ok kd h4 w h hX hx
  by_cases h6 : kd = 6
  · exact take6_any bb ab ob xb A n cap l at_ ok kd h6 w h hX hx
  exact take0_any bb ab ob xb A n cap l at_ ok kd ⟨h1, h2, h3, h4, h6⟩ w h hX hx
end Go.Proofs.YthfcjlndaajkfaaGreat
namespace Go.Proofs.YthfcjlndaajkfaaGreat
open Go.RowKit
set_option linter.unusedVariables false
theorem Three.far {w w' : World} {ab ob xb base : Nat} (h : Three w w' ab ob xb) (h1 : base ≤ ab) (h2 : base ≤ ob) (h3 : base ≤ xb) {a : World} (hb : Below base a w) (hs : base ≤ a.heap.size) : Below base a w' := ⟨h.os.trans hb.os, h.tape.trans hb.tape, h.output.trans hb.output, Nat.le_trans hb.size h.size, fun k hk => (h.block k (Nat.lt_of_lt_of_le hk (Nat.le_trans hs hb.size)) (by omega) (by omega) (by omega)).trans (hb.block k hk)⟩
/-- What taking edits gives. -/
def GivesTkn (w : World) (r : List Ed.Et × Bool) (e : Ending) (w' : World) : Prop :=
  ∃ R c E, e = .returned (.tuple #[.slice R E.length c, .bool r.2]) ∧ E.map Ed.etOf = r.1 ∧ OwEs w' w.heap.size R E.length c E ∧ Below w.heap.size w w'
theorem rdr_new (w : World) (A : Option Addr) (n cap : Nat) (l : List Nat) (hr : Rd w A n l) (hc : n ≤ cap) (hn : n ≤ 1000000) (hb : cap ≤ 9223372036854775807) (t1 t2 t3 : TypeId) : Rdr (((w.alloc (.cells #[.slice A n cap] t1)).alloc (.cells #[.int .i64 0] t2)).alloc (.cells #[.bool true] t3)) w.heap.size (w.heap.size + 1) (w.heap.size + 1 + 1) A n cap l 0 true := by
  have s1 : (w.alloc (.cells #[.slice A n cap] t1)).heap.size = w.heap.size + 1 := by simp
  have s2 : ((w.alloc (.cells #[.slice A n cap] t1)).alloc (.cells #[.int .i64 0] t2)).heap.size = w.heap.size + 1 + 1 := by simp
  have h1 := ((Holds.new w #[.slice A n cap] t1).alloc (.cells #[.int .i64 0] t2)).alloc (.cells #[.bool true] t3)
  have h2 := (Holds.new (w.alloc (.cells #[.slice A n cap] t1)) #[.int .i64 0] t2).alloc (.cells #[.bool true] t3)
  have h3 := Holds.new ((w.alloc (.cells #[.slice A n cap] t1)).alloc (.cells #[.int .i64 0] t2)) #[.bool true] t3
  rw [s1] at h2
  rw [s2] at h3
  refine ⟨h1, h2, h3, ((hr.alloc _).alloc _).alloc _, Nat.zero_le _, hc, hn, hb, by omega, by omega, by omega, fun h0 => ?_⟩
  obtain ⟨b, o, hA, hbl, _⟩ := hr.2.2 h0
  rw [hA]
  exact ⟨fun e => by injection e with e; have : b = _ := e; omega, fun e => by injection e with e; have : b = _ := e; omega⟩
set_option maxRecDepth 100000 in
set_option maxHeartbeats 32000000 in
theorem taken_any (A : Option Addr) (n cap : Nat) (l : List Nat) (w : World) (hr : Rd w A n l) (hc : n ≤ cap) (hn : n ≤ 1000000) (hb : cap ≤ 9223372036854775807) :
    Calls Tryz.prog 56 #[.slice A n cap] w (GivesTkn w (Ed.taken l)) := by
  have HR0 := Lib.hid (rdr_new w A n cap l hr hc hn hb 51 3 4)
  have HB0 := Lib.hid (show Below w.heap.size w (((w.alloc (.cells #[.slice A n cap] 51)).alloc (.cells #[.int .i64 0] 3)).alloc (.cells #[.bool true] 4)) from (((Below.refl _ _).alloc (Nat.le_refl _) _).alloc (by simp) _).alloc (by simp <;> omega) _)
  have HLl : Hid (l.length = n) := Lib.hid hr.1
  obtain ⟨res, hres⟩ : ∃ r, r = Ed.taken l := ⟨_, rfl⟩
  have HRes := Lib.hid (show res = match Ed.takesK l (Ed.takeN l 0 true).2.1 (Ed.takeN l 0 true).2.2 (min (Ed.takeN l 0 true).1.toNat 257) with | none => ([], false) | some s => (s.1, s.2.2 && decide (s.2.1 = l.length)) from hres)
  rw [← hres]
  clear hres hr hc hn hb
  go_enter Tryz.func56, Tryz.ntmps56
  go_upto_region 2 with fail
  generalize (((w.alloc (.cells #[.slice A n cap] 51)).alloc (.cells #[.int .i64 0] 3)).alloc (.cells #[.bool true] 4)) = u at *
  have C1 := Lib.hid (rnum_any w.heap.size (w.heap.size + 1) (w.heap.size + 1 + 1) A n cap l 0 true u HR0.out)
  go_wp2_with fail
  refine C1.out.mono ?_
  obtain ⟨ab, hab⟩ : ∃ b, b = w.heap.size + 1 := ⟨_, rfl⟩
  obtain ⟨ob, hob⟩ : ∃ b, b = w.heap.size + 1 + 1 := ⟨_, rfl⟩
  rintro e v ⟨rfl, hr1, ht1⟩
  have HR1 := Lib.hid hr1
  have HB1 := Lib.hid (ht1.far (base := w.heap.size) (by omega) (by omega) HB0.out (Nat.le_refl _))
  have HQx := Lib.hid (Ed.takeN_q l 0 true)
  clear hr1 ht1 C1 HR0 HB0
  generalize Ed.takeN l 0 true = x at *
  rw [← hob] at HR1 ⊢
  rw [← hab] at HR1 ⊢
  have HBA := Lib.hid (show ab = w.heap.size + 1 ∧ ob = w.heap.size + 1 + 1 from ⟨hab, hob⟩)
  obtain ⟨m, hm⟩ : ∃ m : Nat, m = min x.1.toNat 257 := ⟨_, rfl⟩
  have hmin : min x.1 257 = (m : Int) := by have := HQx.out; omega
  have hm257 : m ≤ 257 := by omega
  rw [← hm] at HRes
  clear hm hab hob
  have HLv := Lib.hid HR1.out.lt
  go_wp2_with fail
  go_loopw [8, 15] (fun s8 ii wr => ∃ (k : Nat) (E : List Ed.Ex) (R : Option Addr) (rc a : Nat) (o : Bool), k ≤ m ∧ ii = .int .i64 (k : Int) ∧ s8 = .slice R E.length rc ∧ Hid (Rdr wr w.heap.size ab ob A n cap l a o) ∧ Hid (OwEs wr v.heap.size R E.length rc E) ∧ Hid (Ed.takesK l x.2.1 x.2.2 k = some (E.map Ed.etOf, a, o)) ∧ Hid (Below w.heap.size w wr) ∧ v.heap.size ≤ wr.heap.size) (fun _ ii _ => m - (intOf ii).toNat)
  case atStart => exact ⟨0, [], none, 0, x.2.1, x.2.2, by omega, rfl, rfl, HR1, Lib.hid (OwEs.nil _ _), Lib.hid rfl, HB1, Nat.le_refl _⟩
  case round =>
    clear HR1 HB1
    obtain ⟨k, E, R, rc, a, o, hk, rfl, rfl, HR, HE, HK, HB, hsz⟩ := hrel
    have HEl := Lib.hid (show E.length = k by have := Ed.takesK_len HK.out; rwa [List.length_map] at this)
    have o0 := HR.out.o.at_ 0 rfl
    have a0 := HR.out.a.at_ 0 rfl
    have b0 := HR.out.b.at_ 0 rfl
    have hle := HR.out.le
    by_cases hlt : k < m
    · have hki : (k : Int) < (m : Int) := by omega
      have hk0 : (0 : Int) ≤ (k : Int) := by omega
      cases o with
      | false =>
        have HG := Lib.hid (show res = ([], false) by
          rw [HRes.out, Ed.takesK_none (k := k + 1) (m := m) (by unfold Ed.takesK; rw [HK.out]; simp) (by omega)])
        go_wp2
        go_ret2
        rw [HG.out]
        exact ⟨none, 0, [], rfl, rfl, OwEs.nil _ _, HB.out⟩
      | true =>
      by_cases han : a = n
      · have he : ((a : Int) == (n : Int)) = true := by simp [han]
        have HG := Lib.hid (show res = ([], false) by
          rw [HRes.out, Ed.takesK_none (k := k + 1) (m := m) (by unfold Ed.takesK; rw [HK.out, HLl.out]; simp [han]) (by omega)])
        clear han
        go_wp2
        go_ret2
        rw [HG.out]
        exact ⟨none, 0, [], rfl, rfl, OwEs.nil _ _, HB.out⟩
      · have he : ((a : Int) == (n : Int)) = false := beq_eq_false_iff_ne.2 (by omega)
        have hai : (a : Int) < (n : Int) := by omega
        have ha0 : (0 : Int) ≤ (a : Int) := by omega
        have hn6 := HR.out.few
        obtain ⟨b, o2, y, hA, hbl, hly, hy, hcy⟩ := HR.out.rd.at_ (k := a) (by omega)
        have HSt := Lib.hid (show Ed.takesK l x.2.1 x.2.2 (k + 1) = some (E.map Ed.etOf ++ [(Ed.takeE l (a + 1) true (y : Int)).1], (Ed.takeE l (a + 1) true (y : Int)).2) by
          unfold Ed.takesK
          rw [HK.out]
          dsimp only
          rw [if_pos ⟨rfl, by rw [HLl.out]; omega⟩, hly]
          rfl)
        have hal : Below wr.heap.size wr (wr.alloc (.cells #[.int .i64 (y : Int), .int .i64 0, .int .i64 0, .int .i64 0, .int .i64 0, .slice none 0 0, .int .i64 0, .int .i64 0, .slice none 0 0, .int .i64 0, .int .i64 0, .int .i64 0, .string ⟨#[]⟩, .string ⟨#[]⟩, .int .i64 0] 37)) := (Below.refl _ _).alloc (Nat.le_refl _) _
        have HXa := Lib.hid (Holds.new wr #[.int .i64 (y : Int), .int .i64 0, .int .i64 0, .int .i64 0, .int .i64 0, .slice none 0 0, .int .i64 0, .int .i64 0, .slice none 0 0, .int .i64 0, .int .i64 0, .int .i64 0, .string ⟨#[]⟩, .string ⟨#[]⟩, .int .i64 0] 37)
        have HLw := Lib.hid HR.out.lt
        have hgc := Lib.hid (grown_cell (wr.alloc (.cells #[.int .i64 (y : Int), .int .i64 0, .int .i64 0, .int .i64 0, .int .i64 0, .slice none 0 0, .int .i64 0, .int .i64 0, .slice none 0 0, .int .i64 0, .int .i64 0, .int .i64 0, .string ⟨#[]⟩, .string ⟨#[]⟩, .int .i64 0] 37)) ab 0 (.int .i64 ((a : Int) + 1)))
        have HRa := Lib.hid ((HR.out.below hal).atz (a + 1) ((a : Int) + 1) (by omega) (by omega))
        have HXb := Lib.hid (show Holds ((wr.alloc (.cells #[.int .i64 (y : Int), .int .i64 0, .int .i64 0, .int .i64 0, .int .i64 0, .slice none 0 0, .int .i64 0, .int .i64 0, .slice none 0 0, .int .i64 0, .int .i64 0, .int .i64 0, .string ⟨#[]⟩, .string ⟨#[]⟩, .int .i64 0] 37)).setCell ⟨ab, 0, none⟩ (.int .i64 ((a : Int) + 1))) wr.heap.size [.int .i64 (y : Int), .int .i64 0, .int .i64 0, .int .i64 0, .int .i64 0, .slice none 0 0, .int .i64 0, .int .i64 0, .slice none 0 0, .int .i64 0, .int .i64 0, .int .i64 0, .string ⟨#[]⟩, .string ⟨#[]⟩, .int .i64 0] from HXa.out.grown hgc.out (fun e => by injection e with e; have := HLw.out.2.1; omega))
        have a1 := (HR.out.below hal).a.at_ 0 rfl
        have f1 := (HR.out.below hal).a.2.2 0
        have hxx : wr.heap.size ≠ w.heap.size ∧ wr.heap.size ≠ ab ∧ wr.heap.size ≠ ob ∧ (0 < n → blkOf A ≠ some wr.heap.size) := ⟨by have := HLw.out; omega, by have := HLw.out; omega, by have := HLw.out; omega, fun h0 e => by have := HLw.out.2.2.2 h0 _ e; omega⟩
        have HEb := Lib.hid (show OwEs ((wr.alloc (.cells #[.int .i64 (y : Int), .int .i64 0, .int .i64 0, .int .i64 0, .int .i64 0, .slice none 0 0, .int .i64 0, .int .i64 0, .slice none 0 0, .int .i64 0, .int .i64 0, .int .i64 0, .string ⟨#[]⟩, .string ⟨#[]⟩, .int .i64 0] 37)).setCell ⟨ab, 0, none⟩ (.int .i64 ((a : Int) + 1))) v.heap.size R E.length rc E from (HE.out.below hal).three (((Three.refl (wr.alloc (.cells #[.int .i64 (y : Int), .int .i64 0, .int .i64 0, .int .i64 0, .int .i64 0, .slice none 0 0, .int .i64 0, .int .i64 0, .slice none 0 0, .int .i64 0, .int .i64 0, .int .i64 0, .string ⟨#[]⟩, .string ⟨#[]⟩, .int .i64 0] 37)) ab ob wr.heap.size).two (Two.ab hgc.out ob))) HLv.out.2.1 HLv.out.2.2.1 (fun e => by have := (HE.out.lt.1 _ e).2; omega) (fun z hz => ⟨fun e => by have := ((HE.out.lt.2 z hz).1 _ e).2; omega, fun e => by have := ((HE.out.lt.2 z hz).2 _ e).2; omega⟩))
        have HBb := Lib.hid (show Below w.heap.size w ((wr.alloc (.cells #[.int .i64 (y : Int), .int .i64 0, .int .i64 0, .int .i64 0, .int .i64 0, .slice none 0 0, .int .i64 0, .int .i64 0, .slice none 0 0, .int .i64 0, .int .i64 0, .int .i64 0, .string ⟨#[]⟩, .string ⟨#[]⟩, .int .i64 0] 37)).setCell ⟨ab, 0, none⟩ (.int .i64 ((a : Int) + 1))) from ((HB.out.trans (hal.mono HB.out.size)).grown hgc.out (Nat.le_trans HB.out.size hal.size) (fun g e => by injection e with e; have := HBA.out; omega)))
        have hsb : v.heap.size ≤ ((wr.alloc (.cells #[.int .i64 (y : Int), .int .i64 0, .int .i64 0, .int .i64 0, .int .i64 0, .slice none 0 0, .int .i64 0, .int .i64 0, .slice none 0 0, .int .i64 0, .int .i64 0, .int .i64 0, .string ⟨#[]⟩, .string ⟨#[]⟩, .int .i64 0] 37)).setCell ⟨ab, 0, none⟩ (.int .i64 ((a : Int) + 1))).heap.size := Nat.le_trans (Nat.le_trans hsz hal.size) hgc.out.size
        have Cx := Lib.hid (take_any w.heap.size ab ob wr.heap.size A n cap l (a + 1) true (y : Int) ((wr.alloc (.cells #[.int .i64 (y : Int), .int .i64 0, .int .i64 0, .int .i64 0, .int .i64 0, .slice none 0 0, .int .i64 0, .int .i64 0, .slice none 0 0, .int .i64 0, .int .i64 0, .int .i64 0, .string ⟨#[]⟩, .string ⟨#[]⟩, .int .i64 0] 37)).setCell ⟨ab, 0, none⟩ (.int .i64 ((a : Int) + 1))) HRa.out HXb.out hxx)
        have HElt := Lib.hid (show ∀ z ∈ E, (∀ g, blkOf z.1.P = some g → g < wr.heap.size) ∧ (∀ g, blkOf z.1.t.P = some g → g < wr.heap.size) from fun z hz => ⟨fun g e => ((HE.out.lt.2 z hz).1 g e).2, fun g e => ((HE.out.lt.2 z hz).2 g e).2⟩)
        have HRlt := Lib.hid (show ∀ g, blkOf R = some g → v.heap.size ≤ g ∧ g < wr.heap.size from HE.out.lt.1)
        have HXw := Lib.hid (show w.heap.size ≤ wr.heap.size from HB.out.size)
        have HBs := Lib.hid (show wr.heap.size ≤ ((wr.alloc (.cells #[.int .i64 (y : Int), .int .i64 0, .int .i64 0, .int .i64 0, .int .i64 0, .slice none 0 0, .int .i64 0, .int .i64 0, .slice none 0 0, .int .i64 0, .int .i64 0, .int .i64 0, .string ⟨#[]⟩, .string ⟨#[]⟩, .int .i64 0] 37)).setCell ⟨ab, 0, none⟩ (.int .i64 ((a : Int) + 1))).heap.size from Nat.le_trans hal.size hgc.out.size)
        subst hA
        clear hal hgc HXa hly hbl
        go_upto_region 11 with fail
        clear o0 a0 b0 a1 f1 hcy HR HB HE HXb HRa
        generalize ((wr.alloc (.cells #[.int .i64 (y : Int), .int .i64 0, .int .i64 0, .int .i64 0, .int .i64 0, .slice none 0 0, .int .i64 0, .int .i64 0, .slice none 0 0, .int .i64 0, .int .i64 0, .int .i64 0, .string ⟨#[]⟩, .string ⟨#[]⟩, .int .i64 0] 37)).setCell ⟨ab, 0, none⟩ (.int .i64 ((a : Int) + 1))) = wb at *
        generalize wr.heap.size = xb at *
        go_wp2_with fail
        refine Cx.out.mono ?_
        clear Cx
        rintro e v2 ⟨rfl, hr2, h3, xx, ps, qs, hX2, hp, hq, het⟩
        have HR2 := Lib.hid hr2
        have HE2 := Lib.hid (HEb.out.three h3 HLv.out.2.1 HLv.out.2.2.1 (fun e => by have := (HRlt.out _ e).2; omega) (fun z hz => ⟨fun e => by have := (HElt.out z hz).1 _ e; omega, fun e => by have := (HElt.out z hz).2 _ e; omega⟩))
        have HB2 := Lib.hid (h3.far (base := w.heap.size) (by have := HBA.out; omega) (by have := HBA.out; omega) (by have := HXw.out; omega) HBb.out (Nat.le_refl _))
        have hs2 := Nat.le_trans hsb h3.size
        have HF := Lib.hid (Ed.etOf_fits het)
        have HOP := Lib.hid hp
        have HOQ := Lib.hid hq
        rw [← het] at HSt
        have HX2 := Lib.hid hX2
        clear hr2 h3 hX2 hp hq het HEb HBb
        generalize (Ed.takeE l (a + 1) true (y : Int)).2 = nxt at *
        obtain ⟨kd, id, nn, pid, pep, P, pn, pc, ⟨tid, tep, Q, qn, qc, sz, lv, ct, lo, hi, tp⟩⟩ := xx
        replace HX2 : Hid (Holds v2 xb [.int .i64 kd, .int .i64 id, .int .i64 nn, .int .i64 pid, .int .i64 pep, .slice P pn pc, .int .i64 tid, .int .i64 tep, .slice Q qn qc, .int .i64 sz, .int .i64 lv, .int .i64 ct, .string lo, .string hi, .int .i64 tp]) := HX2
        obtain ⟨x0, x1, x2, x3, x4, x5, x6, x7, x8, x9, x10, x11, x12, x13, x14⟩ := HX2.out.all15
        have ha2 : Below v2.heap.size v2 (v2.alloc (.cells #[.int .i64 kd, .int .i64 id, .int .i64 nn, .int .i64 pid, .int .i64 pep, .slice P pn pc, .int .i64 tid, .int .i64 tep, .slice Q qn qc, .int .i64 sz, .int .i64 lv, .int .i64 ct, .string lo, .string hi, .int .i64 tp] 37)) := (Below.refl _ _).alloc (Nat.le_refl _) _
        have hrd : RdC 15 (v2.alloc (.cells #[.int .i64 kd, .int .i64 id, .int .i64 nn, .int .i64 pid, .int .i64 pep, .slice P pn pc, .int .i64 tid, .int .i64 tep, .slice Q qn qc, .int .i64 sz, .int .i64 lv, .int .i64 ct, .string lo, .string hi, .int .i64 tp] 37)) (some ⟨v2.heap.size, 0, none⟩) 1 [.int .i64 kd, .int .i64 id, .int .i64 nn, .int .i64 pid, .int .i64 pep, .slice P pn pc, .int .i64 tid, .int .i64 tep, .slice Q qn qc, .int .i64 sz, .int .i64 lv, .int .i64 ct, .string lo, .string hi, .int .i64 tp] := by
          have h := Holds.new v2 #[.int .i64 kd, .int .i64 id, .int .i64 nn, .int .i64 pid, .int .i64 pep, .slice P pn pc, .int .i64 tid, .int .i64 tep, .slice Q qn qc, .int .i64 sz, .int .i64 lv, .int .i64 ct, .string lo, .string hi, .int .i64 tp] 37
          refine ⟨rfl, fun _ => ⟨_, 0, rfl, by simp, fun j q hq => ?_⟩⟩
          rw [Nat.zero_add]
          exact h.at_ j hq
        have HEa := Lib.hid (HE2.out.below ha2)
        have hba2 := Nat.le_trans hs2 ha2.size
        have hElm : E.length + 1 ≤ 1000000 := by have := HEl.out; omega
        go_wp2_with (at_builtin; refine wpList_appC manyE rfl (.tmp 36) (.tmp 38) rfl rfl HEa.out.row ⟨v2.heap.size, 0, none⟩ 1 1 [.int .i64 kd, .int .i64 id, .int .i64 nn, .int .i64 pid, .int .i64 pep, .slice P pn pc, .int .i64 tid, .int .i64 tep, .slice Q qn qc, .int .i64 sz, .int .i64 lv, .int .i64 ct, .string lo, .string hi, .int .i64 tp] (Ed.er_one ⟨kd, id, nn, pid, pep, P, pn, pc, ⟨tid, tep, Q, qn, qc, sz, lv, ct, lo, hi, tp⟩⟩) rfl hrd hElm hba2 ?_; intro R4 c4 v4 hg4)
        have hrow : ∀ g, (Value.slice R E.length rc).ownBlock = some g → v.heap.size ≤ g := fun g e => (HEa.out.row.blk g e).1
        have HEn := Lib.hid (HEa.out.more (x := ((⟨kd, id, nn, pid, pep, P, pn, pc, ⟨tid, tep, Q, qn, qc, sz, lv, ct, lo, hi, tp⟩⟩ : Ed.Er), (ps, qs))) hg4 ((HOP.out.below ha2).base_ hsb) ((HOQ.out.below ha2).base_ hsb) HF.out (fun g e1 e2 => by have := (HOP.out.lt g e1).1; have := (HRlt.out g e2).2; have := HBs.out; omega) (fun g e1 e2 => by have := (HOQ.out.lt g e1).1; have := (HRlt.out g e2).2; have := HBs.out; omega))
        have HRn := Lib.hid ((HR2.out.below ha2).grow hg4.grew (fr := v.heap.size) hrow HLv.out)
        have HBn := Lib.hid (show Below w.heap.size w v4 from ((HB2.out.trans (ha2.mono HB2.out.size)).grown hg4.grew (Nat.le_trans HB2.out.size ha2.size) (fun g e => by have := hrow g e; have := HLv.out; omega)))
        have hsn := Nat.le_trans hba2 hg4.grew.size
        obtain ⟨a2, o3⟩ := nxt
        have HKn := Lib.hid (show Ed.takesK l x.2.1 x.2.2 (k + 1) = some ((E ++ [((⟨kd, id, nn, pid, pep, P, pn, pc, ⟨tid, tep, Q, qn, qc, sz, lv, ct, lo, hi, tp⟩⟩ : Ed.Er), (ps, qs))]).map Ed.etOf, a2, o3) by rw [HSt.out, List.map_append]; rfl)
        have hlen : (E ++ [((⟨kd, id, nn, pid, pep, P, pn, pc, ⟨tid, tep, Q, qn, qc, sz, lv, ct, lo, hi, tp⟩⟩ : Ed.Er), (ps, qs))]).length = E.length + 1 := by rw [List.length_append]; rfl
        rw [← hlen] at HEn
        clear x0 x1 x2 x3 x4 x5 x6 x7 x8 x9 x10 x11 x12 x13 x14 hg4 hrow HEa HE2 hrd ha2 HX2 HOP HOQ HF HSt HB2 HR2
        generalize E ++ [((⟨kd, id, nn, pid, pep, P, pn, pc, ⟨tid, tep, Q, qn, qc, sz, lv, ct, lo, hi, tp⟩⟩ : Ed.Er), (ps, qs))] = En at *
        rw [← hlen]
        go_roundw
        case rel => exact ⟨k + 1, En, R4, c4, a2, o3, by omega, by go_num, rfl, HRn, HEn, HKn, HBn, hsn⟩
        case measure => simp [intOf]; omega
    · have hki : ¬ (k : Int) < (m : Int) := by omega
      have hkm : k = m := by omega
      subst hkm
      have HG := Lib.hid (show res = (E.map Ed.etOf, o && decide (a = n)) by rw [HRes.out, HK.out, ← HLl.out])
      clear hlt
      have HBd := Lib.hid (below_drewN HB.out)
      cases o with
      | false =>
        go_wp2_with fail
        go_big_quiet (fail)
        go_wp2
        go_ret2
        rw [HG.out]
        exact ⟨R, rc, E, rfl, rfl, (HE.out.below (below_drewN (Below.refl _ _) _)).base_ (by have := HLv.out; omega), HBd.out _⟩
      | true =>
        by_cases han : a = n
        · have he : ((a : Int) == (n : Int)) = true := by simp [han]
          rw [decide_eq_true han] at HG
          clear han
          go_wp2_with fail
          go_big_quiet (fail)
          go_wp2
          go_ret2
          rw [HG.out]
          exact ⟨R, rc, E, rfl, rfl, (HE.out.below (below_drewN (Below.refl _ _) _)).base_ (by have := HLv.out; omega), HBd.out _⟩
        · have he : ((a : Int) == (n : Int)) = false := beq_eq_false_iff_ne.2 (by omega)
          rw [decide_eq_false han] at HG
          clear han
          go_wp2_with fail
          go_big_quiet (fail)
          go_wp2
          go_ret2
          rw [HG.out]
          exact ⟨R, rc, E, rfl, rfl, (HE.out.below (below_drewN (Below.refl _ _) _)).base_ (by have := HLv.out; omega), HBd.out _⟩
end Go.Proofs.YthfcjlndaajkfaaGreat
namespace Go.Proofs.YthfcjlndaajkfaaGreat
open Go.RowKit
set_option linter.unusedVariables false
set_option maxRecDepth 100000 in
theorem equal_yes (A B : Option Addr) (n c m d : Nat) (x : List Nat) (w : World) (hx : Rd w A n x) (hy : Rd w B m x) :
    Calls Tryz.prog 57 #[.slice A n c, .slice B m d] w fun e w' => e = .returned (.bool true) ∧ Below w.heap.size w w' := by
  have h1 := run_str (cap := c) hx
  have h2 := run_str (cap := d) hy
  have h3 := str_same (a := x) rfl
  go_enter Tryz.func57, Tryz.ntmps57
  go_wp2
  go_ret
  exact ⟨rfl, Below.refl _ _⟩
set_option maxRecDepth 100000 in
theorem equal_no (A B : Option Addr) (n c m d : Nat) (x y : List Nat) (w : World) (hx : Rd w A n x) (hy : Rd w B m y) (hne : x ≠ y) :
    Calls Tryz.prog 57 #[.slice A n c, .slice B m d] w fun e w' => e = .returned (.bool false) ∧ Below w.heap.size w w' := by
  have h1 := run_str (cap := c) hx
  have h2 := run_str (cap := d) hy
  have h3 := str_other hx.2.1 hy.2.1 hne
  go_enter Tryz.func57, Tryz.ntmps57
  go_wp2
  go_ret
  exact ⟨rfl, Below.refl _ _⟩
namespace Ed
theorem taken_len (l : List Nat) : (taken l).1.length ≤ 257 := by
  unfold taken
  split
  · simp
  · rename_i s h
    have := takesK_len h
    dsimp only
    omega
/-- The edits of bytes, if they are any's. -/
def read (l : List Nat) : Option (List Et) :=
  if (taken l).2 = true ∧ (taken l).1.length ≤ 256 ∧ (taken l).1.all Et.ok = true ∧ bytes (taken l).1 = l then some (taken l).1 else none
end Ed
/-- What Read hands back. -/
def GivesRead (w : World) (o : Option (List Ed.Et)) (e : Ending) (w' : World) : Prop :=
  Below w.heap.size w w' ∧ match o with
  | none => e = .returned (.tuple #[.slice none 0 0, .int .i64 150])
  | some es => ∃ R c E, e = .returned (.tuple #[.slice R E.length c, .int .i64 0]) ∧ E.map Ed.etOf = es ∧ OwEs w' w.heap.size R E.length c E
set_option maxRecDepth 100000 in
set_option maxHeartbeats 8000000 in
theorem read_any (A : Option Addr) (n cap : Nat) (l : List Nat) (w : World) (hr : Rd w A n l) (hc : n ≤ cap) (hn : n ≤ 1000000) (hb : cap ≤ 9223372036854775807) (hput : ∀ x : Ed.Ex, Ed.etOf x ∈ (Ed.taken l).1 → (Ed.etOf x).ok = true → PutOk x) :
    Calls Tryz.prog 23 #[.slice A n cap] w (GivesRead w (Ed.read l)) := by
  have C1 := Lib.hid (taken_any A n cap l w hr hc hn hb)
  have HR := Lib.hid hr
  have HLn := Lib.hid (Ed.taken_len l)
  have HPut := Lib.hid hput
  obtain ⟨res, hres⟩ : ∃ r, r = Ed.read l := ⟨_, rfl⟩
  have HRes := Lib.hid (show res = if (Ed.taken l).2 = true ∧ (Ed.taken l).1.length ≤ 256 ∧ (Ed.taken l).1.all Ed.Et.ok = true ∧ Ed.bytes (Ed.taken l).1 = l then some (Ed.taken l).1 else none from hres)
  rw [← hres]
  clear hres hput
  generalize Ed.taken l = tk at *
  obtain ⟨es, okb⟩ := tk
  dsimp only at HRes HLn HPut
  go_enter Tryz.func23, Tryz.ntmps23
  go_wp2_with fail
  refine C1.out.mono ?_
  clear C1
  rintro e v ⟨R, rc, E, rfl, hE, hO, hbv⟩
  have HO := Lib.hid hO
  have HB := Lib.hid hbv
  have HEq : Hid (E.map Ed.etOf = es) := Lib.hid hE
  have HRv := Lib.hid (HR.out.below hbv)
  have HEl := Lib.hid (show E.length ≤ 257 by have h := HLn.out; rw [← HEq.out, List.length_map] at h; exact h)
  clear hE hO hbv HR
  cases okb with
  | false =>
    have HG := Lib.hid (show res = none by rw [HRes.out]; simp)
    clear HRes
    go_wp2
    go_ret2
    rw [HG.out]
    exact ⟨HB.out, rfl⟩
  | true =>
  have C2 := Lib.hid (bytes_any R E.length rc E v HO.out.rd (by have := HEl.out; omega) (fun x hx ho => HPut.out x (by show Ed.etOf x ∈ es; rw [← HEq.out]; exact List.mem_map_of_mem hx) ho))
  rw [HEq.out] at C2
  go_wp2_with fail
  refine C2.out.mono ?_
  clear C2
  rintro e v2 ⟨hb2, h1, h2, h3⟩
  have HB2 := Lib.hid (below_next HB.out hb2)
  have HO2 := Lib.hid (HO.out.below hb2)
  have HR2 := Lib.hid (HRv.out.below hb2)
  clear hb2 HB HO HRv
  by_cases h256 : 256 < es.length
  · obtain rfl := h1 h256
    have HG := Lib.hid (show res = none by rw [HRes.out, if_neg (fun h => by have := h.2.1; omega)])
    clear HRes h1 h2 h3
    go_wp2
    go_ret2
    rw [HG.out]
    exact ⟨HB2.out, rfl⟩
  cases hall : es.all Ed.Et.ok with
  | false =>
    obtain rfl := h2 (by omega) hall
    have HG := Lib.hid (show res = none by rw [HRes.out, if_neg (fun h => by rw [hall] at h; exact absurd h.2.2.1 (by decide))])
    clear HRes h1 h2 h3
    go_wp2
    go_ret2
    rw [HG.out]
    exact ⟨HB2.out, rfl⟩
  | true =>
    obtain ⟨B, bc, rfl, hOb⟩ := h3 (by omega) hall
    have hle : es.length ≤ 256 := by omega
    clear h1 h2 h3 h256
    by_cases hbe : Ed.bytes es = l
    · have HG := Lib.hid (show res = some es by rw [HRes.out, if_pos ⟨by trivial, hle, hall, hbe⟩])
      have hOr := hOb.rd
      rw [hbe] at hOr hOb
      have C3 := Lib.hid (equal_yes B A l.length bc n cap l v2 hOr HR2.out)
      rw [hbe]
      clear HRes hOb hOr hbe
      go_wp2_with fail
      refine C3.out.mono ?_
      rintro e v3 ⟨rfl, hb3⟩
      have HB3 := Lib.hid (below_next HB2.out hb3)
      have HO3 := Lib.hid (HO2.out.below hb3)
      clear hb3 C3
      go_wp2
      go_ret2
      rw [HG.out]
      exact ⟨HB3.out, R, rc, E, rfl, HEq.out, HO3.out⟩
    · have HG := Lib.hid (show res = none by rw [HRes.out, if_neg (fun h => hbe h.2.2.2)])
      have C3 := Lib.hid (equal_no B A (Ed.bytes es).length bc n cap (Ed.bytes es) l v2 hOb.rd HR2.out hbe)
      clear HRes hOb hbe
      go_wp2_with fail
      refine C3.out.mono ?_
      rintro e v3 ⟨rfl, hb3⟩
      have HB3 := Lib.hid (below_next HB2.out hb3)
      clear hb3 C3
      go_wp2
      go_ret2
      rw [HG.out]
      exact ⟨HB3.out, rfl⟩
end Go.Proofs.YthfcjlndaajkfaaGreat
