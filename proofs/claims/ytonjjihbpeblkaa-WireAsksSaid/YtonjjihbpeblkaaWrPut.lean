/- Package wire's put: fields' bytes behind others. -/
import Derived.Test.YtonjjihbpeblkaaWrWalk
import Derived.Test.YtonjjihbpeblkaaWrDefer
namespace Go.Proofs.Ytonjjihbpeblkaa
open Go.RowKit
namespace Wr
/-- A field's bytes. -/
def enc : Value → Option (List Nat)
  | .int _ n => encI n
  | .string s => encS s
  | _ => none
/-- Fields' bytes, one behind the other. -/
def encs : List Value → Option (List Nat)
  | [] => some []
  | v :: vs => match enc v with
    | none => none
    | some r => (encs vs).map (r ++ ·)
theorem encs_snoc (vs : List Value) (v : Value) : encs (vs ++ [v]) = match encs vs with
    | none => none
    | some r => (enc v).map (r ++ ·) := by
  induction vs with
  | nil => simp only [List.nil_append, encs]; cases enc v <;> simp
  | cons x xs ih =>
    simp only [List.cons_append, encs]
    cases enc x with
    | none => rfl
    | some r =>
      simp only [ih]
      cases encs xs with
      | none => rfl
      | some r2 => cases enc v <;> simp
theorem encs_none {vs : List Value} {k : Nat} {v : Value} {r : List Nat} (hk : vs[k]? = some v) (h : encs (vs.take k) = some r) (hv : enc v = none) : encs vs = none := by
  induction vs generalizing k r with
  | nil => simp at hk
  | cons x xs ih =>
    cases k with
    | zero => simp at hk; subst hk; simp only [encs, hv]
    | succ k =>
      simp only [List.getElem?_cons_succ] at hk
      simp only [List.take_succ_cons, encs] at h
      simp only [encs]
      cases hx : enc x with
      | none => rfl
      | some rx =>
        rw [hx] at h
        cases hy : encs (xs.take k) with
        | none => rw [hy] at h; cases h
        | some ry => rw [ih hk hy]; rfl
/-- A field's value is of its kind, and of a size that may be. -/
def fits (t : Bool) (v : Value) : Prop := if t then ∃ s : ByteArray, v = .string s else ∃ x : Int, v = .int .i64 x ∧ x < 9223372036854775808
theorem enc_length {v : Value} {r : List Nat} (h : enc v = some r) : r.length ≤ 4107 := by
  unfold enc at h
  split at h
  · unfold encI at h
    split at h
    · cases h
    · injection h with h; subst h; have := Cd.num_length ‹Int›.toNat; omega
  · rename_i s
    unfold encS at h
    split at h
    · cases h
    · injection h with h
      subst h
      have := Cd.num_length s.size
      unfold Cd.text
      rw [List.length_append, bs_length]
      omega
  · cases h
theorem encs_length {vs : List Value} {r : List Nat} (h : encs vs = some r) : r.length ≤ 4107 * vs.length := by
  induction vs generalizing r with
  | nil => injection h with h; subst h; simp
  | cons x xs ih =>
    simp only [encs] at h
    cases hx : enc x with
    | none => rw [hx] at h; cases h
    | some rx =>
      rw [hx] at h
      cases hy : encs xs with
      | none => rw [hy] at h; cases h
      | some ry =>
        rw [hy] at h
        injection h with h
        subst h
        have := ih hy
        have := enc_length hx
        simp only [List.length_append, List.length_cons]
        omega
end Wr
/-- Bytes, or the error. -/
def GivesPuts (w : World) (base : Nat) (l : List Nat) (o : Option (List Nat)) (e : Ending) (w' : World) : Prop :=
  match o with
  | none => e = .returned (.tuple #[.slice none 0 0, .int .i64 220]) ∧ Below base w w'
  | some r => ∃ B c, e = .returned (.tuple #[.slice B (l ++ r).length c, .int .i64 0]) ∧ Own w' base B (l ++ r).length c (l ++ r) ∧ Below base w w'
set_option maxRecDepth 100000 in
theorem enter_puti (args : Array Value) (w : World) : (callFunc 46 args).run Try.prog w = .ok (.enter 46 args) w := run_enter Try.func46 (by kernel_rfl) (by kernel_rfl) args w
set_option maxRecDepth 100000 in
theorem enter_puts (args : Array Value) (w : World) : (callFunc 47 args).run Try.prog w = .ok (.enter 47 args) w := run_enter Try.func47 (by kernel_rfl) (by kernel_rfl) args w
/-- What holds ahead of each field. -/
def PutInv (w1 : World) (base g z : Nat) (l : List Nat) (vs : List Value) (k : Nat) (wx : World) : Prop :=
  ∃ r, Wr.encs (vs.take k) = some r ∧ PutAt base g z (l ++ r) wx ∧ Below base w1 wx ∧ Side g z w1 wx
theorem put_round {w1 wx : World} {base g z k : Nat} {l : List Nat} {vs : List Value} {v : Value} {e : Ending} {w' : World} {r : List Nat} (hr : Wr.encs (vs.take k) = some r) (hb : Below base w1 wx) (hs : Side g z w1 wx) (hv : vs[k]? = some v)
    (h : GivesPut wx base g z (l ++ r) (Wr.enc v) e w') (hI : PutInv w1 base g z l vs k wx) :
    (e = .returned (.tuple #[]) ∧ PutInv w1 base g z l vs (k + 1) w') ∨ ∃ ch, e = .panicked ch ∧ (ch = Wr.pan ∧ Wr.encs vs = none ∧ ∃ j, PutInv w1 base g z l vs j w') := by
  cases hx : Wr.enc v with
  | none =>
    rw [hx] at h
    obtain ⟨rfl, rfl⟩ := h
    exact .inr ⟨_, rfl, rfl, Wr.encs_none hv hr hx, k, hI⟩
  | some x =>
    rw [hx] at h
    obtain ⟨rfl, h1, h2, h3⟩ := h
    refine .inl ⟨rfl, r ++ x, ?_, by rw [← List.append_assoc]; exact h1, hb.trans h2, hs.trans h3⟩
    rw [List.take_add_one, hv]
    show Wr.encs (vs.take k ++ [v]) = _
    rw [Wr.encs_snoc, hr, hx]
    rfl
set_option maxRecDepth 100000 in
set_option maxHeartbeats 2000000 in
theorem puts_all (base g z : Nat) (l : List Nat) (A : Option Addr) (n c : Nat) (fs : List Wr.Fld) (vs : List Value) (w1 : World) (hn : n ≤ 10) (hlf : fs.length = n) (hlv : vs.length = n) (hll : l.length ≤ 100)
    (hA : RdV w1 A n (fs.map Wr.anyOf)) (hAb : ∀ b o, A = some ⟨b, o, none⟩ → b < base)
    (hv : ∀ (i : Nat) (f : Wr.Fld) (v : Value), fs[i]? = some f → vs[i]? = some v → f.1.block < base ∧ w1.cell? f.1 = some v ∧ Wr.fits f.2 v)
    (h0 : PutAt base g z l w1) :
    Calls Try.prog 23 #[.slice A n c, .func (.func 46) #[] #[.pointer (some ⟨g, 0, none⟩)], .func (.func 47) #[] #[.pointer (some ⟨g, 0, none⟩)]] w1 fun e w' =>
      (e = .returned (.tuple #[]) ∧ PutInv w1 base g z l vs n w') ∨ ∃ ch, e = .panicked ch ∧ (ch = Wr.pan ∧ Wr.encs vs = none ∧ ∃ j, PutInv w1 base g z l vs j w') := by
  have hbz : base ≤ w1.heap.size := Nat.le_trans h0.le (Nat.le_of_lt (Nat.lt_of_lt_of_le h0.lt h0.top))
  refine walk_any 46 47 _ _ A n c fs (PutInv w1 base g z l vs) (fun ch w' => ch = Wr.pan ∧ Wr.encs vs = none ∧ ∃ j, PutInv w1 base g z l vs j w') w1 (by omega) hlf ?_ ?_ ?_ enter_puti enter_puts ⟨[], rfl, by rw [List.append_nil]; exact h0, Below.refl _ _, Side.refl _ _ _⟩
  · rintro i wx ⟨r, _, _, hb, _⟩
    refine ⟨hA.1, fun h => ?_⟩
    obtain ⟨b, o, rfl, hbl, hc⟩ := hA.2 h
    have hbb := hAb b o rfl
    exact ⟨b, o, rfl, Nat.lt_of_lt_of_le hbl hb.size, fun j x hx => (hb.cell (p := ⟨b, o + j, none⟩) hbb).trans (hc j x hx)⟩
  · intro i a wx hf hI
    have hi : i < n := by rw [← hlf]; exact (List.getElem?_eq_some_iff.1 hf).1
    obtain ⟨v, hvi⟩ : ∃ v, vs[i]? = some v := ⟨_, List.getElem?_eq_getElem (by omega)⟩
    obtain ⟨r, hr, hp, hb, hs⟩ := hI
    obtain ⟨ha, hc, hft⟩ := hv i _ v hf hvi
    obtain ⟨x, rfl, hx⟩ : ∃ x : Int, v = .int .i64 x ∧ x < 9223372036854775808 := hft
    obtain ⟨B, c1, hg, ho, hap⟩ := hp.row
    have hlr := Wr.encs_length hr
    have hlen : (l ++ r).length ≤ 1000000 := by rw [List.length_append]; have : (vs.take i).length ≤ 10 := by rw [List.length_take]; omega
                                                omega
    refine (puti_any a g z base x hx B _ c1 (l ++ r) wx ((hb.cell ha).trans hc) hg hp.free ha hp.lt hp.top hp.le ho hlen hap).mono ?_
    intro e w' h
    exact put_round hr hb hs hvi h ⟨r, hr, hp, hb, hs⟩
  · intro i a wx hf hI
    have hi : i < n := by rw [← hlf]; exact (List.getElem?_eq_some_iff.1 hf).1
    obtain ⟨v, hvi⟩ : ∃ v, vs[i]? = some v := ⟨_, List.getElem?_eq_getElem (by omega)⟩
    obtain ⟨r, hr, hp, hb, hs⟩ := hI
    obtain ⟨ha, hc, hft⟩ := hv i _ v hf hvi
    obtain ⟨s, rfl⟩ : ∃ s : ByteArray, v = .string s := hft
    obtain ⟨B, c1, hg, ho, hap⟩ := hp.row
    have hlr := Wr.encs_length hr
    have hlen : (l ++ r).length ≤ 1000000 := by rw [List.length_append]; have : (vs.take i).length ≤ 10 := by rw [List.length_take]; omega
                                                omega
    refine (puts_any a g z base s B _ c1 (l ++ r) wx ((hb.cell ha).trans hc) hg hp.free ha hp.lt hp.top hp.le ho hlen hap).mono ?_
    intro e w' h
    exact put_round hr hb hs hvi h ⟨r, hr, hp, hb, hs⟩
/-- Three new variables, one behind the other. -/
theorem three_put {w : World} {base m c0 : Nat} {B : Option Addr} {l : List Nat} (hl : Own w base B m c0 l) (hbase : base ≤ w.heap.size) (x y : Value) (t1 t2 t3 : TypeId) :
    PutAt base w.heap.size (w.heap.size + 3) l (((w.alloc (.cells #[.slice B m c0] t1)).alloc (.cells #[x] t2)).alloc (.cells #[y] t3)) ∧
    Holds (((w.alloc (.cells #[.slice B m c0] t1)).alloc (.cells #[x] t2)).alloc (.cells #[y] t3)) (w.heap.size + 1) [x] ∧
    Holds (((w.alloc (.cells #[.slice B m c0] t1)).alloc (.cells #[x] t2)).alloc (.cells #[y] t3)) (w.heap.size + 1 + 1) [y] ∧
    Below w.heap.size w (((w.alloc (.cells #[.slice B m c0] t1)).alloc (.cells #[x] t2)).alloc (.cells #[y] t3)) := by
  have s1 : (w.alloc (.cells #[Value.slice B m c0] t1)).heap.size = w.heap.size + 1 := by simp
  have s2 : ((w.alloc (.cells #[.slice B m c0] t1)).alloc (.cells #[x] t2)).heap.size = w.heap.size + 1 + 1 := by simp
  have k0 := ((Holds.new w #[.slice B m c0] t1).alloc (.cells #[x] t2)).alloc (.cells #[y] t3)
  have k1 := (Holds.new (w.alloc (.cells #[Value.slice B m c0] t1)) #[x] t2).alloc (.cells #[y] t3)
  have k2 := Holds.new ((w.alloc (.cells #[.slice B m c0] t1)).alloc (.cells #[x] t2)) #[y] t3
  rw [s1] at k1
  rw [s2] at k2
  have hm := hl.1
  subst hm
  refine ⟨⟨by omega, by simp, hbase, k0.2.2 0, B, c0, k0.at_ 0 rfl, (((hl.below ((Below.refl _ _).alloc (Nat.le_refl _) _)).below ((Below.refl _ _).alloc (Nat.le_refl _) _)).below ((Below.refl _ _).alloc (Nat.le_refl _) _)), fun k hk => .inl (hl.blk k hk).2⟩, k1, k2, ?_⟩
  exact (((Below.refl _ _).alloc (Nat.le_refl _) _).alloc (by simp) _).alloc (by simp; omega) _
/-- The results laid. -/
theorem laid_put {w w4 : World} {base s c4 n4 : Nat} {B4 : Option Addr} {l : List Nat} {x y : Value} (hn : n4 = l.length) (ho : Own w4 base B4 l.length c4 l) (hap : ∀ k, (Value.slice B4 l.length c4).ownBlock = some k → k < s ∨ s + 3 ≤ k) (hb : Below base w w4) (hbs : base ≤ s)
    (k1 : Holds w4 (s + 1) [x]) (k2 : Holds w4 (s + 1 + 1) [y]) :
    ((w4.setCell ⟨s + 1, 0, none⟩ (.slice B4 n4 c4)).setCell ⟨s + 1 + 1, 0, none⟩ (.int .i64 0)).cell? ⟨s + 1, 0, none⟩ = some (.slice B4 n4 c4) ∧
    ((w4.setCell ⟨s + 1, 0, none⟩ (.slice B4 n4 c4)).setCell ⟨s + 1 + 1, 0, none⟩ (.int .i64 0)).cell? ⟨s + 1 + 1, 0, none⟩ = some (.int .i64 0) ∧
    Own ((w4.setCell ⟨s + 1, 0, none⟩ (.slice B4 n4 c4)).setCell ⟨s + 1 + 1, 0, none⟩ (.int .i64 0)) base B4 n4 c4 l ∧
    Below base w ((w4.setCell ⟨s + 1, 0, none⟩ (.slice B4 n4 c4)).setCell ⟨s + 1 + 1, 0, none⟩ (.int .i64 0)) := by
  subst hn
  have j1 := (k1.set 0 (.slice B4 l.length c4) (by simp)).other (b := s + 1 + 1) (i := 0) (v := .int .i64 0) (by omega)
  have j2 := (k2.other (b := s + 1) (i := 0) (v := .slice B4 l.length c4) (by omega)).set 0 (.int .i64 0) (by simp)
  refine ⟨j1.at_ 0 rfl, j2.at_ 0 rfl, ?_, below_set (below_set hb _ _ (by show base ≤ s + 1; omega)) _ _ (by show base ≤ s + 1 + 1; omega)⟩
  have g1 : ∀ (v : World) (b : Nat) (x : Value), (∀ k, (Value.slice B4 l.length c4).ownBlock = some k → k ≠ b) → Own v base B4 l.length c4 l → Own (v.setCell ⟨b, 0, none⟩ x) base B4 l.length c4 l := fun v b x hne ho =>
    ho.grown (row := some b) ⟨rfl, rfl, rfl, by simp [World.setCell], fun k hk hne => Below.heap_setCell _ _ _ _ (fun e => hne (by rw [e]))⟩ (.inr fun g' hg' e => by
      injection hg' with hg'
      exact hne _ e hg'.symm)
  exact g1 _ _ _ (fun k e => by have := hap k e; omega) (g1 _ _ _ (fun k e => by have := hap k e; omega) ho)
set_option maxRecDepth 100000 in
set_option maxHeartbeats 4000000 in
theorem wput_any (base : Nat) (B : Option Addr) (m c0 : Nat) (l : List Nat) (A : Option Addr) (n c : Nat) (fs : List Wr.Fld) (vs : List Value) (w : World) (hn : n ≤ 10) (hlf : fs.length = n) (hlv : vs.length = n) (hll : l.length ≤ 100) (hbase : base ≤ w.heap.size)
    (hl : Own w base B m c0 l) (hA : RdV w A n (fs.map Wr.anyOf)) (hAb : ∀ b o, A = some ⟨b, o, none⟩ → b < base)
    (hv : ∀ (i : Nat) (f : Wr.Fld) (v : Value), fs[i]? = some f → vs[i]? = some v → f.1.block < base ∧ w.cell? f.1 = some v ∧ Wr.fits f.2 v) :
    Calls Try.prog 27 #[.slice B m c0, .slice A n c] w (GivesPuts w base l (Wr.encs vs)) := by
  have hmf : ∀ (fn : Fn) (first cap : Array Value) (w : World), (Instr.makeFunc fn first cap).run Try.prog w = .ok (.func fn first cap) w := fun _ _ _ _ => rfl
  go_enter_defers Try.func27, Try.ntmps27
  go_wp2_with fail
  obtain ⟨hP, h1, h2, hb3⟩ := three_put hl hbase (.slice none 0 0) (.int .i64 0) 25 25 28
  have hA3 : RdV (((w.alloc (.cells #[.slice B m c0] 25)).alloc (.cells #[.slice none 0 0] 25)).alloc (.cells #[.int .i64 0] 28)) A n (fs.map Wr.anyOf) := hA.below hb3
  have hv3 : ∀ (i : Nat) (f : Wr.Fld) (v : Value), fs[i]? = some f → vs[i]? = some v → f.1.block < base ∧ (((w.alloc (.cells #[.slice B m c0] 25)).alloc (.cells #[.slice none 0 0] 25)).alloc (.cells #[.int .i64 0] 28)).cell? f.1 = some v ∧ Wr.fits f.2 v := fun i f v hf hvi => by
    obtain ⟨q1, q2, q3⟩ := hv i f v hf hvi
    exact ⟨q1, (hb3.cell (p := f.1) (by omega)).trans q2, q3⟩
  have Hall := Lib.hid (puts_all base w.heap.size (w.heap.size + 3) l A n c fs vs _ hn hlf hlv hll hA3 hAb hv3 hP)
  have H1 := Lib.hid h1
  have H2 := Lib.hid h2
  have Hb3 := Lib.hid hb3
  clear hP h1 h2 hb3 hA3 hv3 hv hA
  generalize ((w.alloc (.cells #[.slice B m c0] 25)).alloc (.cells #[.slice none 0 0] 25)).alloc (.cells #[.int .i64 0] 28) = w3 at *
  refine Hall.out.mono ?_
  rintro e w4 (⟨rfl, r, hr, hp, hb, hs⟩ | ⟨ch, rfl, rfl, hno, j, r, hr, hp, hb, hs⟩)
  · rw [List.take_of_length_le (by omega)] at hr
    obtain ⟨B4, c4, hg, ho, hap⟩ := hp.row
    have Hap := Lib.hid hap
    clear hap
    have k1 := H1.out.side hs hb.size (by omega) (by omega)
    have k2 := H2.out.side hs hb.size (by omega) (by omega)
    have q1 := k1.at_ 0 rfl
    have q2 := k2.at_ 0 rfl
    have z1 := k1.2.2 0
    have z2 := k2.2.2 0
    have Hr := Lib.hid hr
    clear hr
    go_wp2
    obtain ⟨e1, e2, e3, e4⟩ := laid_put (n4 := l.length + r.length) (by rw [List.length_append]) ho Hap.out ((Hb3.out.mono hbase).trans hb) hbase k1 k2
    refine leaves_cons (f := 45) (args := #[.pointer (some ⟨w.heap.size + 1, 0, none⟩), .pointer (some ⟨w.heap.size + 1 + 1, 0, none⟩)]) (by simp) (by simp [go_sem]) ?_
    refine (idle_put _ _ _).mono ?_
    rintro e u' w5 ⟨rfl, rfl, rfl⟩
    simp only [settle]
    refine ⟨.tuple #[.slice B4 (l.length + r.length) c4, .int .i64 0], ?_, ?_⟩
    · simp [results, Try.results27, go_sem, e1, e2]
    · rw [Hr.out]
      refine ⟨B4, c4, ?_, ?_, e4⟩
      · rw [List.length_append]
      · rw [List.length_append]; exact e3
  · have k1 := H1.out.side hs hb.size (by omega) (by omega)
    have k2 := H2.out.side hs hb.size (by omega) (by omega)
    show Leaves _ _ _ _ _ _ _
    refine leaves_cons (f := 45) (args := #[.pointer (some ⟨w.heap.size + 1, 0, none⟩), .pointer (some ⟨w.heap.size + 1 + 1, 0, none⟩)]) (by simp) (by simp [go_sem]) ?_
    refine (catch_put (w.heap.size + 1) (w.heap.size + 1 + 1) _ _ _ k1 k2 (by omega)).mono ?_
    rintro e u' w5 ⟨rfl, rfl, j1, j2, hb5⟩
    have e1 := j1.at_ 0 rfl
    have e2 := j2.at_ 0 rfl
    simp only [settle, Wr.panned]
    refine ⟨.tuple #[.slice none 0 0, .int .i64 220], ?_, ?_⟩
    · simp [results, Try.results27, go_sem, e1, e2]
    · rw [hno]
      exact ⟨rfl, ((Hb3.out.mono hbase).trans hb).trans (hb5 base (by omega) (by omega))⟩
end Go.Proofs.Ytonjjihbpeblkaa
