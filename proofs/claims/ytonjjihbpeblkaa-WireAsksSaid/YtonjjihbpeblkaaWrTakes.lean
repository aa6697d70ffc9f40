/- Package wire's take: fields out of all of the bytes. -/
import Derived.Test.YtonjjihbpeblkaaWrPut
namespace Go.Proofs.Ytonjjihbpeblkaa
open Go.RowKit
namespace Wr
/-- A field at the beginning, and what stands behind it. -/
def one (t : Bool) (l : List Nat) : Option (Value × List Nat) :=
  if t then (Cd.takeText l 4096).map fun p => (.string (str p.1), p.2) else (num l).map fun p => (.int .i64 (p.1 : Int), p.2)
/-- Fields at the beginning, and what stands behind them. -/
def taken : List Bool → List Nat → Option (List Value × List Nat)
  | [], l => some ([], l)
  | t :: ts, l => match one t l with
    | none => none
    | some (v, r) => (taken ts r).map fun p => (v :: p.1, p.2)
/-- Fields that are all of the bytes; there is one of them at least. -/
def all (ts : List Bool) (l : List Nat) : Option (List Value) :=
  match ts, taken ts l with
  | _ :: _, some (vs, []) => some vs
  | _, _ => none
theorem taken_snoc (ts : List Bool) (t : Bool) (l : List Nat) : taken (ts ++ [t]) l = match taken ts l with
    | none => none
    | some (vs, r) => (one t r).map fun p => (vs ++ [p.1], p.2) := by
  induction ts generalizing l with
  | nil => simp only [List.nil_append, taken]; cases one t l <;> rfl
  | cons x xs ih =>
    simp only [List.cons_append, taken]
    cases one x l with
    | none => rfl
    | some p =>
      obtain ⟨v, r⟩ := p
      simp only [ih]
      cases taken xs r with
      | none => rfl
      | some q => cases hq : one t q.2 <;> simp [hq]
theorem taken_none {ts : List Bool} {k : Nat} {t : Bool} {l r : List Nat} {vs : List Value} (hk : ts[k]? = some t) (h : taken (ts.take k) l = some (vs, r)) (hv : one t r = none) : taken ts l = none := by
  induction ts generalizing k l vs with
  | nil => simp at hk
  | cons x xs ih =>
    cases k with
    | zero =>
      simp at hk; subst hk
      simp only [List.take_zero, taken] at h
      injection h with h
      injection h with h1 h2
      subst h2
      simp only [taken, hv]
    | succ k =>
      simp only [List.getElem?_cons_succ] at hk
      simp only [List.take_succ_cons, taken] at h
      simp only [taken]
      cases hx : one x l with
      | none => rfl
      | some p =>
        obtain ⟨v, r1⟩ := p
        simp only [hx] at h ⊢
        cases hy : taken (xs.take k) r1 with
        | none => rw [hy] at h; cases h
        | some q =>
          obtain ⟨q1, q2⟩ := q
          rw [hy] at h
          injection h with h
          injection h with h1 h2
          subst h2
          simp only [ih hk hy]
          rfl
theorem num_bound {l : List Nat} {v : Nat} {r : List Nat} (h : num l = some (v, r)) : r.length ≤ l.length ∧ v < 9223372036854775808 := by
  unfold num at h
  rcases ht : Cd.takeNum l with _ | ⟨x, y⟩
  · rw [ht] at h; cases h
  · rw [ht] at h
    simp only at h
    split at h
    · rename_i hx
      injection h with h
      injection h with h1 h2
      subst h1 h2
      exact ⟨(takeNum_bound ht).2.1, hx⟩
    · cases h
theorem one_bound {t : Bool} {l : List Nat} {v : Value} {r : List Nat} (h : one t l = some (v, r)) : r.length ≤ l.length := by
  unfold one at h
  cases t with
  | false =>
    simp only [Bool.false_eq_true, if_false] at h
    rcases hn : num l with _ | ⟨x, y⟩
    · rw [hn] at h; cases h
    · rw [hn] at h
      injection h with h
      injection h with h1 h2
      subst h2
      exact (num_bound hn).1
  | true =>
    simp only [if_true] at h
    rcases hn : Cd.takeText l 4096 with _ | ⟨x, y⟩
    · rw [hn] at h; cases h
    · rw [hn] at h
      injection h with h
      injection h with h1 h2
      subst h2
      unfold Cd.takeText at hn
      rcases ht : Cd.takeNum l with _ | ⟨a, b⟩
      · rw [ht] at hn; cases hn
      · rw [ht] at hn
        simp only at hn
        split at hn
        · cases hn
        · injection hn with hn
          injection hn with h1 h2
          subst h2
          have := (takeNum_bound ht).2.1
          rw [List.length_drop]
          omega
end Wr
/-- The addresses of fields. -/
def Wr.at_ (fs : List Wr.Fld) : List Addr := fs.map Prod.fst
/-- What holds ahead of each field. -/
def TakeInv (w1 : World) (g : Nat) (l : List Nat) (fs : List Wr.Fld) (k : Nat) (wx : World) : Prop :=
  ∃ (vs : List Value) (cur : List Nat) (B : Option Addr) (c : Nat), Wr.taken ((fs.map Prod.snd).take k) l = some (vs, cur) ∧ wx.cell? ⟨g, 0, none⟩ = some (.slice B cur.length c) ∧ Rd wx B cur.length cur ∧ cur.length ≤ c ∧ cur.length ≤ l.length ∧
    (0 < cur.length → ∀ b o, B = some ⟨b, o, none⟩ → b ≠ g ∧ ∀ f ∈ fs, f.1.block ≠ b) ∧ Upd (⟨g, 0, none⟩ :: Wr.at_ fs) w1 wx ∧ vs.length = k ∧ ∀ (i : Nat) (f : Wr.Fld) (v : Value), fs[i]? = some f → vs[i]? = some v → wx.cell? f.1 = some v
theorem take_round {w1 wx w' : World} {g k : Nat} {l : List Nat} {fs : List Wr.Fld} {a : Addr} {t : Bool} {e : Ending} (hf : fs[k]? = some (a, t)) (hnd : (Wr.at_ fs).Nodup) (hlt : ∀ f ∈ fs, f.1.block < w1.heap.size ∧ f.1.block ≠ g) (hg1 : g < w1.heap.size)
    (hI : TakeInv w1 g l fs k wx) {vs : List Value} {cur : List Nat} (hcur : Wr.taken ((fs.map Prod.snd).take k) l = some (vs, cur)) (h : GivesField wx a g (Wr.one t cur) e w') :
    (e = .returned (.tuple #[]) ∧ TakeInv w1 g l fs (k + 1) w') ∨ ∃ ch, e = .panicked ch ∧ (ch = Wr.pan ∧ Wr.taken (fs.map Prod.snd) l = none ∧ Upd (⟨g, 0, none⟩ :: Wr.at_ fs) w1 w') := by
  obtain ⟨vs', cur', B, c, h1, h2, h3, h4, h5, h6, h7, h8, h9⟩ := hI
  rw [hcur] at h1
  injection h1 with h1
  injection h1 with h1a h1b
  subst h1a h1b
  have hk : (fs.map Prod.snd)[k]? = some t := by rw [List.getElem?_map, hf]; rfl
  have hm : a ∈ Wr.at_ fs := List.mem_map.2 ⟨_, List.mem_of_getElem? hf, rfl⟩
  cases hx : Wr.one t cur with
  | none =>
    rw [hx] at h
    obtain ⟨rfl, hb⟩ := h
    exact .inr ⟨_, rfl, rfl, Wr.taken_none hk hcur hx, h7.trans (Upd.of_below hb)⟩
  | some p =>
    obtain ⟨v, r⟩ := p
    rw [hx] at h
    obtain ⟨rfl, B2, c2, q1, q2, q3, q4⟩ := h
    have hlen := Wr.one_bound hx
    refine .inl ⟨rfl, vs ++ [v], r, B2, c2, ?_, q1, q3.rd, q3.cap, by omega, ?_, ?_, by rw [List.length_append, h8]; rfl, ?_⟩
    · rw [List.take_add_one, hk]
      show Wr.taken ((fs.map Prod.snd).take k ++ [t]) l = _
      rw [Wr.taken_snoc, hcur]
      show (Wr.one t cur).map _ = _
      rw [hx]
      rfl
    · intro hr b o hB
      have hbb := (q3.blk b (by rw [hB]; simp [Value.ownBlock])).1
      have := h7.size
      refine ⟨by omega, fun f hf => ?_⟩
      have := (hlt f hf).1
      omega
    · exact h7.trans (q4.more (by intro x hx; rcases List.mem_cons.1 hx with rfl | hx; exact List.mem_cons_self; rw [List.mem_singleton.1 hx]; exact List.mem_cons_of_mem _ hm))
    · intro i f u hfi hui
      by_cases hik : i = k
      · subst hik
        rw [hf] at hfi
        injection hfi with hfi
        subst hfi
        rw [List.getElem?_append_right (by omega), h8, Nat.sub_self] at hui
        injection hui with hui
        subst hui
        exact q2
      · have hi : i < k := by
          have := (List.getElem?_eq_some_iff.1 hui).1
          rw [List.length_append, h8] at this
          simp at this
          omega
        rw [List.getElem?_append_left (by omega)] at hui
        have hfm := hlt f (List.mem_of_getElem? hfi)
        refine (q4.cell f.1 (Nat.lt_of_lt_of_le hfm.1 h7.size) ?_).trans (h9 i f u hfi hui)
        intro hmem
        rcases List.mem_cons.1 hmem with e | hmem
        · exact hfm.2 (by rw [e])
        · have e := List.mem_singleton.1 hmem
          have a1 : (Wr.at_ fs)[i]? = some f.1 := by unfold Wr.at_; rw [List.getElem?_map, hfi]; rfl
          have a2 : (Wr.at_ fs)[k]? = some a := by unfold Wr.at_; rw [List.getElem?_map, hf]; rfl
          rw [e] at a1
          obtain ⟨i1, i2⟩ := List.getElem?_eq_some_iff.1 a1
          obtain ⟨k1, k2⟩ := List.getElem?_eq_some_iff.1 a2
          exact List.pairwise_iff_getElem.1 hnd i k i1 k1 hi (i2.trans k2.symm)
set_option maxRecDepth 100000 in
theorem enter_takei (args : Array Value) (w : World) : (callFunc 52 args).run Try.prog w = .ok (.enter 52 args) w := run_enter Try.func52 (by kernel_rfl) (by kernel_rfl) args w
set_option maxRecDepth 100000 in
theorem enter_takes (args : Array Value) (w : World) : (callFunc 53 args).run Try.prog w = .ok (.enter 53 args) w := run_enter Try.func53 (by kernel_rfl) (by kernel_rfl) args w
set_option maxRecDepth 100000 in
set_option maxHeartbeats 2000000 in
theorem takes_all (g : Nat) (l : List Nat) (A : Option Addr) (n c : Nat) (fs : List Wr.Fld) (w1 : World) (hn : n ≤ 10) (hlf : fs.length = n) (hll : l.length ≤ 1000000) (hnd : (Wr.at_ fs).Nodup)
    (hA : RdV w1 A n (fs.map Wr.anyOf)) (hAb : ∀ b o, A = some ⟨b, o, none⟩ → b ≠ g ∧ ∀ f ∈ fs, f.1.block ≠ b)
    (hv : ∀ f ∈ fs, f.1.block < w1.heap.size ∧ f.1.block ≠ g ∧ (∃ v, w1.cell? f.1 = some v) ∧ w1.frozen? f.1 = false)
    (hg : g < w1.heap.size) (hzg : w1.frozen? ⟨g, 0, none⟩ = false) (h0 : TakeInv w1 g l fs 0 w1) :
    Calls Try.prog 23 #[.slice A n c, .func (.func 52) #[] #[.pointer (some ⟨g, 0, none⟩)], .func (.func 53) #[] #[.pointer (some ⟨g, 0, none⟩)]] w1 fun e w' =>
      (e = .returned (.tuple #[]) ∧ TakeInv w1 g l fs n w') ∨ ∃ ch, e = .panicked ch ∧ (ch = Wr.pan ∧ Wr.taken (fs.map Prod.snd) l = none ∧ Upd (⟨g, 0, none⟩ :: Wr.at_ fs) w1 w') := by
  refine walk_any 52 53 _ _ A n c fs (TakeInv w1 g l fs) (fun ch w' => ch = Wr.pan ∧ Wr.taken (fs.map Prod.snd) l = none ∧ Upd (⟨g, 0, none⟩ :: Wr.at_ fs) w1 w') w1 (by omega) hlf ?_ ?_ ?_ enter_takei enter_takes h0
  · rintro i wx ⟨_, _, _, _, _, _, _, _, _, _, hu, _⟩
    refine ⟨hA.1, fun h => ?_⟩
    obtain ⟨b, o, rfl, hbl, hc⟩ := hA.2 h
    have hbb := hAb b o rfl
    refine ⟨b, o, rfl, Nat.lt_of_lt_of_le hbl hu.size, fun j x hx => (hu.cell ⟨b, o + j, none⟩ hbl ?_).trans (hc j x hx)⟩
    intro hm
    rcases List.mem_cons.1 hm with e | hm
    · injection e with e1; exact hbb.1 e1
    · obtain ⟨f, hf, e⟩ := List.mem_map.1 hm
      exact hbb.2 f hf (by rw [e])
  all_goals
    intro i a wx hf hI
    have hI2 := hI
    obtain ⟨vs, cur, B, c1, h1, h2, h3, h4, h5, h6, h7, h8, h9⟩ := hI
    obtain ⟨q1, q2, ⟨va, q3⟩, q4⟩ := hv _ (List.mem_of_getElem? hf)
    obtain ⟨va', q3'⟩ := h7.kept a va q1 q3
    have z1 := (h7.frozen a q1).trans q4
    have z2 := (h7.frozen ⟨g, 0, none⟩ hg).trans hzg
    have hsz := h7.size
  · refine (takei_any a g va' B _ c1 cur wx q3' z1 h2 z2 q2 (by have : a.block < w1.heap.size := q1; omega) (by omega) h3 h4 (by omega)).mono ?_
    intro e w' h
    exact take_round hf hnd (fun f hf => ⟨(hv f hf).1, (hv f hf).2.1⟩) hg hI2 h1 h
  · refine (takes_any a g va' B _ c1 cur wx q3' z1 h2 z2 q2 (by have : a.block < w1.heap.size := q1; omega) (by omega) h3 h4 (by omega)).mono ?_
    intro e w' h
    exact take_round hf hnd (fun f hf => ⟨(hv f hf).1, (hv f hf).2.1⟩) hg hI2 h1 h
/-- What take leaves: the fields' cells hold what was taken; or the panic. -/
def GivesTook (w : World) (fs : List Wr.Fld) (o : Option (List Value)) (e : Ending) (w' : World) : Prop :=
  match o with
  | none => e = .panicked Wr.pan ∧ Upd (Wr.at_ fs) w w'
  | some vs => e = .returned (.tuple #[]) ∧ Upd (Wr.at_ fs) w w' ∧ vs.length = fs.length ∧ ∀ (i : Nat) (f : Wr.Fld) (v : Value), fs[i]? = some f → vs[i]? = some v → w'.cell? f.1 = some v
theorem Wr.all_nil (l : List Nat) : Wr.all [] l = none := rfl
theorem Wr.all_none {ts : List Bool} {l : List Nat} (h : Wr.taken ts l = none) : Wr.all ts l = none := by
  unfold Wr.all; rw [h]; cases ts <;> rfl
theorem Wr.all_more {ts : List Bool} {l : List Nat} {vs : List Value} {x : Nat} {r : List Nat} (h : Wr.taken ts l = some (vs, x :: r)) : Wr.all ts l = none := by
  unfold Wr.all; rw [h]; cases ts <;> rfl
theorem Wr.all_some {t : Bool} {ts : List Bool} {l : List Nat} {vs : List Value} (h : Wr.taken (t :: ts) l = some (vs, [])) : Wr.all (t :: ts) l = some vs := by
  unfold Wr.all; rw [h]
/-- The variable for the bytes, made. -/
theorem box_take {w : World} {m c0 : Nat} {B : Option Addr} {l : List Nat} {fs : List Wr.Fld} (hl : Rd w B m l) (hc : m ≤ c0) (hap : 0 < m → ∀ b o, B = some ⟨b, o, none⟩ → ∀ f ∈ fs, f.1.block ≠ b) :
    TakeInv (w.alloc (.cells #[.slice B m c0] 25)) w.heap.size l fs 0 (w.alloc (.cells #[.slice B m c0] 25)) ∧ Holds (w.alloc (.cells #[.slice B m c0] 25)) w.heap.size [.slice B m c0] := by
  have k0 := Holds.new w #[.slice B m c0] 25
  have hm := hl.1
  subst hm
  refine ⟨⟨[], l, B, c0, rfl, k0.at_ 0 rfl, hl.below ((Below.refl _ _).alloc (Nat.le_refl _) _), hc, Nat.le_refl _, fun h b o e => ⟨?_, hap h b o e⟩, Upd.refl _ _, rfl, fun i f v _ h => by simp at h⟩, k0⟩
  obtain ⟨b', o', e', hb', _⟩ := hl.2.2 h
  rw [e] at e'
  injection e' with e'
  injection e' with e1
  omega
set_option maxRecDepth 100000 in
set_option maxHeartbeats 4000000 in
theorem wtake_any (B : Option Addr) (m c0 : Nat) (l : List Nat) (A : Option Addr) (n c : Nat) (fs : List Wr.Fld) (w : World) (hn : n ≤ 10) (hlf : fs.length = n) (hll : m ≤ 1000000) (hnd : (Wr.at_ fs).Nodup)
    (hl : Rd w B m l) (hc : m ≤ c0) (hap : 0 < m → ∀ b o, B = some ⟨b, o, none⟩ → ∀ f ∈ fs, f.1.block ≠ b)
    (hA : RdV w A n (fs.map Wr.anyOf)) (hAb : ∀ b o, A = some ⟨b, o, none⟩ → b < w.heap.size ∧ ∀ f ∈ fs, f.1.block ≠ b)
    (hv : ∀ f ∈ fs, f.1.block < w.heap.size ∧ (∃ v, w.cell? f.1 = some v) ∧ w.frozen? f.1 = false) :
    Calls Try.prog 34 #[.slice B m c0, .slice A n c] w (GivesTook w fs (Wr.all (fs.map Prod.snd) l)) := by
  have hmf : ∀ (fn : Fn) (first cap : Array Value) (w : World), (Instr.makeFunc fn first cap).run Try.prog w = .ok (.func fn first cap) w := fun _ _ _ _ => rfl
  obtain ⟨hI, hk⟩ := box_take (fs := fs) hl hc hap
  have hbb : Below w.heap.size w (w.alloc (.cells #[.slice B m c0] 25)) := (Below.refl _ _).alloc (Nat.le_refl _) _
  have hA2 := hA.below hbb
  have hv2 : ∀ f ∈ fs, f.1.block < (w.alloc (.cells #[.slice B m c0] 25)).heap.size ∧ f.1.block ≠ w.heap.size ∧ (∃ v, (w.alloc (.cells #[.slice B m c0] 25)).cell? f.1 = some v) ∧ (w.alloc (.cells #[.slice B m c0] 25)).frozen? f.1 = false := fun f hf => by
    obtain ⟨q1, ⟨v, q2⟩, q3⟩ := hv f hf
    exact ⟨Nat.lt_of_lt_of_le q1 hbb.size, by omega, ⟨v, (hbb.cell q1).trans q2⟩, (hbb.frozen q1).trans q3⟩
  have hAb2 : ∀ b o, A = some ⟨b, o, none⟩ → b ≠ w.heap.size ∧ ∀ f ∈ fs, f.1.block ≠ b := fun b o e => ⟨by have := (hAb b o e).1; omega, (hAb b o e).2⟩
  have Hall := Lib.hid (takes_all w.heap.size l A n c fs _ hn hlf (by rw [hl.1]; exact hll) hnd hA2 hAb2 hv2 hk.1 (hk.2.2 0) hI)
  have Hbb := Lib.hid hbb
  have HL := Lib.hid hl
  clear hI hk hbb hA2 hv2 hAb2 hv hA hap hl
  go_enter Try.func34, Try.ntmps34
  go_wp2_with fail
  generalize w.alloc (.cells #[.slice B m c0] 25) = w3 at *
  refine Hall.out.mono ?_
  rintro e w4 (⟨rfl, hI⟩ | ⟨ch, rfl, rfl, hno, hu⟩)
  · obtain ⟨vs, cur, B4, c4, h1, h2, h3, h4, h5, h6, h7, h8, h9⟩ := hI
    rw [List.take_of_length_le (by rw [List.length_map]; omega)] at h1
    have hu : Upd (Wr.at_ fs) w w4 := ((Upd.of_below Hbb.out).trans h7).forget (Nat.le_refl _)
    have Hu := Lib.hid hu
    have H1 := Lib.hid h1
    have H8 := Lib.hid h8
    clear h1 h7 h8 hu
    by_cases hn0 : n = 0
    · subst hn0
      go_wp2
      have hf0 : fs = [] := List.eq_nil_of_length_eq_zero hlf
      subst hf0
      exact ⟨rfl, rfl, Hu.out⟩
    · cases cur with
      | nil =>
        have hz : ((0 : Nat) : Int) = 0 := rfl
        go_wp2
        go_end0
        match fs, hlf, H1, Hu, H8, h9 with
        | f0 :: fs', hlf, H1, Hu, H8, h9 =>
          rw [show Wr.all ((f0 :: fs').map Prod.snd) l = some vs from Wr.all_some H1.out]
          exact ⟨rfl, Hu.out, H8.out.trans hlf.symm, h9⟩
        | [], hlf, _, _, _, _ => exact absurd hlf.symm hn0
      | cons x r =>
        go_wp2
        rw [Wr.all_more H1.out]
        exact ⟨rfl, rfl, Hu.out⟩
  · show bodyPost _ _ _ _ _ _
    rw [Wr.all_none hno]
    exact ⟨rfl, rfl, ((Upd.of_below Hbb.out).trans hu).forget (Nat.le_refl _)⟩
end Go.Proofs.Ytonjjihbpeblkaa
