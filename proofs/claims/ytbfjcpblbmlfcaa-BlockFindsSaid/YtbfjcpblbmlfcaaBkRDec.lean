/- The document's Decode. -/
import Derived.Test.YtbfjcpblbmlfcaaBkREntry
import Derived.Test.YtbfjcpblbmlfcaaBkREnc
namespace Go.Proofs.Ytbfjcpblbmlfcaa
open Go.RowKit
namespace Bk
/-- So many entries: they, the last one's key, what is left. -/
def rrun (l : List Nat) : Nat → Option (List En × ByteArray × List Nat)
  | 0 => some ([], ⟨#[]⟩, l)
  | k + 1 => match rrun l k with
    | none => none
    | some (es, key, r) => match rone r key with
      | none => none
      | some (e, r') => some (es ++ [e], e.key, r')
def rdec (l : List Nat) : Option (List En) := match l[l.length - 1]? with
  | none => none
  | some c => (rrun l c).map fun x => x.1
def rgood (l : List Nat) (es : List (En × Sl)) : Prop := rdec l = some (es.map fun z => z.1) ∧ fine es ∧ out es = l
theorem rone_le {l r : List Nat} {key : ByteArray} {e : En} (h : rone l key = some (e, r)) : r.length ≤ l.length ∧ e.key.size ≤ key.size + 64 ∧ (∀ x ∈ e.val, x ∈ l) ∧ ∀ x ∈ r, x ∈ l := by
  unfold rone at h
  split at h
  · cases h
  · rename_i s b1 h1
    have a1 := (takeNum_bound h1).2
    split at h
    · cases h
    · split at h
      · cases h
      · rename_i t b2 h2
        have a2 := takeText_le (m := 64) h2
        have hk : (key.extract 0 s ++ str t).size ≤ key.size + 64 := by
          rw [ByteArray.size_append, ByteArray.size_extract]
          have : (str t).size = t.length := by simp [str, ByteArray.size]
          omega
        split at h
        · cases h
        · rename_i q b3 h3
          have a3 := (takeNum_bound h3).2
          split at h
          · cases h
          · split at h
            · injection h with h
              injection h with h ha
              subst h ha
              exact ⟨by omega, hk, fun x hx => (by cases hx), fun x hx => a1.2 x (a2.2.2.2 x (a3.2 x hx))⟩
            · split at h
              · cases h
              · rename_i v b4 h4
                have a4 := takeText_le (m := 256) h4
                injection h with h
                injection h with h ha
                subst h ha
                exact ⟨by omega, hk, fun x hx => a1.2 x (a2.2.2.2 x (a3.2 x (a4.2.2.1 x hx))), fun x hx => a1.2 x (a2.2.2.2 x (a3.2 x (a4.2.2.2 x hx)))⟩
theorem rrun_le {l : List Nat} : ∀ {k : Nat} {es : List En} {key : ByteArray} {r : List Nat}, rrun l k = some (es, key, r) → r.length ≤ l.length ∧ key.size ≤ k * 64 ∧ es.length = k
  | 0, es, key, r, h => by
    injection h with h
    injection h with h1 h2
    injection h2 with h2 h3
    subst h1 h2 h3
    exact ⟨Nat.le_refl _, by simp [ByteArray.size], rfl⟩
  | k + 1, es, key, r, h => by
    unfold rrun at h
    split at h
    · cases h
    · rename_i es0 key0 p0 h0
      obtain ⟨a1, a2, a3⟩ := rrun_le h0
      split at h
      · cases h
      · rename_i e p1 h1
        obtain ⟨b1, b2, _⟩ := rone_le h1
        injection h with h
        injection h with h2 h3
        injection h3 with h3 h4
        subst h2 h3 h4
        exact ⟨by omega, by omega, by rw [List.length_append, a3]; rfl⟩
theorem rrun_none {l : List Nat} {k : Nat} (h : rrun l k = none) : ∀ j, rrun l (k + j) = none
  | 0 => h
  | j + 1 => by
    show (match rrun l (k + j) with
      | none => none
      | some (es, key, p) => match rone p key with
        | none => none
        | some (e, p') => some (es ++ [e], e.key, p')) = none
    rw [rrun_none h j]
theorem rrun_next {l r r' : List Nat} {k : Nat} {es : List En} {key : ByteArray} {e : En} (hr : rrun l k = some (es, key, r)) (ho : rone r key = some (e, r')) : rrun l (k + 1) = some (es ++ [e], e.key, r') := by
  show (match rrun l k with
    | none => none
    | some (es, key, p) => match rone p key with
      | none => none
      | some (e, p') => some (es ++ [e], e.key, p')) = _
  rw [hr]
  simp only [ho]
theorem rdec_none {l r : List Nat} {k cb : Nat} {es : List En} {key : ByteArray} (hc : l[l.length - 1]? = some cb) (hk : k < cb) (hr : rrun l k = some (es, key, r)) (ho : rone r key = none) : rdec l = none := by
  have h1 : rrun l (k + 1) = none := by
    show (match rrun l k with
      | none => none
      | some (es, key, p) => match rone p key with
        | none => none
        | some (e, p') => some (es ++ [e], e.key, p')) = none
    rw [hr]
    simp only [ho]
  obtain ⟨j, rfl⟩ : ∃ j, cb = k + 1 + j := ⟨cb - (k + 1), by omega⟩
  unfold rdec
  rw [hc]
  simp only [rrun_none h1 j, Option.map_none]
/-- One entry, read where it was laid. -/
theorem rone_here {r : List Nat} {key : ByteArray} {s : Nat} {e : En} (hok : ok e = true) (hs : s ≤ e.key.size) (hsk : s ≤ key.size) (hsame : key.extract 0 s = e.key.extract 0 s) (hval : ∀ x ∈ e.val, x < 256) : rone (ent s e ++ r) key = some (e, r) := by
  obtain ⟨ek, es, ed, ev⟩ := e
  unfold ok at hok
  simp only [decide_eq_true_eq] at hok
  obtain ⟨k1, k2, k3, k4, k5, k6⟩ := hok
  have hs : s ≤ ek.size := hs
  have hext : (ek.extract s ek.size).size ≤ 64 := by rw [ByteArray.size_extract]; omega
  have hkey : key.extract 0 s ++ str (bs (ek.extract s ek.size)) = ek := by
    rw [str_bs, hsame]
    show ek.extract 0 s ++ ek.extract s ek.size = ek
    have := ByteArray.extract_append_extract (a := ek) (i := 0) (j := s) (k := ek.size)
    rw [this, Nat.min_eq_left (by omega), Nat.max_eq_right (by omega), ByteArray.extract_zero_size]
  have hgone : gone ⟨ek, es, ed, ev⟩ ≤ 1 := by unfold gone; split <;> omega
  have text_ : ∀ (t : ByteArray) (m : Nat) (b : List Nat), t.size ≤ m → m ≤ 1000000 → Cd.takeText (Cd.text t ++ b) (m : Int) = some (bs t, b) := fun t m b h1 h2 => by
    unfold Cd.takeText Cd.text
    rw [List.append_assoc, takeNum_num _ (by omega)]
    show (if (m : Int) < 0 ∨ (m : Int) < (t.size : Int) ∨ (bs t ++ b).length < t.size then none else some ((bs t ++ b).take t.size, (bs t ++ b).drop t.size)) = _
    rw [if_neg (by rw [List.length_append, bs_length]; omega), List.take_left' (bs_length t), List.drop_left' (bs_length t)]
  unfold ent rone
  simp only [List.append_assoc]
  rw [takeNum_num s (by omega)]
  simp only [if_neg (show ¬ key.size < s by omega)]
  have h2 : ∀ b : List Nat, Cd.takeText (Cd.text (ek.extract s ek.size) ++ b) 64 = some (bs (ek.extract s ek.size), b) := fun b => text_ (ek.extract s ek.size) 64 b hext (by omega)
  rw [h2]
  simp only
  rw [takeNum_num (es.toNat * 2 + gone ⟨ek, es, ed, ev⟩) (by omega)]
  simp only [if_neg (show ¬ 2199023255553 < es.toNat * 2 + gone ⟨ek, es, ed, ev⟩ by omega)]
  cases ed with
  | true =>
    have hv : ev = [] := by
      cases ev with
      | nil => rfl
      | cons x xs => exact absurd ⟨rfl, by simp⟩ k6
    subst hv
    have hg : gone ⟨ek, es, true, []⟩ = 1 := rfl
    rw [if_pos (by rw [hg]; omega), hkey, show (es.toNat * 2 + gone ⟨ek, es, true, []⟩) / 2 = es.toNat by rw [hg]; omega, show ((es.toNat : Nat) : Int) = es by omega]
    simp only [if_true, List.nil_append]
  | false =>
    have hg : gone ⟨ek, es, false, ev⟩ = 0 := rfl
    have hvs : (str ev).size = ev.length := by simp [str, ByteArray.size]
    rw [if_neg (by rw [hg]; omega), show (es.toNat * 2 + gone ⟨ek, es, false, ev⟩) / 2 = es.toNat by rw [hg]; omega, show ((es.toNat : Nat) : Int) = es by omega]
    simp only [Bool.false_eq_true, if_false]
    have h3 := text_ (str ev) 256 r (by rw [hvs]; exact k5) (by omega)
    have h3 : Cd.takeText (Cd.text (str ev) ++ r) 256 = some (bs (str ev), r) := h3
    rw [h3]
    simp only
    rw [hkey, bs_str hval]
theorem rrun_here {es : List (En × Sl)} (hf : fine es) (hv : ∀ p ∈ es, ∀ x ∈ p.1.val, x < 256) : ∀ k, k ≤ es.length → rrun (out es) k = some ((es.take k).map (fun z => z.1), lastKey es k, (out es).drop (enc es k).length)
  | 0, _ => rfl
  | k + 1, hk => by
    obtain ⟨p, hp⟩ : ∃ p, es[k]? = some p := ⟨_, List.getElem?_eq_getElem (by omega)⟩
    obtain ⟨r, hr⟩ := out_at hp
    have ho := rone_here (r := r) (hf.1.1 k p (by omega) hp) (shr_le es k p.1) (shr_last es k p.1).1 (shr_last es k p.1).2 (hv p (List.mem_of_getElem? hp))
    rw [← hr] at ho
    rw [rrun_next (rrun_here hf hv k (by omega)) ho, List.take_add_one, hp, List.map_append, enc_next hp, List.length_append]
    have hlk : lastKey es (k + 1) = p.1.key := by show keyOf es[k]? = _; rw [hp]; rfl
    rw [hlk, drop_more hr]
    rfl
theorem rgood_out {es : List (En × Sl)} (hf : fine es) (hv : ∀ p ∈ es, ∀ x ∈ p.1.val, x < 256) : rgood (out es) es := by
  refine ⟨?_, hf, rfl⟩
  unfold rdec
  rw [out_last hf.2.2]
  simp only [rrun_here hf hv _ (Nat.le_refl _), List.take_length, Option.map_some]
theorem rgood_map {l : List Nat} {es fs : List (En × Sl)} (h1 : rgood l es) (h2 : rgood l fs) : es.map (fun z => z.1) = fs.map (fun z => z.1) := by
  have := h1.1
  rw [h2.1] at this
  injection this with this
  exact this.symm
end Bk
/-- One more entry. -/
theorem EntO.push {v v' : World} {base m cap cap' : Nat} {B B' : Option Addr} {es : List (Bk.En × Bk.Sl)} {x : Bk.En × Bk.Sl} (h : EntO v base B m cap es) (hx : Bk.At v x) (hap : Bk.Apart base (Value.slice B m cap).ownBlock v.heap.size x) (hg : GrewC 4 v v' base 37 B B' m cap (m + 1) cap' (Bk.flat es ++ Bk.cells x)) : EntO v' base B' (m + 1) cap' (es ++ [x]) := by
  have hnew : ∀ q : Bk.En × Bk.Sl, Bk.At v q → Bk.Apart base (Value.slice B m cap).ownBlock v.heap.size q → Bk.At v' q ∧ Bk.Apart base (Value.slice B' (m + 1) cap').ownBlock v'.heap.size q := fun q h1 h2 => by
    refine ⟨h1.grown hg.grew fun hn g o e => (h2 hn g o e).2.2, fun hn g o e => ?_⟩
    obtain ⟨a1, a2, a3⟩ := h2 hn g o e
    refine ⟨a1, Nat.lt_of_lt_of_le a2 hg.grew.size, ?_⟩
    rcases hg.blk with e2 | e2
    · rw [e2]; exact a3
    · rw [e2]
      intro e3
      injection e3 with e3
      omega
  refine ⟨?_, by rw [List.length_append, h.len]; rfl, fun q hq => ?_⟩
  · rw [Bk.flat_append]
    have e : Bk.flat [x] = Bk.cells x := by simp [Bk.flat]
    rw [e]
    exact hg.own
  · rcases List.mem_append.1 hq with hq | hq
    · exact hnew q (h.vals q hq).1 (h.vals q hq).2
    · rcases List.mem_singleton.1 hq with rfl
      exact hnew q hx hap
def GivesRDec (w : World) (l : List Nat) (e : Ending) (w' : World) : Prop :=
  Below w.heap.size w w' ∧ ((∃ B m cap es, Bk.rgood l es ∧ e = .returned (.tuple #[.slice B m cap, .int .i64 0]) ∧ EntO w' w.heap.size B m cap es) ∨ ((∀ es, ¬ Bk.rgood l es) ∧ e = .returned (.tuple #[.slice none 0 0, .int .i64 120])))
theorem rdec_no {w w' : World} {l : List Nat} (h : ∀ es, ¬ Bk.rgood l es) (hb : Below w.heap.size w w') : GivesRDec w l (.returned (.tuple #[.slice none 0 0, .int .i64 120])) w' := ⟨hb, .inr ⟨h, rfl⟩⟩
set_option maxRecDepth 100000 in
set_option maxHeartbeats 8000000 in
theorem rdecode_any (A : Option Addr) (n c : Nat) (l : List Nat) (w : World) (hl : Rd w A n l) (hc : n ≤ c) (hn : n ≤ 1000000) :
    Calls Try.prog 14 #[.slice A n c] w (GivesRDec w l) := by
  have hlen := hl.1
  by_cases h0 : n = 0
  · subst h0
    have HD := Lib.hid (show ∀ es, ¬ Bk.rgood l es from fun es hg => by
      have : l = [] := List.eq_nil_of_length_eq_zero hlen
      subst this
      have := hg.1
      cases this)
    clear hl hlen
    go_enter Try.func14, Try.ntmps14
    go_wp2
    go_ret2
    exact rdec_no HD.out (Below.refl _ _)
  · obtain ⟨a, o, hA, ha, hcell⟩ := hl.2.2 (by omega)
    have hlt : l.length - 1 < l.length := by omega
    obtain ⟨cb, hcb⟩ : ∃ cb, l[l.length - 1]? = some cb := ⟨_, List.getElem?_eq_getElem hlt⟩
    have hcb256 := hl.2.1 cb (List.mem_of_getElem? hcb)
    have hlast := hcell _ _ hcb
    rw [hlen] at hlast
    have HCl := Lib.hid (show ∀ v, Below w.heap.size w v → v.cell? ⟨a, o + (n - 1), none⟩ = some (.int .u8 (cb : Int)) from fun v hv => (hv.cell ha).trans hlast)
    have Hcb := Lib.hid hcb
    have HL := Lib.hid hl
    have hn1 : (n : Int) - 1 = ((n - 1 : Nat) : Int) := by omega
    have hn2 : ((n - 1 : Nat) : Int) < (n : Int) := by omega
    have hnz : ((n : Int) == 0) = false := by rw [beq_eq_false_iff_ne]; omega
    have hnz2 : ¬ (n : Int) = 0 := by omega
    have hcbi : (cb : Int) < 256 := by omega
    clear hl hcb hlast hcell hlt
    subst hA
    go_enter Try.func14, Try.ntmps14
    go_wp2
    go_loopw [4, 5, 6, 7] (fun x y z i wr => ∃ (k : Nat) (B : Option Addr) (cap : Nat) (es : List (Bk.En × Bk.Sl)) (r : List Nat) (R : Option Addr) (rc : Nat) (key : ByteArray), k ≤ cb ∧ x = .slice B k cap ∧ y = .slice R r.length rc ∧ z = .string key ∧ i = .int .i64 (k : Int) ∧ Hid (Bk.rrun l k = some (es.map (fun z => z.1), key, r)) ∧ Hid (EntO wr w.heap.size B k cap es) ∧ Hid (Rd wr R r.length r) ∧ r.length ≤ rc ∧ Hid (Below w.heap.size w wr)) (fun _ _ _ i _ => cb - (intOf i).toNat)
    case atStart => exact ⟨0, none, 0, [], l, some ⟨a, o, none⟩, c, ⟨#[]⟩, by omega, rfl, by rw [hlen], rfl, rfl, Lib.hid rfl, Lib.hid ⟨OwnC.none_ _ _ _ _, rfl, fun q hq => by cases hq⟩, Lib.hid (by rw [hlen]; exact HL.out), by omega, Lib.hid (Below.refl _ _)⟩
    case round =>
      rename_i wr hrel
      obtain ⟨k, B, cap, es, r, R, rc, key, hk, rfl, rfl, rfl, rfl, HR, HE, HRd, hrc, HB⟩ := hrel
      have e0 := HCl.out wr HB.out
      by_cases hkc : k = cb
      · subst hkc
        have hdec : Bk.rdec l = some (es.map (fun z => z.1)) := by unfold Bk.rdec; rw [Hcb.out]; simp only [HR.out, Option.map_some]
        have HDc := Lib.hid hdec
        clear hdec
        by_cases hf : Bk.fine es
        · have Hf := Lib.hid hf
          have HEn := Lib.hid (rencode_yes B k cap es wr HE.out.rde (by omega) hf)
          clear hf
          go_wp2_with fail
          refine HEn.out.mono ?_
          rintro e v1 ⟨A1, c1, rfl, ho1, hb1⟩
          have HB1 := Lib.hid (below_next HB.out hb1)
          have HE1 := Lib.hid (HE.out.below hb1)
          have s1 := run_str (cap := c1) ho1.rd
          have s2 := run_str (cap := c) (HL.out.below HB1.out)
          have hlt1 := ho1.rd.2.1
          clear hb1 ho1
          by_cases hq : Bk.out es = l
          · have s3 : (!((str (Bk.out es)).toList == (str l).toList)) = false := by rw [hq]; simp
            have s4 : (str (Bk.out es)).toList = (str l).toList := by rw [hq]
            have HG := Lib.hid (show Bk.rgood l es from ⟨HDc.out, Hf.out, hq⟩)
            clear hq
            go_wp2
            go_ret2
            exact ⟨HB1.out, .inl ⟨B, k, cap, es, HG.out, rfl, HE1.out⟩⟩
          · have s3 := str_other hlt1 HL.out.2.1 hq
            have s4 : ¬ (str (Bk.out es)).toList = (str l).toList := fun e => by rw [e] at s3; simp at s3
            have HD := Lib.hid (show ∀ fs, ¬ Bk.rgood l fs from fun fs hg => by
              have hm : es.map (fun z => z.1) = fs.map (fun z => z.1) := by
                have := hg.1
                rw [HDc.out] at this
                injection this
              exact hq (by rw [(Bk.out_same hm).1]; exact hg.2.2))
            clear hq
            go_wp2
            go_ret2
            exact rdec_no HD.out HB1.out
        · have HEn := Lib.hid (rencode_no B k cap es wr HE.out.rde (by omega) hf)
          have HD := Lib.hid (show ∀ fs, ¬ Bk.rgood l fs from fun fs hg => by
            have hm : fs.map (fun z => z.1) = es.map (fun z => z.1) := by
              have := hg.1
              rw [HDc.out] at this
              injection this with this
              exact this.symm
            exact hf ((Bk.out_same hm).2 hg.2.1))
          clear hf
          go_wp2_with fail
          refine HEn.out.mono ?_
          rintro e v1 ⟨rfl, hb1⟩
          have HB1 := Lib.hid (below_next HB.out hb1)
          clear hb1
          go_wp2
          go_ret2
          exact rdec_no HD.out HB1.out
      · have hki : (k : Int) < (cb : Int) := by omega
        have hkl : k < cb := by omega
        have hrl := Bk.rrun_le HR.out
        have hr6 : r.length ≤ 1000000 := by omega
        have hks : key.size ≤ 100000 := by have := hrl.2.1; omega
        clear hrl
        have HEn := Lib.hid (rentry_any R r.length rc r key wr HRd.out hrc hr6 hks)
        go_wp2_with fail
        refine HEn.out.mono ?_
        rcases h1 : Bk.rone r key with _ | ⟨x, r'⟩
        · rintro e v1 ⟨q, B1, m1, c1, he, hb1⟩
          have HD := Lib.hid (show ∀ es, ¬ Bk.rgood l es from fun es hg => by
            have := hg.1
            rw [Bk.rdec_none Hcb.out hkl HR.out h1] at this
            cases this)
          have HB1 := Lib.hid (below_next HB.out hb1)
          obtain ⟨⟨qk, qs, qd, qv⟩, qV, qn, qc⟩ := q
          have he : e = .returned (.tuple #[.agg #[.string qk, .int .i64 qs, .bool qd, .slice qV qn qc], .slice B1 m1 c1, .bool false]) := he
          subst he
          have HB2 := Lib.hid (below_next HB1.out ((Below.refl _ _).alloc (Nat.le_refl _) (.cells #[Value.string qk, .int .i64 qs, .bool qd, .slice qV qn qc] 37)))
          clear hb1 h1
          go_wp2
          go_ret2
          exact rdec_no HD.out HB2.out
        · rintro e v1 ⟨s, B1, c1, he, hat, hap, hr1, hc1, hb1, hf1⟩
          obtain ⟨xk, xs, xd, xv⟩ := x
          obtain ⟨sV, sn, sc⟩ := s
          have he : e = .returned (.tuple #[.agg #[.string xk, .int .i64 xs, .bool xd, .slice sV sn sc], .slice B1 r'.length c1, .bool true]) := he
          subst he
          have hown : ∀ g, (Value.slice B k cap).ownBlock = some g → w.heap.size ≤ g ∧ g < wr.heap.size := fun g hg => HE.out.row.blk g hg
          have Hown := Lib.hid hown
          have hb2 : Below v1.heap.size v1 (v1.alloc (.cells #[Value.string xk, .int .i64 xs, .bool xd, .slice sV sn sc] 37)) := (Below.refl _ _).alloc (Nat.le_refl _) _
          have HBox := Lib.hid (Holds.new v1 #[Value.string xk, .int .i64 xs, .bool xd, .slice sV sn sc] 37)
          have HE2 := Lib.hid ((HE.out.below hb1).below hb2)
          have HB2 := Lib.hid (below_next (below_next HB.out hb1) hb2)
          have Hat := Lib.hid (hat.below hb2)
          have Hr2 := Lib.hid (hr1.below hb2)
          have Hap := Lib.hid hap
          have Hf1 := Lib.hid hf1
          have hs1 := hb1.size
          have hs2 := hb2.size
          have HRn := Lib.hid (Bk.rrun_next HR.out h1)
          clear hb1 hb2 hat hr1 h1 hown hap hf1
          go_upto_region 12 with fail
          generalize hv2 : (v1.alloc (.cells #[Value.string xk, .int .i64 xs, .bool xd, .slice sV sn sc] 37)) = v2 at *
          clear hv2
          have x0 := HBox.out.at_ 0 rfl
          have x1 := HBox.out.at_ 1 rfl
          have x2 := HBox.out.at_ 2 rfl
          have x3 := HBox.out.at_ 3 rfl
          have hal : w.heap.size ≤ (v2.alloc (.cells (Bk.cells (⟨xk, xs, xd, xv⟩, sV, sn, sc)).toArray 37)).heap.size := by have := HB2.out.size; simp; omega
          go_wp2_with (first | (at_builtin; refine wpList_appC manyE rfl (.tmp 37) (.tmp 39) rfl rfl (HE2.out.row.alloc _) ⟨v2.heap.size, 0, none⟩ 1 1 (Bk.cells (⟨xk, xs, xd, xv⟩, sV, sn, sc)) (Bk.cells_one _) rfl (rdc_new 4 v2 _ _ 1 rfl (0, 0)) (by omega) hal ?_; intro B6 cap6 w6 hg6; have hbx6 := ((HBox.out.alloc (.cells (Bk.cells (⟨xk, xs, xd, xv⟩, sV, sn, sc)).toArray 37)).grown hg6.grew (fun e => by have := (Hown.out _ e).2; omega)); have y0 := hbx6.at_ 0 rfl))
          have hb3 : Below v2.heap.size v2 (v2.alloc (.cells (Bk.cells (⟨xk, xs, xd, xv⟩, sV, sn, sc)).toArray 37)) := (Below.refl _ _).alloc (Nat.le_refl _) _
          have hP := EntO.push (HE2.out.below hb3) (Hat.out.below hb3) (fun hn g o e => by
            obtain ⟨a1, a2⟩ := Hap.out hn g o e
            refine ⟨?_, ?_, fun e2 => ?_⟩
            · have := HB.out.size; omega
            · have := hb3.size; omega
            · have := (Hown.out _ e2).2; omega) hg6
          have hR6 : Rd w6 B1 r'.length r' := (Hr2.out.below hb3).grown hg6.grew (fun h g o e e2 => by have h8 := Hf1.out h g o e; have := (Hown.out _ e2).2; omega)
          have hB6 := hg6.below (below_next HB2.out hb3) hal (fun g hg => (Hown.out g hg).1)
          have HP := Lib.hid hP
          have HR6 := Lib.hid hR6
          have HB6 := Lib.hid hB6
          clear hP hR6 hB6 hb3 hg6 hbx6 y0
          go_roundw
          case rel => exact ⟨k + 1, B6, cap6, _, r', B1, c1, xk, by omega, rfl, rfl, rfl, by simp only [Value.int.injEq, true_and]; omega, Lib.hid (by rw [List.map_append]; exact HRn.out), HP, HR6, hc1, HB6⟩
          case measure => simp [intOf]; omega
end Go.Proofs.Ytbfjcpblbmlfcaa
