/- The document's taken: fields like some, out of all of the bytes. -/
import Derived.Test.YtonjjihbpeblkaaRfRow
import Derived.Test.YtonjjihbpeblkaaRfText
namespace Go.Proofs.Ytonjjihbpeblkaa
open Go.RowKit
namespace Wr
/-- Is a field a text? -/
def kindOf : Value → Bool
  | .string _ => true
  | _ => false
theorem kind_cell (v : Value) : (fcells v)[0]? = some (.bool (kindOf v)) := by cases v <;> rfl
end Wr
/-- What taken hands back. -/
def GivesTakenR (w : World) (o : Option (List Value × List Nat)) (e : Ending) (w' : World) : Prop :=
  match o with
  | none => e = .returned (.tuple #[.slice none 0 0, .bool false]) ∧ Below w.heap.size w w'
  | some (us, r) => ∃ D c t, e = .returned (.tuple #[.slice D us.length c, .bool t]) ∧ (t = true ↔ r = []) ∧ RdF w' D us.length us ∧ us.length ≤ c ∧ Below w.heap.size w w'
set_option maxRecDepth 100000 in
set_option maxHeartbeats 4000000 in
theorem taken_any (B : Option Addr) (m c0 : Nat) (l : List Nat) (A : Option Addr) (n c : Nat) (ls : List Value) (w : World) (hl : Rd w B m l) (hmc : m ≤ c0) (hm : m ≤ 1000000) (hr : RdF w A n ls) (hn : n ≤ 10) :
    Calls Try.prog 36 #[.slice B m c0, .slice A n c] w (GivesTakenR w (Wr.taken (ls.map Wr.kindOf) l)) := by
  have htext := Lib.hid (fun (B : Option Addr) (m c : Nat) (l : List Nat) (wx : World) (h : Rd wx B m l) (h1 : m ≤ c) (h2 : m ≤ 1000000) => rtakeown_any B m c 4096 l wx h h1 h2 (by omega))
  have hnum := Lib.hid (fun (B : Option Addr) (m c : Nat) (l : List Nat) (wx : World) (h : Rd wx B m l) (h1 : m ≤ c) (h2 : m ≤ 1000000) => rtakenum_own B m c l wx h h1 h2)
  have HR := Lib.hid hr
  have hlm := hl.1
  clear hr
  go_enter Try.func36, Try.ntmps36
  go_wp2_with fail
  go_loopw [0, 6, 7] (fun b o i wr => ∃ (j bm bc q oc : Nat) (B D : Option Addr) (us : List Value) (cur : List Nat), j ≤ n ∧ i = .int .i64 (j : Int) ∧ b = .slice B bm bc ∧ o = .slice D q oc ∧ Hid (Wr.taken ((ls.map Wr.kindOf).take j) l = some (us, cur)) ∧ Hid (us.length = q) ∧ q = j ∧ Rd wr B bm cur ∧ bm ≤ bc ∧ bm ≤ 1000000 ∧ OwnC 3 wr w.heap.size 76 D q oc (Wr.flatF us) ∧ Below w.heap.size w wr ∧ Hid (0 < bm → ∀ b o, B = some ⟨b, o, none⟩ → some b ≠ (Value.slice D q oc).ownBlock)) (fun _ _ i _ => n - (intOf i).toNat)
  case atStart => exact ⟨0, m, c0, 0, 0, B, none, [], l, by omega, rfl, rfl, rfl, Lib.hid rfl, Lib.hid rfl, rfl, hl, hmc, hm, OwnC.none_ _ _ _ _, Below.refl _ _, Lib.hid (fun _ b o _ e => by simp [Value.ownBlock] at e)⟩
  case round =>
    rename_i wr hrel
    obtain ⟨j, bm, bc, q, oc, B1, D, us, cur, hj, rfl, rfl, rfl, Hu, Hq, hqj, hrd, hbc, hbm, ho, hb, Hap⟩ := hrel
    subst hqj
    by_cases hjn : q = n
    · subst hjn
      have hall := Hu.out
      rw [List.take_of_length_le (by rw [List.length_map, HR.out.1]; omega)] at hall
      have Hall := Lib.hid hall
      have Hrl := Lib.hid hrd.1
      clear hall
      go_wp2
      go_ret2
      rw [Hall.out]
      refine ⟨D, oc, _, by rw [Hq.out]; rfl, ?_, ⟨rfl, by rw [Hq.out]; exact ho.rd⟩, by rw [Hq.out]; exact ho.fits, hb⟩
      have h1 := Hrl.out
      show ((bm : Int) == 0) = true ↔ cur = []
      rw [beq_iff_eq]
      constructor
      · intro e; exact List.eq_nil_of_length_eq_zero (by omega)
      · intro e; subst e; simp at h1; omega
    · have hji : (q : Int) < (n : Int) := by omega
      have hvj : ls[q]? = some (ls[q]'(by rw [HR.out.1]; omega)) := List.getElem?_eq_getElem _
      generalize ls[q]'(by rw [HR.out.1]; omega) = v at hvj
      obtain ⟨ab, ao, rfl, hab, hc⟩ := HR.out.at_ hvj
      have hkq : (ls.map Wr.kindOf)[q]? = some (Wr.kindOf v) := by rw [List.getElem?_map, hvj]; rfl
      have Hkq := Lib.hid hkq
      have k0 := (hb.cell (p := ⟨ab, ao + (q * 3 + 0), none⟩) hab).trans (hc 0 _ (Wr.kind_cell v))
      rw [Nat.add_zero] at k0
      have hsn : Wr.taken ((ls.map Wr.kindOf).take (q + 1)) l = (Wr.one (Wr.kindOf v) cur).map fun p => (us ++ [p.1], p.2) := by
        rw [List.take_add_one, Hkq.out]
        show Wr.taken ((ls.map Wr.kindOf).take q ++ [Wr.kindOf v]) l = _
        rw [Wr.taken_snoc, Hu.out]
      have hbs := hb.size
      clear hc hvj hkq
      cases hkv : Wr.kindOf v with
      | true =>
        rw [hkv] at k0 hsn Hkq
        rcases hone : Cd.takeText cur 4096 with _ | ⟨s, r⟩
        · have hno : Wr.taken (ls.map Wr.kindOf) l = none := Wr.taken_none Hkq.out Hu.out (by unfold Wr.one; rw [hone]; rfl)
          have Hno := Lib.hid hno
          have hcall := htext.out B1 bm bc cur wr hrd hbc hbm
          rw [hone] at hcall
          have Hcall := Lib.hid hcall
          clear hno hsn hone hcall
          go_wp2_with fail
          refine Hcall.out.mono ?_
          rintro e w2 ⟨rfl, hb2⟩
          go_wp2
          go_ret2
          rw [Hno.out]
          exact ⟨rfl, below_next hb hb2⟩
        · have hsn2 : Wr.taken ((ls.map Wr.kindOf).take (q + 1)) l = some (us ++ [.string (str s)], r) := by
            rw [hsn]; unfold Wr.one; rw [hone]; rfl
          have Hsn := Lib.hid hsn2
          have hrl : r.length ≤ cur.length := Wr.one_bound (t := true) (v := .string (str s)) (by unfold Wr.one; rw [hone]; rfl)
          have hcall := htext.out B1 bm bc cur wr hrd hbc hbm
          rw [hone] at hcall
          have Hcall := Lib.hid hcall
          have hcl := hrd.1
          clear hsn hsn2 hone hcall
          go_wp2_with fail
          refine Hcall.out.mono ?_
          rintro e w2 ⟨B2, c2, rfl, hr2, hc2, hb2, hbk⟩
          have Hbk2 := Lib.hid hbk
          clear hbk
          have ho2 := ho.below hb2
          have hb' := below_next hb hb2
          go_wp2_with fail
          refine (ftext_any (str s) _).mono ?_
          rintro e w3 ⟨rfl, hb3⟩
          have ho3 := ho2.below hb3
          have hb'' := below_next hb' hb3
          have hz3 : w.heap.size ≤ w3.heap.size := hb''.size
          have hzz : w2.heap.size ≤ w3.heap.size := hb3.size
          have hal : w.heap.size ≤ (w3.alloc (.cells (Wr.fcells (.string (str s))).toArray 76)).heap.size := by simp; omega
          have hba := hb''.alloc hz3 (.cells (Wr.fcells (.string (str s))).toArray 76)
          have hra := (hr2.below hb3).below ((Below.refl w3.heap.size w3).alloc (Nat.le_refl _) (.cells (Wr.fcells (.string (str s))).toArray 76))
          have hsz1 : wr.heap.size ≤ w2.heap.size := hb2.size
          go_wp2_with (first | (at_builtin; refine wpList_appC manyF rfl (.tmp 33) (.tmp 36) rfl rfl (ho3.alloc _) ⟨w3.heap.size, 0, none⟩ 1 1 (Wr.fcells (.string (str s))) (Wr.fcells_one _) rfl (rdc_new 3 w3 _ _ 1 rfl (0, 0)) (by omega) hal ?_; intro A4 c4 w4 hg4))
          have hb4 := hg4.below hba hal (fun g e => (ho3.blk g e).1)
          have hr4 := rd_grown hra hg4.grew (fun _ b o e e2 => by
            have h1 := Hbk2.out b o e
            have h2 := (ho.blk b e2.symm).2
            omega)
          go_roundw
          case rel =>
            refine ⟨q + 1, r.length, c2, q + 1, c4, B2, A4, us ++ [.string (str s)], r, by omega, by go_num, rfl, rfl, Hsn, Lib.hid (by rw [List.length_append, Hq.out]; rfl), rfl, hr4, hc2, by omega, ?_, hb4, Lib.hid (fun _ b o e e2 => ?_)⟩
            · have h4 := hg4.own
              rw [← show Wr.flatF [.string (str s)] = Wr.fcells (.string (str s)) from List.append_nil _, ← Wr.flatF_append] at h4
              exact h4
            · have h1 := Hbk2.out b o e
              rcases hg4.blk with h | h
              · rw [h] at e2
                have h2 := (ho.blk b e2.symm).2
                omega
              · rw [h] at e2
                injection e2 with e2
                simp at e2
                omega
          case measure => simp [intOf]; omega
      | false =>
        rw [hkv] at k0 hsn Hkq
        rcases hone : Cd.takeNum cur with _ | ⟨x, r⟩
        · have hno : Wr.taken (ls.map Wr.kindOf) l = none := Wr.taken_none Hkq.out Hu.out (by unfold Wr.one Wr.num; rw [hone]; rfl)
          have Hno := Lib.hid hno
          have hcall := hnum.out B1 bm bc cur wr hrd hbc hbm
          rw [hone] at hcall
          have Hcall := Lib.hid hcall
          clear hno hsn hone hcall
          go_wp2_with fail
          refine Hcall.out.mono ?_
          rintro e w2 ⟨rfl, hb2⟩
          go_wp2
          go_ret2
          rw [Hno.out]
          exact ⟨rfl, below_next hb hb2⟩
        · have hcall := hnum.out B1 bm bc cur wr hrd hbc hbm
          rw [hone] at hcall
          have Hcall := Lib.hid hcall
          clear hcall
          have hcl := hrd.1
          have hrl : r.length ≤ cur.length := (takeNum_bound hone).2.1
          by_cases hx : x < 9223372036854775808
          · have hsn2 : Wr.taken ((ls.map Wr.kindOf).take (q + 1)) l = some (us ++ [.int .i64 (x : Int)], r) := by
              rw [hsn]; unfold Wr.one Wr.num; rw [hone]; show Option.map _ (Option.map _ (if x < 9223372036854775808 then _ else _)) = _; rw [if_pos hx]; rfl
            have Hsn := Lib.hid hsn2
            have hx1 : ¬ (9223372036854775807 : Int) < (x : Int) := by omega
            have hwx := wrap_i64_nat x hx
            clear hsn hsn2 hone
            go_wp2_with fail
            refine Hcall.out.mono ?_
            rintro e w2 ⟨B2, c2, rfl, hor2, hb2⟩
            have hr2 := hor2.rd
            have hc2 := hor2.cap
            have Hbk2 : Hid (∀ b o, B2 = some ⟨b, o, none⟩ → wr.heap.size ≤ b ∧ b < w2.heap.size) := Lib.hid (fun b o e => hor2.blk b (by rw [e]; simp [Value.ownBlock]))
            have ho2 := ho.below hb2
            have hb' := below_next hb hb2
            clear hor2
            go_wp2_with fail
            refine (fnum_any (x : Int) _).mono ?_
            rintro e w3 ⟨rfl, hb3⟩
            have ho3 := ho2.below hb3
            have hb'' := below_next hb' hb3
            have hz3 : w.heap.size ≤ w3.heap.size := hb''.size
            have hzz : w2.heap.size ≤ w3.heap.size := hb3.size
            have hal : w.heap.size ≤ (w3.alloc (.cells (Wr.fcells (.int .i64 (x : Int))).toArray 76)).heap.size := by simp; omega
            have hba := hb''.alloc hz3 (.cells (Wr.fcells (.int .i64 (x : Int))).toArray 76)
            have hra := (hr2.below hb3).below ((Below.refl w3.heap.size w3).alloc (Nat.le_refl _) (.cells (Wr.fcells (.int .i64 (x : Int))).toArray 76))
            have hsz1 : wr.heap.size ≤ w2.heap.size := hb2.size
            go_wp2_with (first | (at_builtin; refine wpList_appC manyF rfl (.tmp 51) (.tmp 55) rfl rfl (ho3.alloc _) ⟨w3.heap.size, 0, none⟩ 1 1 (Wr.fcells (.int .i64 (x : Int))) (Wr.fcells_one _) rfl (rdc_new 3 w3 _ _ 1 rfl (0, 0)) (by omega) hal ?_; intro A4 c4 w4 hg4))
            have hb4 := hg4.below hba hal (fun g e => (ho3.blk g e).1)
            have hr4 := rd_grown hra hg4.grew (fun _ b o e e2 => by
              have h1 := Hbk2.out b o e
              have h2 := (ho.blk b e2.symm).2
              omega)
            go_roundw
            case rel =>
              refine ⟨q + 1, r.length, c2, q + 1, c4, B2, A4, us ++ [.int .i64 (x : Int)], r, by omega, by go_num, rfl, rfl, Hsn, Lib.hid (by rw [List.length_append, Hq.out]; rfl), rfl, hr4, hc2, by omega, ?_, hb4, Lib.hid (fun _ b o e e2 => ?_)⟩
              · have h4 := hg4.own
                rw [← show Wr.flatF [.int .i64 (x : Int)] = Wr.fcells (.int .i64 (x : Int)) from List.append_nil _, ← Wr.flatF_append] at h4
                exact h4
              · have h1 := Hbk2.out b o e
                rcases hg4.blk with h | h
                · rw [h] at e2
                  have h2 := (ho.blk b e2.symm).2
                  omega
                · rw [h] at e2
                  injection e2 with e2
                  simp at e2
                  omega
            case measure => simp [intOf]; omega
          · have hno : Wr.taken (ls.map Wr.kindOf) l = none := Wr.taken_none Hkq.out Hu.out (by unfold Wr.one Wr.num; rw [hone]; show Option.map _ (if x < 9223372036854775808 then _ else _) = _; rw [if_neg hx]; rfl)
            have Hno := Lib.hid hno
            have hx1 : (9223372036854775807 : Int) < (x : Int) := by omega
            clear hno hsn hone
            go_wp2_with fail
            refine Hcall.out.mono ?_
            rintro e w2 ⟨B2, c2, rfl, hor2, hb2⟩
            go_wp2
            go_ret2
            rw [Hno.out]
            exact ⟨rfl, below_next hb hb2⟩
end Go.Proofs.Ytonjjihbpeblkaa
