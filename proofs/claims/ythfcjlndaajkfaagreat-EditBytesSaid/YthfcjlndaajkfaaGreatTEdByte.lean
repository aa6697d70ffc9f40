/- edit.Bytes: edits' bytes. -/
import Derived.Test.YthfcjlndaajkfaaGreatG13
namespace Go.Proofs.YthfcjlndaajkfaaGreat
open Go.RowKit
set_option linter.unusedVariables false
/-- put does an edit. -/
def PutOk (x : Ed.Ex) : Prop := ∀ (base : Nat) (B : Option Addr) (n cap : Nat) (bs : List Nat) (w : World), Own w base B n cap bs → base ≤ w.heap.size → Ed.ExOk w x → (0 < x.1.pn → Off x.1.P B) → (0 < x.1.t.pn → Off x.1.t.P B) → n ≤ 4000000 →
  Calls Tryz.prog 52 #[.slice B n cap, .agg x.1.cells.toArray] w (GivesPut w base B (bs ++ Ed.edB (Ed.etOf x)))
theorem Ed.pl_pos {p : Ed.Pl} (h : p.ok = true) : 0 < p.ps.length := by
  unfold Ed.Pl.ok Ed.okP at h
  simp only [Bool.and_eq_true, Ed.from_iff] at h
  have := h.1.1.2
  omega
theorem putOk_of (x : Ed.Ex) (ho : (Ed.etOf x).ok = true) (h6 : x.1.kd ≠ 6) : PutOk x := by
  intro base B n cap bs w h hb hx hp hq hn
  have hk := Ed.kinds ho
  obtain ⟨⟨kd, id, nn, pid, pep, P, pn, pc, ⟨tid, tep, Q, qn, qc, sz, lv, ct, lo, hi, tp⟩⟩, ps, qs⟩ := x
  obtain ⟨hP, hQ, hfit⟩ := hx
  rcases hk with hk | hk | hk | hk | hk | hk | hk <;> replace hk : kd = _ := hk <;> subst hk
  · exact put1_any base B n cap bs id nn pid pep P pn pc ps tid tep Q qn qc sz lv ct lo hi tp qs w h hb ho hn
  · exact put2_any base B n cap bs id nn pid pep P pn pc ps tid tep Q qn qc sz lv ct lo hi tp qs w h hb ho hn
  · have h3 : (⟨pid, pep, ps⟩ : Ed.Pl).ok = true := Ed.ok3 ho rfl
    have h4 : 0 < ps.length := Ed.pl_pos h3
    exact put3_any base B n cap bs id nn pid pep P pn pc ps tid tep Q qn qc sz lv ct lo hi tp qs w h hb hP (hp (by have h5 : ps.length = pn := hP.1.1; show 0 < pn; omega)) ho hn
  · exact put4_any base B n cap bs id nn pid pep P pn pc ps tid tep Q qn qc sz lv ct lo hi tp qs w h hb ho hn
  · exact put5_any base B n cap bs id nn pid pep P pn pc ps tid tep Q qn qc sz lv ct lo hi tp qs w h hb ho hn
  · exact absurd rfl h6
  · exact put7_any base B n cap bs id nn pid pep P pn pc ps tid tep Q qn qc sz lv ct lo hi tp qs w h hb ho hn
theorem Ed.plB_len {p : Ed.Pl} (h : p.ok = true) : (Ed.plB p).length ≤ 33 + 64 * 22 := by
  unfold Ed.plB
  rw [List.length_append]
  have h1 := Ed.nsB_len [p.id, p.ep, (p.ps.length : Int)]
  have h2 := Ed.pl_len p.ps
  have h3 := (Ed.okP_q h).2.1
  simp only [List.length_cons, List.length_nil] at h1
  omega
theorem Ed.text_len {s : ByteArray} (h : s.size ≤ 64) : (Cd.text s).length ≤ 75 := by
  unfold Cd.text
  rw [List.length_append]
  have h1 := Ed.numF_len 10 s.size
  have h2 : (bs s).length = s.size := by unfold bs; simp
  have h3 : (Cd.num s.size).length ≤ 11 := h1
  omega
theorem Ed.edB_len {e : Ed.Et} (h : e.ok = true) : (Ed.edB e).length ≤ 2000 := by
  unfold Ed.edB
  rw [List.length_cons]
  have a1 := Ed.nsB_len [e.id]
  have a2 := Ed.nsB_len [e.n]
  simp only [List.length_cons, List.length_nil] at a1 a2
  unfold Ed.etB
  split
  · rw [List.length_append]; omega
  split
  · omega
  split
  · omega
  split
  · rename_i hk
    have := Ed.plB_len (Ed.ok3 h hk)
    omega
  split
  · rename_i hk
    have h6 := Ed.ok6 h hk
    have b1 := Ed.plB_len (Ed.okT_q h6).1
    unfold Ed.Ta.ok Ed.okT at h6
    simp only [Bool.and_eq_true, Ed.from_iff] at h6
    have b2 := Ed.text_len (s := e.t.lo) (by have := h6.1.1.2; omega)
    have b3 := Ed.text_len (s := e.t.hi) (by have := h6.1.2; omega)
    have b4 := Ed.nsB_len [e.t.sz, e.t.lv, e.t.ct]
    have b5 := Ed.nsB_len [e.t.tp]
    simp only [List.length_cons, List.length_nil] at b4 b5
    unfold Ed.taB
    simp only [List.length_append]
    omega
  · omega
/-- What Bytes hands back. -/
def GivesBt (w : World) (l : List Ed.Et) (e : Ending) (w' : World) : Prop :=
  Below w.heap.size w w' ∧ (256 < l.length → e = .returned (.tuple #[.slice none 0 0, .int .i64 3])) ∧ (l.length ≤ 256 → l.all Ed.Et.ok = false → e = .returned (.tuple #[.slice none 0 0, .int .i64 150])) ∧
  (l.length ≤ 256 → l.all Ed.Et.ok = true → ∃ B cap, e = .returned (.tuple #[.slice B (Ed.bytes l).length cap, .int .i64 0]) ∧ Own w' w.heap.size B (Ed.bytes l).length cap (Ed.bytes l))
theorem GivesBt.many {w w' : World} {l : List Ed.Et} (h : 256 < l.length) (hb : Below w.heap.size w w') : GivesBt w l (.returned (.tuple #[.slice none 0 0, .int .i64 3])) w' := ⟨hb, fun _ => rfl, fun h2 => by omega, fun h2 => by omega⟩
theorem GivesBt.no {w w' : World} {l : List Ed.Et} (h : l.length ≤ 256) (ho : l.all Ed.Et.ok = false) (hb : Below w.heap.size w w') : GivesBt w l (.returned (.tuple #[.slice none 0 0, .int .i64 150])) w' := ⟨hb, fun h2 => by omega, fun _ _ => rfl, fun _ h2 => by rw [ho] at h2; cases h2⟩
theorem GivesBt.yes {w w' : World} {l : List Ed.Et} {B : Option Addr} {bs : List Nat} {cap : Nat} (h : l.length ≤ 256) (ho : l.all Ed.Et.ok = true) (hbs : bs = Ed.bytes l) (hO : Own w' w.heap.size B bs.length cap bs) (hb : Below w.heap.size w w') : GivesBt w l (.returned (.tuple #[.slice B bs.length cap, .int .i64 0])) w' := ⟨hb, fun h2 => by omega, fun _ h2 => (by rw [ho] at h2; cases h2), fun _ _ => ⟨B, cap, by rw [hbs], by rw [← hbs]; exact hO⟩⟩
set_option maxRecDepth 100000 in
set_option maxHeartbeats 16000000 in
theorem bytes_any (A : Option Addr) (q qc : Nat) (E : List Ed.Ex) (w : World) (hE : RdEs w A q E) (hq : q ≤ 100000) (hput : ∀ x ∈ E, (Ed.etOf x).ok = true → PutOk x) :
    Calls Tryz.prog 21 #[.slice A q qc] w (GivesBt w (E.map Ed.etOf)) := by
  have HE := Lib.hid hE
  have HEl : Hid (E.length = q) := Lib.hid hE.1
  have HPut := Lib.hid hput
  have HML := Lib.hid (show (E.map Ed.etOf).length = q by rw [List.length_map]; exact hE.1)
  clear hE hput
  go_enter Tryz.func21, Tryz.ntmps21
  by_cases h256 : 256 < q
  · have hi : (256 : Int) < (q : Int) := by omega
    have HG := Lib.hid (GivesBt.many (w := w) (w' := w) (l := E.map Ed.etOf) (by rw [HML.out]; exact h256) (Below.refl _ _))
    go_wp2
    go_ret2
    exact HG.out
  have hi : ¬ (256 : Int) < (q : Int) := by omega
  have HNum := Lib.hid (num_any q (by omega) w)
  go_wp2_with fail
  refine HNum.out.mono ?_
  rintro e v ⟨B0, c0, rfl, hO0, hb0⟩
  have HO0 := Lib.hid hO0
  have HB0 := Lib.hid hb0
  clear hO0 hb0 HNum
  go_wp2_with fail
  go_loopw [4, 16] (fun s4 ii wr => ∃ (k : Nat) (B : Option Addr) (l : List Nat) (cap : Nat), k ≤ q ∧ ii = .int .i64 (k : Int) ∧ s4 = .slice B l.length cap ∧ Hid (Own wr w.heap.size B l.length cap l) ∧ Hid (Below w.heap.size w wr) ∧ Hid (l = Ed.nB (q : Int) ++ ((E.map Ed.etOf).take k).flatMap Ed.edB) ∧ Hid (∀ y ∈ (E.map Ed.etOf).take k, y.ok = true) ∧ l.length ≤ 11 + k * 2000) (fun _ ii _ => q - (intOf ii).toNat)
  case atStart => exact ⟨0, B0, Cd.num q, c0, by omega, rfl, rfl, HO0, HB0, Lib.hid (by unfold Ed.nB; simp), Lib.hid (fun y hy => by simp at hy), by have : (Cd.num q).length ≤ 11 := Ed.numF_len 10 q; omega⟩
  case round =>
    clear HO0 HB0
    obtain ⟨k, B, l, cap, hk, rfl, rfl, HO, HB, HL, HOk, hlen⟩ := hrel
    by_cases hlt : k < q
    · have hki : (k : Int) < (q : Int) := by omega
      have hk0 : (0 : Int) ≤ (k : Int) := by omega
      obtain ⟨y, hy⟩ : ∃ y, E[k]? = some y := ⟨_, List.getElem?_eq_getElem (by rw [HEl.out]; exact hlt)⟩
      obtain ⟨b, o, hAb, hxo, hc⟩ := HE.out.at_ hy
      have hm : (E.map Ed.etOf)[k]? = some (Ed.etOf y) := by rw [List.getElem?_map, hy]; rfl
      have HT := Lib.hid (show (E.map Ed.etOf).take (k + 1) = (E.map Ed.etOf).take k ++ [Ed.etOf y] by rw [List.take_add_one, hm]; rfl)
      have HMem := Lib.hid (List.mem_of_getElem? hm)
      have HPy := Lib.hid (HPut.out y (List.mem_of_getElem? hy))
      have HXw := Lib.hid hxo
      subst hAb
      have HXo := Lib.hid (hxo.below HB.out)
      have hcw := hc wr HB.out
      have HMay := Lib.hid (fun (W : World) (h3 : Ed.ExOk W y) => may_any y W h3)
      clear hc hy hxo hm
      have HEl2 := Lib.hid (Ed.edB_len (e := Ed.etOf y))
      obtain ⟨ey, hey⟩ : ∃ e, e = Ed.etOf y := ⟨_, rfl⟩
      rw [← hey] at HT HMem HPy HEl2 HMay
      have HPd := Lib.hid (show ey.ok = true → ∀ (base : Nat) (B : Option Addr) (n cap : Nat) (bs : List Nat) (w : World), Own w base B n cap bs → base ≤ w.heap.size → Ed.ExOk w y → (0 < y.1.pn → Off y.1.P B) → (0 < y.1.t.pn → Off y.1.t.P B) → n ≤ 4000000 → Calls Tryz.prog 52 #[.slice B n cap, .agg y.1.cells.toArray] w (GivesPut w base B (bs ++ Ed.edB ey)) from by rw [hey] at HPy ⊢; exact HPy.out)
      clear HPy hey
      obtain ⟨⟨kd, id, nn, pid, pep, P, pn, pc, ⟨tid, tep, Q, qn, qc, sz, lv, ct, lo, hi, tp⟩⟩, ps, qs⟩ := y
      replace HMay : Hid (∀ (W : World), Ed.ExOk W _ → Calls Tryz.prog 47 #[.agg #[.int .i64 kd, .int .i64 id, .int .i64 nn, .int .i64 pid, .int .i64 pep, .slice P pn pc, .int .i64 tid, .int .i64 tep, .slice Q qn qc, .int .i64 sz, .int .i64 lv, .int .i64 ct, .string lo, .string hi, .int .i64 tp]] W fun e w' => e = .returned (.bool ey.ok) ∧ Below W.heap.size W w') := HMay
      replace HPd : Hid (ey.ok = true → ∀ (base : Nat) (B : Option Addr) (n cap : Nat) (bs : List Nat) (w : World), Own w base B n cap bs → base ≤ w.heap.size → Ed.ExOk w _ → (0 < pn → Off P B) → (0 < qn → Off Q B) → n ≤ 4000000 → Calls Tryz.prog 52 #[.slice B n cap, .agg #[.int .i64 kd, .int .i64 id, .int .i64 nn, .int .i64 pid, .int .i64 pep, .slice P pn pc, .int .i64 tid, .int .i64 tep, .slice Q qn qc, .int .i64 sz, .int .i64 lv, .int .i64 ct, .string lo, .string hi, .int .i64 tp]] w (GivesPut w base B (bs ++ Ed.edB ey))) := HPd
      have e0 : wr.cell? ⟨b, o + k * 15, none⟩ = some (.int .i64 kd) := hcw 0 _ rfl
      have e1 : wr.cell? ⟨b, o + k * 15 + 1, none⟩ = some (.int .i64 id) := hcw 1 _ rfl
      have e2 : wr.cell? ⟨b, o + k * 15 + 2, none⟩ = some (.int .i64 nn) := hcw 2 _ rfl
      have e3 : wr.cell? ⟨b, o + k * 15 + 3, none⟩ = some (.int .i64 pid) := hcw 3 _ rfl
      have e4 : wr.cell? ⟨b, o + k * 15 + 4, none⟩ = some (.int .i64 pep) := hcw 4 _ rfl
      have e5 : wr.cell? ⟨b, o + k * 15 + 5, none⟩ = some (.slice P pn pc) := hcw 5 _ rfl
      have e6 : wr.cell? ⟨b, o + k * 15 + 6, none⟩ = some (.int .i64 tid) := hcw 6 _ rfl
      have e7 : wr.cell? ⟨b, o + k * 15 + 7, none⟩ = some (.int .i64 tep) := hcw 7 _ rfl
      have e8 : wr.cell? ⟨b, o + k * 15 + 8, none⟩ = some (.slice Q qn qc) := hcw 8 _ rfl
      have e9 : wr.cell? ⟨b, o + k * 15 + 9, none⟩ = some (.int .i64 sz) := hcw 9 _ rfl
      have e10 : wr.cell? ⟨b, o + k * 15 + 10, none⟩ = some (.int .i64 lv) := hcw 10 _ rfl
      have e11 : wr.cell? ⟨b, o + k * 15 + 11, none⟩ = some (.int .i64 ct) := hcw 11 _ rfl
      have e12 : wr.cell? ⟨b, o + k * 15 + 12, none⟩ = some (.string lo) := hcw 12 _ rfl
      have e13 : wr.cell? ⟨b, o + k * 15 + 13, none⟩ = some (.string hi) := hcw 13 _ rfl
      have e14 : wr.cell? ⟨b, o + k * 15 + 14, none⟩ = some (.int .i64 tp) := hcw 14 _ rfl
      clear hcw
      have hal : Below wr.heap.size wr (wr.alloc (.cells #[.int .i64 kd, .int .i64 id, .int .i64 nn, .int .i64 pid, .int .i64 pep, .slice P pn pc, .int .i64 tid, .int .i64 tep, .slice Q qn qc, .int .i64 sz, .int .i64 lv, .int .i64 ct, .string lo, .string hi, .int .i64 tp] 37)) := (Below.refl _ _).alloc (Nat.le_refl _) _
      have HXe := Lib.hid (Holds.new wr #[.int .i64 kd, .int .i64 id, .int .i64 nn, .int .i64 pid, .int .i64 pep, .slice P pn pc, .int .i64 tid, .int .i64 tep, .slice Q qn qc, .int .i64 sz, .int .i64 lv, .int .i64 ct, .string lo, .string hi, .int .i64 tp] 37)
      have HOa := Lib.hid (HO.out.below hal)
      have HXa := Lib.hid (HXo.out.below hal)
      have HBa := Lib.hid (below_next HB.out hal)
      clear hal
      go_upto_region 7 with fail
      clear e0 e1 e2 e3 e4 e5 e6 e7 e8 e9 e10 e11 e12 e13 e14 HO HXo HB
      generalize (wr.alloc (.cells #[.int .i64 kd, .int .i64 id, .int .i64 nn, .int .i64 pid, .int .i64 pep, .slice P pn pc, .int .i64 tid, .int .i64 tep, .slice Q qn qc, .int .i64 sz, .int .i64 lv, .int .i64 ct, .string lo, .string hi, .int .i64 tp] 37)) = wa at *
      generalize wr.heap.size = xb at *
      replace HXe : Hid (Holds wa xb [.int .i64 kd, .int .i64 id, .int .i64 nn, .int .i64 pid, .int .i64 pep, .slice P pn pc, .int .i64 tid, .int .i64 tep, .slice Q qn qc, .int .i64 sz, .int .i64 lv, .int .i64 ct, .string lo, .string hi, .int .i64 tp]) := HXe
      obtain ⟨x0, x1, x2, x3, x4, x5, x6, x7, x8, x9, x10, x11, x12, x13, x14⟩ := HXe.out.all15
      have M1 := Lib.hid (HMay.out wa HXa.out)
      cases heo : ey.ok with
      | false =>
        rw [heo] at M1
        have HG := Lib.hid (fun (w' : World) (hb : Below w.heap.size w w') => GivesBt.no (w := w) (w' := w') (l := E.map Ed.etOf) (by rw [HML.out]; omega) (by rw [List.all_eq_false]; exact ⟨ey, HMem.out, by rw [heo]; decide⟩) hb)
        go_wp2_with fail
        refine M1.out.mono ?_
        rintro e v1 ⟨rfl, hb1⟩
        have HB1 := Lib.hid (below_next HBa.out hb1)
        clear x0 x1 x2 x3 x4 x5 x6 x7 x8 x9 x10 x11 x12 x13 x14 hb1 HXe HXa HBa HOa HMay
        go_wp2
        go_ret2
        exact HG.out _ HB1.out
      | true =>
        rw [heo] at M1
        go_wp2_with fail
        refine M1.out.mono ?_
        rintro e v1 ⟨rfl, hb1⟩
        have HB1 := Lib.hid (below_next HBa.out hb1)
        have HXf := Lib.hid (HXe.out.below hb1)
        have HO1 := Lib.hid (HOa.out.below hb1)
        have D1 := Lib.hid (HPd.out heo w.heap.size B l.length cap l v1 (HOa.out.below hb1) HB1.out.size (HXa.out.below hb1) (fun h0 g hg e => by
          have h1 := (HO1.out.blk g (by rw [ownBlock_eq]; exact e)).1
          obtain ⟨b2, o2, hA2, hb2, _⟩ := HXw.out.1.1.2.2 h0
          replace hA2 : P = _ := hA2
          rw [hA2] at hg
          injection hg with hg
          have : b2 = g := hg
          omega) (fun h0 g hg e => by
          have h1 := (HO1.out.blk g (by rw [ownBlock_eq]; exact e)).1
          obtain ⟨b2, o2, hA2, hb2, _⟩ := HXw.out.2.1.1.2.2 h0
          replace hA2 : Q = _ := hA2
          rw [hA2] at hg
          injection hg with hg
          have : b2 = g := hg
          omega) (by omega))
        have hl2 : (l ++ Ed.edB ey).length ≤ 11 + (k + 1) * 2000 := by rw [List.length_append]; have := HEl2.out heo; omega
        have HLn := Lib.hid (show l ++ Ed.edB ey = Ed.nB (q : Int) ++ ((E.map Ed.etOf).take (k + 1)).flatMap Ed.edB by rw [HT.out, List.flatMap_append, HL.out, List.append_assoc]; simp)
        have HOkn := Lib.hid (show ∀ y ∈ (E.map Ed.etOf).take (k + 1), y.ok = true from fun y hy => by
          rw [HT.out] at hy
          rcases List.mem_append.1 hy with hy | hy
          · exact HOk.out y hy
          · rw [List.mem_singleton.1 hy]; exact heo)
        clear x0 x1 x2 x3 x4 x5 x6 x7 x8 x9 x10 x11 x12 x13 x14 hb1 HXe HXa HBa HMay HPd HXw
        obtain ⟨x0, x1, x2, x3, x4, x5, x6, x7, x8, x9, x10, x11, x12, x13, x14⟩ := HXf.out.all15
        go_wp2_with fail
        refine D1.out.mono ?_
        rintro e v2 ⟨B2, c2, rfl, hp2⟩
        have HB2 := Lib.hid (hp2.below HB1.out HB1.out.size HO1.out (Nat.le_refl _))
        have HO2 := Lib.hid hp2.own
        clear x0 x1 x2 x3 x4 x5 x6 x7 x8 x9 x10 x11 x12 x13 x14 hp2 HXf HB1 HO1 HOa D1
        generalize l ++ Ed.edB ey = l2 at *
        go_wp2
        go_roundw
        case rel => exact ⟨k + 1, B2, l2, c2, by omega, by go_num, rfl, HO2, HB2, HLn, HOkn, hl2⟩
        case measure => simp [intOf]; omega
    · have hki : ¬ (k : Int) < (q : Int) := by omega
      have HG := Lib.hid (show GivesBt w (E.map Ed.etOf) (.returned (.tuple #[.slice B l.length cap, .int .i64 0])) wr from by
        have hk : (E.map Ed.etOf).take k = E.map Ed.etOf := List.take_of_length_le (by rw [HML.out]; omega)
        have h1 := HL.out
        have h2 := HOk.out
        rw [hk] at h1 h2
        exact GivesBt.yes (by rw [HML.out]; omega) (List.all_eq_true.2 h2) (by rw [h1]; unfold Ed.bytes; rw [HML.out]) HO.out HB.out)
      clear hlt
      go_wp2
      go_ret2
      exact HG.out
end Go.Proofs.YthfcjlndaajkfaaGreat
