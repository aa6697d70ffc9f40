/- Log.Add, and what it leaves as it was on the disk. -/
import Derived.Test.YtpggomekbahddaaWlAdd
namespace Go.Proofs.Ytpggomekbahddaa
open Go.RowKit Fi Fr
set_option linter.unusedVariables false
set_option linter.unusedSimpArgs false
namespace Wl
/-- The sectors that are none of the frames from number t on are as they were. -/
def Same (n t : Nat) (st st' : Dk.St) : Prop := ∀ a : Nat, a < 52 → (∀ k : Nat, t ≤ k → k < 8 * n → a ≠ sx k ∧ a ≠ sy k) → st'.readB (a : Int) = st.readB (a : Int)
theorem Same.refl (n t : Nat) (st : Dk.St) : Same n t st st := fun _ _ _ => rfl
theorem Same.then_ {n t : Nat} {a b c : Dk.St} (h : Same n t a b) (k : Same n t b c) : Same n t a c := fun x hx hk => (k x hx hk).trans (h x hx hk)
theorem Same.from_ {n t t' : Nat} {a b : Dk.St} (h : Same n t' a b) (ht : t ≤ t') : Same n t a b := fun x hx hk => h x hx fun k h1 h2 => hk k (Nat.le_trans ht h1) h2
end Wl
/-- Frames that were written, one behind the other. -/
theorem lwriteF_any {n cp kind E c : Nat} {e : Int} {ad : Addr} {Ps : List (List Nat)} {w : World} {d : Nat} {lab : Nat → Tag} {st : Dk.St} (h : IsDisk w d lab st) (hr : RdC 2 w (some ad) n (pv (Wl.pairs n))) (hg : Wl.Lg st n kind E Ps) (h1 : 1 ≤ n) (he : 1 ≤ e ∧ e ≤ (E : Int)) (hE : E ≤ 2147483647) (hk : 1 ≤ kind ∧ kind ≤ 4) (hlow : st.low c) (hc : c ≤ 900) (hi : Ps.length < 8 * n) (Q : Option Addr) (q : Nat) (p : List Nat) (hp : Rd w Q p.length p) (hl : p.length ≤ 108) :
    Calls Try.prog 28 #[.pointer (some ⟨d, 0, none⟩), .agg #[.int .i64 7, .int .i64 e, .slice (some ad) n cp], .int .i64 (kind : Int), .int .i64 (E : Int), .int .i64 (Ps.length : Int), .slice Q p.length q] w fun x w' => x = .returned (.int .i64 0) ∧ ∃ st', Left lab d st' w w' ∧ Wl.Lg st' n kind E (Ps ++ [p]) ∧ st'.low (c + 2) ∧ Wl.Same n Ps.length st st' := by
  have hn := hg.n3
  obtain ⟨x1, x2, _⟩ := Wl.sx_lt (show Ps.length < 24 by omega)
  have hln := hg.free.len
  have hF : (frame kind 7 E Ps.length p).length = 128 := frame_len (by omega)
  have hW := fwrite_any (Wl.pl n e) (some ad) cp kind E 7 Ps.length rfl (Wl.sx Ps.length : Int) (Wl.sy Ps.length : Int) w d lab st c hlow hc h (by show RdC 2 w (some ad) (Wl.pairs n).length (pv (Wl.pairs n)); rw [Wl.pairs_len hn]; exact hr) (by rw [hln]; exact Wl.ok_at h1 hn ⟨he.1, by omega⟩) ⟨by omega, by omega⟩ ⟨he.2, by omega⟩ (by omega) (Wl.fr_at e hn hi) ⟨by rw [hln]; omega, by rw [hln]; omega⟩ Q q p hp hl (hg.free.ready x1) ((hg.free.write x1 hF).1.ready x2)
  unfold Fi.val at hW
  rw [show (Wl.pl n e).ps.length = n from Wl.pairs_len hn] at hW
  refine Calls.mono hW ?_
  rintro x w' ⟨rfl, hL⟩
  refine ⟨rfl, _, hL, hg.add hi hl hp.2.1, low_write (low_write hlow _ _) _ _, fun a ha hk => ?_⟩
  obtain ⟨f1, _, o1⟩ := hg.free.write x1 hF
  obtain ⟨f2, _, o2⟩ := f1.write x2 hF
  obtain ⟨n1, n2⟩ := hk Ps.length (Nat.le_refl _) hi
  exact (o2 a ha n2).trans (o1 a ha n1)
/-- What Add gives. -/
def GivesAddF (w0 w : World) (d lb : Nat) (ad : Addr) (n cp kind E : Nat) (e : Int) (Ps : List (List Nat)) (rc c : Nat) (lab : Nat → Tag) (st : Dk.St) (U : List Nat) (L : List (List Nat)) (x : Ending) (w' : World) : Prop :=
  if 8 * n - Ps.length < (Fg.cut L).length then x = .returned (.int .i64 90) ∧ Below w.heap.size w w'
  else x = .returned (.int .i64 0) ∧ Kp lab lb w w' ∧ ∃ lab' st', At w0 w' d lb ad n cp kind E e (Ps ++ Fg.cut L) (rc + L.length) (c + 2 * (Fg.cut L).length + 1) lab' st' U ∧ Wl.Same n Ps.length st st'
set_option maxRecDepth 100000 in
set_option maxHeartbeats 8000000 in
theorem waddF_any (w0 : World) (d lb : Nat) (ad : Addr) (n cp kind E : Nat) (e : Int) (Ps : List (List Nat)) (rc c : Nat) (lab : Nat → Tag) (st : Dk.St) (U : List Nat) (B : Option Addr) (bc : Nat) (L : List (List Nat)) (w : World) (hA : At w0 w d lb ad n cp kind E e Ps rc c lab st U) (h1 : 1 ≤ n) (he : 1 ≤ e ∧ e ≤ (E : Int)) (hE : E ≤ 2147483647) (hk : 1 ≤ kind ∧ kind ≤ 4) (hL : ∀ r ∈ L, r.length ≤ 8192) (hLn : L.length ≤ 200) (hr : RdB w B L.length L) (hc : c ≤ 800) (hrc : rc ≤ 1000000) :
    Calls Try.prog 9 #[.pointer (some ⟨lb, 0, none⟩), .slice B L.length bc] w (GivesAddF w0 w d lb ad n cp kind E e Ps rc c lab st U L) := by
  have HMd := Lib.hid (made_any lb d n cp (some ad) e (kind : Int) (Ps.length : Int) (E : Int) (rc : Int) w hA.box)
  have hn3 := hA.lg.n3
  have hPl := hA.lg.le
  have HCu := Lib.hid (cut_any B L.length bc L w hr (by omega))
  rw [Fg.cutOut_fit hL (by omega)] at HCu
  have HLf := Lib.hid (fun (W : World) (hW : Below w.heap.size w W) => left_any lb d n cp (some ad) e (kind : Int) (Ps.length : Int) (E : Int) (rc : Int) W (hA.box.below hW) hn3 ⟨by omega, by omega⟩)
  have HA := Lib.hid hA
  have HPar := Lib.hid (And.intro h1 (And.intro he (And.intro hE hk)))
  have HP8 := Lib.hid (Fg.cut_108 hL)
  have HCut0 := Lib.hid (show L = [] → Fg.cut L = [] from fun h => by rw [h]; rfl)
  have HCs := Lib.hid (Nat.le_trans (Fg.cut_many L hL (by omega)) (Nat.le_refl _))
  unfold GivesAddF
  generalize Fg.cut L = P at *
  clear hA he hE hk hL hr h1
  by_cases hfit : 8 * n - Ps.length < P.length
  · have hfi : 8 * (n : Int) - (Ps.length : Int) < (P.length : Int) := by omega
    simp only [if_pos hfit]
    go_enter Try.func9, Try.ntmps9
    go_wp2_with fail
    refine HMd.out.mono ?_
    rintro x v ⟨rfl, rfl⟩
    go_wp2_with fail
    refine HCu.out.mono ?_
    rintro x v1 ⟨PB, pc, rfl, hP, hpc, hb1⟩
    have HB1 := Lib.hid hb1
    have HP1 := Lib.hid hP
    have HLv := Lib.hid (HLf.out v1 hb1)
    clear hb1 hP hpc HMd HCu HLf
    go_wp2_with fail
    refine HLv.out.mono ?_
    rintro x v2 ⟨rfl, hb2⟩
    have HB2 := Lib.hid (below_next HB1.out hb2)
    have HP2 := Lib.hid (HP1.out.below hb2)
    clear hb2 HB1 HP1 HLv
    go_wp2
    go_ret
    exact ⟨rfl, HB2.out⟩
  have hfi : ¬ 8 * (n : Int) - (Ps.length : Int) < (P.length : Int) := by omega
  simp only [if_neg hfit]
  by_cases hL0 : L = []
  · have hl0 : ((L.length : Int) == 0) = true := by simp [hL0]
    have HL0 := Lib.hid hL0
    clear hL0
    go_enter Try.func9, Try.ntmps9
    go_wp2_with fail
    refine HMd.out.mono ?_
    rintro x v ⟨rfl, rfl⟩
    go_wp2_with fail
    refine HCu.out.mono ?_
    rintro x v1 ⟨PB, pc, rfl, hP, hpc, hb1⟩
    have HB1 := Lib.hid hb1
    have HP1 := Lib.hid hP
    have HLv := Lib.hid (HLf.out v1 hb1)
    clear hb1 hP hpc HMd HCu HLf
    go_wp2_with fail
    refine HLv.out.mono ?_
    rintro x v2 ⟨rfl, hb2⟩
    have HB2 := Lib.hid (below_next HB1.out hb2)
    have HP2 := Lib.hid (HP1.out.below hb2)
    clear hb2 HB1 HP1 HLv
    go_wp2
    go_ret
    exact ⟨rfl, Kp.of_below HB2.out, lab, st, by rw [HCut0.out HL0.out, HL0.out, List.append_nil]; exact (HA.out.next HB2.out).more, Wl.Same.refl _ _ _⟩
  · have hl0 : ((L.length : Int) == 0) = false := by simp [hL0]
    clear hL0
    go_enter Try.func9, Try.ntmps9
    go_wp2_with fail
    refine HMd.out.mono ?_
    rintro x v ⟨rfl, rfl⟩
    go_wp2_with fail
    refine HCu.out.mono ?_
    rintro x v1 ⟨PB, pc, rfl, hP, hpc, hb1⟩
    have HB1 := Lib.hid hb1
    have HP1 := Lib.hid hP
    have HLv := Lib.hid (HLf.out v1 hb1)
    clear hb1 hP hpc HMd HCu HLf
    go_wp2_with fail
    refine HLv.out.mono ?_
    rintro x v2 ⟨rfl, hb2⟩
    have HB2 := Lib.hid (below_next HB1.out hb2)
    have HP2 := Lib.hid (HP1.out.below hb2)
    clear hb2 HB1 HP1 HLv
    go_upto_region 10 with fail
    have HA2 := Lib.hid (HA.out.next HB2.out)
    have HLab := Lib.hid (fun (k : Nat) (hk : w.heap.size ≤ k) => HA.out.ds.disk.new_ hk)
    have hlbn := (HA.out.ds.un lb (by simp)).1
    have hadn := (HA.out.ds.un ad.block (by simp)).1
    have HLb := Lib.hid hlbn
    have HAd := Lib.hid (show ∀ b o, some ad = some (⟨b, o, none⟩ : Addr) → lab b = .no from fun b o e => by injection e with e; rw [← show ad.block = b by rw [e]]; exact hadn)
    clear hlbn hadn
    go_wp2_with fail
    go_loopw [32] (fun ii wr => ∃ (k : Nat) (st' : Dk.St), k ≤ P.length ∧ ii = .int .i64 (k : Int) ∧ Hid (Left lab d st' v2 wr) ∧ Hid (Wl.Lg st' n kind E (Ps ++ P.take k)) ∧ Hid (st'.low (c + 2 * k)) ∧ Hid (Wl.Same n Ps.length st st')) (fun ii _ => P.length - (intOf ii).toNat)
    case atStart => exact ⟨0, st, Nat.zero_le _, rfl, Lib.hid (Left.refl HA2.out.ds.disk), Lib.hid (by simpa using HA2.out.lg), Lib.hid HA2.out.low, Lib.hid (Wl.Same.refl _ _ _)⟩
    case round =>
      obtain ⟨k, st', hk, rfl, HLf, HG, HW, HSm⟩ := hrel
      obtain ⟨lab', hdk, hch, hlab⟩ := HLf.out
      have HBx := Lib.hid (hch.holds HA2.out.box HLb.out)
      have HRt := Lib.hid (hch.rdc HA2.out.rt HAd.out)
      have HPn := Lib.hid (HP2.out.chg hch HLab.out)
      have HLw := Lib.hid ((hlab lb HA2.out.box.1).trans HLb.out)
      have HAw := Lib.hid (show ∀ b o, some ad = some (⟨b, o, none⟩ : Addr) → lab' b = .no from fun b o e => by
        have h2 := (HA2.out.ds.un ad.block (by simp)).2
        injection e with e
        rw [show b = ad.block by rw [e]]
        exact (hlab _ h2).trans (HAd.out ad.block o (by rw [e])))
      by_cases hkn : k < P.length
      · have hki : (k : Int) < (P.length : Int) := by omega
        obtain ⟨pb, po, Q, qc, p, rfl, hpb, hpk, hcell, hrd, hqc, hqm⟩ := HPn.out.rd.at_ hkn
        have hk0 : (0 : Int) ≤ (k : Int) := by omega
        have hlen : (Ps ++ P.take k).length = Ps.length + k := by rw [List.length_append, List.length_take]; omega
        have HSn := Lib.hid (show Ps ++ P.take (k + 1) = (Ps ++ P.take k) ++ [p] by rw [List.take_add_one, hpk, List.append_assoc]; rfl)
        have hsum : IntKind.i64.wrap ((Ps.length : Int) + (k : Int)) = (Ps.length : Int) + (k : Int) := by rw [IntKind.wrap_i64]; omega
        have hcast : (((Ps ++ P.take k).length : Nat) : Int) = (Ps.length : Int) + (k : Int) := by rw [hlen]; omega
        have HWr := Lib.hid (fun (W : World) (hW : Below wr.heap.size wr W) => (by have h := lwriteF_any (cp := cp) (hdk.below hW) (HRt.out.below hW) HG.out HPar.out.1 HPar.out.2.1 HPar.out.2.2.1 HPar.out.2.2.2 HW.out (by omega) (by rw [hlen]; omega) Q qc p (hrd.below hW) (HP8.out p (List.mem_of_getElem? hpk)); rw [hcast] at h; exact h))
        have HCs2 := Lib.hid (fun (W : World) (hW : Below wr.heap.size wr W) => (HBx.out.below hW).seven)
        have HCh := Lib.hid (And.intro hch hlab)
        have hd : Below wr.heap.size wr wr.drew := (Below.refl _ _).drew
        clear hdk hch hlab hrd hpk hqc hqm hlen hkn hcast
        go_upto_region 13 with fail
        go_region_held3 (fun w' => w'.cell? ⟨lb, 0, none⟩ = some (.int .i64 7) ∧ w'.cell? ⟨lb, 1, none⟩ = some (.int .i64 e) ∧ w'.cell? ⟨lb, 2, none⟩ = some (.slice (some ad) n cp) ∧ w'.cell? ⟨lb, 3, none⟩ = some (.int .i64 (kind : Int)) ∧ w'.cell? ⟨lb, 4, none⟩ = some (.int .i64 (Ps.length : Int)) ∧ w'.cell? ⟨lb, 5, none⟩ = some (.pointer (some ⟨d, 0, none⟩)) ∧ w'.cell? ⟨lb, 6, none⟩ = some (.int .i64 (E : Int))) (first | exact HCs2.out _ hd | exact hs3) (first | (go_at_call 28; refine (HWr.out _ hd).mono ?_; rintro x v3 ⟨rfl, st3, hL3, hG3, hw3, hsm3⟩; obtain ⟨lab3, hdk3, hch3, hlab3⟩ := hL3; have hs3 := (hch3.holds (HBx.out.below hd) HLw.out).seven))
        have HL3 := Lib.hid (Left.then_ (HCh.out.1.trans HCh.out.2 (Chg.of_below hd)) HCh.out.2 ⟨lab3, hdk3, hch3, hlab3⟩)
        rw [← HSn.out] at hG3
        have HG3 := Lib.hid hG3
        have HSm3 := Lib.hid (HSm.out.then_ (hsm3.from_ (by rw [List.length_append]; omega)))
        clear hsm3
        have HW3 := Lib.hid (show st3.low (c + 2 * (k + 1)) from hw3)
        clear hdk3 hch3 hlab3 hG3 hw3 hs3 hd HWr HCs2 HCh
        go_wp2_with fail
        go_roundw
        case rel => exact ⟨k + 1, st3, by omega, by go_num, HL3, HG3, HW3, HSm3⟩
        case measure => simp [intOf]; omega
      · have hkn2 : k = P.length := by omega
        have hki : ¬ (k : Int) < (P.length : Int) := by omega
        subst hkn2
        rw [List.take_length] at HG
        obtain ⟨hGf, hfE⟩ := HG.out.flush
        have hFl := flush_any (c + 2 * P.length) wr d lab' st' hdk HW.out (by omega)
        rw [hfE] at hFl
        have HFl := Lib.hid hFl
        have HGf := Lib.hid hGf
        have HCh := Lib.hid (And.intro hch hlab)
        have hw1 : IntKind.i64.wrap ((Ps.length : Int) + (P.length : Int)) = (Ps.length : Int) + (P.length : Int) := by rw [IntKind.wrap_i64]; omega
        have hw2 : IntKind.i64.wrap ((rc : Int) + (L.length : Int)) = (rc : Int) + (L.length : Int) := by rw [IntKind.wrap_i64]; omega
        have y5 := HBx.out.at_ 5 rfl
        clear hdk hch hlab hGf hfE hFl
        go_wp2_with fail
        refine HFl.out.mono ?_
        rintro x v4 ⟨rfl, lab4, hdk4, hch4, hlab4⟩
        have HB4 := Lib.hid (hch4.holds HBx.out HLw.out)
        have HR4 := Lib.hid (hch4.rdc HRt.out HAw.out)
        have HL4 := Lib.hid (show Left lab d st'.flush v2 v4 from Left.then_ HCh.out.1 HCh.out.2 ⟨lab4, hdk4, hch4, hlab4⟩)
        have HKp := Lib.hid (show Kp lab lb w v4 from Kp.of_chg ((Chg.of_below HB2.out).trans (Lab.refl _ _) (HCh.out.1.trans HCh.out.2 hch4)))
        have HW4 := Lib.hid (low_flush HW.out)
        have HQ1 := Lib.hid (show (Ps.length : Int) + (P.length : Int) = ((Ps ++ P).length : Int) by rw [List.length_append]; omega)
        have HQ2 := Lib.hid (show (rc : Int) + (L.length : Int) = ((rc + L.length : Nat) : Int) by omega)
        have hge : w0.heap.size ≤ lb := HA2.out.old
        have z4 := HB4.out.at_ 4 rfl
        have z7 := HB4.out.at_ 7 rfl
        have f4 := HB4.out.2.2 4
        have f7 := HB4.out.2.2 7
        clear hdk4 hch4 hlab4 y5 HFl HLf HPn HP2
        go_wp2_with fail
        go_ret
        refine ⟨rfl, HKp.out.cell.cell, ?_⟩
        rw [HQ1.out, HQ2.out]
        obtain ⟨lab5, hD5, _⟩ := HA2.out.ds.left HL4.out
        have hne := HA2.out.ne
        have hfl := (HG.out.free.flush).2.2
        exact ⟨lab5, st'.flush, ⟨(hD5.cell (by simp) hge).cell (by simp) hge, (HB4.out.set 4 _ (by simp)).set 7 _ (by simp), (HR4.out.grownC (grown_cell _ _ _ _) (fun b o e e2 => by injection e with e; injection e2 with e2; exact hne (by rw [e, e2]))).grownC (grown_cell _ _ _ _) (fun b o e e2 => by injection e with e; injection e2 with e2; exact hne (by rw [e, e2])), HGf.out, HW4.out, hne, hge⟩, HSm.out.then_ (fun a ha _ => (hfl a ha).1)⟩
end Go.Proofs.Ytpggomekbahddaa
