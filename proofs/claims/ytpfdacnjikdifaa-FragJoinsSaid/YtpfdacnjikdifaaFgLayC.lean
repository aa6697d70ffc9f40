/- What the function does that Cut hands to walk: its text walked. -/
import Derived.Test.YtpfdacnjikdifaaFgLay
namespace Go.Proofs.Ytpfdacnjikdifaa
open Go.RowKit
set_option linter.unusedVariables false
/-- The row's cell of the last payload. -/
theorem Mid.last {a v : World} {p g : Nat} {n cap c : Nat} {vs : List Value} {old : Value} {out : List (List Nat)} {B : Option Addr} {cur : List Nat} (h : Mid a p v (some ⟨g, 0, none⟩) n cap vs old out B c cur) : v.cell? ⟨g, vs.length, none⟩ = some old :=
  h.row.cell (by rw [List.getElem?_append_right (Nat.le_refl _), Nat.sub_self]; rfl)
def Opened (a : World) (p g n cap : Nat) (vs : List Value) (old : Value) (out : List (List Nat)) (cur : List Nat) (s : Value) (wx : World) : Prop :=
  ∃ (B : Option Addr) (c : Nat), s = .slice B cur.length c ∧ Mid a p wx (some ⟨g, 0, none⟩) n cap vs old out B c cur
set_option maxRecDepth 100000 in
set_option maxHeartbeats 8000000 in
theorem lays_cut (recs : List (List Nat)) (a : World) (p q : Nat) (hap : p = a.heap.size) (hq : q < p) (RA : Option Addr) (rn rc : Nat) (hqc : a.cell? ⟨q, 0, none⟩ = some (.slice RA rn rc)) (hrb : RdB a RA rn recs) : LaysCut p q recs (PaysAt a p) := by
  intro b st v i f t kd fr r hr hft htr hfit hb hroom hkd hst hfr hP
  rw [mid_lay hb hfr]
  have hlen := Fg.lay_len (k := kd) (c := (r.drop f).take (t - f)) hfit (by rw [List.length_take, List.length_drop]; omega)
  rw [mid_lay hb hfr] at hlen
  have hmo : (mid b st fr).1.length ≤ 100001 := by
    unfold mid
    cases fr with
    | true => cases b with
      | true => simp; omega
      | false => simp
    | false => simp; omega
  have hmc : (mid b st fr).2.length ≤ 108 := by have := hlen.1; simp at this; omega
  obtain ⟨M, hM⟩ : ∃ M, M = mid b st fr := ⟨_, rfl⟩
  rw [← hM] at hmo hmc ⊢
  have hin : i < recs.length := (List.getElem?_eq_some_iff.1 hr).1
  obtain ⟨rb, ro, RB, c2, r2, rfl, hrb1, hr2, hrcell, hrd, hrc2, hrm⟩ := hrb.at_ (by rw [← hrb.len]; exact hin)
  rw [hr] at hr2
  injection hr2 with hr2
  subst hr2
  have hcx : ∀ wx, Below p a wx → wx.cell? ⟨q, 0, none⟩ = some (.slice (some ⟨rb, ro, none⟩) rn rc) ∧ wx.cell? ⟨rb, ro + i, none⟩ = some (.slice RB r.length c2) ∧ Rd wx (partOf RB c2 f) (t - f) ((r.drop f).take (t - f)) := by
    intro wx hx
    rw [hap] at hx
    exact ⟨(hx.cell (p := ⟨q, 0, none⟩) (by show q < a.heap.size; omega)).trans hqc, (hx.cell (p := ⟨rb, ro + i, none⟩) hrb1).trans hrcell, (rd_cut hrd hft htr hrc2).below hx⟩
  have hrl := hrb.len
  have hsl := fun w => run_cut RB r.length c2 f t hft htr hrc2 w
  obtain ⟨m, hm⟩ : ∃ m, m = t - f := ⟨_, rfl⟩
  have hml : ((r.drop f).take (t - f)).length = m := by rw [List.length_take, List.length_drop]; omega
  rw [← hm] at hcx hsl ⊢
  have hpc : Fg.piece kd ((r.drop f).take m) = [kd] ++ ([m] ++ (r.drop f).take m) := by
    unfold Fg.piece
    rw [← hm] at hml
    rw [hml]; rfl
  rw [hpc]
  rw [← hm] at hml
  generalize (r.drop f).take m = chunk at *
  have hm108 : m ≤ 106 := by have := Fg.room_le st.2.length; omega
  have htf : (t : Int) - (f : Int) = (m : Int) := by omega
  have hki : (i : Int) < (rn : Int) := by omega
  have HCx := Lib.hid hcx
  have HMM := Lib.hid hM
  have HHB := Lib.hid hb
  have HFR := Lib.hid hfr
  have HP := Lib.hid hP
  have HMl := Lib.hid hml
  clear hcx hM hb hfr hP hpc hlen hroom hfit hr hrb hqc hrcell hrd hrm hrl hml hap hm hrb1 hrc2
  go_enter Try.func20, Try.ntmps20
  go_upto_if 14 with (fail)
  go_cut [14] from 14 to 17 (fun s14 wx => PaysAt a p true M wx)
  case first =>
    cases fr with
    | false =>
      have hbt : b = true := by
        cases b with
        | true => rfl
        | false => have := HFR.out; simp [Fg.left] at this
      go_wp2_with fail
      go_meet
      case rel =>
        rw [HMM.out, ← hbt]
        exact HP.out
    | true =>
      rcases HP.out with ⟨rfl, he, hbl, hsz, hv⟩ | ⟨rfl, A, n, cap, vs, B, c, hMid⟩
      · have hown : OwnV (v.alloc (.cells #[.slice none 0 0] 29)) (p + 1) 29 none 0 0 [] := OwnV.none_ _ _ _
        have hra := rdv_one v 29 (.slice none 0 0)
        have hba : p + 1 ≤ (v.alloc (.cells #[.slice none 0 0] 29)).heap.size := by simp; omega
        have hva := hv.alloc (.cells #[.slice none 0 0] 29)
        have hbla := hbl.alloc (Nat.le_of_lt hsz) (.cells #[.slice none 0 0] 29)
        have c0 := hv.at_ 0 rfl
        have hone : ∀ u ∈ [Value.slice none 0 0], u.oneCell' = true := by intro u hu; rw [List.mem_singleton] at hu; subst hu; rfl
        have HVa := Lib.hid hva
        have HBla := Lib.hid hbla
        clear hv hbl hva hbla
        go_wp2_with (first | (at_builtin; refine wpList_appV oneB rfl (.tmp 15) (.tmp 16) rfl rfl hown (some ⟨v.heap.size, 0, none⟩) 1 1 [.slice none 0 0] hone rfl hra (by decide) hba ?_; intro A3 c3 v3 hg3; have hv3 := HVa.out.gr hg3.grew (fun e => by cases e); have z0 := hv3.at_ 0 rfl; have zf := hv3.2.2 0; have HG3 := Lib.hid hg3; clear hg3 hv3))
        go_meet
        case rel =>
          rw [HMM.out]
          exact .inr ⟨rfl, A3, _, c3, [], none, 0, Mid.begun HBla.out (by simp; omega) HVa.out hown (Items.nil _ _) HG3.out⟩
      · have hown := hMid.row.alloc (.cells #[.slice none 0 0] 29)
        have hra := rdv_one v 29 (.slice none 0 0)
        have hsz := hMid.size
        have hba : p + 1 ≤ (v.alloc (.cells #[.slice none 0 0] 29)).heap.size := by simp; omega
        have hva := hMid.var.alloc (.cells #[.slice none 0 0] 29)
        have hbla := hMid.below.alloc (Nat.le_of_lt hsz) (.cells #[.slice none 0 0] 29)
        have hit := hMid.shut.below ((Below.refl _ _).alloc (Nat.le_refl _) (.cells #[.slice none 0 0] 29))
        have hrow := hMid.row.1
        have hilen := hMid.items.1
        have hn1 : n + 1 ≤ 1000000 := by simp at hrow; omega
        have c0 := hMid.var.at_ 0 rfl
        have hone : ∀ u ∈ [Value.slice none 0 0], u.oneCell' = true := by intro u hu; rw [List.mem_singleton] at hu; subst hu; rfl
        have hrbl := hMid.row.blk
        have HVa := Lib.hid hva
        have HBla := Lib.hid hbla
        have HIt := Lib.hid hit
        have HRbl := Lib.hid hrbl
        clear hva hbla hit hMid hrow hilen hrbl
        go_wp2_with (first | (at_builtin; refine wpList_appV oneB rfl (.tmp 15) (.tmp 16) rfl rfl hown (some ⟨v.heap.size, 0, none⟩) 1 1 [.slice none 0 0] hone rfl hra hn1 hba ?_; intro A3 c3 v3 hg3; have hv3 := HVa.out.gr hg3.grew (fun e => by have := (HRbl.out p e.symm).1; omega); have z0 := hv3.at_ 0 rfl; have zf := hv3.2.2 0; have HG3 := Lib.hid hg3; clear hg3 hv3))
        go_meet
        case rel =>
          rw [HMM.out]
          exact .inr ⟨rfl, A3, _, c3, _, none, 0, Mid.begun HBla.out (by simp; omega) HVa.out hown HIt.out HG3.out⟩
  case rest =>
    rcases hcut with ⟨hx, _⟩ | ⟨_, A, n, cap, vs, B, c, hMid⟩
    · cases hx
    have hn := hMid.row.1
    obtain rfl : n = vs.length + 1 := by rw [List.length_append] at hn; exact hn.symm
    obtain ⟨g, rfl, hg1, hg2⟩ := hMid.row.form (by omega)
    have c0 := hMid.var.at_ 0 rfl
    have cl := hMid.last
    have hbs := hMid.size
    have hvl : vs.length ≤ 100001 := by rw [hMid.items.1]; exact hmo
    have hl1 : M.2.length + 1 ≤ 100000000 := by omega
    have hbase : p + 1 ≤ wc.heap.size := hbs
    have HM0 := Lib.hid hMid
    clear hMid hn hst
    go_upto_region 3 with fail
    go_cut [13] from 18 to 28 (fun s13 wx => Opened a p g (vs.length + 1) cap vs (.slice B M.2.length c) M.1 (M.2 ++ [kd]) s13 wx)
    case first =>
      have hMd := HM0.out.drew
      have HMd := Lib.hid hMd
      have c0d := hMd.var.at_ 0 rfl
      have cld := hMd.last
      have hi0 : (0 : Int) ≤ (vs.length : Int) := by omega
      have hi1 : (vs.length : Int) < (vs.length : Int) + 1 := by omega
      have hwk : IntKind.u64.wrap (kd : Int) = (kd : Int) := by rw [IntKind.wrap_u64]; omega
      clear hMd c0 cl
      go_region_held3 (fun w' => w'.cell? ⟨p, 0, none⟩ = some (.slice (some ⟨g, 0, none⟩) (vs.length + 1) cap) ∧ w'.cell? ⟨g, vs.length, none⟩ = some (.slice B M.2.length c)) (first | exact ⟨c0d, cld⟩ | exact ⟨hM5.var.at_ 0 rfl, hM5.last⟩ | exact ⟨hM4.var.at_ 0 rfl, hM4.last⟩) (first | (go_at_call 21; refine (fixed_one kd hkd _).mono ?_; rintro e v4 ⟨A4, c4, rfl, ho4, hb4⟩; have hM4 := HMd.out.keep hb4; have hs4 := hM4.size) | (refine step_appB (by rfl) 28 rfl (.tmp 24) (.tmp 27) rfl rfl hM4.now A4 1 c4 [kd] rfl ho4.rd hl1 hs4 ?_; intro A5 c5 v5 hg5; have hM5 := hM4.app hg5 rfl))
      all_goals (go_wp2_with fail; go_meet; case rel => exact ⟨A5, c5, by rw [List.length_append]; rfl, hM5⟩)
    case rest =>
      clear c0 cl hl1 hbase HM0
      generalize hc1 : M.2 ++ [kd] = cur1 at hcut
      obtain ⟨B5, c5, rfl, hM5⟩ := hcut
      have hcl1 : cur1.length ≤ 109 := by rw [← hc1, List.length_append, List.length_singleton]; omega
      have HC1 := Lib.hid hc1
      have hwm : IntKind.u64.wrap (m : Int) = (m : Int) := by rw [IntKind.wrap_u64]; omega
      have hl6 : cur1.length + 1 ≤ 100000000 := by omega
      have hm256 : m < 256 := by omega
      have HM5 := Lib.hid hM5
      clear hc1 hM5
      go_upto_region 5 with (first | (go_at_call 21; refine (fixed_one m hm256 _).mono ?_; rintro e v6 ⟨A6, c6, rfl, ho6, hb6⟩; have hM6 := HM5.out.keep hb6; have hs6 := hM6.size; have HM6 := Lib.hid hM6; have hn6 := hM6.now; have hr6 := ho6.rd; clear hM6) | (at_builtin; refine wpList_appB rfl (.tmp 29) (.tmp 34) rfl rfl hn6 A6 1 c6 [m] rfl hr6 hl6 hs6 ?_; intro A7 c7 v7 hg7; have hM7 := HM6.out.app hg7 rfl))
      clear hg7 hn6 hr6 hs6 HM6 HM5 ho6 hb6 hwm hl6
      rw [show cur1.length + 1 = (cur1 ++ [m]).length by simp]
      have hcl2 : (cur1 ++ [m]).length ≤ 110 := by rw [List.length_append, List.length_singleton]; omega
      generalize hc2 : cur1 ++ [m] = cur2 at *
      have HC2 := Lib.hid hc2
      have hM8 := hM7.drew
      have HM8 := Lib.hid hM8
      obtain ⟨q0, q1, q2⟩ := HCx.out _ hM8.below
      have c08 := hM8.var.at_ 0 rfl
      have hi0 : (0 : Int) ≤ (vs.length : Int) := by omega
      have hi1 : (vs.length : Int) < (vs.length : Int) + 1 := by omega
      have hj0 : (0 : Int) ≤ (i : Int) := by omega
      have hl9 : cur2.length + m ≤ 100000000 := by omega
      have hn8 := hM8.now
      have hs8 := hM8.size
      clear hc2 hM7 hM8
      go_region_held3 (fun w' => w'.cell? ⟨p, 0, none⟩ = some (.slice (some ⟨g, 0, none⟩) (vs.length + 1) cap) ∧ w'.cell? ⟨q, 0, none⟩ = some (.slice (some ⟨rb, ro, none⟩) rn rc) ∧ w'.cell? ⟨rb, ro + i, none⟩ = some (.slice RB r.length c2)) (first | exact ⟨c08, q0, q1⟩ | exact ⟨hM10.var.at_ 0 rfl, (HCx.out _ hM10.below).1, (HCx.out _ hM10.below).2.1⟩ | exact ⟨hM9.var.at_ 0 rfl, (HCx.out _ hM9.below).1, (HCx.out _ hM9.below).2.1⟩) (first | (refine step_appB (by rfl) 46 rfl (.tmp 38) (.tmp 45) rfl rfl hn8 (partOf RB c2 f) m (c2 - f) chunk rfl q2 hl9 hs8 ?_; intro A9 c9 v9 hg9; have hM9 := HM8.out.app hg9 HMl.out; have z9 := hM9.last; have f9 := hM9.row.free vs.length; have hM10 := hM9.store; rw [show (cur2 ++ chunk).length = cur2.length + m by rw [List.length_append, HMl.out]] at hM10))
      all_goals
        have e9 : M.2 ++ kd :: m :: chunk = cur2 ++ chunk := by rw [← HC2.out, ← HC1.out]; simp
        have E9 := Lib.hid e9
        have HM10 := Lib.hid hM10
        clear e9 hM10 hM9 z9 f9 hg9 q0 q1 q2
        go_wp2_with fail
        go_end0
        refine ⟨rfl, .inr ⟨rfl, some ⟨g, 0, none⟩, vs.length + 1, cap, vs, A9, c9, ?_⟩⟩
        show Mid a p _ _ _ _ _ (.slice A9 (M.2 ++ kd :: m :: chunk).length c9) _ _ _ (M.2 ++ kd :: m :: chunk)
        rw [E9.out, List.length_append, HMl.out]
        exact HM10.out
end Go.Proofs.Ytpfdacnjikdifaa
