/- What the function does that Cut hands to walk: its text walked. Rows of bytes in memory that is new. What frag's Cut returns. -/
import Derived.Test.YtpggomekbahddaaM07
import Derived.Test.YtpggomekbahddaaM06
namespace Go.Proofs.Ytpggomekbahddaa
open Go.RowKit
set_option linter.unusedVariables false
/-- The row's cell of the last payload. -/
theorem Mid.last {a v : World} {p g : Nat} {n cap c : Nat} {vs : List Value} {old : Value} {out : List (List Nat)} {B : Option Addr} {cur : List Nat} (h : Mid a p v (some ⟨g, 0, none⟩) n cap vs old out B c cur) : v.cell? ⟨g, vs.length, none⟩ = some old :=
  h.row.cell (by rw [List.getElem?_append_right (Nat.le_refl _), Nat.sub_self]; rfl)
def Opened (a : World) (p g n cap : Nat) (vs : List Value) (old : Value) (out : List (List Nat)) (cur : List Nat) (s : Value) (wx : World) : Prop :=
  ∃ (B : Option Addr) (c : Nat), s = .slice B cur.length c ∧ Mid a p wx (some ⟨g, 0, none⟩) n cap vs old out B c cur
set_option maxRecDepth 100000 in
set_option maxHeartbeats 8000000 in
theorem lays_cut (recs : List (List Nat)) (a : World) (p q : Nat) (hap : p = a.heap.size) (hq : q < p) (RA : Option Addr) (rn rc : Nat) (hqc : a.cell? ⟨q, 0, none⟩ = some (.slice RA rn rc)) (hrb : RdB a RA rn recs) : LaysCut p q recs (PaysAt a p) := by
  intro b st v i f t kd fr r hr hft htr hfit hb hroom hkd hst hfr hP
  rw [mid_lay hb hfr]
  have hlen := Fg.lay_len (k := kd) (c := (r.drop f).take (t - f)) hfit (by rw [List.length_take, List.length_drop]; omega)
  rw [mid_lay hb hfr] at hlen
  have hmo : (mid b st fr).1.length ≤ 100001 := by
    unfold mid
    cases fr with
    | true => cases b with
      | true => simp; omega
      | false => simp
    | false => simp; omega
  have hmc : (mid b st fr).2.length ≤ 108 := by have := hlen.1; simp at this; omega
  obtain ⟨M, hM⟩ : ∃ M, M = mid b st fr := ⟨_, rfl⟩
  rw [← hM] at hmo hmc ⊢
  have hin : i < recs.length := (List.getElem?_eq_some_iff.1 hr).1
  obtain ⟨rb, ro, RB, c2, r2, rfl, hrb1, hr2, hrcell, hrd, hrc2, hrm⟩ := hrb.at_ (by rw [← hrb.len]; exact hin)
  rw [hr] at hr2
  injection hr2 with hr2
  subst hr2
  have hcx : ∀ wx, Below p a wx → wx.cell? ⟨q, 0, none⟩ = some (.slice (some ⟨rb, ro, none⟩) rn rc) ∧ wx.cell? ⟨rb, ro + i, none⟩ = some (.slice RB r.length c2) ∧ Rd wx (partOf RB c2 f) (t - f) ((r.drop f).take (t - f)) := by
    intro wx hx
    rw [hap] at hx
    exact ⟨(hx.cell (p := ⟨q, 0, none⟩) (by show q < a.heap.size; omega)).trans hqc, (hx.cell (p := ⟨rb, ro + i, none⟩) hrb1).trans hrcell, (rd_cut hrd hft htr hrc2).below hx⟩
  have hrl := hrb.len
  have hsl := fun w => run_cut RB r.length c2 f t hft htr hrc2 w
  obtain ⟨m, hm⟩ : ∃ m, m = t - f := ⟨_, rfl⟩
  have hml : ((r.drop f).take (t - f)).length = m := by rw [List.length_take, List.length_drop]; omega
  rw [← hm] at hcx hsl ⊢
  have hpc : Fg.piece kd ((r.drop f).take m) = [kd] ++ ([m] ++ (r.drop f).take m) := by
    unfold Fg.piece
    rw [← hm] at hml
    rw [hml]; rfl
  rw [hpc]
  rw [← hm] at hml
  generalize (r.drop f).take m = chunk at *
  have hm108 : m ≤ 106 := by have := Fg.room_le st.2.length; omega
  have htf : (t : Int) - (f : Int) = (m : Int) := by omega
  have hki : (i : Int) < (rn : Int) := by omega
  have HCx := Lib.hid hcx
  have HMM := Lib.hid hM
  have HHB := Lib.hid hb
  have HFR := Lib.hid hfr
  have HP := Lib.hid hP
  have HMl := Lib.hid hml
  clear hcx hM hb hfr hP hpc hlen hroom hfit hr hrb hqc hrcell hrd hrm hrl hml hap hm hrb1 hrc2
  go_enter Try.func38, Try.ntmps38
  go_upto_if 14 with (fail)
  go_cut [14] from 14 to 17 (fun s14 wx => PaysAt a p true M wx)
  case first =>
    cases fr with
    | false =>
      have hbt : b = true := by
        cases b with
        | true => rfl
        | false => have := HFR.out; simp [Fg.left] at this
      go_wp2_with fail
      go_meet
      case rel =>
        rw [HMM.out, ← hbt]
        exact HP.out
    | true =>
      rcases HP.out with ⟨rfl, he, hbl, hsz, hv⟩ | ⟨rfl, A, n, cap, vs, B, c, hMid⟩
      · have hown : OwnV (v.alloc (.cells #[.slice none 0 0] 23)) (p + 1) 23 none 0 0 [] := OwnV.none_ _ _ _
        have hra := rdv_one v 23 (.slice none 0 0)
        have hba : p + 1 ≤ (v.alloc (.cells #[.slice none 0 0] 23)).heap.size := by simp; omega
        have hva := hv.alloc (.cells #[.slice none 0 0] 23)
        have hbla := hbl.alloc (Nat.le_of_lt hsz) (.cells #[.slice none 0 0] 23)
        have c0 := hv.at_ 0 rfl
        have hone : ∀ u ∈ [Value.slice none 0 0], u.oneCell' = true := by intro u hu; rw [List.mem_singleton] at hu; subst hu; rfl
        have HVa := Lib.hid hva
        have HBla := Lib.hid hbla
        clear hv hbl hva hbla
        go_wp2_with (first | (at_builtin; refine wpList_appV oneB rfl (.tmp 15) (.tmp 16) rfl rfl hown (some ⟨v.heap.size, 0, none⟩) 1 1 [.slice none 0 0] hone rfl hra (by decide) hba ?_; intro A3 c3 v3 hg3; have hv3 := HVa.out.gr hg3.grew (fun e => by cases e); have z0 := hv3.at_ 0 rfl; have zf := hv3.2.2 0; have HG3 := Lib.hid hg3; clear hg3 hv3))
        go_meet
        case rel =>
          rw [HMM.out]
          exact .inr ⟨rfl, A3, _, c3, [], none, 0, Mid.begun HBla.out (by simp; omega) HVa.out hown (Items.nil _ _) HG3.out⟩
      · have hown := hMid.row.alloc (.cells #[.slice none 0 0] 23)
        have hra := rdv_one v 23 (.slice none 0 0)
        have hsz := hMid.size
        have hba : p + 1 ≤ (v.alloc (.cells #[.slice none 0 0] 23)).heap.size := by simp; omega
        have hva := hMid.var.alloc (.cells #[.slice none 0 0] 23)
        have hbla := hMid.below.alloc (Nat.le_of_lt hsz) (.cells #[.slice none 0 0] 23)
        have hit := hMid.shut.below ((Below.refl _ _).alloc (Nat.le_refl _) (.cells #[.slice none 0 0] 23))
        have hrow := hMid.row.1
        have hilen := hMid.items.1
        have hn1 : n + 1 ≤ 1000000 := by simp at hrow; omega
        have c0 := hMid.var.at_ 0 rfl
        have hone : ∀ u ∈ [Value.slice none 0 0], u.oneCell' = true := by intro u hu; rw [List.mem_singleton] at hu; subst hu; rfl
        have hrbl := hMid.row.blk
        have HVa := Lib.hid hva
        have HBla := Lib.hid hbla
        have HIt := Lib.hid hit
        have HRbl := Lib.hid hrbl
        clear hva hbla hit hMid hrow hilen hrbl
        go_wp2_with (first | (at_builtin; refine wpList_appV oneB rfl (.tmp 15) (.tmp 16) rfl rfl hown (some ⟨v.heap.size, 0, none⟩) 1 1 [.slice none 0 0] hone rfl hra hn1 hba ?_; intro A3 c3 v3 hg3; have hv3 := HVa.out.gr hg3.grew (fun e => by have := (HRbl.out p e.symm).1; omega); have z0 := hv3.at_ 0 rfl; have zf := hv3.2.2 0; have HG3 := Lib.hid hg3; clear hg3 hv3))
        go_meet
        case rel =>
          rw [HMM.out]
          exact .inr ⟨rfl, A3, _, c3, _, none, 0, Mid.begun HBla.out (by simp; omega) HVa.out hown HIt.out HG3.out⟩
  case rest =>
    rcases hcut with ⟨hx, _⟩ | ⟨_, A, n, cap, vs, B, c, hMid⟩
    · cases hx
    have hn := hMid.row.1
    obtain rfl : n = vs.length + 1 := by rw [List.length_append] at hn; exact hn.symm
    obtain ⟨g, rfl, hg1, hg2⟩ := hMid.row.form (by omega)
    have c0 := hMid.var.at_ 0 rfl
    have cl := hMid.last
    have hbs := hMid.size
    have hvl : vs.length ≤ 100001 := by rw [hMid.items.1]; exact hmo
    have hl1 : M.2.length + 1 ≤ 100000000 := by omega
    have hbase : p + 1 ≤ wc.heap.size := hbs
    have HM0 := Lib.hid hMid
    clear hMid hn hst
    go_upto_region 3 with fail
    go_cut [13] from 18 to 28 (fun s13 wx => Opened a p g (vs.length + 1) cap vs (.slice B M.2.length c) M.1 (M.2 ++ [kd]) s13 wx)
    case first =>
      have hMd := HM0.out.drew
      have HMd := Lib.hid hMd
      have c0d := hMd.var.at_ 0 rfl
      have cld := hMd.last
      have hi0 : (0 : Int) ≤ (vs.length : Int) := by omega
      have hi1 : (vs.length : Int) < (vs.length : Int) + 1 := by omega
      have hwk : IntKind.u64.wrap (kd : Int) = (kd : Int) := by rw [IntKind.wrap_u64]; omega
      clear hMd c0 cl
      go_region_held3 (fun w' => w'.cell? ⟨p, 0, none⟩ = some (.slice (some ⟨g, 0, none⟩) (vs.length + 1) cap) ∧ w'.cell? ⟨g, vs.length, none⟩ = some (.slice B M.2.length c)) (first | exact ⟨c0d, cld⟩ | exact ⟨hM5.var.at_ 0 rfl, hM5.last⟩ | exact ⟨hM4.var.at_ 0 rfl, hM4.last⟩) (first | (go_at_call 39; refine (fixed_one kd hkd _).mono ?_; rintro e v4 ⟨A4, c4, rfl, ho4, hb4⟩; have hM4 := HMd.out.keep hb4; have hs4 := hM4.size) | (refine step_appB (by rfl) 28 rfl (.tmp 24) (.tmp 27) rfl rfl hM4.now A4 1 c4 [kd] rfl ho4.rd hl1 hs4 ?_; intro A5 c5 v5 hg5; have hM5 := hM4.app hg5 rfl))
      all_goals (go_wp2_with fail; go_meet; case rel => exact ⟨A5, c5, by rw [List.length_append]; rfl, hM5⟩)
    case rest =>
      clear c0 cl hl1 hbase HM0
      generalize hc1 : M.2 ++ [kd] = cur1 at hcut
      obtain ⟨B5, c5, rfl, hM5⟩ := hcut
      have hcl1 : cur1.length ≤ 109 := by rw [← hc1, List.length_append, List.length_singleton]; omega
      have HC1 := Lib.hid hc1
      have hwm : IntKind.u64.wrap (m : Int) = (m : Int) := by rw [IntKind.wrap_u64]; omega
      have hl6 : cur1.length + 1 ≤ 100000000 := by omega
      have hm256 : m < 256 := by omega
      have HM5 := Lib.hid hM5
      clear hc1 hM5
      go_upto_region 5 with (first | (go_at_call 39; refine (fixed_one m hm256 _).mono ?_; rintro e v6 ⟨A6, c6, rfl, ho6, hb6⟩; have hM6 := HM5.out.keep hb6; have hs6 := hM6.size; have HM6 := Lib.hid hM6; have hn6 := hM6.now; have hr6 := ho6.rd; clear hM6) | (at_builtin; refine wpList_appB rfl (.tmp 29) (.tmp 34) rfl rfl hn6 A6 1 c6 [m] rfl hr6 hl6 hs6 ?_; intro A7 c7 v7 hg7; have hM7 := HM6.out.app hg7 rfl))
      clear hg7 hn6 hr6 hs6 HM6 HM5 ho6 hb6 hwm hl6
      rw [show cur1.length + 1 = (cur1 ++ [m]).length by simp]
      have hcl2 : (cur1 ++ [m]).length ≤ 110 := by rw [List.length_append, List.length_singleton]; omega
      generalize hc2 : cur1 ++ [m] = cur2 at *
      have HC2 := Lib.hid hc2
      have hM8 := hM7.drew
      have HM8 := Lib.hid hM8
      obtain ⟨q0, q1, q2⟩ := HCx.out _ hM8.below
      have c08 := hM8.var.at_ 0 rfl
      have hi0 : (0 : Int) ≤ (vs.length : Int) := by omega
      have hi1 : (vs.length : Int) < (vs.length : Int) + 1 := by omega
      have hj0 : (0 : Int) ≤ (i : Int) := by omega
      have hl9 : cur2.length + m ≤ 100000000 := by omega
      have hn8 := hM8.now
      have hs8 := hM8.size
      clear hc2 hM7 hM8
      go_region_held3 (fun w' => w'.cell? ⟨p, 0, none⟩ = some (.slice (some ⟨g, 0, none⟩) (vs.length + 1) cap) ∧ w'.cell? ⟨q, 0, none⟩ = some (.slice (some ⟨rb, ro, none⟩) rn rc) ∧ w'.cell? ⟨rb, ro + i, none⟩ = some (.slice RB r.length c2)) (first | exact ⟨c08, q0, q1⟩ | exact ⟨hM10.var.at_ 0 rfl, (HCx.out _ hM10.below).1, (HCx.out _ hM10.below).2.1⟩ | exact ⟨hM9.var.at_ 0 rfl, (HCx.out _ hM9.below).1, (HCx.out _ hM9.below).2.1⟩) (first | (refine step_appB (by rfl) 46 rfl (.tmp 38) (.tmp 45) rfl rfl hn8 (partOf RB c2 f) m (c2 - f) chunk rfl q2 hl9 hs8 ?_; intro A9 c9 v9 hg9; have hM9 := HM8.out.app hg9 HMl.out; have z9 := hM9.last; have f9 := hM9.row.free vs.length; have hM10 := hM9.store; rw [show (cur2 ++ chunk).length = cur2.length + m by rw [List.length_append, HMl.out]] at hM10))
      all_goals
        have e9 : M.2 ++ kd :: m :: chunk = cur2 ++ chunk := by rw [← HC2.out, ← HC1.out]; simp
        have E9 := Lib.hid e9
        have HM10 := Lib.hid hM10
        clear e9 hM10 hM9 z9 f9 hg9 q0 q1 q2
        go_wp2_with fail
        go_end0
        refine ⟨rfl, .inr ⟨rfl, some ⟨g, 0, none⟩, vs.length + 1, cap, vs, A9, c9, ?_⟩⟩
        show Mid a p _ _ _ _ _ (.slice A9 (M.2 ++ kd :: m :: chunk).length c9) _ _ _ (M.2 ++ kd :: m :: chunk)
        rw [E9.out, List.length_append, HMl.out]
        exact HM10.out
end Go.Proofs.Ytpggomekbahddaa
namespace Go.Proofs.Ytpggomekbahddaa
open Go.RowKit
set_option linter.unusedVariables false
/-- As RdB; all blocks are base's or newer. -/
def NewB (w : World) (base : Nat) (A : Option Addr) (n : Nat) (L : List (List Nat)) : Prop := ∃ vs, RdV w A n vs ∧ Items w (fun b => base ≤ b) vs L ∧ (0 < n → ∀ b o, A = some ⟨b, o, none⟩ → base ≤ b)
theorem NewB.rd {w : World} {base n : Nat} {A : Option Addr} {L : List (List Nat)} (h : NewB w base A n L) : RdB w A n L := by obtain ⟨vs, h1, h2, _⟩ := h; exact ⟨vs, h1, h2.imp fun _ _ _ => trivial⟩
theorem NewB.below {w w' : World} {base n : Nat} {A : Option Addr} {L : List (List Nat)} (h : NewB w base A n L) (hb : Below w.heap.size w w') : NewB w' base A n L := by obtain ⟨vs, h1, h2, h3⟩ := h; exact ⟨vs, h1.below hb, h2.below hb, h3⟩
theorem NewB.base_ {w : World} {base base' n : Nat} {A : Option Addr} {L : List (List Nat)} (h : NewB w base A n L) (hb : base' ≤ base) : NewB w base' A n L := by obtain ⟨vs, h1, h2, h3⟩ := h; exact ⟨vs, h1, h2.imp fun _ _ hx => Nat.le_trans hb hx, fun h0 b o e => Nat.le_trans hb (h3 h0 b o e)⟩
theorem NewB.take {w : World} {base n : Nat} {A : Option Addr} {L : List (List Nat)} (h : NewB w base A n L) {k : Nat} (hk : k ≤ n) : NewB w base A k (L.take k) := by obtain ⟨vs, h1, h2, h3⟩ := h; exact ⟨vs.take k, h1.take hk, h2.take k, fun h0 => h3 (by omega)⟩
theorem NewB.grown {w w' : World} {base n : Nat} {A : Option Addr} {L : List (List Nat)} {g : Nat} (h : NewB w base A n L) (hg : w.grownBy w' (some g)) (hlt : g < base) : NewB w' base A n L := by
  obtain ⟨vs, h1, h2, h3⟩ := h
  refine ⟨vs, h1.grown hg (fun b o e hn e2 => ?_), h2.grown hg (fun b hb hx e2 => ?_), h3⟩
  · have := h3 hn b o e; injection e2 with e2; omega
  · injection e2 with e2; have hx : base ≤ b := hx; omega
end Go.Proofs.Ytpggomekbahddaa
namespace Go.Proofs.Ytpggomekbahddaa
open Go.RowKit
set_option linter.unusedVariables false
/-- Byte slices and an error. -/
def GivesRows (w : World) (L : List (List Nat)) (r : Int) (x : Ending) (w' : World) : Prop :=
  ∃ (A : Option Addr) (c : Nat), x = .returned (.tuple #[.slice A L.length c, .int .i64 r]) ∧ NewB w' w.heap.size A L.length L ∧ L.length ≤ c ∧ Below w.heap.size w w'
namespace Fg
/-- Is there a record that is too long? -/
def long (L : List (List Nat)) : Bool := L.any fun r => decide (8192 < r.length)
theorem long_no {L : List (List Nat)} (h : long L = false) : ∀ r ∈ L, r.length ≤ 8192 := by
  intro r hr
  unfold long at h
  rw [List.any_eq_false] at h
  have := h r hr
  simp at this
  exact this
theorem long_yes {L : List (List Nat)} {r : List Nat} (hr : r ∈ L) (h : 8192 < r.length) : long L = true := by
  unfold long
  rw [List.any_eq_true]
  exact ⟨r, hr, by simpa using h⟩
/-- The document's words: payloads, or why none. -/
def cutOut (L : List (List Nat)) : List (List Nat) × Int := if 256 < L.length then ([], 3) else if long L then ([], 2) else (cut L, 0)
end Fg
theorem OwnI.rz {w : World} {base n cap : Nat} {A : Option Addr} {l : List Int} (h : OwnI w base A n cap l) : RdZ w A n l := h.rd
set_option maxRecDepth 100000 in
set_option maxHeartbeats 2000000 in
theorem cut_big (A : Option Addr) (n c : Nat) (L : List (List Nat)) (w : World) (hn : 256 < n) (hb : n ≤ 9223372036854775807) :
    Calls Try.prog 27 #[.slice A n c] w (GivesRows w [] 3) := by
  have hni : (256 : Int) < (n : Int) := by omega
  go_enter Try.func27, Try.ntmps27
  go_wp2
  go_ret2
  exact ⟨none, 0, rfl, ⟨[], RdV.nil _ _, Items.nil _ _, fun h0 => absurd h0 (Nat.lt_irrefl 0)⟩, Nat.le_refl _, (Below.refl _ _).alloc (Nat.le_refl _) _⟩
/-- What is known within Cut's first loop. -/
def Sizes (w : World) (A : Option Addr) (n c : Nat) (L : List (List Nat)) (k : Nat) (s : Value) (wr : World) : Prop :=
  ∃ (B : Option Addr) (d : Nat), s = .slice B k d ∧ OwnI wr (w.heap.size + 1) B k d (lens (L.take k)) ∧ Below (w.heap.size + 1) (w.alloc (.cells #[.slice A n c] 22)) wr ∧ ∀ r ∈ L.take k, r.length ≤ 8192
theorem lens_snoc {L : List (List Nat)} {k : Nat} {r : List Nat} (h : L[k]? = some r) : lens (L.take (k + 1)) = lens (L.take k) ++ [(r.length : Int)] := by
  unfold lens; rw [List.take_add_one, h]; simp
set_option maxRecDepth 100000 in
set_option maxHeartbeats 4000000 in
theorem cut_any (A : Option Addr) (n c : Nat) (L : List (List Nat)) (w : World) (hr : RdB w A n L) (hb : n ≤ 9223372036854775807) :
    Calls Try.prog 27 #[.slice A n c] w (GivesRows w (Fg.cutOut L).1 (Fg.cutOut L).2) := by
  have hl := hr.len
  by_cases hbig : 256 < n
  · have e : Fg.cutOut L = ([], 3) := by unfold Fg.cutOut; rw [if_pos (by omega)]
    rw [e]
    exact cut_big A n c L w hbig hb
  · have hni : ¬ (256 : Int) < (n : Int) := by omega
    have hB0 : Below w.heap.size w (w.alloc (.cells #[.slice A n c] 22)) := (Below.refl _ _).alloc (Nat.le_refl _) _
    have k0 := Holds.new w #[.slice A n c] 22
    have HB0 := Lib.hid hB0
    have K0 := Lib.hid k0
    have HR := Lib.hid hr
    have HL := Lib.hid hl
    clear hr hl hB0
    have c0 := k0.at_ 0 rfl
    clear k0
    go_enter Try.func27, Try.ntmps27
    go_wp2
    clear c0
    go_loopw [4, 13] (fun s ii wr => ∃ k : Nat, k ≤ n ∧ ii = .int .i64 (k : Int) ∧ Sizes w A n c L k s wr) (fun _ ii _ => n - (intOf ii).toNat)
    case atStart => exact ⟨0, Nat.zero_le _, rfl, none, 0, rfl, by exact ⟨rfl, World.ownsRow_nil _ _ _ _⟩, Below.refl _ _, by simp⟩
    case round =>
      obtain ⟨k, hk, rfl, B, d, rfl, hO, hBl, hle⟩ := hrel
      have hs1 : w.heap.size + 1 ≤ wr.heap.size := by have := hBl.size; simpa using this
      have hBw : Below w.heap.size w wr := HB0.out.trans (hBl.mono (by omega))
      by_cases hkn : k < n
      · obtain ⟨b, o, RB, c2, r, rfl, hb1, hrk, hcell, hrd, hrc, hrm⟩ := (HR.out.below hBw).at_ hkn
        have hki : (k : Int) < (n : Int) := by omega
        by_cases hlong : 8192 < r.length
        · have e : Fg.cutOut L = ([], 2) := by unfold Fg.cutOut; rw [if_neg (by rw [HL.out]; exact hbig), if_pos (Fg.long_yes (List.mem_of_getElem? hrk) hlong)]
          have HE := Lib.hid e
          have hlo : (8192 : Int) < (r.length : Int) := by omega
          have HBw := Lib.hid hBw
          clear e hrk hrd hO hBl hBw hle
          go_wp2
          go_ret2
          rw [HE.out]
          exact ⟨none, 0, rfl, ⟨[], RdV.nil _ _, Items.nil _ _, fun h0 => absurd h0 (Nat.lt_irrefl 0)⟩, Nat.le_refl _, HBw.out⟩
        · have hlo : ¬ (8192 : Int) < (r.length : Int) := by omega
          have hOa := hO.alloc (.cells #[.int .i64 (r.length : Int)] 3)
          have hca := (Holds.new wr #[.int .i64 (r.length : Int)] 3).at_ 0 rfl
          have hba : w.heap.size + 1 ≤ (wr.alloc (.cells #[.int .i64 (r.length : Int)] 3)).heap.size := by simp; omega
          have hbb := hBl.alloc hs1 (.cells #[.int .i64 (r.length : Int)] 3)
          have hblk := hO.blk
          have hle9 : k + 1 ≤ 1000000 := by omega
          have hsn := lens_snoc hrk
          have hle2 : ∀ x ∈ L.take (k + 1), x.length ≤ 8192 := by
            rw [List.take_add_one, hrk]
            intro x hx
            rcases List.mem_append.1 hx with h1 | h1
            · exact hle x h1
            · simp at h1; subst h1; omega
          have HSn := Lib.hid hsn
          have HLe2 := Lib.hid hle2
          have HBb := Lib.hid hbb
          have HBlk := Lib.hid hblk
          have HCa := Lib.hid hca
          clear hrk hrd hO hBl hBw hle hsn hle2 hbb hblk hca
          go_wp2_with (first | (at_builtin; refine wpList_appI rfl (.tmp 20) (.tmp 23) rfl rfl hOa ⟨wr.heap.size, 0, none⟩ (r.length : Int) 1 rfl HCa.out hle9 hba ?_; intro A3 c3 v3 hO3 hg3))
          have hB3 := HBb.out.grown hg3 hba (fun g h => (HBlk.out g h).1)
          rw [← HSn.out] at hO3
          clear hg3
          go_roundw
          case rel => exact ⟨k + 1, by omega, by go_num, A3, c3, rfl, hO3, hB3, HLe2.out⟩
          case measure => simp [intOf]; omega
      · have hkn2 : k = n := by omega
        subst hkn2
        rw [List.take_of_length_le (Nat.le_of_eq HL.out)] at hO hle
        have hqc : wr.cell? ⟨w.heap.size, 0, none⟩ = some (.slice A k c) := (hBl.cell (p := ⟨w.heap.size, 0, none⟩) (by show w.heap.size < w.heap.size + 1; omega)).trans (K0.out.at_ 0 rfl)
        have e : Fg.cutOut L = (Fg.cut L, 0) := by
          unfold Fg.cutOut
          rw [if_neg (by rw [HL.out]; exact hbig)]
          cases h : Fg.long L with
          | false => rfl
          | true =>
            unfold Fg.long at h
            rw [List.any_eq_true] at h
            obtain ⟨x, hx, h8⟩ := h
            have := hle x hx
            simp at h8; omega
        have hwk := walk_cut wr.heap.size w.heap.size L (PaysAt wr wr.heap.size) (lays_cut L wr wr.heap.size w.heap.size rfl (by omega) A k c hqc (HR.out.below hBw)) B d (fun b st v hv => by
          have h2 := hO.rz.below (show Below wr.heap.size wr v from hv.below)
          rw [HL.out]; exact h2) (by rw [HL.out]; omega) hle (wr.alloc (.cells #[.slice none 0 0] 22)) (.inl ⟨rfl, rfl, (Below.refl _ _).alloc (Nat.le_refl _) _, by simp, Holds.new wr #[.slice none 0 0] 22⟩)
        rw [HL.out] at hwk
        have HE := Lib.hid e
        have HWk := Lib.hid hwk
        have HBw := Lib.hid hBw
        have hmf : ∀ (fn : Fn) (first cap : Array Value) (w : World), (Instr.makeFunc fn first cap).run Try.prog w = .ok (.func fn first cap) w := fun _ _ _ _ => rfl
        clear e hwk hBw hqc hO hBl hle hkn hk
        go_wp2_with fail
        refine HWk.out.mono ?_
        rintro e9 v9 ⟨rfl, hP9⟩
        have hbel := hP9.below
        have HBel := Lib.hid hbel
        rcases hP9 with ⟨hb9, he, _, hsz, hv⟩ | ⟨hb9, A9, n9, cap9, vs, B9, c9, hMid⟩
        · have hL0 : L = [] := by simpa using hb9
          have HL0 := Lib.hid hL0
          have c0 := hv.at_ 0 rfl
          clear hb9 he hL0 hbel hv
          go_wp2_with fail
          go_ret2
          rw [HE.out]
          have e2 : Fg.cut L = [] := by unfold Fg.cut; rw [if_pos HL0.out]
          rw [e2]
          exact ⟨none, 0, rfl, ⟨[], RdV.nil _ _, Items.nil _ _, fun h0 => absurd h0 (Nat.lt_irrefl 0)⟩, Nat.le_refl _, HBw.out.trans (HBel.out.mono HBw.out.size)⟩
        · have c0 := hMid.var.at_ 0 rfl
          have hit := hMid.shut
          have hrow := hMid.row
          have hcu : Fg.cut L = (Fg.cutAll L ([], [])).1 ++ [(Fg.cutAll L ([], [])).2] := by
            unfold Fg.cut
            rw [if_neg (by simpa using hb9)]; rfl
          have HIt := Lib.hid hit
          have HRow := Lib.hid hrow
          have HCu := Lib.hid hcu
          clear hb9 hbel hit hrow hMid hcu
          go_wp2_with fail
          go_ret2
          rw [HE.out]
          show GivesRows w (Fg.cut L) 0 _ _
          have hlen : (Fg.cut L).length = n9 := by rw [HCu.out, ← HIt.out.1]; exact HRow.out.1
          refine ⟨A9, cap9, by rw [hlen]; rfl, ⟨_, by rw [hlen]; exact HRow.out.rd, by rw [HCu.out]; exact HIt.out.imp (fun b _ hx => by have := hx.1; have := HBw.out.size; omega), fun _ b o e => by have := (HRow.out.blk b (by rw [e]; rfl)).1; have := HBw.out.size; omega⟩, by rw [hlen]; exact HRow.out.fits, HBw.out.trans (HBel.out.mono HBw.out.size)⟩
end Go.Proofs.Ytpggomekbahddaa
