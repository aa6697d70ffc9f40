/- What take of frag's joined does. -/
import Derived.Test.YtpggomekbahddaaM09
import Derived.Deep.DeepCutAuto
import Derived.Deep.RegionLaw
import Derived.Deep.RegionHeldLaw
namespace Go.Proofs.Ytpggomekbahddaa
open Go.RowKit
set_option linter.unusedVariables false
theorem step_appW {w : World} {base n cap : Nat} {A : Option Addr} {vs : List Value} {S E : TypeId} {z : Value} {bytes : Nat} (O : One S E z bytes) {ops : Array Oper} {o : Oper} {a : Act} {K : Act → World → Prop} {Q : Exit → Act → World → Prop} {F : Prop} (hw : Region.wanted o (yielded ops a.tmps) = true) (dd : Nat) (hdd : o.dst = some dd) (s x : Operand)
    (ho : o.op = .call { callee := .builtin .append, args := #[s, x], argTypes := #[S, S] })
    (hs : a.eval s = .slice A n cap) (hown : OwnV w base E A n cap vs) (B : Option Addr) (m c : Nat) (news : List Value) (h1 : ∀ u ∈ news, u.oneCell' = true) (hx : a.eval x = .slice B m c) (hr : RdV w B m news) (hlen : n + m ≤ 1000000) (hbase : base ≤ w.heap.size)
    (h : ∀ A' cap' w', GrewV w w' base E A A' n cap (n + m) cap' (vs ++ news) → K (a.put (some dd) (.slice A' (n + m) cap')) w') :
    if Region.wanted o (yielded ops a.tmps) = true then Oper.wp Try.prog o a w K Q else F := by
  rw [if_pos hw]
  obtain ⟨A', cap', w', hrun, hg⟩ := run_appV O hown B m c news h1 hr hlen hbase o.type
  unfold Oper.wp execOp
  simp only [ho, resolve, invoke, builtin, Sem.run_bind, Sem.run_pure, Result.andThen_ok, List.map_toArray, List.map_cons, List.map_nil, hs, hx, hrun]
  have h2 := h A' cap' w' hg
  rw [← hdd] at h2
  exact h2
/-- What holds at the labels of take. -/
def TakeJ (a : World) (j : Nat) (A : Option Addr) (n c : Nat) (p : List Nat) (s0 : Fg.Js) (l : Nat) (x : Act) (w : World) : Prop :=
  l ≤ 4 ∧ x.tmps.size = 84 ∧ x.defers = [] ∧ x.tmps.getD 0 undef = .pointer (some ⟨j, 0, none⟩) ∧ x.tmps.getD 1 undef = .slice A n c ∧
    ∃ (q : Nat) (s : Fg.Js) (t : List (List Nat)), q ≤ n ∧ x.tmps.getD 5 undef = .int .i64 (q : Int) ∧ JAt a j s w ∧ Fg.JFit s ∧ s.1 = s0.1 ++ t ∧
      (if l = 0 then t.length ≤ q ∧ Fg.run (p.drop q) s = Fg.run p s0
       else t.length + 1 ≤ q ∧ ∃ (b : List Nat) (B : Option Addr) (d : Nat), x.tmps.getD 7 undef = .slice B b.length d ∧ Rd a B b.length b ∧ b.length ≤ d ∧ b.length ≤ 106 ∧ (match Fg.jstep s l b with | none => none | some s' => Fg.run (p.drop q) s') = Fg.run p s0)
def TakeM (n : Nat) (l : Nat) (x : Act) (_ : World) : Nat := (if l = 0 then 1 else 2) + 2 * (n - (intOf (x.tmps.getD 5 undef)).toNat)
def GivesTake (a : World) (j : Nat) (s0 : Fg.Js) (o : Option Fg.Js) (e : Ending) (w' : World) : Prop :=
  match o with
  | none => e = .returned (.bool false) ∧ ∃ (s : Fg.Js) (t : List (List Nat)), JAt a j s w' ∧ s.1 = s0.1 ++ t
  | some s' => e = .returned (.bool true) ∧ JAt a j s' w' ∧ Fg.JFit s'
set_option maxRecDepth 100000 in
set_option maxHeartbeats 8000000 in
theorem take_any (a : World) (j : Nat) (A : Option Addr) (n c : Nat) (p : List Nat) (s0 : Fg.Js) (w : World) (hJ : JAt a j s0 w) (hF : Fg.JFit s0) (hp : Rd a A n p) (hc : n ≤ c) (hmany : s0.1.length ≤ 900000) (hbig : n ≤ 9223372036854775807) :
    Calls Try.prog 36 #[.pointer (some ⟨j, 0, none⟩), .slice A n c] w (GivesTake a j s0 (Fg.jpay s0 p)) := by
  have hl := hp.1
  by_cases h108 : 108 < n
  · have hni : (108 : Int) < (n : Int) := by omega
    have e : Fg.jpay s0 p = none := by unfold Fg.jpay; rw [if_pos (by omega)]
    rw [e]
    have HJ := Lib.hid hJ
    clear hJ hF hp hl e
    go_enter Try.func36, Try.ntmps36
    go_wp2
    refine wp_scope_straight ?_
    go_wp2
    try rw [Exit.noGoto_ret]
    go_ret
    exact ⟨rfl, s0, [], HJ.out, by simp⟩
  · have hni : ¬ (108 : Int) < (n : Int) := by omega
    have e : Fg.jpay s0 p = Fg.run p s0 := by unfold Fg.jpay; rw [if_neg (by omega)]
    rw [e]
    have HP := Lib.hid hp
    have HJ := Lib.hid hJ
    have HF := Lib.hid hF
    have HL := Lib.hid hl
    clear hJ hF hp hl e
    go_enter Try.func36, Try.ntmps36
    go_wp2
    refine wp_scope5 (TakeJ a j A n c p s0) (TakeM n) rfl rfl rfl rfl rfl (fun l x w h => h.1) ?_ ?_ ?_ ?_ ?_ ?_
    · intro hp0
      go_wp2
      go_step3
      rename_i hk
      refine hk _ _ (hp0 _ _ ?_)
      exact ⟨by omega, rfl, rfl, rfl, rfl, 0, s0, [], Nat.zero_le _, rfl, HJ.out, HF.out, by simp, by rw [if_pos rfl]; exact ⟨Nat.le_refl _, rfl⟩⟩
    · rintro x v ⟨_, hs, hd, h0, h1, q, s, t, hq, h5, hJ, hF9, hst, hif⟩
      obtain ⟨u, rfl, hu⟩ := act84 x hs hd
      clear hu hs hd
      change u 0 = _ at h0
      change u 1 = _ at h1
      change u 5 = _ at h5
      rw [if_pos rfl] at hif
      obtain ⟨htq, hrun⟩ := hif
      rw [h0, h1, h5]
      clear h0 h1 h5
      have HRun := Lib.hid hrun
      have HSt := Lib.hid hst
      have HF9 := Lib.hid hF9
      clear hrun hst hF9
      by_cases hqn : q = n
      · subst hqn
        have hres : Fg.run p s0 = some s := by
          rw [← HRun.out, List.drop_of_length_le (Nat.le_of_eq HL.out)]; rfl
        rw [hres]
        have HJ9 := Lib.hid hJ
        clear hJ hres
        go_wp2
        simp only [Exit.jumps]
        go_ret
        exact ⟨rfl, HJ9.out, HF9.out⟩
      · have hqb : ((q : Int) == (n : Int)) = false := by rw [beq_eq_false_iff_ne]; omega
        have hrf := fun W => run_from A n c q hq hc W
        have hrd := rd_from (HP.out.below hJ.below) hq hc
        have hfr := fragment_any (partOf A c q) (n - q) (c - q) (p.drop q) v hrd (by omega) (by omega)
        have hda := rd_from HP.out hq hc
        have hne : p.drop q ≠ [] := by intro e; have := congrArg List.length e; rw [List.length_drop, HL.out] at this; simp at this; omega
        have hdl : (p.drop q).length = n - q := by rw [List.length_drop, HL.out]
        have HFr := Lib.hid hfr
        have HJ9 := Lib.hid hJ
        have HDa := Lib.hid hda
        have HNe := Lib.hid hne
        clear hJ hrd hfr hda hne hqn
        have hq0 : (0 : Int) ≤ (q : Int) := by omega
        go_wp2_with fail
        refine HFr.out.mono ?_
        rintro e9 v9 ⟨hb9, hnone, hsome⟩
        cases hf : Fg.frag1 (p.drop q) with
        | none =>
          obtain rfl := hnone hf
          have hres : Fg.run p s0 = none := by rw [← HRun.out]; exact Fg.run_none HNe.out hf
          have HRes := Lib.hid hres
          have HB9 := Lib.hid hb9
          clear hnone hsome hf hb9 hres
          go_wp2_with fail
          simp only [Exit.jumps]
          go_ret
          rw [HRes.out]
          exact ⟨rfl, s, t, HJ9.out.keep HB9.out, HSt.out⟩
        | some kb =>
          obtain ⟨k, b⟩ := kb
          obtain ⟨B, d, rfl, hrb, hbd⟩ := hsome k b hf
          obtain ⟨f1, f2, f3, f4⟩ := Fg.frag1_some hf
          rw [hdl] at f4
          have hstep := Fg.run_step (s := s) hf
          rw [HRun.out, List.drop_drop] at hstep
          have HStep := Lib.hid hstep
          have HRb := Lib.hid hrb
          have HB9 := Lib.hid hb9
          clear hnone hsome hf hrb hb9 hstep hdl
          rcases (show k = 1 ∨ k = 2 ∨ k = 3 ∨ k = 4 by omega) with rfl | rfl | rfl | rfl
          all_goals
            go_wp2_with fail
            first | go_step3 | skip
            refine ⟨⟨by omega, rfl, rfl, rfl, rfl, q + (2 + b.length), s, t, by omega, congrArg (Value.int .i64) (by omega), HJ9.out.keep HB9.out, HF9.out, HSt.out, ?_⟩, ?_⟩
            · rw [if_neg (by decide)]
              exact ⟨by omega, b, B, d, rfl, HRb.out a HDa.out, hbd, f3, HStep.out.symm⟩
            · simp [TakeM, intOf]; omega
    · rintro x v ⟨_, hs, hd, h0, h1, q, s, t, hq, h5, hJ, hF9, hst, hif⟩
      obtain ⟨u, rfl, hu⟩ := act84 x hs hd
      clear hu hs hd
      change u 0 = _ at h0
      change u 1 = _ at h1
      change u 5 = _ at h5
      rw [if_neg (by decide)] at hif
      obtain ⟨htq, b, B, d, h7, hrb, hbd, hb106, hrun⟩ := hif
      change u 7 = _ at h7
      rw [h0, h1, h5, h7]
      clear h0 h1 h5 h7
      obtain ⟨A1, n1, cap1, vs, B1, c1, m1, hH, hj, hT⟩ := hJ.any
      have yl := hH.1
      have yv := hH.at_ 1 rfl
      have yf := hH.2.2 1
      have hrv := hrb.below hT.below
      clear hJ
      go_upto_region 15 with fail
      have hT1 := hT.far (p := ⟨j, 1, none⟩) (by show a.heap.size ≤ j; omega) (by show j < j + 1; omega) (.bool false)
      have hH1 := hH.set 1 (.bool false) (by simp)
      have hrv1 := hrb.below hT1.below
      clear yl yv yf hrv hT hH
      generalize (v.setCell ⟨j, 1, none⟩ (.bool false)) = v1 at *
      have hTd := hT1.drew
      have hHd := hH1.below (Below.refl _ _).drew
      have hrd := hrv1.drew
      change Holds _ _ [.slice A1 n1 cap1, .bool false, .slice B1 m1 c1] at hHd
      have c0 := hHd.at_ 0 rfl
      have hl9 : 0 + b.length ≤ 100000000 := by omega
      have hn1 : n1 + 1 ≤ 1000000 := by
        have h1 := hT1.row.1
        have h2 := hT1.items.1
        rw [hst, List.length_append] at h2
        omega
      have HTd := Lib.hid hTd
      have HHd := Lib.hid hHd
      have hown := hTd.now
      have hba := hTd.size
      have HRun := Lib.hid hrun
      have HSt := Lib.hid hst
      clear hT1 hH1 hrv1 hTd hHd hrun hst hF9 hrb
      go_region_law ((first | (refine step_appB (by rfl) 47 rfl (.const (.slice none 0 0)) (.tmp 46) rfl rfl hown B b.length d b rfl hrd hl9 hba ?_; intro A3 c3 v3 hg3; have hT3 := HTd.out.app hg3 rfl; rw [List.nil_append] at hT3; have hH3 := HHd.out.gr hg3.grew (fun e => by cases e); have y03 := hH3.at_ 0 rfl; have hT4 := hT3.alloc (.cells #[.slice A3 b.length c3] 23); have hH4 := hH3.alloc (.cells #[.slice A3 b.length c3] 23); have y04 := hH4.at_ 0 rfl; have hra := rdv_one v3 23 (.slice A3 b.length c3); have hone : ∀ u ∈ [Value.slice A3 b.length c3], u.oneCell' = true := (by intro u hu; rw [List.mem_singleton] at hu; subst hu; rfl); have hrow4 := hT4.row; have hba4 := hT4.size; have HT4 := Lib.hid hT4; have HH4 := Lib.hid hH4; have hblk4 := hrow4.blk; clear hT3 hH3 hT4 hH4 hg3) | (refine step_appW oneB (by rfl) 49 rfl (.tmp 45) (.tmp 48) rfl rfl hrow4 (some ⟨v3.heap.size, 0, none⟩) 1 1 [.slice A3 b.length c3] hone rfl hra hn1 hba4 ?_; intro A5 c5 v5 hg5; have hT5 := HT4.out.push hg5; have hH5 := HH4.out.gr hg5.grew (fun e => by have := (hblk4 j e.symm).1; omega); have y05 := hH5.at_ 0 rfl; have yf5 := hH5.2.2 0; have yl5 := hH5.1; have HT5 := Lib.hid hT5; have HH5 := Lib.hid hH5; clear hT5 hH5 hg5)))
      all_goals
        go_wp2_with fail
        first | go_step3 | skip
        refine ⟨⟨by omega, rfl, rfl, rfl, rfl, q, (s.1 ++ [b], none), t ++ [b], by omega, rfl, ?_, (fun y e => by cases e), by rw [HSt.out, List.append_assoc], ?_⟩, ?_⟩
        · exact ⟨A5, n1 + 1, c5, _, B1, c1, m1, HH5.out.set 0 (.slice A5 (n1 + 1) c5) (by simp), by omega, by omega, HT5.out.far (p := ⟨j, 0, none⟩) (by show a.heap.size ≤ j; omega) (by show j < j + 1; omega) _⟩
        · rw [if_pos rfl]
          exact ⟨by rw [List.length_append]; simpa using htq, by have := HRun.out; simpa [Fg.jstep] using this⟩
        · simp [TakeM, intOf]
    · rintro x v ⟨_, hs, hd, h0, h1, q, s, t, hq, h5, hJ, hF9, hst, hif⟩
      obtain ⟨u, rfl, hu⟩ := act84 x hs hd
      clear hu hs hd
      change u 0 = _ at h0
      change u 1 = _ at h1
      change u 5 = _ at h5
      rw [if_neg (by decide)] at hif
      obtain ⟨htq, b, B, d, h7, hrb, hbd, hb106, hrun⟩ := hif
      change u 7 = _ at h7
      rw [h0, h1, h5, h7]
      clear h0 h1 h5 h7
      obtain ⟨A1, n1, cap1, vs, B1, c1, m1, hH, hj, hT⟩ := hJ.any
      have hown := hT.now
      have hba := hT.size
      have hrv := hrb.below hT.below
      have hH1 := Lib.hid hH
      have hT1 := Lib.hid hT
      have HRun := Lib.hid hrun
      have HSt := Lib.hid hst
      have HJs := Lib.hid hj
      have hl9 : 0 + b.length ≤ 100000000 := by omega
      clear hJ hH hT hrun hst hF9 hj hrb
      go_wp2_with (first | (at_builtin; refine wpList_appB rfl (.const (.slice none 0 0)) (.tmp 54) rfl rfl hown B b.length d b rfl hrv hl9 hba ?_; intro A3 c3 v3 hg3; have hT3 := hT1.out.app hg3 rfl; have hH3 := hH1.out.gr hg3.grew (fun e => by cases e); have yl := hH3.1; have y1 := hH3.at_ 1 rfl; have y2 := hH3.at_ 2 rfl; have yf1 := hH3.2.2 1; have yf2 := hH3.2.2 2; have HT3 := Lib.hid hT3; have HH3 := Lib.hid hH3; clear hT3 hH3 hg3))
      first | go_step3 | skip
      have hjj := HJs.out
      refine ⟨⟨by omega, rfl, rfl, rfl, rfl, q, (s.1, some b), t, by omega, rfl, ?_, fun y e => by injection e with e; subst e; omega, HSt.out, ?_⟩, ?_⟩
      · have hTf := (HT3.out.far (p := ⟨j, 1, none⟩) (by show a.heap.size ≤ j; omega) (by show j < j + 1; omega) (.bool true)).far (p := ⟨j, 2, none⟩) (by show a.heap.size ≤ j; omega) (by show j < j + 1; omega) (.slice A3 (0 + b.length) c3)
        have hHf := (HH3.out.set 1 (.bool true) (by simp)).set 2 (.slice A3 (0 + b.length) c3) (by simp)
        rw [List.nil_append] at hTf
        refine ⟨A1, n1, cap1, vs, A3, c3, b.length, ?_, by omega, by omega, rfl, ?_⟩
        · rw [Nat.zero_add] at hHf
          exact hHf
        · rw [Nat.zero_add] at hTf
          exact hTf
      · rw [if_pos rfl]
        exact ⟨by omega, HRun.out⟩
      · simp [TakeM, intOf]
    · rintro x v ⟨_, hs, hd, h0, h1, q, s, t, hq, h5, hJ, hF9, hst, hif⟩
      obtain ⟨u, rfl, hu⟩ := act84 x hs hd
      clear hu hs hd
      change u 0 = _ at h0
      change u 1 = _ at h1
      change u 5 = _ at h5
      rw [if_neg (by decide)] at hif
      obtain ⟨htq, b, B, d, h7, hrb, hbd, hb106, hrun⟩ := hif
      change u 7 = _ at h7
      rw [h0, h1, h5, h7]
      clear h0 h1 h5 h7
      have hgo := goOn_any a j s B b.length d b v hJ (hrb.below hJ.below) (by omega) hF9
      have HGo := Lib.hid hgo
      have HRun := Lib.hid hrun
      have HSt := Lib.hid hst
      have HF9 := Lib.hid hF9
      clear hJ hgo hrun hst hF9 hrb
      obtain ⟨L, o⟩ := s
      cases o with
      | none =>
        have hres : Fg.run p s0 = none := HRun.out.symm
        rw [hres]
        clear hres
        go_wp2_with fail
        refine HGo.out.mono ?_
        rintro e9 v9 ⟨rfl, hJ9⟩
        have HJ9 := Lib.hid hJ9
        clear hJ9
        go_wp2_with fail
        simp only [Exit.jumps]
        go_ret
        exact ⟨rfl, _, t, HJ9.out, HSt.out⟩
      | some y =>
        by_cases h8 : 8192 < y.length + b.length
        · have hres : Fg.run p s0 = none := by
            rw [← HRun.out]
            simp [Fg.jstep, h8]
          rw [hres]
          have hgo2 : Calls Try.prog 49 #[.pointer (some ⟨j, 0, none⟩), .slice B b.length d] v fun e w' => e = .returned (.bool false) ∧ JAt a j (L, some y) w' := HGo.out.mono fun e w' h => by
            have h2 : if 8192 < y.length + b.length then e = .returned (.bool false) ∧ JAt a j (L, some y) w' else e = .returned (.bool true) ∧ JAt a j (L, some (y ++ b)) w' := h
            rw [if_pos h8] at h2
            exact h2
          have HGo2 := Lib.hid hgo2
          clear hres hgo2 HGo h8
          go_wp2_with fail
          refine HGo2.out.mono ?_
          rintro e9 v9 ⟨rfl, hJ9⟩
          have HJ9 := Lib.hid hJ9
          clear hJ9
          go_wp2_with fail
          simp only [Exit.jumps]
          go_ret
          exact ⟨rfl, _, t, HJ9.out, HSt.out⟩
        · have hgo2 : Calls Try.prog 49 #[.pointer (some ⟨j, 0, none⟩), .slice B b.length d] v fun e w' => e = .returned (.bool true) ∧ JAt a j (L, some (y ++ b)) w' := HGo.out.mono fun e w' h => by
            have h2 : if 8192 < y.length + b.length then e = .returned (.bool false) ∧ JAt a j (L, some y) w' else e = .returned (.bool true) ∧ JAt a j (L, some (y ++ b)) w' := h
            rw [if_neg h8] at h2
            exact h2
          have hnext : Fg.run (p.drop q) (L, some (y ++ b)) = Fg.run p s0 := by
            rw [← HRun.out]
            simp [Fg.jstep, h8]
          have HNext := Lib.hid hnext
          have hlen8 : (y ++ b).length ≤ 8192 := by rw [List.length_append]; omega
          have HLen8 := Lib.hid hlen8
          have HGo2 := Lib.hid hgo2
          clear hgo2 HGo h8 hnext hlen8
          go_wp2_with fail
          refine HGo2.out.mono ?_
          rintro e9 v9 ⟨rfl, hJ9⟩
          have HJ9 := Lib.hid hJ9
          clear hJ9
          go_wp2_with fail
          first | go_step3 | skip
          refine ⟨⟨by omega, rfl, rfl, rfl, rfl, q, (L, some (y ++ b)), t, by omega, rfl, HJ9.out, fun z e => by injection e with e; subst e; exact HLen8.out, HSt.out, ?_⟩, ?_⟩
          · rw [if_pos rfl]
            exact ⟨by omega, HNext.out⟩
          · simp [TakeM, intOf]
    · rintro x v ⟨_, hs, hd, h0, h1, q, s, t, hq, h5, hJ, hF9, hst, hif⟩
      obtain ⟨u, rfl, hu⟩ := act84 x hs hd
      clear hu hs hd
      change u 0 = _ at h0
      change u 1 = _ at h1
      change u 5 = _ at h5
      rw [if_neg (by decide)] at hif
      obtain ⟨htq, b, B, d, h7, hrb, hbd, hb106, hrun⟩ := hif
      change u 7 = _ at h7
      rw [h0, h1, h5, h7]
      clear h0 h1 h5 h7
      have hgo := goOn_any a j s B b.length d b v hJ (hrb.below hJ.below) (by omega) hF9
      have HGo := Lib.hid hgo
      have HRun := Lib.hid hrun
      have HSt := Lib.hid hst
      have HF9 := Lib.hid hF9
      clear hJ hgo hrun hst hF9 hrb
      obtain ⟨L, o⟩ := s
      cases o with
      | none =>
        have hres : Fg.run p s0 = none := HRun.out.symm
        rw [hres]
        clear hres
        go_wp2_with fail
        refine HGo.out.mono ?_
        rintro e9 v9 ⟨rfl, hJ9⟩
        have HJ9 := Lib.hid hJ9
        clear hJ9
        go_wp2_with fail
        simp only [Exit.jumps]
        go_ret
        exact ⟨rfl, _, t, HJ9.out, HSt.out⟩
      | some y =>
        by_cases h8 : 8192 < y.length + b.length
        · have hres : Fg.run p s0 = none := by
            rw [← HRun.out]
            simp [Fg.jstep, h8]
          rw [hres]
          have hgo2 : Calls Try.prog 49 #[.pointer (some ⟨j, 0, none⟩), .slice B b.length d] v fun e w' => e = .returned (.bool false) ∧ JAt a j (L, some y) w' := HGo.out.mono fun e w' h => by
            have h2 : if 8192 < y.length + b.length then e = .returned (.bool false) ∧ JAt a j (L, some y) w' else e = .returned (.bool true) ∧ JAt a j (L, some (y ++ b)) w' := h
            rw [if_pos h8] at h2
            exact h2
          have HGo2 := Lib.hid hgo2
          clear hres hgo2 HGo h8
          go_wp2_with fail
          refine HGo2.out.mono ?_
          rintro e9 v9 ⟨rfl, hJ9⟩
          have HJ9 := Lib.hid hJ9
          clear hJ9
          go_wp2_with fail
          simp only [Exit.jumps]
          go_ret
          exact ⟨rfl, _, t, HJ9.out, HSt.out⟩
        · have hgo2 : Calls Try.prog 49 #[.pointer (some ⟨j, 0, none⟩), .slice B b.length d] v fun e w' => e = .returned (.bool true) ∧ JAt a j (L, some (y ++ b)) w' := HGo.out.mono fun e w' h => by
            have h2 : if 8192 < y.length + b.length then e = .returned (.bool false) ∧ JAt a j (L, some y) w' else e = .returned (.bool true) ∧ JAt a j (L, some (y ++ b)) w' := h
            rw [if_neg h8] at h2
            exact h2
          have hnext : Fg.run (p.drop q) (L ++ [y ++ b], none) = Fg.run p s0 := by
            rw [← HRun.out]
            simp [Fg.jstep, h8]
          have HNext := Lib.hid hnext
          have hlen8 : (y ++ b).length ≤ 8192 := by rw [List.length_append]; omega
          have HLen8 := Lib.hid hlen8
          have HGo2 := Lib.hid hgo2
          clear hgo2 HGo h8 hnext hlen8
          go_wp2_with fail
          refine HGo2.out.mono ?_
          rintro e9 v9 ⟨rfl, hJ9⟩
          obtain ⟨A1, n1, cap1, vs, B2, c2, hH, hj, hT⟩ := hJ9.opened
          generalize hcur : y ++ b = cur at *
          have yl := hH.1
          have yv := hH.at_ 1 rfl
          have yf := hH.2.2 1
          clear hJ9
          go_upto_region 22 with fail
          have hT1 := hT.far (p := ⟨j, 1, none⟩) (by show a.heap.size ≤ j; omega) (by show j < j + 1; omega) (.bool false)
          have hH1 := hH.set 1 (.bool false) (by simp)
          clear yl yv yf hT hH
          generalize (v9.setCell ⟨j, 1, none⟩ (.bool false)) = v1 at *
          have hTd := hT1.drew
          have hHd := hH1.below (Below.refl _ _).drew
          change Holds _ _ [.slice A1 n1 cap1, .bool false, .slice B2 cur.length c2] at hHd
          have c0 := hHd.at_ 0 rfl
          have c2c := hHd.at_ 2 rfl
          have hn1 : n1 + 1 ≤ 1000000 := by
            have h1 := hT1.row.1
            have h2 : vs.length = L.length := hT1.items.1
            have h3 : L.length = (s0.1 ++ t).length := congrArg List.length HSt.out
            rw [List.length_append] at h3
            omega
          have hT4 := hTd.alloc (.cells #[.slice B2 cur.length c2] 23)
          have hH4 := hHd.alloc (.cells #[.slice B2 cur.length c2] 23)
          have y04 := hH4.at_ 0 rfl
          have y04b := (hH1.alloc (.cells #[.slice B2 cur.length c2] 23)).at_ 0 rfl
          have y02b := (hH1.alloc (.cells #[.slice B2 cur.length c2] 23)).at_ 2 rfl
          have hra := rdv_one v1.drew 23 (.slice B2 cur.length c2)
          have hone : ∀ u ∈ [Value.slice B2 cur.length c2], u.oneCell' = true := by intro u hu; rw [List.mem_singleton] at hu; subst hu; rfl
          have hrow4 := hT4.row
          have hba4 := hT4.size
          have hblk4 := hrow4.blk
          have HT4 := Lib.hid hT4
          have HH4 := Lib.hid hH4
          have HBlk := Lib.hid hblk4
          clear hT1 hH1 hTd hHd hT4 hH4 hblk4 hcur
          go_region_law ((refine step_appW oneB (by rfl) 81 rfl (.tmp 75) (.tmp 80) rfl rfl hrow4 (some ⟨v1.heap.size, 0, none⟩) 1 1 [.slice B2 cur.length c2] hone rfl hra hn1 hba4 ?_; intro A5 c5 v5 hg5; have hT5 := HT4.out.push hg5; have hH5 := HH4.out.gr hg5.grew (fun e => by have := (HBlk.out j e.symm).1; omega); have y05 := hH5.at_ 0 rfl; have yf5 := hH5.2.2 0; have yl5 := hH5.1; have HT5 := Lib.hid hT5; have HH5 := Lib.hid hH5; clear hT5 hH5 hg5))
          all_goals
            go_wp2_with fail
            first | go_step3 | skip
            refine ⟨⟨by omega, rfl, rfl, rfl, rfl, q, (L ++ [cur], none), t ++ [cur], by omega, rfl, ?_, (fun y e => by cases e), by have h9 : L = s0.1 ++ t := HSt.out; show L ++ [cur] = _; rw [h9, List.append_assoc], ?_⟩, ?_⟩
            · exact ⟨A5, n1 + 1, c5, _, B2, c2, cur.length, HH5.out.set 0 (.slice A5 (n1 + 1) c5) (by simp), by omega, by omega, HT5.out.far (p := ⟨j, 0, none⟩) (by show a.heap.size ≤ j; omega) (by show j < j + 1; omega) _⟩
            · rw [if_pos rfl]
              exact ⟨by rw [List.length_append]; simpa using htq, HNext.out⟩
            · simp [TakeM, intOf]
end Go.Proofs.Ytpggomekbahddaa
