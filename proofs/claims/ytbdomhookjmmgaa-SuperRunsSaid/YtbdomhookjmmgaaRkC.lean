/- The document's disk: Write, to a sector with no loose write. The document's disk: Write, to a sector with loose writes. The document's disk: Write. -/
import Derived.Test.YtbdomhookjmmgaaRkB
import Derived.Test.YtbdomhookjmmgaaDkC
import Derived.Test.YtbdomhookjmmgaaRg
import Derived.Deep.RegionHeld3
import Derived.Deep.DeepCutAuto
namespace Go.Proofs.Ytbdomhookjmmgaa
open Go.RowKit
set_option linter.unusedVariables false
set_option linter.unusedSimpArgs false
set_option maxRecDepth 100000 in
set_option maxHeartbeats 4000000 in
theorem rwrite_none (i : Nat) (s : Dk.Sec) (A : Option Addr) (cb kk : Nat) (b : List Nat) (w : World) (g : Nat) (lab : Nat → Tag) (st : Dk.St) (h : IsRef w g lab st) (hb : Rd w A 128 b) (hlow : st.low kk) (hk0 : kk ≤ 1000) (hs : st.s[i]? = some s) (hl : s.l = [])
    (HD : Hid (Calls Try.prog 63 #[.pointer (some ⟨g, 0, none⟩)] w fun e w' => e = .returned (.bool false) ∧ w = w')) (HH : Hid (Calls Try.prog 64 #[.pointer (some ⟨g, 0, none⟩), .int .i64 (i : Int)] w fun e w' => e = .returned (.bool true) ∧ w = w')) (hd : st.down = false) :
    Calls Try.prog 28 #[.pointer (some ⟨g, 0, none⟩), .int .i64 (i : Int), .slice A 128 cb] w fun e w' => e = .returned (.int .i64 0) ∧ LeftR lab g (Dk.St.burn ⟨Dk.upd st.s i (fun s => ⟨s.f, s.l ++ [b]⟩), st.n, st.fused, st.left⟩) w w' := by
  have hsm := hlow.small hk0
  have hbl := hb.1
  obtain ⟨sb, C, h⟩ := h
  have H := Lib.hid h
  have hN := h.fine.2.2
  have hii : (i : Int) < (st.s.length : Int) := by have := (List.getElem?_eq_some_iff.1 hs).1; omega
  have c0 := h.box.at_ 0 rfl
  have hgl := h.box.1
  have hsl := h.row.1
  obtain ⟨c, hc, _, k1, hsec⟩ := h.at_ hs
  obtain ⟨h2000, B, cp, vs, el, hrv, hlf, hlv⟩ := hsec.l
  rw [el] at k1
  have frz := h.row.2.2 (i * 2 + 1)
  have HS := Lib.hid hs
  have HC := Lib.hid hc
  have HRB := Lib.hid hb.row
  have HBy := Lib.hid (show ∀ x ∈ b, x < 256 from fun x hx => hb.lt hx)
  have HBl := Lib.hid hbl
  have HOld := Lib.hid h.old
  have HLv := Lib.hid hlv
  have Hd := Lib.hid hd
  have hll := hlow.2.2.2.2 s (List.mem_of_getElem? hs)
  have Hsm := Lib.hid hsm
  rw [hl] at k1
  have HSl := Lib.hid hl
  clear h hsec el hrv hlf hlv hs hc hb hbl hd hlow hsm hl hll h2000 hk0
  go_enter Try.func28, Try.ntmps28
  go_upto_region 5 with (refine HD.out.mono ?_; rintro e w' ⟨rfl, rfl⟩)
  go_upto_region 9 with (refine HH.out.mono ?_; rintro e w' ⟨rfl, rfl⟩)
  have HCl := Lib.hid (fun wx (hb : Below w.heap.size w wx) => (⟨(hb.cell (p := ⟨g, 0, none⟩) hgl).trans c0, (hb.cell (p := ⟨sb, i * 2 + 1, none⟩) hsl).trans k1⟩ : wx.cell? ⟨g, 0, none⟩ = some (.slice (some ⟨sb, 0, none⟩) st.s.length st.s.length) ∧ wx.cell? ⟨sb, i * 2 + 1, none⟩ = some (.slice B 0 cp)))
  go_cut [] from 22 to 43 (fun wx => Hid (LeftR lab g ⟨Dk.upd st.s i (fun s => ⟨s.f, s.l ++ [b]⟩), st.n, st.fused, st.left⟩ w wx))
  case first =>
            have hHeld := HCl.out w.drew ((Below.refl _ _).drew)
            clear c0 k1
            refine region_end (fun wx => wx.cell? ⟨g, 0, none⟩ = some (.slice (some ⟨sb, 0, none⟩) st.s.length st.s.length) ∧ wx.cell? ⟨sb, i * 2 + 1, none⟩ = some (.slice B 0 cp)) (by kernel_rfl) (by simp) (by kernel_rfl) ?_
            simp only [List.dropLast, List.length_cons, List.length_nil]
            refine take_at (i := 0) (v := ?_) (some 22) rfl rfl (by kernel_rfl) (by kernel_rfl) (by kernel_rfl) (fun _ _ _ h => h) (by rfl) hHeld ?_ ?_
            rotate_left
            · intro wz hSw; (try dsimp only at hSw); go_simp; (try with_reducible rfl)
            simp only [Act.put, List.setIfInBounds_toArray, List.set_cons_zero, List.set_cons_succ]
            refine take_at (i := 1) (v := ?_) (some 23) rfl rfl (by kernel_rfl) (by kernel_rfl) (by kernel_rfl) (fun _ _ _ h => h) (by rfl) hHeld ?_ ?_
            rotate_left
            · intro wz hSw; (try dsimp only at hSw); go_simp; (try with_reducible rfl)
            simp only [Act.put, List.setIfInBounds_toArray, List.set_cons_zero, List.set_cons_succ]
            refine take_at (i := 2) (v := ?_) (some 24) rfl rfl (by kernel_rfl) (by kernel_rfl) (by kernel_rfl) (fun _ _ _ h => h) (by rfl) hHeld ?_ ?_
            rotate_left
            · intro wz hSw; (try dsimp only at hSw); go_simp; (try with_reducible rfl)
            simp only [Act.put, List.setIfInBounds_toArray, List.set_cons_zero, List.set_cons_succ]
            refine take_at (i := 3) (v := ?_) (some 25) rfl rfl (by kernel_rfl) (by kernel_rfl) (by kernel_rfl) (fun _ _ _ h => h) (by rfl) hHeld ?_ ?_
            rotate_left
            · intro wz hSw; (try dsimp only at hSw); go_simp; (try with_reducible rfl)
            simp only [Act.put, List.setIfInBounds_toArray, List.set_cons_zero, List.set_cons_succ]
            refine take_at (i := 4) (v := ?_) (some 26) rfl rfl (by kernel_rfl) (by kernel_rfl) (by kernel_rfl) (fun _ _ _ h => h) (by rfl) hHeld ?_ ?_
            rotate_left
            · intro wz hSw; (try dsimp only at hSw); go_simp; (try with_reducible rfl)
            simp only [Act.put, List.setIfInBounds_toArray, List.set_cons_zero, List.set_cons_succ]
            refine take_at (i := 6) (v := ?_) (some 28) rfl rfl (by kernel_rfl) (by kernel_rfl) (by kernel_rfl) (fun _ _ _ h => h) (by rfl) hHeld ?_ ?_
            rotate_left
            · intro wz hSw; (try dsimp only at hSw); go_simp; (try with_reducible rfl)
            simp only [Act.put, List.setIfInBounds_toArray, List.set_cons_zero, List.set_cons_succ]
            refine take_at (i := 7) (v := ?_) (some 29) rfl rfl (by kernel_rfl) (by kernel_rfl) (by kernel_rfl) (fun _ _ _ h => h) (by rfl) hHeld ?_ ?_
            rotate_left
            · intro wz hSw; (try dsimp only at hSw); go_simp; (try with_reducible rfl)
            simp only [Act.put, List.setIfInBounds_toArray, List.set_cons_zero, List.set_cons_succ]
            refine take_at (i := 8) (v := ?_) (some 30) rfl rfl (by kernel_rfl) (by kernel_rfl) (by kernel_rfl) (fun _ _ _ h => h) (by rfl) hHeld ?_ ?_
            rotate_left
            · intro wz hSw; (try dsimp only at hSw); go_simp; (try with_reducible rfl)
            simp only [Act.put, List.setIfInBounds_toArray, List.set_cons_zero, List.set_cons_succ]
            refine take_at (i := 9) (v := ?_) (some 31) rfl rfl (by kernel_rfl) (by kernel_rfl) (by kernel_rfl) (fun _ _ _ h => h) (by rfl) hHeld ?_ ?_
            rotate_left
            · intro wz hSw; (try dsimp only at hSw); go_simp; (try with_reducible rfl)
            simp only [Act.put, List.setIfInBounds_toArray, List.set_cons_zero, List.set_cons_succ]
            refine take_at (i := 10) (v := ?_) (some 32) rfl rfl (by kernel_rfl) (by kernel_rfl) (by kernel_rfl) (fun _ _ _ h => h) (by rfl) hHeld ?_ ?_
            rotate_left
            · intro wz hSw; (try dsimp only at hSw); go_simp; (try with_reducible rfl)
            simp only [Act.put, List.setIfInBounds_toArray, List.set_cons_zero, List.set_cons_succ]
            refine take_at (i := 11) (v := ?_) (some 33) rfl rfl (by kernel_rfl) (by kernel_rfl) (by kernel_rfl) (fun _ _ _ h => h) (by rfl) hHeld ?_ ?_
            rotate_left
            · intro wz hSw; (try dsimp only at hSw); go_simp; (try with_reducible rfl)
            simp only [Act.put, List.setIfInBounds_toArray, List.set_cons_zero, List.set_cons_succ]
            refine take_at (i := 12) (v := ?_) (some 34) rfl rfl (by kernel_rfl) (by kernel_rfl) (by kernel_rfl) (fun _ _ _ h => h) (by rfl) hHeld ?_ ?_
            rotate_left
            · intro wz hSw; (try dsimp only at hSw); go_simp; (try with_reducible rfl)
            simp only [Act.put, List.setIfInBounds_toArray, List.set_cons_zero, List.set_cons_succ]
            refine take_at (i := 13) (v := ?_) (some 35) rfl rfl (by kernel_rfl) (by kernel_rfl) (by kernel_rfl) (fun _ _ _ h => h) (by rfl) hHeld ?_ ?_
            rotate_left
            · intro wz hSw; (try dsimp only at hSw); go_simp; (try with_reducible rfl)
            simp only [Act.put, List.setIfInBounds_toArray, List.set_cons_zero, List.set_cons_succ]
            refine take_at (i := 16) (v := ?_) (some 38) rfl rfl (by kernel_rfl) (by kernel_rfl) (by kernel_rfl) (fun _ _ _ h => h) (by rfl) hHeld ?_ ?_
            rotate_left
            · intro wz hSw; (try dsimp only at hSw); go_simp; (try with_reducible rfl)
            simp only [Act.put, List.setIfInBounds_toArray, List.set_cons_zero, List.set_cons_succ]
            refine wpAnyH_ready (rs := [5, 15]) (by kernel_rfl) (by simp) ?_
            refine ready_cons (i := 5) rfl (by rfl) (fun K hK => ?_) ?_
            · clear hHeld
              refine wp_build0 row_one 27 rfl rfl ?_
              refine hK.out _ _ ?_ ?_
              · exact HCl.out _ (by repeat (first | with_reducible exact Below.refl _ _ | assumption | with_reducible refine below_al ?_ _ | with_reducible refine below_dr ?_))
              clear hK K
              simp only [Act.put, List.setIfInBounds_toArray, List.set_cons_zero, List.set_cons_succ]
              refine wpAnyH_ready (rs := [14, 15]) (by kernel_rfl) (by simp) ?_
              refine ready_cons (i := 14) rfl (by rfl) (fun K hK => ?_) ?_
              · skip
                refine wp_none row_one 36 rfl (.tmp 27) (.tmp 35) rfl _ rfl B cp rfl ?_
                refine hK.out _ _ ?_ ?_
                · exact HCl.out _ (by repeat (first | with_reducible exact Below.refl _ _ | assumption | with_reducible refine below_al ?_ _ | with_reducible refine below_dr ?_))
                clear hK K
                simp only [Act.put, List.setIfInBounds_toArray, List.set_cons_zero, List.set_cons_succ]
                refine wpAnyH_ready (rs := [15]) (by kernel_rfl) (by simp) ?_
                refine ready_cons (i := 15) rfl (by rfl) (fun K hK => ?_) ?_
                · skip
                  refine wp_build0 byte_one 37 rfl rfl ?_
                  refine hK.out _ _ ?_ ?_
                  · exact HCl.out _ (by repeat (first | with_reducible exact Below.refl _ _ | assumption | with_reducible refine below_al ?_ _ | with_reducible refine below_dr ?_))
                  clear hK K
                  simp only [Act.put, List.setIfInBounds_toArray, List.set_cons_zero, List.set_cons_succ]
                  refine wpAnyH_ready (rs := [17]) (by kernel_rfl) (by simp) ?_
                  refine ready_cons (i := 17) rfl (by rfl) (fun K hK => ?_) ?_
                  · skip
                    refine wp_fresh byte_one 39 rfl (.tmp 37) (.tmp 38) rfl _ rfl A 128 cb (bv b) rfl (by omega) (by repeat (first | exact HRB.out | assumption | with_reducible refine RdV.al ?_ _ | with_reducible refine RdV.dr ?_ | refine RdV.st ?_ (by assumption))) (by omega) ?_
                    intro q2 c2 v2 hq2 hl2 ho2' hs2
                    have ho2 : OwnV v2 w.heap.size 5 (some ⟨q2, 0, none⟩) 128 c2 (bv b) := ho2'.base_ (bel_size (by repeat (first | with_reducible exact Below.refl _ _ | assumption | with_reducible refine below_al ?_ _ | with_reducible refine below_dr ?_)))
                    have hw2 : w.heap.size ≤ q2 := Nat.le_trans (bel_size (by repeat (first | with_reducible exact Below.refl _ _ | assumption | with_reducible refine below_al ?_ _ | with_reducible refine below_dr ?_))) hq2
                    have hB2 : Below w.heap.size w v2 := below_st (by repeat (first | with_reducible exact Below.refl _ _ | assumption | with_reducible refine below_al ?_ _ | with_reducible refine below_dr ?_)) hs2
                    clear ho2' hq2 hl2
                    refine hK.out _ _ ?_ ?_
                    · exact HCl.out _ (by repeat (first | with_reducible exact Below.refl _ _ | assumption | with_reducible refine below_al ?_ _ | with_reducible refine below_dr ?_))
                    clear hK K
                    simp only [Act.put, List.setIfInBounds_toArray, List.set_cons_zero, List.set_cons_succ]
                    refine wpAnyH_ready (rs := [18]) (by kernel_rfl) (by simp) ?_
                    refine ready_cons (i := 18) rfl (by rfl) (fun K hK => ?_) ?_
                    · skip
                      refine wp_build1 row_one 40 rfl 39 (.slice (some ⟨q2, 0, none⟩) 128 c2) rfl rfl rfl ?_
                      refine hK.out _ _ ?_ ?_
                      · exact HCl.out _ (by repeat (first | with_reducible exact Below.refl _ _ | assumption | with_reducible refine below_al ?_ _ | with_reducible refine below_dr ?_))
                      clear hK K
                      simp only [Act.put, List.setIfInBounds_toArray, List.set_cons_zero, List.set_cons_succ]
                      refine wpAnyH_ready (rs := [19]) (by kernel_rfl) (by simp) ?_
                      refine ready_cons (i := 19) rfl (by rfl) (fun K hK => ?_) ?_
                      · skip
                        refine wp_fresh row_one 41 rfl (.tmp 36) (.tmp 40) rfl _ rfl _ 1 _ [.slice (some ⟨q2, 0, none⟩) 128 c2] rfl (by omega) (by repeat (first | exact rdv_at _ _ (by simp) | exact rdv_at _ _ rfl | with_reducible refine RdV.al ?_ _ | with_reducible refine RdV.dr ?_ | refine RdV.st ?_ (by assumption))) (by omega) ?_
                        intro q3 c3 v3 hq3 hl3 ho3 hs3
                        have hB3 : Below w.heap.size w v3 := below_st (by repeat (first | with_reducible exact Below.refl _ _ | assumption | with_reducible refine below_al ?_ _ | with_reducible refine below_dr ?_)) hs3
                        have h31 : OwnV v3 w.heap.size 28 (some ⟨q3, 0, none⟩) 1 c3 [.slice (some ⟨q2, 0, none⟩) 128 c2] := ho3.base_ (bel_size (by repeat (first | with_reducible exact Below.refl _ _ | assumption | with_reducible refine below_al ?_ _ | with_reducible refine below_dr ?_)))
                        have h32 : OwnV v3 w.heap.size 5 (some ⟨q2, 0, none⟩) 128 c2 (bv b) := OwnV.st (by repeat (first | exact ho2 | with_reducible refine OwnV.al ?_ _ | with_reducible refine OwnV.dr ?_ | refine OwnV.st ?_ (by assumption))) hs3
                        have HE := Lib.hid (row_end0 HOld.out hB3 h31 h32 HBy.out hw2)
                        clear ho3 hs3 h31 h32 hq3 hl3
                        refine hK.out _ _ ?_ ?_
                        · exact HCl.out _ (by repeat (first | with_reducible exact Below.refl _ _ | assumption | with_reducible refine below_al ?_ _ | with_reducible refine below_dr ?_))
                        clear hK K
                        simp only [Act.put, List.setIfInBounds_toArray, List.set_cons_zero, List.set_cons_succ]
                        have hHeld := HCl.out v3 hB3
                        refine take_at (i := 20) (v := ?_) (some 42) rfl rfl (by kernel_rfl) (by kernel_rfl) (by kernel_rfl) (fun _ _ _ h => h) (by rfl) hHeld ?_ ?_
                        rotate_left
                        · intro wz hSw; (try dsimp only at hSw); go_simp; (try with_reducible rfl)
                        simp only [Act.put, List.setIfInBounds_toArray, List.set_cons_zero, List.set_cons_succ]
                        refine take_at (i := 21) (v := ?_) (some 43) rfl rfl (by kernel_rfl) (by kernel_rfl) (by kernel_rfl) (fun _ _ _ h => h) (by rfl) hHeld ?_ ?_
                        rotate_left
                        · intro wz hSw; (try dsimp only at hSw); go_simp; (try with_reducible rfl)
                        simp only [Act.put, List.setIfInBounds_toArray, List.set_cons_zero, List.set_cons_succ]
                        refine wpAnyH_done (by kernel_rfl) ?_ _
                        have k13 := hHeld.2
                        have f13 := (hB3.frozen (p := ⟨sb, i * 2 + 1, none⟩) hsl).trans frz
                        clear hHeld hB3
                        change wpList _ _ _ _ _ _
                        go_wp2
                        go_meet
                        case rel => exact Lib.hid (wrote_ref H.out HS.out HC.out HE.out.1 (by rw [HSl.out]; exact HE.out.2) ⟨HBl.out, HBy.out⟩)
                      exact AllReadyH.nil
                    exact AllReadyH.nil
                  exact AllReadyH.nil
                exact AllReadyH.nil
              refine ready_cons (i := 15) rfl (by rfl) (fun K hK => ?_) ?_
              · skip
                refine wp_build0 byte_one 37 rfl rfl ?_
                refine hK.out _ _ ?_ ?_
                · exact HCl.out _ (by repeat (first | with_reducible exact Below.refl _ _ | assumption | with_reducible refine below_al ?_ _ | with_reducible refine below_dr ?_))
                clear hK K
                simp only [Act.put, List.setIfInBounds_toArray, List.set_cons_zero, List.set_cons_succ]
                refine wpAnyH_ready (rs := [14]) (by kernel_rfl) (by simp) ?_
                refine ready_cons (i := 14) rfl (by rfl) (fun K hK => ?_) ?_
                · skip
                  refine wp_none row_one 36 rfl (.tmp 27) (.tmp 35) rfl _ rfl B cp rfl ?_
                  refine hK.out _ _ ?_ ?_
                  · exact HCl.out _ (by repeat (first | with_reducible exact Below.refl _ _ | assumption | with_reducible refine below_al ?_ _ | with_reducible refine below_dr ?_))
                  clear hK K
                  simp only [Act.put, List.setIfInBounds_toArray, List.set_cons_zero, List.set_cons_succ]
                  refine wpAnyH_ready (rs := [17]) (by kernel_rfl) (by simp) ?_
                  refine ready_cons (i := 17) rfl (by rfl) (fun K hK => ?_) ?_
                  · skip
                    refine wp_fresh byte_one 39 rfl (.tmp 37) (.tmp 38) rfl _ rfl A 128 cb (bv b) rfl (by omega) (by repeat (first | exact HRB.out | assumption | with_reducible refine RdV.al ?_ _ | with_reducible refine RdV.dr ?_ | refine RdV.st ?_ (by assumption))) (by omega) ?_
                    intro q2 c2 v2 hq2 hl2 ho2' hs2
                    have ho2 : OwnV v2 w.heap.size 5 (some ⟨q2, 0, none⟩) 128 c2 (bv b) := ho2'.base_ (bel_size (by repeat (first | with_reducible exact Below.refl _ _ | assumption | with_reducible refine below_al ?_ _ | with_reducible refine below_dr ?_)))
                    have hw2 : w.heap.size ≤ q2 := Nat.le_trans (bel_size (by repeat (first | with_reducible exact Below.refl _ _ | assumption | with_reducible refine below_al ?_ _ | with_reducible refine below_dr ?_))) hq2
                    have hB2 : Below w.heap.size w v2 := below_st (by repeat (first | with_reducible exact Below.refl _ _ | assumption | with_reducible refine below_al ?_ _ | with_reducible refine below_dr ?_)) hs2
                    clear ho2' hq2 hl2
                    refine hK.out _ _ ?_ ?_
                    · exact HCl.out _ (by repeat (first | with_reducible exact Below.refl _ _ | assumption | with_reducible refine below_al ?_ _ | with_reducible refine below_dr ?_))
                    clear hK K
                    simp only [Act.put, List.setIfInBounds_toArray, List.set_cons_zero, List.set_cons_succ]
                    refine wpAnyH_ready (rs := [18]) (by kernel_rfl) (by simp) ?_
                    refine ready_cons (i := 18) rfl (by rfl) (fun K hK => ?_) ?_
                    · skip
                      refine wp_build1 row_one 40 rfl 39 (.slice (some ⟨q2, 0, none⟩) 128 c2) rfl rfl rfl ?_
                      refine hK.out _ _ ?_ ?_
                      · exact HCl.out _ (by repeat (first | with_reducible exact Below.refl _ _ | assumption | with_reducible refine below_al ?_ _ | with_reducible refine below_dr ?_))
                      clear hK K
                      simp only [Act.put, List.setIfInBounds_toArray, List.set_cons_zero, List.set_cons_succ]
                      refine wpAnyH_ready (rs := [19]) (by kernel_rfl) (by simp) ?_
                      refine ready_cons (i := 19) rfl (by rfl) (fun K hK => ?_) ?_
                      · skip
                        refine wp_fresh row_one 41 rfl (.tmp 36) (.tmp 40) rfl _ rfl _ 1 _ [.slice (some ⟨q2, 0, none⟩) 128 c2] rfl (by omega) (by repeat (first | exact rdv_at _ _ (by simp) | exact rdv_at _ _ rfl | with_reducible refine RdV.al ?_ _ | with_reducible refine RdV.dr ?_ | refine RdV.st ?_ (by assumption))) (by omega) ?_
                        intro q3 c3 v3 hq3 hl3 ho3 hs3
                        have hB3 : Below w.heap.size w v3 := below_st (by repeat (first | with_reducible exact Below.refl _ _ | assumption | with_reducible refine below_al ?_ _ | with_reducible refine below_dr ?_)) hs3
                        have h31 : OwnV v3 w.heap.size 28 (some ⟨q3, 0, none⟩) 1 c3 [.slice (some ⟨q2, 0, none⟩) 128 c2] := ho3.base_ (bel_size (by repeat (first | with_reducible exact Below.refl _ _ | assumption | with_reducible refine below_al ?_ _ | with_reducible refine below_dr ?_)))
                        have h32 : OwnV v3 w.heap.size 5 (some ⟨q2, 0, none⟩) 128 c2 (bv b) := OwnV.st (by repeat (first | exact ho2 | with_reducible refine OwnV.al ?_ _ | with_reducible refine OwnV.dr ?_ | refine OwnV.st ?_ (by assumption))) hs3
                        have HE := Lib.hid (row_end0 HOld.out hB3 h31 h32 HBy.out hw2)
                        clear ho3 hs3 h31 h32 hq3 hl3
                        refine hK.out _ _ ?_ ?_
                        · exact HCl.out _ (by repeat (first | with_reducible exact Below.refl _ _ | assumption | with_reducible refine below_al ?_ _ | with_reducible refine below_dr ?_))
                        clear hK K
                        simp only [Act.put, List.setIfInBounds_toArray, List.set_cons_zero, List.set_cons_succ]
                        have hHeld := HCl.out v3 hB3
                        refine take_at (i := 20) (v := ?_) (some 42) rfl rfl (by kernel_rfl) (by kernel_rfl) (by kernel_rfl) (fun _ _ _ h => h) (by rfl) hHeld ?_ ?_
                        rotate_left
                        · intro wz hSw; (try dsimp only at hSw); go_simp; (try with_reducible rfl)
                        simp only [Act.put, List.setIfInBounds_toArray, List.set_cons_zero, List.set_cons_succ]
                        refine take_at (i := 21) (v := ?_) (some 43) rfl rfl (by kernel_rfl) (by kernel_rfl) (by kernel_rfl) (fun _ _ _ h => h) (by rfl) hHeld ?_ ?_
                        rotate_left
                        · intro wz hSw; (try dsimp only at hSw); go_simp; (try with_reducible rfl)
                        simp only [Act.put, List.setIfInBounds_toArray, List.set_cons_zero, List.set_cons_succ]
                        refine wpAnyH_done (by kernel_rfl) ?_ _
                        have k13 := hHeld.2
                        have f13 := (hB3.frozen (p := ⟨sb, i * 2 + 1, none⟩) hsl).trans frz
                        clear hHeld hB3
                        change wpList _ _ _ _ _ _
                        go_wp2
                        go_meet
                        case rel => exact Lib.hid (wrote_ref H.out HS.out HC.out HE.out.1 (by rw [HSl.out]; exact HE.out.2) ⟨HBl.out, HBy.out⟩)
                      exact AllReadyH.nil
                    exact AllReadyH.nil
                  exact AllReadyH.nil
                exact AllReadyH.nil
              exact AllReadyH.nil
            refine ready_cons (i := 15) rfl (by rfl) (fun K hK => ?_) ?_
            · clear hHeld
              refine wp_build0 byte_one 37 rfl rfl ?_
              refine hK.out _ _ ?_ ?_
              · exact HCl.out _ (by repeat (first | with_reducible exact Below.refl _ _ | assumption | with_reducible refine below_al ?_ _ | with_reducible refine below_dr ?_))
              clear hK K
              simp only [Act.put, List.setIfInBounds_toArray, List.set_cons_zero, List.set_cons_succ]
              refine wpAnyH_ready (rs := [5]) (by kernel_rfl) (by simp) ?_
              refine ready_cons (i := 5) rfl (by rfl) (fun K hK => ?_) ?_
              · skip
                refine wp_build0 row_one 27 rfl rfl ?_
                refine hK.out _ _ ?_ ?_
                · exact HCl.out _ (by repeat (first | with_reducible exact Below.refl _ _ | assumption | with_reducible refine below_al ?_ _ | with_reducible refine below_dr ?_))
                clear hK K
                simp only [Act.put, List.setIfInBounds_toArray, List.set_cons_zero, List.set_cons_succ]
                refine wpAnyH_ready (rs := [14]) (by kernel_rfl) (by simp) ?_
                refine ready_cons (i := 14) rfl (by rfl) (fun K hK => ?_) ?_
                · skip
                  refine wp_none row_one 36 rfl (.tmp 27) (.tmp 35) rfl _ rfl B cp rfl ?_
                  refine hK.out _ _ ?_ ?_
                  · exact HCl.out _ (by repeat (first | with_reducible exact Below.refl _ _ | assumption | with_reducible refine below_al ?_ _ | with_reducible refine below_dr ?_))
                  clear hK K
                  simp only [Act.put, List.setIfInBounds_toArray, List.set_cons_zero, List.set_cons_succ]
                  refine wpAnyH_ready (rs := [17]) (by kernel_rfl) (by simp) ?_
                  refine ready_cons (i := 17) rfl (by rfl) (fun K hK => ?_) ?_
                  · skip
                    refine wp_fresh byte_one 39 rfl (.tmp 37) (.tmp 38) rfl _ rfl A 128 cb (bv b) rfl (by omega) (by repeat (first | exact HRB.out | assumption | with_reducible refine RdV.al ?_ _ | with_reducible refine RdV.dr ?_ | refine RdV.st ?_ (by assumption))) (by omega) ?_
                    intro q2 c2 v2 hq2 hl2 ho2' hs2
                    have ho2 : OwnV v2 w.heap.size 5 (some ⟨q2, 0, none⟩) 128 c2 (bv b) := ho2'.base_ (bel_size (by repeat (first | with_reducible exact Below.refl _ _ | assumption | with_reducible refine below_al ?_ _ | with_reducible refine below_dr ?_)))
                    have hw2 : w.heap.size ≤ q2 := Nat.le_trans (bel_size (by repeat (first | with_reducible exact Below.refl _ _ | assumption | with_reducible refine below_al ?_ _ | with_reducible refine below_dr ?_))) hq2
                    have hB2 : Below w.heap.size w v2 := below_st (by repeat (first | with_reducible exact Below.refl _ _ | assumption | with_reducible refine below_al ?_ _ | with_reducible refine below_dr ?_)) hs2
                    clear ho2' hq2 hl2
                    refine hK.out _ _ ?_ ?_
                    · exact HCl.out _ (by repeat (first | with_reducible exact Below.refl _ _ | assumption | with_reducible refine below_al ?_ _ | with_reducible refine below_dr ?_))
                    clear hK K
                    simp only [Act.put, List.setIfInBounds_toArray, List.set_cons_zero, List.set_cons_succ]
                    refine wpAnyH_ready (rs := [18]) (by kernel_rfl) (by simp) ?_
                    refine ready_cons (i := 18) rfl (by rfl) (fun K hK => ?_) ?_
                    · skip
                      refine wp_build1 row_one 40 rfl 39 (.slice (some ⟨q2, 0, none⟩) 128 c2) rfl rfl rfl ?_
                      refine hK.out _ _ ?_ ?_
                      · exact HCl.out _ (by repeat (first | with_reducible exact Below.refl _ _ | assumption | with_reducible refine below_al ?_ _ | with_reducible refine below_dr ?_))
                      clear hK K
                      simp only [Act.put, List.setIfInBounds_toArray, List.set_cons_zero, List.set_cons_succ]
                      refine wpAnyH_ready (rs := [19]) (by kernel_rfl) (by simp) ?_
                      refine ready_cons (i := 19) rfl (by rfl) (fun K hK => ?_) ?_
                      · skip
                        refine wp_fresh row_one 41 rfl (.tmp 36) (.tmp 40) rfl _ rfl _ 1 _ [.slice (some ⟨q2, 0, none⟩) 128 c2] rfl (by omega) (by repeat (first | exact rdv_at _ _ (by simp) | exact rdv_at _ _ rfl | with_reducible refine RdV.al ?_ _ | with_reducible refine RdV.dr ?_ | refine RdV.st ?_ (by assumption))) (by omega) ?_
                        intro q3 c3 v3 hq3 hl3 ho3 hs3
                        have hB3 : Below w.heap.size w v3 := below_st (by repeat (first | with_reducible exact Below.refl _ _ | assumption | with_reducible refine below_al ?_ _ | with_reducible refine below_dr ?_)) hs3
                        have h31 : OwnV v3 w.heap.size 28 (some ⟨q3, 0, none⟩) 1 c3 [.slice (some ⟨q2, 0, none⟩) 128 c2] := ho3.base_ (bel_size (by repeat (first | with_reducible exact Below.refl _ _ | assumption | with_reducible refine below_al ?_ _ | with_reducible refine below_dr ?_)))
                        have h32 : OwnV v3 w.heap.size 5 (some ⟨q2, 0, none⟩) 128 c2 (bv b) := OwnV.st (by repeat (first | exact ho2 | with_reducible refine OwnV.al ?_ _ | with_reducible refine OwnV.dr ?_ | refine OwnV.st ?_ (by assumption))) hs3
                        have HE := Lib.hid (row_end0 HOld.out hB3 h31 h32 HBy.out hw2)
                        clear ho3 hs3 h31 h32 hq3 hl3
                        refine hK.out _ _ ?_ ?_
                        · exact HCl.out _ (by repeat (first | with_reducible exact Below.refl _ _ | assumption | with_reducible refine below_al ?_ _ | with_reducible refine below_dr ?_))
                        clear hK K
                        simp only [Act.put, List.setIfInBounds_toArray, List.set_cons_zero, List.set_cons_succ]
                        have hHeld := HCl.out v3 hB3
                        refine take_at (i := 20) (v := ?_) (some 42) rfl rfl (by kernel_rfl) (by kernel_rfl) (by kernel_rfl) (fun _ _ _ h => h) (by rfl) hHeld ?_ ?_
                        rotate_left
                        · intro wz hSw; (try dsimp only at hSw); go_simp; (try with_reducible rfl)
                        simp only [Act.put, List.setIfInBounds_toArray, List.set_cons_zero, List.set_cons_succ]
                        refine take_at (i := 21) (v := ?_) (some 43) rfl rfl (by kernel_rfl) (by kernel_rfl) (by kernel_rfl) (fun _ _ _ h => h) (by rfl) hHeld ?_ ?_
                        rotate_left
                        · intro wz hSw; (try dsimp only at hSw); go_simp; (try with_reducible rfl)
                        simp only [Act.put, List.setIfInBounds_toArray, List.set_cons_zero, List.set_cons_succ]
                        refine wpAnyH_done (by kernel_rfl) ?_ _
                        have k13 := hHeld.2
                        have f13 := (hB3.frozen (p := ⟨sb, i * 2 + 1, none⟩) hsl).trans frz
                        clear hHeld hB3
                        change wpList _ _ _ _ _ _
                        go_wp2
                        go_meet
                        case rel => exact Lib.hid (wrote_ref H.out HS.out HC.out HE.out.1 (by rw [HSl.out]; exact HE.out.2) ⟨HBl.out, HBy.out⟩)
                      exact AllReadyH.nil
                    exact AllReadyH.nil
                  exact AllReadyH.nil
                exact AllReadyH.nil
              exact AllReadyH.nil
            exact AllReadyH.nil
  case rest =>
    obtain ⟨lab1, hR1, hC1, hL1⟩ := hcut.out
    have HDn := Lib.hid (rdone_any wc g lab1 _ hR1 Hsm.out Hd.out)
    have HL1 := Lib.hid (And.intro hC1 hL1)
    clear hR1 hC1 hL1 hcut HCl c0 k1 frz
    go_wp2_with fail
    refine HDn.out.mono ?_
    rintro e w4 ⟨rfl, hl4⟩
    have HL4 := Lib.hid hl4
    clear hl4
    go_wp2
    go_ret
    obtain ⟨lab2, k1, k2, k3⟩ := HL4.out
    exact ⟨rfl, lab2, k1, HL1.out.1.trans HL1.out.2 k2, HL1.out.2.trans k3 HL1.out.1.size⟩
end Go.Proofs.Ytbdomhookjmmgaa
namespace Go.Proofs.Ytbdomhookjmmgaa
open Go.RowKit
set_option linter.unusedVariables false
set_option linter.unusedSimpArgs false
set_option maxRecDepth 100000 in
set_option maxHeartbeats 4000000 in
theorem rwrite_more (i : Nat) (s : Dk.Sec) (A : Option Addr) (cb kk : Nat) (b : List Nat) (w : World) (g : Nat) (lab : Nat → Tag) (st : Dk.St) (h : IsRef w g lab st) (hb : Rd w A 128 b) (hlow : st.low kk) (hk0 : kk ≤ 1000) (hs : st.s[i]? = some s) (hl : s.l ≠ [])
    (HD : Hid (Calls Try.prog 63 #[.pointer (some ⟨g, 0, none⟩)] w fun e w' => e = .returned (.bool false) ∧ w = w')) (HH : Hid (Calls Try.prog 64 #[.pointer (some ⟨g, 0, none⟩), .int .i64 (i : Int)] w fun e w' => e = .returned (.bool true) ∧ w = w')) (hd : st.down = false) :
    Calls Try.prog 28 #[.pointer (some ⟨g, 0, none⟩), .int .i64 (i : Int), .slice A 128 cb] w fun e w' => e = .returned (.int .i64 0) ∧ LeftR lab g (Dk.St.burn ⟨Dk.upd st.s i (fun s => ⟨s.f, s.l ++ [b]⟩), st.n, st.fused, st.left⟩) w w' := by
  have hsm := hlow.small hk0
  have hbl := hb.1
  obtain ⟨sb, C, h⟩ := h
  have H := Lib.hid h
  have hN := h.fine.2.2
  have hii : (i : Int) < (st.s.length : Int) := by have := (List.getElem?_eq_some_iff.1 hs).1; omega
  have c0 := h.box.at_ 0 rfl
  have hgl := h.box.1
  have hsl := h.row.1
  obtain ⟨c, hc, _, k1, hsec⟩ := h.at_ hs
  obtain ⟨h2000, B, cp, vs, el, hrv, hlf, hlv⟩ := hsec.l
  rw [el] at k1
  have frz := h.row.2.2 (i * 2 + 1)
  have HS := Lib.hid hs
  have HC := Lib.hid hc
  have HRB := Lib.hid hb.row
  have HBy := Lib.hid (show ∀ x ∈ b, x < 256 from fun x hx => hb.lt hx)
  have HBl := Lib.hid hbl
  have HOld := Lib.hid h.old
  have HLv := Lib.hid hlv
  have Hd := Lib.hid hd
  have hll := hlow.2.2.2.2 s (List.mem_of_getElem? hs)
  have Hsm := Lib.hid hsm
  obtain ⟨k, hk⟩ : ∃ k, s.l.length = k + 1 := ⟨s.l.length - 1, by have := List.length_pos_iff.2 hl; omega⟩
  obtain ⟨g2, o2, _, rfl, hg2, _, _⟩ := hrv.at_ (k := k) (by omega)
  rw [hk] at k1
  have hrv2 := hrv
  rw [hk] at hrv2
  have HRV := Lib.hid hrv2
  have HVs := Lib.hid (And.intro hrv.1 hk)
  have hk9 : k ≤ 1000 := by omega
  clear h hsec el hrv hrv2 hlf hlv hs hc hb hbl hd hlow hsm hl hll h2000 hk0 hk
  go_enter Try.func28, Try.ntmps28
  go_upto_region 5 with (refine HD.out.mono ?_; rintro e w' ⟨rfl, rfl⟩)
  go_upto_region 9 with (refine HH.out.mono ?_; rintro e w' ⟨rfl, rfl⟩)
  have HCl := Lib.hid (fun wx (hb : Below w.heap.size w wx) => (⟨(hb.cell (p := ⟨g, 0, none⟩) hgl).trans c0, (hb.cell (p := ⟨sb, i * 2 + 1, none⟩) hsl).trans k1⟩ : wx.cell? ⟨g, 0, none⟩ = some (.slice (some ⟨sb, 0, none⟩) st.s.length st.s.length) ∧ wx.cell? ⟨sb, i * 2 + 1, none⟩ = some (.slice (some ⟨g2, o2, none⟩) (k + 1) cp)))
  go_cut [] from 22 to 43 (fun wx => Hid (LeftR lab g ⟨Dk.upd st.s i (fun s => ⟨s.f, s.l ++ [b]⟩), st.n, st.fused, st.left⟩ w wx))
  case first =>
            have hHeld := HCl.out w.drew ((Below.refl _ _).drew)
            clear c0 k1
            refine region_end (fun wx => wx.cell? ⟨g, 0, none⟩ = some (.slice (some ⟨sb, 0, none⟩) st.s.length st.s.length) ∧ wx.cell? ⟨sb, i * 2 + 1, none⟩ = some (.slice (some ⟨g2, o2, none⟩) (k + 1) cp)) (by kernel_rfl) (by simp) (by kernel_rfl) ?_
            simp only [List.dropLast, List.length_cons, List.length_nil]
            refine take_at (i := 0) (v := ?_) (some 22) rfl rfl (by kernel_rfl) (by kernel_rfl) (by kernel_rfl) (fun _ _ _ h => h) (by rfl) hHeld ?_ ?_
            rotate_left
            · intro wz hSw; (try dsimp only at hSw); go_simp; (try with_reducible rfl)
            simp only [Act.put, List.setIfInBounds_toArray, List.set_cons_zero, List.set_cons_succ]
            refine take_at (i := 1) (v := ?_) (some 23) rfl rfl (by kernel_rfl) (by kernel_rfl) (by kernel_rfl) (fun _ _ _ h => h) (by rfl) hHeld ?_ ?_
            rotate_left
            · intro wz hSw; (try dsimp only at hSw); go_simp; (try with_reducible rfl)
            simp only [Act.put, List.setIfInBounds_toArray, List.set_cons_zero, List.set_cons_succ]
            refine take_at (i := 2) (v := ?_) (some 24) rfl rfl (by kernel_rfl) (by kernel_rfl) (by kernel_rfl) (fun _ _ _ h => h) (by rfl) hHeld ?_ ?_
            rotate_left
            · intro wz hSw; (try dsimp only at hSw); go_simp; (try with_reducible rfl)
            simp only [Act.put, List.setIfInBounds_toArray, List.set_cons_zero, List.set_cons_succ]
            refine take_at (i := 3) (v := ?_) (some 25) rfl rfl (by kernel_rfl) (by kernel_rfl) (by kernel_rfl) (fun _ _ _ h => h) (by rfl) hHeld ?_ ?_
            rotate_left
            · intro wz hSw; (try dsimp only at hSw); go_simp; (try with_reducible rfl)
            simp only [Act.put, List.setIfInBounds_toArray, List.set_cons_zero, List.set_cons_succ]
            refine take_at (i := 4) (v := ?_) (some 26) rfl rfl (by kernel_rfl) (by kernel_rfl) (by kernel_rfl) (fun _ _ _ h => h) (by rfl) hHeld ?_ ?_
            rotate_left
            · intro wz hSw; (try dsimp only at hSw); go_simp; (try with_reducible rfl)
            simp only [Act.put, List.setIfInBounds_toArray, List.set_cons_zero, List.set_cons_succ]
            refine take_at (i := 6) (v := ?_) (some 28) rfl rfl (by kernel_rfl) (by kernel_rfl) (by kernel_rfl) (fun _ _ _ h => h) (by rfl) hHeld ?_ ?_
            rotate_left
            · intro wz hSw; (try dsimp only at hSw); go_simp; (try with_reducible rfl)
            simp only [Act.put, List.setIfInBounds_toArray, List.set_cons_zero, List.set_cons_succ]
            refine take_at (i := 7) (v := ?_) (some 29) rfl rfl (by kernel_rfl) (by kernel_rfl) (by kernel_rfl) (fun _ _ _ h => h) (by rfl) hHeld ?_ ?_
            rotate_left
            · intro wz hSw; (try dsimp only at hSw); go_simp; (try with_reducible rfl)
            simp only [Act.put, List.setIfInBounds_toArray, List.set_cons_zero, List.set_cons_succ]
            refine take_at (i := 8) (v := ?_) (some 30) rfl rfl (by kernel_rfl) (by kernel_rfl) (by kernel_rfl) (fun _ _ _ h => h) (by rfl) hHeld ?_ ?_
            rotate_left
            · intro wz hSw; (try dsimp only at hSw); go_simp; (try with_reducible rfl)
            simp only [Act.put, List.setIfInBounds_toArray, List.set_cons_zero, List.set_cons_succ]
            refine take_at (i := 9) (v := ?_) (some 31) rfl rfl (by kernel_rfl) (by kernel_rfl) (by kernel_rfl) (fun _ _ _ h => h) (by rfl) hHeld ?_ ?_
            rotate_left
            · intro wz hSw; (try dsimp only at hSw); go_simp; (try with_reducible rfl)
            simp only [Act.put, List.setIfInBounds_toArray, List.set_cons_zero, List.set_cons_succ]
            refine take_at (i := 10) (v := ?_) (some 32) rfl rfl (by kernel_rfl) (by kernel_rfl) (by kernel_rfl) (fun _ _ _ h => h) (by rfl) hHeld ?_ ?_
            rotate_left
            · intro wz hSw; (try dsimp only at hSw); go_simp; (try with_reducible rfl)
            simp only [Act.put, List.setIfInBounds_toArray, List.set_cons_zero, List.set_cons_succ]
            refine take_at (i := 11) (v := ?_) (some 33) rfl rfl (by kernel_rfl) (by kernel_rfl) (by kernel_rfl) (fun _ _ _ h => h) (by rfl) hHeld ?_ ?_
            rotate_left
            · intro wz hSw; (try dsimp only at hSw); go_simp; (try with_reducible rfl)
            simp only [Act.put, List.setIfInBounds_toArray, List.set_cons_zero, List.set_cons_succ]
            refine take_at (i := 12) (v := ?_) (some 34) rfl rfl (by kernel_rfl) (by kernel_rfl) (by kernel_rfl) (fun _ _ _ h => h) (by rfl) hHeld ?_ ?_
            rotate_left
            · intro wz hSw; (try dsimp only at hSw); go_simp; (try with_reducible rfl)
            simp only [Act.put, List.setIfInBounds_toArray, List.set_cons_zero, List.set_cons_succ]
            refine take_at (i := 13) (v := ?_) (some 35) rfl rfl (by kernel_rfl) (by kernel_rfl) (by kernel_rfl) (fun _ _ _ h => h) (by rfl) hHeld ?_ ?_
            rotate_left
            · intro wz hSw; (try dsimp only at hSw); go_simp; (try with_reducible rfl)
            simp only [Act.put, List.setIfInBounds_toArray, List.set_cons_zero, List.set_cons_succ]
            refine take_at (i := 16) (v := ?_) (some 38) rfl rfl (by kernel_rfl) (by kernel_rfl) (by kernel_rfl) (fun _ _ _ h => h) (by rfl) hHeld ?_ ?_
            rotate_left
            · intro wz hSw; (try dsimp only at hSw); go_simp; (try with_reducible rfl)
            simp only [Act.put, List.setIfInBounds_toArray, List.set_cons_zero, List.set_cons_succ]
            refine wpAnyH_ready (rs := [5, 15]) (by kernel_rfl) (by simp) ?_
            refine ready_cons (i := 5) rfl (by rfl) (fun K hK => ?_) ?_
            · clear hHeld
              refine wp_build0 row_one 27 rfl rfl ?_
              refine hK.out _ _ ?_ ?_
              · exact HCl.out _ (by repeat (first | with_reducible exact Below.refl _ _ | assumption | with_reducible refine below_al ?_ _ | with_reducible refine below_dr ?_))
              clear hK K
              simp only [Act.put, List.setIfInBounds_toArray, List.set_cons_zero, List.set_cons_succ]
              refine wpAnyH_ready (rs := [14, 15]) (by kernel_rfl) (by simp) ?_
              refine ready_cons (i := 14) rfl (by rfl) (fun K hK => ?_) ?_
              · skip
                refine wp_fresh row_one 36 rfl (.tmp 27) (.tmp 35) rfl _ rfl (some ⟨g2, o2, none⟩) (k + 1) cp vs rfl (by omega) (by repeat (first | exact HRV.out | assumption | with_reducible refine RdV.al ?_ _ | with_reducible refine RdV.dr ?_ | refine RdV.st ?_ (by assumption))) (by omega) ?_
                intro q1 c1 v1 hq1 hl1 ho1' hs1
                have ho1 : OwnV v1 w.heap.size 28 (some ⟨q1, 0, none⟩) (k + 1) c1 vs := ho1'.base_ (bel_size (by repeat (first | with_reducible exact Below.refl _ _ | assumption | with_reducible refine below_al ?_ _ | with_reducible refine below_dr ?_)))
                have hB1 : Below w.heap.size w v1 := below_st (by repeat (first | with_reducible exact Below.refl _ _ | assumption | with_reducible refine below_al ?_ _ | with_reducible refine below_dr ?_)) hs1
                clear ho1' hq1 hl1
                refine hK.out _ _ ?_ ?_
                · exact HCl.out _ (by repeat (first | with_reducible exact Below.refl _ _ | assumption | with_reducible refine below_al ?_ _ | with_reducible refine below_dr ?_))
                clear hK K
                simp only [Act.put, List.setIfInBounds_toArray, List.set_cons_zero, List.set_cons_succ]
                refine wpAnyH_ready (rs := [15]) (by kernel_rfl) (by simp) ?_
                refine ready_cons (i := 15) rfl (by rfl) (fun K hK => ?_) ?_
                · skip
                  refine wp_build0 byte_one 37 rfl rfl ?_
                  refine hK.out _ _ ?_ ?_
                  · exact HCl.out _ (by repeat (first | with_reducible exact Below.refl _ _ | assumption | with_reducible refine below_al ?_ _ | with_reducible refine below_dr ?_))
                  clear hK K
                  simp only [Act.put, List.setIfInBounds_toArray, List.set_cons_zero, List.set_cons_succ]
                  refine wpAnyH_ready (rs := [17]) (by kernel_rfl) (by simp) ?_
                  refine ready_cons (i := 17) rfl (by rfl) (fun K hK => ?_) ?_
                  · skip
                    refine wp_fresh byte_one 39 rfl (.tmp 37) (.tmp 38) rfl _ rfl A 128 cb (bv b) rfl (by omega) (by repeat (first | exact HRB.out | assumption | with_reducible refine RdV.al ?_ _ | with_reducible refine RdV.dr ?_ | refine RdV.st ?_ (by assumption))) (by omega) ?_
                    intro q2 c2 v2 hq2 hl2 ho2' hs2
                    have ho2 : OwnV v2 w.heap.size 5 (some ⟨q2, 0, none⟩) 128 c2 (bv b) := ho2'.base_ (bel_size (by repeat (first | with_reducible exact Below.refl _ _ | assumption | with_reducible refine below_al ?_ _ | with_reducible refine below_dr ?_)))
                    have hw2 : w.heap.size ≤ q2 := Nat.le_trans (bel_size (by repeat (first | with_reducible exact Below.refl _ _ | assumption | with_reducible refine below_al ?_ _ | with_reducible refine below_dr ?_))) hq2
                    have hB2 : Below w.heap.size w v2 := below_st (by repeat (first | with_reducible exact Below.refl _ _ | assumption | with_reducible refine below_al ?_ _ | with_reducible refine below_dr ?_)) hs2
                    clear ho2' hq2 hl2
                    refine hK.out _ _ ?_ ?_
                    · exact HCl.out _ (by repeat (first | with_reducible exact Below.refl _ _ | assumption | with_reducible refine below_al ?_ _ | with_reducible refine below_dr ?_))
                    clear hK K
                    simp only [Act.put, List.setIfInBounds_toArray, List.set_cons_zero, List.set_cons_succ]
                    refine wpAnyH_ready (rs := [18]) (by kernel_rfl) (by simp) ?_
                    refine ready_cons (i := 18) rfl (by rfl) (fun K hK => ?_) ?_
                    · skip
                      refine wp_build1 row_one 40 rfl 39 (.slice (some ⟨q2, 0, none⟩) 128 c2) rfl rfl rfl ?_
                      refine hK.out _ _ ?_ ?_
                      · exact HCl.out _ (by repeat (first | with_reducible exact Below.refl _ _ | assumption | with_reducible refine below_al ?_ _ | with_reducible refine below_dr ?_))
                      clear hK K
                      simp only [Act.put, List.setIfInBounds_toArray, List.set_cons_zero, List.set_cons_succ]
                      refine wpAnyH_ready (rs := [19]) (by kernel_rfl) (by simp) ?_
                      refine ready_cons (i := 19) rfl (by rfl) (fun K hK => ?_) ?_
                      · skip
                        refine wp_own row_one 41 rfl (.tmp 36) (.tmp 40) rfl rfl (base := w.heap.size) (vs := vs) (by repeat (first | exact ho1 | with_reducible refine OwnV.al ?_ _ | with_reducible refine OwnV.dr ?_ | refine OwnV.st ?_ (by assumption))) _ 1 _ [.slice (some ⟨q2, 0, none⟩) 128 c2] (rows_one _ (by intro v hv; exact ⟨_, _, _, List.mem_singleton.1 hv⟩)) rfl (by repeat (first | exact rdv_at _ _ (by simp) | exact rdv_at _ _ rfl | with_reducible refine RdV.al ?_ _ | with_reducible refine RdV.dr ?_ | refine RdV.st ?_ (by assumption))) (by omega) (bel_size (by repeat (first | with_reducible exact Below.refl _ _ | assumption | with_reducible refine below_al ?_ _ | with_reducible refine below_dr ?_))) ?_
                        intro A3 c3 v3 hg3
                        have HE := Lib.hid (row_end3 HOld.out (by omega) HVs.out HLv.out (by repeat (first | with_reducible exact Below.refl _ _ | assumption | with_reducible refine below_al ?_ _ | with_reducible refine below_dr ?_)) hg3 (by repeat (first | exact ho2 | with_reducible refine OwnV.al ?_ _ | with_reducible refine OwnV.dr ?_ | refine OwnV.st ?_ (by assumption))) HBy.out hw2 (by repeat (first | exact ho1 | with_reducible refine OwnV.al ?_ _ | with_reducible refine OwnV.dr ?_ | refine OwnV.st ?_ (by assumption))))
                        have hB3 := HE.out.1
                        clear hg3
                        refine hK.out _ _ ?_ ?_
                        · exact HCl.out _ (by repeat (first | with_reducible exact Below.refl _ _ | assumption | with_reducible refine below_al ?_ _ | with_reducible refine below_dr ?_))
                        clear hK K
                        simp only [Act.put, List.setIfInBounds_toArray, List.set_cons_zero, List.set_cons_succ]
                        have hHeld := HCl.out v3 hB3
                        refine take_at (i := 20) (v := ?_) (some 42) rfl rfl (by kernel_rfl) (by kernel_rfl) (by kernel_rfl) (fun _ _ _ h => h) (by rfl) hHeld ?_ ?_
                        rotate_left
                        · intro wz hSw; (try dsimp only at hSw); go_simp; (try with_reducible rfl)
                        simp only [Act.put, List.setIfInBounds_toArray, List.set_cons_zero, List.set_cons_succ]
                        refine take_at (i := 21) (v := ?_) (some 43) rfl rfl (by kernel_rfl) (by kernel_rfl) (by kernel_rfl) (fun _ _ _ h => h) (by rfl) hHeld ?_ ?_
                        rotate_left
                        · intro wz hSw; (try dsimp only at hSw); go_simp; (try with_reducible rfl)
                        simp only [Act.put, List.setIfInBounds_toArray, List.set_cons_zero, List.set_cons_succ]
                        refine wpAnyH_done (by kernel_rfl) ?_ _
                        have k13 := hHeld.2
                        have f13 := (hB3.frozen (p := ⟨sb, i * 2 + 1, none⟩) hsl).trans frz
                        clear hHeld hB3
                        change wpList _ _ _ _ _ _
                        go_wp2
                        go_meet
                        case rel => exact Lib.hid (wrote_ref H.out HS.out HC.out HE.out.1 (by exact HE.out.2) ⟨HBl.out, HBy.out⟩)
                      exact AllReadyH.nil
                    exact AllReadyH.nil
                  exact AllReadyH.nil
                exact AllReadyH.nil
              refine ready_cons (i := 15) rfl (by rfl) (fun K hK => ?_) ?_
              · skip
                refine wp_build0 byte_one 37 rfl rfl ?_
                refine hK.out _ _ ?_ ?_
                · exact HCl.out _ (by repeat (first | with_reducible exact Below.refl _ _ | assumption | with_reducible refine below_al ?_ _ | with_reducible refine below_dr ?_))
                clear hK K
                simp only [Act.put, List.setIfInBounds_toArray, List.set_cons_zero, List.set_cons_succ]
                refine wpAnyH_ready (rs := [14]) (by kernel_rfl) (by simp) ?_
                refine ready_cons (i := 14) rfl (by rfl) (fun K hK => ?_) ?_
                · skip
                  refine wp_fresh row_one 36 rfl (.tmp 27) (.tmp 35) rfl _ rfl (some ⟨g2, o2, none⟩) (k + 1) cp vs rfl (by omega) (by repeat (first | exact HRV.out | assumption | with_reducible refine RdV.al ?_ _ | with_reducible refine RdV.dr ?_ | refine RdV.st ?_ (by assumption))) (by omega) ?_
                  intro q1 c1 v1 hq1 hl1 ho1' hs1
                  have ho1 : OwnV v1 w.heap.size 28 (some ⟨q1, 0, none⟩) (k + 1) c1 vs := ho1'.base_ (bel_size (by repeat (first | with_reducible exact Below.refl _ _ | assumption | with_reducible refine below_al ?_ _ | with_reducible refine below_dr ?_)))
                  have hB1 : Below w.heap.size w v1 := below_st (by repeat (first | with_reducible exact Below.refl _ _ | assumption | with_reducible refine below_al ?_ _ | with_reducible refine below_dr ?_)) hs1
                  clear ho1' hq1 hl1
                  refine hK.out _ _ ?_ ?_
                  · exact HCl.out _ (by repeat (first | with_reducible exact Below.refl _ _ | assumption | with_reducible refine below_al ?_ _ | with_reducible refine below_dr ?_))
                  clear hK K
                  simp only [Act.put, List.setIfInBounds_toArray, List.set_cons_zero, List.set_cons_succ]
                  refine wpAnyH_ready (rs := [17]) (by kernel_rfl) (by simp) ?_
                  refine ready_cons (i := 17) rfl (by rfl) (fun K hK => ?_) ?_
                  · skip
                    refine wp_fresh byte_one 39 rfl (.tmp 37) (.tmp 38) rfl _ rfl A 128 cb (bv b) rfl (by omega) (by repeat (first | exact HRB.out | assumption | with_reducible refine RdV.al ?_ _ | with_reducible refine RdV.dr ?_ | refine RdV.st ?_ (by assumption))) (by omega) ?_
                    intro q2 c2 v2 hq2 hl2 ho2' hs2
                    have ho2 : OwnV v2 w.heap.size 5 (some ⟨q2, 0, none⟩) 128 c2 (bv b) := ho2'.base_ (bel_size (by repeat (first | with_reducible exact Below.refl _ _ | assumption | with_reducible refine below_al ?_ _ | with_reducible refine below_dr ?_)))
                    have hw2 : w.heap.size ≤ q2 := Nat.le_trans (bel_size (by repeat (first | with_reducible exact Below.refl _ _ | assumption | with_reducible refine below_al ?_ _ | with_reducible refine below_dr ?_))) hq2
                    have hB2 : Below w.heap.size w v2 := below_st (by repeat (first | with_reducible exact Below.refl _ _ | assumption | with_reducible refine below_al ?_ _ | with_reducible refine below_dr ?_)) hs2
                    clear ho2' hq2 hl2
                    refine hK.out _ _ ?_ ?_
                    · exact HCl.out _ (by repeat (first | with_reducible exact Below.refl _ _ | assumption | with_reducible refine below_al ?_ _ | with_reducible refine below_dr ?_))
                    clear hK K
                    simp only [Act.put, List.setIfInBounds_toArray, List.set_cons_zero, List.set_cons_succ]
                    refine wpAnyH_ready (rs := [18]) (by kernel_rfl) (by simp) ?_
                    refine ready_cons (i := 18) rfl (by rfl) (fun K hK => ?_) ?_
                    · skip
                      refine wp_build1 row_one 40 rfl 39 (.slice (some ⟨q2, 0, none⟩) 128 c2) rfl rfl rfl ?_
                      refine hK.out _ _ ?_ ?_
                      · exact HCl.out _ (by repeat (first | with_reducible exact Below.refl _ _ | assumption | with_reducible refine below_al ?_ _ | with_reducible refine below_dr ?_))
                      clear hK K
                      simp only [Act.put, List.setIfInBounds_toArray, List.set_cons_zero, List.set_cons_succ]
                      refine wpAnyH_ready (rs := [19]) (by kernel_rfl) (by simp) ?_
                      refine ready_cons (i := 19) rfl (by rfl) (fun K hK => ?_) ?_
                      · skip
                        refine wp_own row_one 41 rfl (.tmp 36) (.tmp 40) rfl rfl (base := w.heap.size) (vs := vs) (by repeat (first | exact ho1 | with_reducible refine OwnV.al ?_ _ | with_reducible refine OwnV.dr ?_ | refine OwnV.st ?_ (by assumption))) _ 1 _ [.slice (some ⟨q2, 0, none⟩) 128 c2] (rows_one _ (by intro v hv; exact ⟨_, _, _, List.mem_singleton.1 hv⟩)) rfl (by repeat (first | exact rdv_at _ _ (by simp) | exact rdv_at _ _ rfl | with_reducible refine RdV.al ?_ _ | with_reducible refine RdV.dr ?_ | refine RdV.st ?_ (by assumption))) (by omega) (bel_size (by repeat (first | with_reducible exact Below.refl _ _ | assumption | with_reducible refine below_al ?_ _ | with_reducible refine below_dr ?_))) ?_
                        intro A3 c3 v3 hg3
                        have HE := Lib.hid (row_end3 HOld.out (by omega) HVs.out HLv.out (by repeat (first | with_reducible exact Below.refl _ _ | assumption | with_reducible refine below_al ?_ _ | with_reducible refine below_dr ?_)) hg3 (by repeat (first | exact ho2 | with_reducible refine OwnV.al ?_ _ | with_reducible refine OwnV.dr ?_ | refine OwnV.st ?_ (by assumption))) HBy.out hw2 (by repeat (first | exact ho1 | with_reducible refine OwnV.al ?_ _ | with_reducible refine OwnV.dr ?_ | refine OwnV.st ?_ (by assumption))))
                        have hB3 := HE.out.1
                        clear hg3
                        refine hK.out _ _ ?_ ?_
                        · exact HCl.out _ (by repeat (first | with_reducible exact Below.refl _ _ | assumption | with_reducible refine below_al ?_ _ | with_reducible refine below_dr ?_))
                        clear hK K
                        simp only [Act.put, List.setIfInBounds_toArray, List.set_cons_zero, List.set_cons_succ]
                        have hHeld := HCl.out v3 hB3
                        refine take_at (i := 20) (v := ?_) (some 42) rfl rfl (by kernel_rfl) (by kernel_rfl) (by kernel_rfl) (fun _ _ _ h => h) (by rfl) hHeld ?_ ?_
                        rotate_left
                        · intro wz hSw; (try dsimp only at hSw); go_simp; (try with_reducible rfl)
                        simp only [Act.put, List.setIfInBounds_toArray, List.set_cons_zero, List.set_cons_succ]
                        refine take_at (i := 21) (v := ?_) (some 43) rfl rfl (by kernel_rfl) (by kernel_rfl) (by kernel_rfl) (fun _ _ _ h => h) (by rfl) hHeld ?_ ?_
                        rotate_left
                        · intro wz hSw; (try dsimp only at hSw); go_simp; (try with_reducible rfl)
                        simp only [Act.put, List.setIfInBounds_toArray, List.set_cons_zero, List.set_cons_succ]
                        refine wpAnyH_done (by kernel_rfl) ?_ _
                        have k13 := hHeld.2
                        have f13 := (hB3.frozen (p := ⟨sb, i * 2 + 1, none⟩) hsl).trans frz
                        clear hHeld hB3
                        change wpList _ _ _ _ _ _
                        go_wp2
                        go_meet
                        case rel => exact Lib.hid (wrote_ref H.out HS.out HC.out HE.out.1 (by exact HE.out.2) ⟨HBl.out, HBy.out⟩)
                      exact AllReadyH.nil
                    exact AllReadyH.nil
                  exact AllReadyH.nil
                exact AllReadyH.nil
              exact AllReadyH.nil
            refine ready_cons (i := 15) rfl (by rfl) (fun K hK => ?_) ?_
            · clear hHeld
              refine wp_build0 byte_one 37 rfl rfl ?_
              refine hK.out _ _ ?_ ?_
              · exact HCl.out _ (by repeat (first | with_reducible exact Below.refl _ _ | assumption | with_reducible refine below_al ?_ _ | with_reducible refine below_dr ?_))
              clear hK K
              simp only [Act.put, List.setIfInBounds_toArray, List.set_cons_zero, List.set_cons_succ]
              refine wpAnyH_ready (rs := [5]) (by kernel_rfl) (by simp) ?_
              refine ready_cons (i := 5) rfl (by rfl) (fun K hK => ?_) ?_
              · skip
                refine wp_build0 row_one 27 rfl rfl ?_
                refine hK.out _ _ ?_ ?_
                · exact HCl.out _ (by repeat (first | with_reducible exact Below.refl _ _ | assumption | with_reducible refine below_al ?_ _ | with_reducible refine below_dr ?_))
                clear hK K
                simp only [Act.put, List.setIfInBounds_toArray, List.set_cons_zero, List.set_cons_succ]
                refine wpAnyH_ready (rs := [14]) (by kernel_rfl) (by simp) ?_
                refine ready_cons (i := 14) rfl (by rfl) (fun K hK => ?_) ?_
                · skip
                  refine wp_fresh row_one 36 rfl (.tmp 27) (.tmp 35) rfl _ rfl (some ⟨g2, o2, none⟩) (k + 1) cp vs rfl (by omega) (by repeat (first | exact HRV.out | assumption | with_reducible refine RdV.al ?_ _ | with_reducible refine RdV.dr ?_ | refine RdV.st ?_ (by assumption))) (by omega) ?_
                  intro q1 c1 v1 hq1 hl1 ho1' hs1
                  have ho1 : OwnV v1 w.heap.size 28 (some ⟨q1, 0, none⟩) (k + 1) c1 vs := ho1'.base_ (bel_size (by repeat (first | with_reducible exact Below.refl _ _ | assumption | with_reducible refine below_al ?_ _ | with_reducible refine below_dr ?_)))
                  have hB1 : Below w.heap.size w v1 := below_st (by repeat (first | with_reducible exact Below.refl _ _ | assumption | with_reducible refine below_al ?_ _ | with_reducible refine below_dr ?_)) hs1
                  clear ho1' hq1 hl1
                  refine hK.out _ _ ?_ ?_
                  · exact HCl.out _ (by repeat (first | with_reducible exact Below.refl _ _ | assumption | with_reducible refine below_al ?_ _ | with_reducible refine below_dr ?_))
                  clear hK K
                  simp only [Act.put, List.setIfInBounds_toArray, List.set_cons_zero, List.set_cons_succ]
                  refine wpAnyH_ready (rs := [17]) (by kernel_rfl) (by simp) ?_
                  refine ready_cons (i := 17) rfl (by rfl) (fun K hK => ?_) ?_
                  · skip
                    refine wp_fresh byte_one 39 rfl (.tmp 37) (.tmp 38) rfl _ rfl A 128 cb (bv b) rfl (by omega) (by repeat (first | exact HRB.out | assumption | with_reducible refine RdV.al ?_ _ | with_reducible refine RdV.dr ?_ | refine RdV.st ?_ (by assumption))) (by omega) ?_
                    intro q2 c2 v2 hq2 hl2 ho2' hs2
                    have ho2 : OwnV v2 w.heap.size 5 (some ⟨q2, 0, none⟩) 128 c2 (bv b) := ho2'.base_ (bel_size (by repeat (first | with_reducible exact Below.refl _ _ | assumption | with_reducible refine below_al ?_ _ | with_reducible refine below_dr ?_)))
                    have hw2 : w.heap.size ≤ q2 := Nat.le_trans (bel_size (by repeat (first | with_reducible exact Below.refl _ _ | assumption | with_reducible refine below_al ?_ _ | with_reducible refine below_dr ?_))) hq2
                    have hB2 : Below w.heap.size w v2 := below_st (by repeat (first | with_reducible exact Below.refl _ _ | assumption | with_reducible refine below_al ?_ _ | with_reducible refine below_dr ?_)) hs2
                    clear ho2' hq2 hl2
                    refine hK.out _ _ ?_ ?_
                    · exact HCl.out _ (by repeat (first | with_reducible exact Below.refl _ _ | assumption | with_reducible refine below_al ?_ _ | with_reducible refine below_dr ?_))
                    clear hK K
                    simp only [Act.put, List.setIfInBounds_toArray, List.set_cons_zero, List.set_cons_succ]
                    refine wpAnyH_ready (rs := [18]) (by kernel_rfl) (by simp) ?_
                    refine ready_cons (i := 18) rfl (by rfl) (fun K hK => ?_) ?_
                    · skip
                      refine wp_build1 row_one 40 rfl 39 (.slice (some ⟨q2, 0, none⟩) 128 c2) rfl rfl rfl ?_
                      refine hK.out _ _ ?_ ?_
                      · exact HCl.out _ (by repeat (first | with_reducible exact Below.refl _ _ | assumption | with_reducible refine below_al ?_ _ | with_reducible refine below_dr ?_))
                      clear hK K
                      simp only [Act.put, List.setIfInBounds_toArray, List.set_cons_zero, List.set_cons_succ]
                      refine wpAnyH_ready (rs := [19]) (by kernel_rfl) (by simp) ?_
                      refine ready_cons (i := 19) rfl (by rfl) (fun K hK => ?_) ?_
                      · skip
                        refine wp_own row_one 41 rfl (.tmp 36) (.tmp 40) rfl rfl (base := w.heap.size) (vs := vs) (by repeat (first | exact ho1 | with_reducible refine OwnV.al ?_ _ | with_reducible refine OwnV.dr ?_ | refine OwnV.st ?_ (by assumption))) _ 1 _ [.slice (some ⟨q2, 0, none⟩) 128 c2] (rows_one _ (by intro v hv; exact ⟨_, _, _, List.mem_singleton.1 hv⟩)) rfl (by repeat (first | exact rdv_at _ _ (by simp) | exact rdv_at _ _ rfl | with_reducible refine RdV.al ?_ _ | with_reducible refine RdV.dr ?_ | refine RdV.st ?_ (by assumption))) (by omega) (bel_size (by repeat (first | with_reducible exact Below.refl _ _ | assumption | with_reducible refine below_al ?_ _ | with_reducible refine below_dr ?_))) ?_
                        intro A3 c3 v3 hg3
                        have HE := Lib.hid (row_end3 HOld.out (by omega) HVs.out HLv.out (by repeat (first | with_reducible exact Below.refl _ _ | assumption | with_reducible refine below_al ?_ _ | with_reducible refine below_dr ?_)) hg3 (by repeat (first | exact ho2 | with_reducible refine OwnV.al ?_ _ | with_reducible refine OwnV.dr ?_ | refine OwnV.st ?_ (by assumption))) HBy.out hw2 (by repeat (first | exact ho1 | with_reducible refine OwnV.al ?_ _ | with_reducible refine OwnV.dr ?_ | refine OwnV.st ?_ (by assumption))))
                        have hB3 := HE.out.1
                        clear hg3
                        refine hK.out _ _ ?_ ?_
                        · exact HCl.out _ (by repeat (first | with_reducible exact Below.refl _ _ | assumption | with_reducible refine below_al ?_ _ | with_reducible refine below_dr ?_))
                        clear hK K
                        simp only [Act.put, List.setIfInBounds_toArray, List.set_cons_zero, List.set_cons_succ]
                        have hHeld := HCl.out v3 hB3
                        refine take_at (i := 20) (v := ?_) (some 42) rfl rfl (by kernel_rfl) (by kernel_rfl) (by kernel_rfl) (fun _ _ _ h => h) (by rfl) hHeld ?_ ?_
                        rotate_left
                        · intro wz hSw; (try dsimp only at hSw); go_simp; (try with_reducible rfl)
                        simp only [Act.put, List.setIfInBounds_toArray, List.set_cons_zero, List.set_cons_succ]
                        refine take_at (i := 21) (v := ?_) (some 43) rfl rfl (by kernel_rfl) (by kernel_rfl) (by kernel_rfl) (fun _ _ _ h => h) (by rfl) hHeld ?_ ?_
                        rotate_left
                        · intro wz hSw; (try dsimp only at hSw); go_simp; (try with_reducible rfl)
                        simp only [Act.put, List.setIfInBounds_toArray, List.set_cons_zero, List.set_cons_succ]
                        refine wpAnyH_done (by kernel_rfl) ?_ _
                        have k13 := hHeld.2
                        have f13 := (hB3.frozen (p := ⟨sb, i * 2 + 1, none⟩) hsl).trans frz
                        clear hHeld hB3
                        change wpList _ _ _ _ _ _
                        go_wp2
                        go_meet
                        case rel => exact Lib.hid (wrote_ref H.out HS.out HC.out HE.out.1 (by exact HE.out.2) ⟨HBl.out, HBy.out⟩)
                      exact AllReadyH.nil
                    exact AllReadyH.nil
                  exact AllReadyH.nil
                exact AllReadyH.nil
              exact AllReadyH.nil
            exact AllReadyH.nil
  case rest =>
    obtain ⟨lab1, hR1, hC1, hL1⟩ := hcut.out
    have HDn := Lib.hid (rdone_any wc g lab1 _ hR1 Hsm.out Hd.out)
    have HL1 := Lib.hid (And.intro hC1 hL1)
    clear hR1 hC1 hL1 hcut HCl c0 k1 frz
    go_wp2_with fail
    refine HDn.out.mono ?_
    rintro e w4 ⟨rfl, hl4⟩
    have HL4 := Lib.hid hl4
    clear hl4
    go_wp2
    go_ret
    obtain ⟨lab2, k1, k2, k3⟩ := HL4.out
    exact ⟨rfl, lab2, k1, HL1.out.1.trans HL1.out.2 k2, HL1.out.2.trans k3 HL1.out.1.size⟩
end Go.Proofs.Ytbdomhookjmmgaa
namespace Go.Proofs.Ytbdomhookjmmgaa
open Go.RowKit
set_option linter.unusedVariables false
set_option maxRecDepth 100000 in
set_option maxHeartbeats 4000000 in
theorem rwrite_any (at_ : Int) (A : Option Addr) (n cb k0 : Nat) (b : List Nat) (w : World) (g : Nat) (lab : Nat → Tag) (st : Dk.St) (h : IsRef w g lab st) (hb : Rd w A n b) (hlow : st.low k0) (hk0 : k0 ≤ 1000) (hnn : n ≤ 9223372036854775807) :
    Calls Try.prog 28 #[.pointer (some ⟨g, 0, none⟩), .int .i64 at_, .slice A n cb] w fun e w' => e = .returned (.int .i64 (st.writeE at_ b.length)) ∧ LeftR lab g (st.write at_ b) w w' := by
  have HD := Lib.hid (rdown_any w g lab st h)
  have HH := Lib.hid (rhas_any at_ w g lab st h)
  have HSf := Lib.hid (LeftR.refl h)
  have hbl := hb.1
  have Hno : ∀ e, st.writeE at_ b.length = e → e ≠ 0 → st.write at_ b = st := fun e h1 h2 => by unfold Dk.St.write; rw [if_neg (by rw [h1]; exact h2)]
  cases hd : st.down
  · rw [hd] at HD
    cases hh : st.has at_
    · have hr : st.writeE at_ b.length = 5 := by unfold Dk.St.writeE Dk.St.ready; rw [hd, hh]; rfl
      rw [hr, Hno 5 hr (by omega)]
      rw [hh] at HH
      clear hr hh hd h hb hlow Hno hbl
      go_enter Try.func28, Try.ntmps28
      go_upto_region 5 with (refine HD.out.mono ?_; rintro e w' ⟨rfl, rfl⟩)
      go_wp2_with (refine HH.out.mono ?_; rintro e w' ⟨rfl, rfl⟩)
      go_ret
      exact ⟨rfl, HSf.out⟩
    · rw [hh] at HH
      have hrd : st.ready at_ = 0 := by unfold Dk.St.ready; rw [hd, hh]; rfl
      by_cases h128 : n = 128
      · subst h128
        have e1 : st.writeE at_ b.length = 0 := by unfold Dk.St.writeE; rw [if_pos hrd, if_pos hbl]
        have e2 : st.write at_ b = Dk.St.burn ⟨Dk.upd st.s at_.toNat (fun s => ⟨s.f, s.l ++ [b]⟩), st.n, st.fused, st.left⟩ := by unfold Dk.St.write; rw [if_pos e1]
        rw [e1, e2]
        obtain ⟨i, s, rfl, hs, _, _⟩ := ready_in hrd
        rw [Int.toNat_natCast]
        by_cases hl : s.l = []
        · exact rwrite_none i s A cb k0 b w g lab st h hb hlow hk0 hs hl HD HH hd
        · exact rwrite_more i s A cb k0 b w g lab st h hb hlow hk0 hs hl HD HH hd
      · have hr : st.writeE at_ b.length = 1 := by unfold Dk.St.writeE; rw [if_pos hrd, if_neg (by omega)]
        rw [hr, Hno 1 hr (by omega)]
        have h128i : ((n : Int) == 128) = false := by simp; omega
        clear hr hh hd h hb hlow Hno hbl hrd
        go_enter Try.func28, Try.ntmps28
        go_upto_region 5 with (refine HD.out.mono ?_; rintro e w' ⟨rfl, rfl⟩)
        go_wp2_with (refine HH.out.mono ?_; rintro e w' ⟨rfl, rfl⟩)
        go_ret
        exact ⟨rfl, HSf.out⟩
  · rw [hd] at HD
    have hr : st.writeE at_ b.length = 30 := by unfold Dk.St.writeE Dk.St.ready; rw [hd]; rfl
    rw [hr, Hno 30 hr (by omega)]
    clear hr hd h hb hlow Hno hbl
    go_enter Try.func28, Try.ntmps28
    go_wp2_with (refine HD.out.mono ?_; rintro e w' ⟨rfl, rfl⟩)
    go_ret
    exact ⟨rfl, HSf.out⟩
end Go.Proofs.Ytbdomhookjmmgaa
