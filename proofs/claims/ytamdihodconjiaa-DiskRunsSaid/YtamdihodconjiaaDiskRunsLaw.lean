/- For every number of sectors and row of ops: any calls make of a disk what the document says, and it stands so behind each (P3.1 to P3.5), and the example at the head holds; the arguments stay as they were. No condition. -/
import Derived.Test.YtamdihodconjiaaRkStepC
import Derived.Test.YtamdihodconjiaaRgLast
import Derived.Test.YtamdihodconjiaaDkAwake
import Derived.Test.YtamdihodconjiaaDkOps
import Derived.Test.YtamdihodconjiaaIns
import Derived.Test.YtamdihodconjiaaHolds
import Derived.WalkKit
import Derived.ProofKit
import Derived.OpenShut
import Derived.ShutString
import Derived.ChangeOld
import Derived.Below
import Derived.Deep.RegionHeld
namespace Go.Proofs.Ytamdihodconjiaa.diskRuns
open Go.ChangeShapes Go.WideShapes Go.ChangeAt Go.RowKit
set_option linter.unusedVariables false
theorem own : ownKnob Try.prog.godebug = none := by kernel_rfl
theorem laidOut : laidOutB Try.prog = true := by kernel_rfl
theorem duo_new {w w1 w2 w3 : World} {d g : Nat} {k : Int} {lab labR : Nat → Tag} (hb1 : Below w.heap.size w w1) (hD : IsDisk w2 d lab (Dk.St.new k.toNat)) (hb2 : Below w1.heap.size w1 w2) (hl : ∀ x, lab x ≠ .no → w1.heap.size ≤ x) (hR : IsRef w3 g labR (Dk.St.new k.toNat)) (hb3 : Below w2.heap.size w2 w3) (hl3 : ∀ x, labR x ≠ .no → w2.heap.size ≤ x) : Duo w w3 d g (Dk.St.new k.toNat) 0 lab labR := by
  have s1 := hb1.size
  have s2 := hb2.size
  refine ⟨hb1.trans ((hb2.trans (hb3.mono hb2.size)).mono hb1.size), hD.below hb3, hR, fun x hx => Nat.le_trans s1 (hl x hx), fun x hx => Nat.le_trans s1 (Nat.le_trans s2 (hl3 x hx)), fun x => ?_, (Plain.new k.toNat 0).low⟩
  by_cases e : x < w2.heap.size
  · right
    cases e4 : labR x with
    | no => rfl
    | _ => exact absurd (hl3 x (by rw [e4]; simp)) (by omega)
  · left
    exact hD.new_ (by omega)
set_option maxRecDepth 100000 in
set_option maxHeartbeats 8000000 in
theorem walk (n0 : Int) (A1 : Option Addr) (m1 c1 : Nat) (l1 : List DOp) (w : World) (wl0 : -9223372036854775808 ≤ n0) (w0 : n0 ≤ 9223372036854775807) (r1 : RdOps w A1 m1 l1) (wc1 : m1 ≤ c1) (w1 : m1 ≤ 9223372036854775807) :
    Calls Try.prog 3 #[.int .i64 n0, .slice A1 m1 c1] w fun e w' => e = .returned (.bool true) ∧ Below w.heap.size w w' := by
  -- heartbeats 8000000
  have HR0 := Lib.hid r1
  clear r1
  have key : (12 < n0 ∧ n0 ≤ 4096) ∨ (¬ 12 < n0) ∨ (12 < n0 ∧ ¬ n0 ≤ 4096) := by omega
  rcases key with ⟨h1, h2⟩ | h1 | ⟨h1, h2⟩
  rotate_left 2
  · go_enter Try.func3, Try.ntmps3
    go_wp2_with fail
    refine (awake_any w).mono ?_
    rintro e w1 ⟨rfl, hb1⟩
    have B1 := Lib.hid hb1
    clear hb1
    go_wp2_with fail
    refine (new_any _ w1).mono ?_
    intro e w2 hg
    rcases hg with ⟨g1, g2, _⟩ | ⟨hno, rfl, rfl⟩
    · exact absurd g2 (by omega)
    · go_wp2_with fail
      refine (rnew_any _ w1).mono ?_
      intro e w3 hg
      rcases hg with ⟨g1, g2, _⟩ | ⟨_, rfl, rfl⟩
      · exact absurd ⟨g1, g2⟩ hno
      · clear hno
        go_wp2
        go_ret
        exact ⟨rfl, B1.out⟩
  all_goals
    go_enter Try.func3, Try.ntmps3
    go_wp2_with fail
    refine (awake_any w).mono ?_
    rintro e w1 ⟨rfl, hb1⟩
    have B1 := Lib.hid hb1
    clear hb1
    go_wp2_with fail
    refine (new_any _ w1).mono ?_
    intro e w2 hg
    rcases hg with ⟨g1, g2, d, lab, rfl, hD, hb, hl⟩ | ⟨hno, rfl, rfl⟩
    · have HD := Lib.hid (And.intro hD (And.intro hb hl))
      clear hD hb hl
      go_wp2_with fail
      refine (rnew_any _ w2).mono ?_
      intro e w3 hg
      rcases hg with ⟨_, _, g, labR, rfl, hR, hb3, hl3⟩ | ⟨hno, _⟩
      · have HR3 := Lib.hid (And.intro hR (And.intro hb3 hl3))
        have HDuo := Lib.hid (duo_new B1.out HD.out.1 HD.out.2.1 HD.out.2.2 HR3.out.1 HR3.out.2.1 HR3.out.2.2)
        clear hR hb3 hl3 HD HR3
        have hox := Holds.new w3 #[.pointer (some ⟨d, 0, none⟩), .pointer (some ⟨g, 0, none⟩)] 33
        have hbx : Below w3.heap.size w3 (w3.alloc (.cells #[.pointer (some ⟨d, 0, none⟩), .pointer (some ⟨g, 0, none⟩)] 33)) := (Below.refl _ _).alloc (Nat.le_refl _) _
        have HX := Lib.hid (show Holds (w3.alloc (.cells #[.pointer (some ⟨d, 0, none⟩), .pointer (some ⟨g, 0, none⟩)] 33)) w3.heap.size (duoV d g) from hox)
        have HDu := Lib.hid (HDuo.out.below hbx)
        have HLx := Lib.hid (HDuo.out.new_ (Nat.le_refl _))
        have Hab := Lib.hid (HDuo.out.base.size)
        clear hox hbx HDuo
        go_upto_region 11 with fail
        go_upto_region 12 with fail
        generalize (w3.alloc (.cells #[.pointer (some ⟨d, 0, none⟩), .pointer (some ⟨g, 0, none⟩)] 33)) = w4 at *
        generalize w3.heap.size = bx at *
        go_wp2_with fail
        go_loopw [10] (fun i wr => ∃ (k d g : Nat) (st : Dk.St) (lab labR : Nat → Tag), k ≤ m1 ∧ k ≤ 40 ∧ i = .int .i64 (k : Int) ∧ Hid (Duo w wr d g st k lab labR) ∧ Hid (Holds wr bx (duoV d g)) ∧ Hid (lab bx = .no ∧ labR bx = .no)) (fun i _ => m1 - (intOf i).toNat)
        case atStart => exact ⟨0, d, g, _, lab, labR, by omega, by omega, rfl, HDu, HX, HLx⟩
        case round =>
          clear HDu HX HLx
          obtain ⟨k, d, g, st, lab, labR, hk, hk4, rfl, HDu, HX, HLx⟩ := hrel
          by_cases hkm : k < m1 ∧ k < 40
          · obtain ⟨hkm, hk40⟩ := hkm
            have hki : (k : Int) < (m1 : Int) := by omega
            have hki4 : (k : Int) < 40 := by omega
            obtain ⟨b, o, rfl, hbw, hcs⟩ := HR0.out.2 (by omega)
            obtain ⟨s, hs⟩ : ∃ s, l1[k]? = some s := ⟨_, List.getElem?_eq_getElem (by rw [HR0.out.1]; exact hkm)⟩
            have HOp := Lib.hid (hcs k s hs)
            have HO := (hcs k s hs).below HDu.out.base hbw
            have e0 := HO.c0
            have e1 := HO.c1
            have e2 := HO.c2
            have e3 := HO.c3
            have e4 := HO.c4
            have e5 := HO.c5
            have e6 := HO.c6
            have e7 := HO.c7
            rw [Nat.add_zero] at e0
            have HSt := Lib.hid (fun wx (hb : Below wr.heap.size wr wx) => step_any s w wx bx d g k st lab labR (HDu.out.below hb) (HX.out.below hb) HLx.out (by omega) Hab.out b (o + k * 8) HOp.out)
            have hd0 : Below wr.heap.size wr wr.drew := (Below.refl _ _).drew
            clear hcs hs HO
            go_upto_region 15 with fail
            have HCl := Lib.hid (fun wx (hb : Below w.heap.size w wx) => (⟨(by have h := (HOp.out.below hb hbw).c0; rw [Nat.add_zero] at h; exact h), ((HOp.out.below hb hbw).c1), ((HOp.out.below hb hbw).c2), ((HOp.out.below hb hbw).c3), ((HOp.out.below hb hbw).c4), ((HOp.out.below hb hbw).c5), ((HOp.out.below hb hbw).c6), ((HOp.out.below hb hbw).c7)⟩ : wx.cell? ⟨b, o + k * 8, none⟩ = some (.int .i64 s.kind) ∧ wx.cell? ⟨b, o + k * 8 + 1, none⟩ = some (.int .i64 s.at_) ∧ wx.cell? ⟨b, o + k * 8 + 2, none⟩ = some (.slice s.A s.m s.c) ∧ wx.cell? ⟨b, o + k * 8 + 3, none⟩ = some (.bool s.whole) ∧ wx.cell? ⟨b, o + k * 8 + 4, none⟩ = some (.int .i64 s.n) ∧ wx.cell? ⟨b, o + k * 8 + 5, none⟩ = some (.int .i64 s.place) ∧ wx.cell? ⟨b, o + k * 8 + 6, none⟩ = some (.int .u8 (s.mask : Int)) ∧ wx.cell? ⟨b, o + k * 8 + 7, none⟩ = some (.slice s.F s.fm s.fc)))
            clear e0 e1 e2 e3 e4 e5 e6 e7
            refine wp_region_held_drew (S := fun wx => wx.cell? ⟨b, o + k * 8, none⟩ = some (.int .i64 s.kind) ∧ wx.cell? ⟨b, o + k * 8 + 1, none⟩ = some (.int .i64 s.at_) ∧ wx.cell? ⟨b, o + k * 8 + 2, none⟩ = some (.slice s.A s.m s.c) ∧ wx.cell? ⟨b, o + k * 8 + 3, none⟩ = some (.bool s.whole) ∧ wx.cell? ⟨b, o + k * 8 + 4, none⟩ = some (.int .i64 s.n) ∧ wx.cell? ⟨b, o + k * 8 + 5, none⟩ = some (.int .i64 s.place) ∧ wx.cell? ⟨b, o + k * 8 + 6, none⟩ = some (.int .u8 (s.mask : Int)) ∧ wx.cell? ⟨b, o + k * 8 + 7, none⟩ = some (.slice s.F s.fm s.fc)) (by kernel_rfl) ?_ (fun hHeld => ?_)
            · exact HCl.out _ (HDu.out.base.drew)
            refine take_at (i := 0) (v := ?_) (some 55) rfl rfl (by kernel_rfl) (by kernel_rfl) (by kernel_rfl) (fun _ _ _ h => h) (by rfl) hHeld ?_ ?_
            rotate_left
            · intro wz hSw; (try dsimp only at hSw); go_simp; (try with_reducible rfl)
            simp only [Act.put, List.setIfInBounds_toArray, List.set_cons_zero, List.set_cons_succ]
            refine take_at (i := 1) (v := ?_) (some 56) rfl rfl (by kernel_rfl) (by kernel_rfl) (by kernel_rfl) (fun _ _ _ h => h) (by rfl) hHeld ?_ ?_
            rotate_left
            · intro wz hSw; (try dsimp only at hSw); go_simp; (try with_reducible rfl)
            simp only [Act.put, List.setIfInBounds_toArray, List.set_cons_zero, List.set_cons_succ]
            refine take_at (i := 2) (v := ?_) (some 57) rfl rfl (by kernel_rfl) (by kernel_rfl) (by kernel_rfl) (fun _ _ _ h => h) (by rfl) hHeld ?_ ?_
            rotate_left
            · intro wz hSw; (try dsimp only at hSw); go_simp; (try with_reducible rfl)
            simp only [Act.put, List.setIfInBounds_toArray, List.set_cons_zero, List.set_cons_succ]
            refine take_at (i := 3) (v := ?_) (some 58) rfl rfl (by kernel_rfl) (by kernel_rfl) (by kernel_rfl) (fun _ _ _ h => h) (by rfl) hHeld ?_ ?_
            rotate_left
            · intro wz hSw; (try dsimp only at hSw); go_simp; (try with_reducible rfl)
            simp only [Act.put, List.setIfInBounds_toArray, List.set_cons_zero, List.set_cons_succ]
            refine take_at (i := 4) (v := ?_) (some 59) rfl rfl (by kernel_rfl) (by kernel_rfl) (by kernel_rfl) (fun _ _ _ h => h) (by rfl) hHeld ?_ ?_
            rotate_left
            · intro wz hSw; (try dsimp only at hSw); go_simp; (try with_reducible rfl)
            simp only [Act.put, List.setIfInBounds_toArray, List.set_cons_zero, List.set_cons_succ]
            refine wpAnyH_ready (rs := [5]) (by kernel_rfl) (by simp) ?_
            refine ready_cons (i := 5) rfl (by rfl) (fun K hK => ?_) ?_
            · clear hHeld
              refine wp_call2 60 rfl (.tmp 55) (.tmp 59) rfl rfl rfl enter_step ((HSt.out _ hd0).mono ?_)
              rintro e v1 ⟨rfl, d5, g5, st5, lab5, labR5, hDu5, hX5, hl5⟩
              refine ⟨_, rfl, ?_⟩
              refine hK.out _ _ ?_ ?_
              · exact HCl.out _ hDu5.base
              clear hK K
              simp only [Act.put, List.setIfInBounds_toArray, List.set_cons_zero, List.set_cons_succ]
              have hH1 := HCl.out _ hDu5.base
              have y0 : v1.cell? ⟨bx, 0, none⟩ = some (.pointer (some ⟨d5, 0, none⟩)) := hX5.at_ 0 rfl
              have y1 : v1.cell? ⟨bx, 1, none⟩ = some (.pointer (some ⟨g5, 0, none⟩)) := hX5.at_ 1 rfl
              refine take_at (i := 6) (v := ?_) (some 61) rfl rfl (by kernel_rfl) (by kernel_rfl) (by kernel_rfl) (fun _ _ _ h => h) (by rfl) hH1 ?_ ?_
              rotate_left
              · intro wz hSw; (try dsimp only at hSw); go_simp; (try with_reducible rfl)
              simp only [Act.put, List.setIfInBounds_toArray, List.set_cons_zero, List.set_cons_succ]
              refine take_at (i := 7) (v := ?_) (some 62) rfl rfl (by kernel_rfl) (by kernel_rfl) (by kernel_rfl) (fun _ _ _ h => h) (by rfl) hH1 ?_ ?_
              rotate_left
              · intro wz hSw; (try dsimp only at hSw); go_simp; (try with_reducible rfl)
              simp only [Act.put, List.setIfInBounds_toArray, List.set_cons_zero, List.set_cons_succ]
              refine take_at (i := 8) (v := ?_) (some 63) rfl rfl (by kernel_rfl) (by kernel_rfl) (by kernel_rfl) (fun _ _ _ h => h) (by rfl) hH1 ?_ ?_
              rotate_left
              · intro wz hSw; (try dsimp only at hSw); go_simp; (try with_reducible rfl)
              simp only [Act.put, List.setIfInBounds_toArray, List.set_cons_zero, List.set_cons_succ]
              refine take_at (i := 9) (v := ?_) (some 64) rfl rfl (by kernel_rfl) (by kernel_rfl) (by kernel_rfl) (fun _ _ _ h => h) (by rfl) hH1 ?_ ?_
              rotate_left
              · intro wz hSw; (try dsimp only at hSw); go_simp; (try with_reducible rfl)
              simp only [Act.put, List.setIfInBounds_toArray, List.set_cons_zero, List.set_cons_succ]
              refine take_at (i := 10) (v := ?_) (some 65) rfl rfl (by kernel_rfl) (by kernel_rfl) (by kernel_rfl) (fun _ _ _ h => h) (by rfl) hH1 ?_ ?_
              rotate_left
              · intro wz hSw; (try dsimp only at hSw); go_simp; (try with_reducible rfl)
              simp only [Act.put, List.setIfInBounds_toArray, List.set_cons_zero, List.set_cons_succ]
              refine take_at (i := 12) (v := ?_) (some 67) rfl rfl (by kernel_rfl) (by kernel_rfl) (by kernel_rfl) (fun _ _ _ h => h) (by rfl) hH1 ?_ ?_
              rotate_left
              · intro wz hSw; (try dsimp only at hSw); go_simp; (try with_reducible rfl)
              simp only [Act.put, List.setIfInBounds_toArray, List.set_cons_zero, List.set_cons_succ]
              refine take_at (i := 13) (v := ?_) (some 68) rfl rfl (by kernel_rfl) (by kernel_rfl) (by kernel_rfl) (fun _ _ _ h => h) (by rfl) hH1 ?_ ?_
              rotate_left
              · intro wz hSw; (try dsimp only at hSw); go_simp; (try with_reducible rfl)
              simp only [Act.put, List.setIfInBounds_toArray, List.set_cons_zero, List.set_cons_succ]
              refine take_at (i := 14) (v := ?_) (some 69) rfl rfl (by kernel_rfl) (by kernel_rfl) (by kernel_rfl) (fun _ _ _ h => h) (by rfl) hH1 ?_ ?_
              rotate_left
              · intro wz hSw; (try dsimp only at hSw); go_simp; (try with_reducible rfl)
              simp only [Act.put, List.setIfInBounds_toArray, List.set_cons_zero, List.set_cons_succ]
              refine wpAnyH_ready (rs := [11, 15]) (by kernel_rfl) (by simp) ?_
              refine ready_cons (i := 11) rfl (by rfl) (fun K hK => ?_) ?_
              · skip
                go_simp
                refine hK.out _ _ ?_ ?_
                · exact HCl.out _ hDu5.base
                clear hK K
                refine wpAnyH_ready (rs := [15]) (by kernel_rfl) (by simp) ?_
                refine ready_cons (i := 15) rfl (by rfl) (fun K hK => ?_) ?_
                · skip
                  go_simp
                  refine hK.out _ _ ?_ ?_
                  · exact HCl.out _ hDu5.base
                  clear hK K
                  refine wpAnyH_ready (rs := [16]) (by kernel_rfl) (by simp) ?_
                  refine ready_cons (i := 16) rfl (by rfl) (fun K hK => ?_) ?_
                  · refine wp_call2 71 rfl (.tmp 66) (.tmp 70) rfl rfl rfl enter_same ((same_any v1 d5 g5 lab5 labR5 st5 hDu5.disk hDu5.ref).mono ?_)
                    rintro e v2 ⟨rfl, hb2⟩
                    refine ⟨_, rfl, ?_⟩
                    have HDu6 := Lib.hid (hDu5.below hb2)
                    have HX6 := Lib.hid (hX5.below hb2)
                    have HL6 := Lib.hid hl5
                    clear hDu5 hX5 hl5 hb2 y0 y1 hH1
                    refine hK.out _ _ ?_ ?_
                    · exact HCl.out _ HDu6.out.base
                    clear hK K
                    simp only [Act.put, List.setIfInBounds_toArray, List.set_cons_zero, List.set_cons_succ]
                    have hH2 := HCl.out _ HDu6.out.base
                    refine take_at (i := 17) (v := ?_) (some 72) rfl rfl (by kernel_rfl) (by kernel_rfl) (by kernel_rfl) (fun _ _ _ h => h) (by rfl) hH2 ?_ ?_
                    rotate_left
                    · intro wz hSw; (try dsimp only at hSw); go_simp; (try with_reducible rfl)
                    simp only [Act.put, List.setIfInBounds_toArray, List.set_cons_zero, List.set_cons_succ]
                    refine take_at (i := 18) (v := ?_) (some 73) rfl rfl (by kernel_rfl) (by kernel_rfl) (by kernel_rfl) (fun _ _ _ h => h) (by rfl) hH2 ?_ ?_
                    rotate_left
                    · intro wz hSw; (try dsimp only at hSw); go_simp; (try with_reducible rfl)
                    simp only [Act.put, List.setIfInBounds_toArray, List.set_cons_zero, List.set_cons_succ]
                    refine wpAnyH_done (by kernel_rfl) ?_ _
                    clear hH2 HCl HSt
                    go_wp2_with fail
                    go_roundw
                    case rel => exact ⟨k + 1, d5, g5, st5, lab5, labR5, by omega, by omega, by go_num, HDu6, HX6, HL6⟩
                    case measure => simp [intOf]; omega
                  exact AllReadyH.nil
                exact AllReadyH.nil
              refine ready_cons (i := 15) rfl (by rfl) (fun K hK => ?_) ?_
              · skip
                go_simp
                refine hK.out _ _ ?_ ?_
                · exact HCl.out _ hDu5.base
                clear hK K
                refine wpAnyH_ready (rs := [11]) (by kernel_rfl) (by simp) ?_
                refine ready_cons (i := 11) rfl (by rfl) (fun K hK => ?_) ?_
                · skip
                  go_simp
                  refine hK.out _ _ ?_ ?_
                  · exact HCl.out _ hDu5.base
                  clear hK K
                  refine wpAnyH_ready (rs := [16]) (by kernel_rfl) (by simp) ?_
                  refine ready_cons (i := 16) rfl (by rfl) (fun K hK => ?_) ?_
                  · refine wp_call2 71 rfl (.tmp 66) (.tmp 70) rfl rfl rfl enter_same ((same_any v1 d5 g5 lab5 labR5 st5 hDu5.disk hDu5.ref).mono ?_)
                    rintro e v2 ⟨rfl, hb2⟩
                    refine ⟨_, rfl, ?_⟩
                    have HDu6 := Lib.hid (hDu5.below hb2)
                    have HX6 := Lib.hid (hX5.below hb2)
                    have HL6 := Lib.hid hl5
                    clear hDu5 hX5 hl5 hb2 y0 y1 hH1
                    refine hK.out _ _ ?_ ?_
                    · exact HCl.out _ HDu6.out.base
                    clear hK K
                    simp only [Act.put, List.setIfInBounds_toArray, List.set_cons_zero, List.set_cons_succ]
                    have hH2 := HCl.out _ HDu6.out.base
                    refine take_at (i := 17) (v := ?_) (some 72) rfl rfl (by kernel_rfl) (by kernel_rfl) (by kernel_rfl) (fun _ _ _ h => h) (by rfl) hH2 ?_ ?_
                    rotate_left
                    · intro wz hSw; (try dsimp only at hSw); go_simp; (try with_reducible rfl)
                    simp only [Act.put, List.setIfInBounds_toArray, List.set_cons_zero, List.set_cons_succ]
                    refine take_at (i := 18) (v := ?_) (some 73) rfl rfl (by kernel_rfl) (by kernel_rfl) (by kernel_rfl) (fun _ _ _ h => h) (by rfl) hH2 ?_ ?_
                    rotate_left
                    · intro wz hSw; (try dsimp only at hSw); go_simp; (try with_reducible rfl)
                    simp only [Act.put, List.setIfInBounds_toArray, List.set_cons_zero, List.set_cons_succ]
                    refine wpAnyH_done (by kernel_rfl) ?_ _
                    clear hH2 HCl HSt
                    go_wp2_with fail
                    go_roundw
                    case rel => exact ⟨k + 1, d5, g5, st5, lab5, labR5, by omega, by omega, by go_num, HDu6, HX6, HL6⟩
                    case measure => simp [intOf]; omega
                  exact AllReadyH.nil
                exact AllReadyH.nil
              exact AllReadyH.nil
            exact AllReadyH.nil
          · have key : (m1 : Int) ≤ (k : Int) ∨ ((k : Int) < (m1 : Int) ∧ (40 : Int) ≤ (k : Int)) := by omega
            have HEnd := Lib.hid HDu.out.base
            rcases key with q1 | ⟨q1, q2⟩
            all_goals
              go_wp2
              go_ret
              exact ⟨rfl, HEnd.out⟩
      · exact absurd ⟨g1, g2⟩ hno
    · go_wp2_with fail
      refine (rnew_any _ w1).mono ?_
      intro e w3 hg
      rcases hg with ⟨g1, g2, _⟩ | ⟨_, rfl, rfl⟩
      · exact absurd ⟨g1, g2⟩ hno
      · clear hno
        go_wp2
        go_ret
        exact ⟨rfl, B1.out⟩
set_option maxRecDepth 100000 in
theorem lifted (os : Os) (started : os.Started) (H : Type) (enc : TypeId × Value → H) :
    ReturnsInHanded {} Try.checked os 3 .any (Rows.diskRunsSpec.pre6 enc Try.prog Try.f3 Rows.diskRunsRow.domain false) (Rows.diskRunsSpec.post enc Try.prog Try.f3 false true false false) := by
  refine returnsInHanded_of_change (C := Try.checked) own started (by kernel_rfl) Try.func3
    (ChangeSpec.witness6 (enc := enc) (C := Try.checked) false ⟨#[], #[.int .i64 0, .slice none 0 0], []⟩ 8 (by kernel_rfl) (by kernel_rfl) (by kernel_rfl) (by kernel_rfl)) ?_
  intro W base args ds gs before hval0 hW hcnd _
  have hval : ∀ (j : Nat) t v, Try.f3.params[j]? = some t → args[j]? = some v → Value.okWide Try.prog W .any base t v := hval0
  have hW' := hW
  obtain ⟨p, q, hA0, hV, rfl, hfz, hnd⟩ := hW
  have hA : DataW.TrodAll enc Try.prog W 0 (fun _ => true) true Try.f3.params.toList args.toList ds p := hA0
  rw [Try.params3] at hA hval
  obtain ⟨v0, vs0, d0, ds0, p0, q0, hargs, rfl, rfl, h0, t0⟩ := trodAll_cons hA
  obtain ⟨v1, vs1, d1, ds1, p1, q1, rfl, rfl, rfl, h1, t1⟩ := trodAll_cons t0
  obtain ⟨rfl, rfl, rfl⟩ := trodAll_nil t1
  obtain rfl : args = #[v0, v1] := by cases args; simp_all
  obtain ⟨rfl, rfl⟩ := trodVars_none hV
  have k0 : Reads enc W 3 v0 d0 p0 := h0
  have lt0 : ∀ x ∈ p0, x.block < W.heap.size := by obtain ⟨m, hm⟩ := k0; exact DataW.trod_lt m _ _ _ hm
  obtain ⟨n0, rfl, wl0, w0⟩ := in_int (hval 0 3 v0 rfl rfl) k0
  have k1 : Reads enc W 22 v1 d1 p1 := h1
  have lt1 : ∀ x ∈ p1, x.block < W.heap.size := by obtain ⟨m, hm⟩ := k1; exact DataW.trod_lt m _ _ _ hm
  obtain ⟨A1, m1, c1, l1, rfl, r1, wc1, w1⟩ := in_ops (hval 1 22 v1 rfl rfl) k1
  clear hA0 hval0
  refine (walk n0 A1 m1 c1 l1 W wl0 w0 r1 wc1 w1).mono fun e W' ⟨he, bel⟩ => ?_
  subst he
  exact ⟨_, rfl, _, _, _, [], _, [], hW', trodAll_mk1 (shut_bool Try.underlying4 _), (trodAll_cons_mk (Below.trod laidOut (by kernel_rfl) (of_decide_eq_true (by kernel_rfl)) k0 bel lt0) (trodAll_cons_mk (Below.trod laidOut (by kernel_rfl) (of_decide_eq_true (by kernel_rfl)) k1 bel lt1) trodAll_mk0)), rfl, bel.frame _, fun h => by cases h⟩
theorem over : Rows.diskRunsRow.holds Try.pinned (OpenSpec.ofChange Rows.diskRunsSpec) :=
  OpenClaim.holds_of_wide 3 Try.f3 rfl rfl rfl rfl rfl rfl rfl ⟨rfl, rfl, rfl, rfl, rfl⟩ rfl rfl rfl rfl rfl (by kernel_rfl) Try.func3 (by kernel_rfl)
    (of_decide_eq_true (by kernel_rfl)) (by unfold Func.isWrapper; first | (rw [if_pos (by decide +kernel)]; kernel_rfl) | (rw [if_neg (by decide +kernel)]; exact ⟨rfl, rfl⟩))
    (fun os started H enc _ => lifted os started H enc)
theorem proved : Rows.DiskRunsSaid := over
end Go.Proofs.Ytamdihodconjiaa.diskRuns
