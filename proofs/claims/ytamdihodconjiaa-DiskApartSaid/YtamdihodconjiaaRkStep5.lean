/- A step of both disks: kind 5. -/
import Derived.Test.YtamdihodconjiaaRkStepB
import Derived.Test.YtamdihodconjiaaRkCrash
namespace Go.Proofs.Ytamdihodconjiaa
open Go.RowKit
set_option linter.unusedVariables false
theorem crash_end {a W v1 v2 v3 : World} {bx d g g1 g2 cnt cnt' : Nat} {st : Dk.St} {fs : List Dk.Fa} {lab labR lab3 lab4 : Nat → Tag} (h : Duo a W d g st cnt lab labR) (hx : Holds W bx (duoV d g)) (ha : a.heap.size ≤ bx) (hG : IsDisk v1 g1 lab3 (st.crash fs)) (hb1 : Below W.heap.size W v1) (hl3 : ∀ k, lab3 k ≠ .no → W.heap.size ≤ k) (hR : IsRef v2 g2 lab4 (st.crash fs)) (hb2 : Below v1.heap.size v1 v2) (hl4 : ∀ k, lab4 k ≠ .no → v1.heap.size ≤ k) (hb3 : Below v2.heap.size v2 v3) :
    GivesStep a bx cnt' (.returned (.bool true)) ((v3.setCell ⟨bx, 0, none⟩ (.pointer (some ⟨g1, 0, none⟩))).setCell ⟨bx, 1, none⟩ (.pointer (some ⟨g2, 0, none⟩))) := by
  have hbl := hx.1
  have hs1 := hb1.size
  have h3 : lab3 bx = .no := by
    cases e : lab3 bx with
    | no => rfl
    | _ => exact absurd (hl3 bx (by rw [e]; simp)) (by omega)
  have h4 : lab4 bx = .no := by
    cases e : lab4 bx with
    | no => rfl
    | _ => exact absurd (hl4 bx (by rw [e]; simp)) (by omega)
  have hW3 : Below W.heap.size W v3 := hb1.trans ((hb2.trans (hb3.mono hb2.size)).mono hs1)
  have hk : ∀ (v : World) (x y : Value) (k : Nat), k ≠ bx → ((v.setCell ⟨bx, 0, none⟩ x).setCell ⟨bx, 1, none⟩ y).heap[k]? = v.heap[k]? := fun v x y k hk => (Below.heap_setCell _ _ _ _ hk).trans (Below.heap_setCell _ _ _ _ hk)
  have hz : ∀ (v : World) (x y : Value), ((v.setCell ⟨bx, 0, none⟩ x).setCell ⟨bx, 1, none⟩ y).heap.size = v.heap.size := fun v x y => by simp [World.setCell]
  have hG3 := (hG.below hb2).below hb3
  have hR3 := hR.below hb3
  refine ⟨rfl, g1, g2, st.crash fs, lab3, lab4, ⟨((h.base.trans (hW3.mono h.base.size)).setCell (p := ⟨bx, 0, none⟩) ha _).setCell (p := ⟨bx, 1, none⟩) ha _, hG3.keep (by rw [hz]; exact Nat.le_refl _) (fun k e => hk _ _ _ k (fun e2 => e (by rw [e2]; exact h3))), hR3.keep (by rw [hz]; exact Nat.le_refl _) (fun k e => hk _ _ _ k (fun e2 => e (by rw [e2]; exact h4))), fun k e => Nat.le_trans h.base.size (hl3 k e), fun k e => Nat.le_trans h.base.size (Nat.le_trans hs1 (hl4 k e)), fun k => ?_, low_crash _ _ _⟩, ((hx.below hW3).set 0 _ (by simp [duoV])).set 1 _ (by simp [duoV]), h3, h4⟩
  by_cases e : k < v1.heap.size
  · right
    cases e4 : lab4 k with
    | no => rfl
    | _ => exact absurd (hl4 k (by rw [e4]; simp)) (by omega)
  · left
    exact hG.new_ (by omega)
theorem ref_few {w : World} {g : Nat} {labR : Nat → Tag} {st : Dk.St} (h : IsRef w g labR st) : st.loose.length ≤ 4096 ∧ ∀ x ∈ st.loose, x.2 ≤ 2000 := by
  obtain ⟨sb, C, h⟩ := h
  refine ⟨Nat.le_trans (looseF_len _ _) h.fine.2.2, fun x hx => ?_⟩
  obtain ⟨i, hi⟩ := List.getElem?_of_mem hx
  obtain ⟨a, s, h1, h2, h3, h4⟩ := loose_sec (L := st.s) (k := 0) hi
  obtain ⟨c, hc, _, _, hsec⟩ := h.at_ h3
  rw [h2]
  exact hsec.l.1
set_option maxRecDepth 100000 in
set_option maxHeartbeats 8000000 in
theorem step_crash (s : DOp) (a w : World) (bx d g cnt : Nat) (st : Dk.St) (lab labR : Nat → Tag) (h : Duo a w d g st cnt lab labR) (hx : Holds w bx (duoV d g)) (hl : lab bx = .no ∧ labR bx = .no) (hcnt : cnt ≤ 900) (hmask : s.mask < 256) (hab : a.heap.size ≤ bx) (hrf : RdC 2 w s.F s.fm (flatFa s.fs)) (hfl : s.fs.length = s.fm) (hm : s.fm ≤ 9223372036854775807) :
    Calls Try.prog 13 #[.pointer (some ⟨bx, 0, none⟩), .agg #[.int .i64 5, .int .i64 s.at_, .slice s.A s.m s.c, .bool s.whole, .int .i64 s.n, .int .i64 s.place, .int .u8 (s.mask : Int), .slice s.F s.fm s.fc]] w (GivesStep a bx (cnt + 1)) := by
  have hob := Holds.new w #[.int .i64 5, .int .i64 s.at_, .slice s.A s.m s.c, .bool s.whole, .int .i64 s.n, .int .i64 s.place, .int .u8 (s.mask : Int), .slice s.F s.fm s.fc] 38
  have hbw : Below w.heap.size w (w.alloc (.cells #[.int .i64 5, .int .i64 s.at_, .slice s.A s.m s.c, .bool s.whole, .int .i64 s.n, .int .i64 s.place, .int .u8 (s.mask : Int), .slice s.F s.fm s.fc] 38)) := (Below.refl _ _).alloc (Nat.le_refl _) _
  have hno := h.new_ (Nat.le_refl _)
  have HD := Lib.hid (h.below hbw)
  have HX := Lib.hid (hx.below hbw)
  have HO := Lib.hid hob
  have HNo := Lib.hid hno
  have HL := Lib.hid hl
  have HM := Lib.hid hmask
  have HF5 := Lib.hid (hrf.below hbw)
  clear h hx hob hno hl hmask hrf
  go_enter Try.func13, Try.ntmps13
  go_upto_region 1 with fail
  generalize (w.alloc (.cells #[.int .i64 5, .int .i64 s.at_, .slice s.A s.m s.c, .bool s.whole, .int .i64 s.n, .int .i64 s.place, .int .u8 (s.mask : Int), .slice s.F s.fm s.fc] 38)) = w1 at *
  have HCs := Lib.hid (duo_cells HX.out HL.out HO.out HNo.out)
  have o0 := HO.out.at_ 0 rfl
  have o7 := HO.out.at_ 7 rfl
  have b0 := HX.out.at_ 0 rfl
  have b1 := HX.out.at_ 1 rfl
  have ho := HO.out.1
  have hbx := HX.out.1
  have hd0 : Below w1.heap.size w1 w1.drew := (Below.refl _ _).drew
  go_wp2_with fail
  refine (crash_any w1 d lab st HD.out.disk s.F s.fm s.fc s.fs HF5.out hfl (by omega)).mono ?_
  intro e v1 hg1
  rcases hg1 with ⟨hE, g1, rfl, lab3, hG, hb1, hl3⟩ | ⟨hE, rfl, hb1⟩
  · have HG := Lib.hid (And.intro hG (And.intro hb1 hl3))
    have HD1 := Lib.hid (HD.out.below hb1)
    have HX1 := Lib.hid (HX.out.below hb1)
    have b11 := HX1.out.at_ 1 rfl
    have HF1 := Lib.hid (HF5.out.below hb1)
    have HE := Lib.hid hE
    clear hG hb1 hl3 hE
    go_wp2_with fail
    refine (rcrash_any v1 g labR st HD1.out.ref s.F s.fm s.fc s.fs HF1.out hfl (by omega)).mono ?_
    rintro e v2 (⟨_, g2, lab4, rfl, hR, hb2, hl4⟩ | ⟨hne, _⟩)
    · have HR := Lib.hid (And.intro hR (And.intro hb2 hl4))
      have HD2 := Lib.hid (HD1.out.below hb2)
      have HX2 := Lib.hid (HX1.out.below hb2)
      clear hR hb2 hl4 b11
      have hb0 : Below v2.heap.size v2 v2.drew := (Below.refl _ _).drew
      have HS := Lib.hid (fun wx (hb : Below v2.heap.size v2 wx) => (⟨(HX2.out.below hb).at_ 0 rfl, (HX2.out.below hb).at_ 1 rfl⟩ : wx.cell? ⟨bx, 0, none⟩ = some (.pointer (some ⟨d, 0, none⟩)) ∧ wx.cell? ⟨bx, 1, none⟩ = some (.pointer (some ⟨g, 0, none⟩))))
      have HSm := Lib.hid (fun wx (hb : Below v2.heap.size v2 wx) => same_any wx d g lab labR st (HD2.out.below hb).disk (HD2.out.below hb).ref)
      go_upto_region 21 with fail
      go_cut [152] from 131 to 152 (fun t wx => t = .bool false ∧ Hid (Below v2.heap.size v2 wx))
      case first =>
        go_region_held3 (fun wx => wx.cell? ⟨bx, 0, none⟩ = some (.pointer (some ⟨d, 0, none⟩)) ∧ wx.cell? ⟨bx, 1, none⟩ = some (.pointer (some ⟨g, 0, none⟩))) (first | exact HS.out _ hb0 | exact HS.out _ hk3) (first | (go_at_call 14; refine (HSm.out _ hb0).mono ?_; rintro e v3 ⟨rfl, hb3⟩; have hk3 : Below v2.heap.size v2 v3 := below_next hb0 hb3))
        all_goals
          have HK := Lib.hid hk3
          clear hk3 hb3 HS
          go_wp2_with fail
          go_meet
          case rel => exact ⟨rfl, HK⟩
      case rest =>
        obtain ⟨rfl, HB3⟩ := hcut
        have hX3 := HX2.out.below HB3.out
        have q0 := hX3.at_ 0 rfl
        have q1 := hX3.at_ 1 rfl
        have f0 := hX3.2.2 0
        have f1 := hX3.2.2 1
        have HEnd := Lib.hid (crash_end (cnt' := cnt + 1) HD.out HX.out hab HG.out.1 HG.out.2.1 HG.out.2.2 HR.out.1 HR.out.2.1 HR.out.2.2 HB3.out)
        clear hX3 HS HSm hb0
        go_wp2
        go_ret
        exact HEnd.out
    · exact absurd HE.out hne
  · have HD1 := Lib.hid (HD.out.below hb1)
    have HX1 := Lib.hid (HX.out.below hb1)
    have b11 := HX1.out.at_ 1 rfl
    have HF1 := Lib.hid (HF5.out.below hb1)
    have HE := Lib.hid hE
    clear hb1 hE
    go_wp2_with fail
    refine (rcrash_any v1 g labR st HD1.out.ref s.F s.fm s.fc s.fs HF1.out hfl (by omega)).mono ?_
    rintro e v2 (⟨h0, _⟩ | ⟨_, rfl, hb2⟩)
    · exact absurd h0 HE.out
    · have HD2 := Lib.hid (HD1.out.below hb2)
      have HX2 := Lib.hid (HX1.out.below hb2)
      clear hb2 b11
      generalize st.crashE s.fs = E at *
      have hb0 : Below v2.heap.size v2 v2.drew := (Below.refl _ _).drew
      have HS := Lib.hid (fun wx (hb : Below v2.heap.size v2 wx) => (⟨(HX2.out.below hb).at_ 0 rfl, (HX2.out.below hb).at_ 1 rfl⟩ : wx.cell? ⟨bx, 0, none⟩ = some (.pointer (some ⟨d, 0, none⟩)) ∧ wx.cell? ⟨bx, 1, none⟩ = some (.pointer (some ⟨g, 0, none⟩))))
      have HSm := Lib.hid (fun wx (hb : Below v2.heap.size v2 wx) => same_any wx d g lab labR st (HD2.out.below hb).disk (HD2.out.below hb).ref)
      go_upto_region 21 with fail
      go_cut [152] from 131 to 152 (fun t wx => t = .bool false ∧ Hid (Below v2.heap.size v2 wx))
      case first =>
        go_region_held3 (fun wx => wx.cell? ⟨bx, 0, none⟩ = some (.pointer (some ⟨d, 0, none⟩)) ∧ wx.cell? ⟨bx, 1, none⟩ = some (.pointer (some ⟨g, 0, none⟩))) (first | exact HS.out _ hb0 | exact HS.out _ hk3) (first | (go_at_call 14; refine (HSm.out _ hb0).mono ?_; rintro e v3 ⟨rfl, hb3⟩; have hk3 : Below v2.heap.size v2 v3 := below_next hb0 hb3))
        all_goals
          have HK := Lib.hid hk3
          clear hk3 hb3 HS
          go_wp2_with fail
          go_meet
          case rel => exact ⟨rfl, HK⟩
      case rest =>
        obtain ⟨rfl, HB3⟩ := hcut
        have HEnd := Lib.hid (show GivesStep a bx (cnt + 1) (.returned (.bool true)) wc from ⟨rfl, d, g, st, lab, labR, (HD2.out.below HB3.out).more, HX2.out.below HB3.out, HL.out⟩)
        clear HS HSm hb0
        go_wp2
        go_ret
        exact HEnd.out
end Go.Proofs.Ytamdihodconjiaa
