/- For every byte slice, frame, other bytes and sector: to write a frame of one file changes no sector but those of its copies (P7.9), and the example at the head holds; the arguments stay as they were. No condition. -/
import Derived.Test.YtakocojbpdpflaaFiTwo
import Derived.Test.YtakocojbpdpflaaIns
import Derived.Test.YtakocojbpdpflaaSuA
import Derived.WalkKit
import Derived.ProofKit
import Derived.OpenShut
import Derived.ShutString
import Derived.ChangeOld
import Derived.Below
import Derived.Deep.RegionHeld
namespace Go.Proofs.Ytakocojbpdpflaa.fileApart
open Go.ChangeShapes Go.WideShapes Go.ChangeAt Go.RowKit
set_option linter.unusedVariables false
theorem own : ownKnob Try.prog.godebug = none := by kernel_rfl
theorem laidOut : laidOutB Try.prog = true := by kernel_rfl
open Fr Fi
set_option maxRecDepth 100000 in
set_option maxHeartbeats 8000000 in
theorem walk (A0 : Option Addr) (m0 c0 : Nat) (l0 : List Nat) (n1 : Nat) (A2 : Option Addr) (m2 c2 : Nat) (l2 : List Nat) (n3 : Nat) (w : World) (r0 : Rd w A0 m0 l0) (wc0 : m0 ≤ c0) (w0 : m0 ≤ 9223372036854775807) (w1 : n1 < 256) (r2 : Rd w A2 m2 l2) (wc2 : m2 ≤ c2) (w2 : m2 ≤ 9223372036854775807) (w3 : n3 < 256) :
    Calls Try.prog 7 #[.slice A0 m0 c0, .int .u8 (n1 : Int), .slice A2 m2 c2, .int .u8 (n3 : Int)] w fun e w' => e = .returned (.bool true) ∧ Below w.heap.size w w' := by
  -- heartbeats 8000000
  obtain ⟨ma, hma⟩ : ∃ mm, mm = if 108 < m0 then 108 else m0 := ⟨_, rfl⟩
  have hia : (if (108 : Int) < (m0 : Int) then (108 : Int) else (m0 : Int)) = (ma : Int) := by rw [hma]; split <;> split <;> omega
  have hja : min (m0 : Int) 108 = (ma : Int) := by rw [hma]; split <;> omega
  have h1a : ma ≤ m0 := by rw [hma]; split <;> omega
  have h2a : ma ≤ 108 := by rw [hma]; split <;> omega
  have hca : (ma : Int) ≤ (c0 : Int) := by omega
  have hra := r0.take h1a
  obtain ⟨pa, hpa⟩ : ∃ p, p = l0.take ma := ⟨_, rfl⟩
  rw [← hpa] at hra
  have HRa := Lib.hid hra
  have HLa := Lib.hid (And.intro hra.1 h2a)
  have HWas := Lib.hid r2
  obtain ⟨k, hk⟩ : ∃ k, k = n1 % 16 := ⟨_, rfl⟩
  have q1 : (n1 : Int) % 16 = (k : Int) := by omega
  obtain ⟨ot, hot⟩ : ∃ k, k = n3 % 36 := ⟨_, rfl⟩
  have q3 : (n3 : Int) % 36 = (ot : Int) := by omega
  have HK16 := Lib.hid (show k < 16 by omega)
  have HO36 := Lib.hid (show ot < 36 by omega)
  clear hma hpa hra h1a h2a r0 r2 wc0 wc2 w0 w2 hk hot
  go_enter Try.func7, Try.ntmps7
  go_wp2_with fail
  refine (awake_any _).mono ?_
  rintro e v0 ⟨rfl, hb0⟩
  go_wp2_with fail
  refine (new_any 36 _).mono ?_
  rintro e v1 hN
  rcases hN with ⟨_, _, d, lab, rfl, hD, hb1, hnl⟩ | ⟨hx, _⟩
  rotate_left
  · exact absurd ⟨by omega, by omega⟩ hx
  have HD1 := Lib.hid (show Ds w v1 d lab (Dk.St.new 36) [] from ⟨hb0.trans (hb1.mono hb0.size), hD, fun k hk => Nat.le_trans hb0.size (hnl k hk), fun u hu => by cases hu⟩)
  clear hb0 hb1 hD hnl
  go_wp2_with fail
  refine (two_any 4 1 _).mono ?_
  rintro e v2 ⟨bt, rfl, hrt, hbt, hb2⟩
  have hlb : lab bt = .no := HD1.out.disk.new_ hbt
  have hbl : bt < v2.heap.size := by obtain ⟨b, o, e, hb, _⟩ := hrt.2 (by omega); injection e with e; injection e with e; omega
  have hd2 := HD1.out.next hb2
  have hd3 := hd2.add (.cells #[.int .i64 4, .int .i64 1, .slice (some ⟨bt, 0, none⟩) 2 2] 24)
  have HD3 := Lib.hid (show Ds w (v2.alloc (.cells #[.int .i64 4, .int .i64 1, .slice (some ⟨bt, 0, none⟩) 2 2] 24)) d lab (Dk.St.new 36) [v2.heap.size, bt] from ⟨hd3.below, hd3.disk, hd3.labs, fun u hu => by rcases List.mem_cons.1 hu with rfl | hu; exact hd3.un _ (by simp); simp at hu; subst hu; exact ⟨hlb, by simp; omega⟩⟩)
  have HT3 := Lib.hid (hrt.alloc (.cells #[.int .i64 4, .int .i64 1, .slice (some ⟨bt, 0, none⟩) 2 2] 24))
  have hk3 := Holds.new v2 #[.int .i64 4, .int .i64 1, .slice (some ⟨bt, 0, none⟩) 2 2] 24
  have HK3 := Lib.hid hk3
  have y0 := hk3.at_ 0 rfl
  have y1 := hk3.at_ 1 rfl
  have y2 := hk3.at_ 2 rfl
  clear hlb hbl hd2 hd3 hrt hbt hb2 HD1 hk3
  go_wp2_with fail
  generalize (v2.alloc (.cells #[.int .i64 4, .int .i64 1, .slice (some ⟨bt, 0, none⟩) 2 2] 24)) = v3 at *
  generalize v2.heap.size = gb at *
  have hse := rsectors_any (P2 4 1) (k : Int) (some ⟨bt, 0, none⟩) 2 v3 (by show 2 ≤ 1000; omega) HT3.out
  have hfr := P2_fr 4 1 HK16.out
  rw [hfr] at hse
  obtain ⟨xy1, xy2, xy3⟩ := pxy HK16.out
  generalize px k = X at *
  generalize py k = Y at *
  have HFr := Lib.hid hfr
  have HXY := Lib.hid (And.intro xy1 (And.intro xy2 xy3))
  have HSe := Lib.hid (show Calls Try.prog 11 #[.agg #[.int .i64 4, .int .i64 1, .slice (some ⟨bt, 0, none⟩) 2 2], .int .i64 (k : Int)] v3 (fun e w' => e = .returned (.tuple #[.int .i64 (X : Int), .int .i64 (Y : Int), .int .i64 0]) ∧ Below v3.heap.size v3 w') from hse)
  clear hse hfr xy1 xy2 xy3
  refine HSe.out.mono ?_
  rintro e v ⟨rfl, hb⟩
  have HD4 := Lib.hid (HD3.out.next hb)
  have HT4 := Lib.hid (HT3.out.below hb)
  have HK4 := Lib.hid (HK3.out.below hb)
  clear hb HD3 HT3 HK3 HSe y0 y1 y2
  have hf0 := Free.new 36
  have hfu := Dk.full_length l2
  obtain ⟨W, hW⟩ : ∃ W, W = Dk.full l2 := ⟨_, rfl⟩
  rw [← hW] at hfu
  obtain ⟨f1, f2, f3⟩ := hf0.write HO36.out hfu
  have hw1 := hf0.writeE HO36.out hfu
  have lo1 := low_write (low_new 36) (ot : Int) W
  obtain ⟨s1, hs1⟩ : ∃ s, s = (Dk.St.new 36).write (ot : Int) W := ⟨_, rfl⟩
  rw [← hs1] at f1 f2 f3 lo1
  obtain ⟨F, hF⟩ : ∃ F, F = frame 2 4 1 k pa := ⟨_, rfl⟩
  have hFl : F.length = 128 := by rw [hF]; exact frame_len (by rw [HLa.out.1]; exact HLa.out.2)
  obtain ⟨g1, g2, g3⟩ := f1.write HXY.out.1 hFl
  obtain ⟨i1, i2, i3⟩ := g1.write HXY.out.2.1 hFl
  have hrx := f1.ready HXY.out.1
  have hry := g1.ready HXY.out.2.1
  obtain ⟨s2, hs2⟩ : ∃ s, s = (s1.write (X : Int) F).write (Y : Int) F := ⟨_, rfl⟩
  have HS := Lib.hid (show Free s2 36 ∧ ∀ i : Nat, i < 36 → i ≠ X → i ≠ Y → s2.readB (i : Int) = if i = ot then W else Dk.zeros from by rw [hs2]; exact ⟨i1, fun i hi h1 h2 => by rw [i3 i hi h2, g3 i hi h1]; split; rename_i e; rw [e]; exact f2; rename_i e; rw [f3 i hi e]; exact new_zeros hi⟩)
  have HFu := Lib.hid (fun wx (hb : Below w.heap.size w wx) => by have h := full_any A2 m2 c2 l2 wx (HWas.out.below hb); rw [← hW] at h; exact h)
  have HW1 := Lib.hid (show ∀ wx, Below v.heap.size v wx → Buf wx v.heap.size W → Calls Try.prog 28 #[.pointer (some ⟨d, 0, none⟩), .int .i64 (ot : Int), .slice (some ⟨v.heap.size, 0, none⟩) 128 128] wx (fun e w' => e = .returned (.int .i64 0) ∧ Left lab d s1 wx w') from fun wx hb hx => by
    have h := write_any (ot : Int) (some ⟨v.heap.size, 0, none⟩) 128 128 0 W wx d lab _ (HD4.out.next hb).disk (by have h := hx.all; rw [hfu] at h; exact h) (low_new 36) (by omega) (by omega)
    rw [hs1, ← hw1]
    exact h)
  have HW2 := Lib.hid (show ∀ wx lab2, IsDisk wx d lab2 s1 → RdC 2 wx (some ⟨bt, 0, none⟩) 2 (pv [(3, 1), (0, 2)]) → Rd wx A0 ma pa → Calls Try.prog 19 #[.pointer (some ⟨d, 0, none⟩), .agg #[.int .i64 4, .int .i64 1, .slice (some ⟨bt, 0, none⟩) 2 2], .int .i64 2, .int .i64 1, .int .i64 (k : Int), .slice A0 ma c0] wx (fun e w' => e = .returned (.int .i64 0) ∧ Left lab2 d s2 wx w') from fun wx lab2 hd hrc hrd => by
    have h := fwrite_any (P2 4 1) (some ⟨bt, 0, none⟩) 2 2 1 4 k rfl (X : Int) (Y : Int) wx d lab2 s1 1 lo1 (by omega) hd hrc (by rw [f1.len]; exact P2_ok (by omega) (by omega) (by omega) (by omega)) (by omega) ⟨by show (1 : Int) ≤ 1; omega, by omega⟩ (by have := HK16.out; omega) HFr.out ⟨by rw [f1.len]; omega, by rw [f1.len]; omega⟩ A0 c0 pa (by rw [HLa.out.1]; exact hrd) (by rw [HLa.out.1]; exact HLa.out.2) hrx (by rw [← hF]; exact hry)
    rw [← hF, ← hs2, HLa.out.1] at h
    exact h)
  have HWl := Lib.hid hfu
  clear hf0 hfu hW f1 f2 f3 hw1 lo1 hs1 hF hFl g1 g2 g3 i1 i2 i3 hrx hry hs2
  have hE : ∀ wx, Below v.heap.size v wx → wx.cell? ⟨gb, 0, none⟩ = some (.int .i64 4) ∧ wx.cell? ⟨gb, 1, none⟩ = some (.int .i64 1) ∧ wx.cell? ⟨gb, 2, none⟩ = some (.slice (some ⟨bt, 0, none⟩) 2 2) := fun wx hb => ⟨(HK4.out.below hb).at_ 0 rfl, (HK4.out.below hb).at_ 1 rfl, (HK4.out.below hb).at_ 2 rfl⟩
  have HE := Lib.hid hE
  have hd : Below v.heap.size v v.drew := (Below.refl _ _).drew
  have HAf := Lib.hid (fun wx w' (hb : Below v.heap.size v wx) (lab2 : Nat → Tag) (hc : Chg lab2 wx w') (hl : lab2 gb = .no) => (⟨(hc.holds (HK4.out.below hb) hl).at_ 0 rfl, (hc.holds (HK4.out.below hb) hl).at_ 1 rfl, (hc.holds (HK4.out.below hb) hl).at_ 2 rfl⟩ : w'.cell? ⟨gb, 0, none⟩ = some (.int .i64 4) ∧ w'.cell? ⟨gb, 1, none⟩ = some (.int .i64 1) ∧ w'.cell? ⟨gb, 2, none⟩ = some (.slice (some ⟨bt, 0, none⟩) 2 2)))
  have HAg := Lib.hid (fun wx w' (lab2 : Nat → Tag) (hc : Chg lab2 wx w') (hl : lab2 gb = .no) (hh : Holds wx gb [.int .i64 4, .int .i64 1, .slice (some ⟨bt, 0, none⟩) 2 2]) => (⟨(hc.holds hh hl).at_ 0 rfl, (hc.holds hh hl).at_ 1 rfl, (hc.holds hh hl).at_ 2 rfl⟩ : w'.cell? ⟨gb, 0, none⟩ = some (.int .i64 4) ∧ w'.cell? ⟨gb, 1, none⟩ = some (.int .i64 1) ∧ w'.cell? ⟨gb, 2, none⟩ = some (.slice (some ⟨bt, 0, none⟩) 2 2)))
  clear hE
  go_upto_region 8 with fail
  go_region_held3 (fun wx => wx.cell? ⟨gb, 0, none⟩ = some (.int .i64 4) ∧ wx.cell? ⟨gb, 1, none⟩ = some (.int .i64 1) ∧ wx.cell? ⟨gb, 2, none⟩ = some (.slice (some ⟨bt, 0, none⟩) 2 2)) (first | exact HE.out _ hd | exact HE.out _ hc7 | exact HAf.out _ _ hc7 _ hg8 hu8 | exact HAg.out _ _ _ hg9 hu9 hk9) (first | (go_at_call 29; refine (HFu.out _ (HD4.out.below.trans (hd.mono HD4.out.below.size))).mono ?_; rintro e v7 ⟨rfl, hb7, hx7⟩; have hc7 : Below v.heap.size v v7 := below_next hd hb7) | (go_at_call 28; refine (HW1.out _ hc7 hx7).mono ?_; rintro e v8 ⟨rfl, hl8⟩; obtain ⟨lab8, h8, hg8⟩ := (HD4.out.next hc7).left hl8; have hu8 := ((HD4.out.next hc7).un gb (by simp)).1) | (go_at_call 19; refine (HW2.out _ lab8 h8.disk (hg8.rdc (HT4.out.below hc7) (fun b o e => by injection e with e; injection e with e; rw [← e]; exact ((HD4.out.next hc7).un bt (by simp)).1)) (HRa.out.below h8.below)).mono ?_; rintro e v9 ⟨rfl, hl9⟩; obtain ⟨lab9, h9, hg9⟩ := h8.left hl9; have hu9 := (h8.un gb (by simp)).1; have hk9 := hg8.holds (HK4.out.below hc7) hu8))
  all_goals
    have HD9 := Lib.hid h9.disk
    have HB9 := Lib.hid h9.below
    go_wp2_with fail
    go_loopw [17] (fun i wr => ∃ j : Nat, j ≤ 36 ∧ i = .int .i64 (j : Int) ∧ Hid (Below v9.heap.size v9 wr)) (fun i _ => 36 - (intOf i).toNat)
    case atStart => exact ⟨0, by omega, rfl, Lib.hid (Below.refl _ _)⟩
    case round =>
      obtain ⟨j, hj, rfl, HBr⟩ := hrel
      have HBw := Lib.hid (HB9.out.trans (HBr.out.mono HB9.out.size))
      by_cases hj36 : j < 36
      · have hji : (j : Int) < 36 := by omega
        have hrd := HS.out.1.ready hj36
        have hmk : ∀ w : World, (Instr.makeSlice 37 (.int .i64 128) (.int .i64 128)).run Try.prog w = .ok (.slice (some ⟨w.heap.size, 0, none⟩) 128 128) (w.alloc (.cells (madeCells #[.int .u8 0] 128) 5)) := make_all 128 (by omega)
        go_wp2_with fail
        refine (read_any (j : Int) wr d lab9 s2 (HD9.out.below HBr.out)).mono ?_
        rintro e v10 ⟨A9, n9, c9, he, hr9, hb9, hn9, hbuf⟩
        obtain ⟨rfl, rfl, rfl, hbuf⟩ := hbuf hrd
        rw [hrd] at he
        subst he
        have hz := (buf_zeros v10 128).all
        have hbz : Below v10.heap.size v10 (v10.alloc (.cells (madeCells #[.int .u8 0] 128) 5)) := (Below.refl _ _).alloc (Nat.le_refl _) _
        have HZ := Lib.hid (show Rd (v10.alloc (.cells (madeCells #[.int .u8 0] 128) 5)) (some ⟨v10.heap.size, 0, none⟩) 128 Dk.zeros by rw [List.length_replicate] at hz; exact hz)
        have HR := Lib.hid (hr9.below hbz)
        have HB2 := Lib.hid (HBr.out.trans ((hb9.mono HBr.out.size).trans (hbz.mono (Nat.le_trans HBr.out.size hb9.size))))
        have HW2 := Lib.hid (HB9.out.trans (HB2.out.mono HB9.out.size))
        clear hrd hr9 hb9 hn9 hbuf hz hbz
        by_cases ho : j = ot
        · subst ho
          go_wp2_with fail
          generalize (v10.alloc (.cells (madeCells #[.int .u8 0] 128) 5)) = v11 at *
          generalize v10.heap.size = gz at *
          generalize wr.heap.size = gr at *
          refine (HFu.out _ HW2.out).mono ?_
          rintro e v12 ⟨rfl, hb, hx⟩
          have hxa := hx.all
          rw [HWl.out] at hxa
          have HX := Lib.hid hxa
          have HR2 := Lib.hid (HR.out.below hb)
          have HB3 := Lib.hid (HB2.out.trans (hb.mono HB2.out.size))
          generalize v11.heap.size = gx at *
          clear hb hx hxa HR HB2 HW2 HZ hmk
          by_cases hjx : j = X
          · have hjx2 : ((j : Int) != (X : Int)) = false := by simp; omega
            clear hjx
            go_wp2_with fail
            go_roundw
            case rel => exact ⟨j + 1, by omega, by go_num, HB3⟩
            case measure => simp [intOf]; omega
          by_cases hjy : j = Y
          · have hjx2 : ((j : Int) != (X : Int)) = true := by simp; omega
            have hjy2 : ((j : Int) != (Y : Int)) = false := by simp; omega
            clear hjx hjy
            go_wp2_with fail
            go_roundw
            case rel => exact ⟨j + 1, by omega, by go_num, HB3⟩
            case measure => simp [intOf]; omega
          have hjx2 : ((j : Int) != (X : Int)) = true := by simp; omega
          have hjy2 : ((j : Int) != (Y : Int)) = true := by simp; omega
          have hrB := HS.out.2 j hj36 hjx hjy
          rw [if_pos rfl] at hrB
          have hs1 := run_str (cap := 128) HR2.out
          rw [hrB] at hs1
          have hs2 := run_str (cap := 128) HX.out
          clear hjx hjy hrB
          generalize W = W' at hs1 hs2
          go_wp2_with fail
          go_roundw
          case rel => exact ⟨j + 1, by omega, by go_num, HB3⟩
          case measure => simp [intOf]; omega
        · have hne : ((j : Int) == (ot : Int)) = false := by rw [beq_eq_false_iff_ne]; omega
          have HR2 := HR
          have HB3 := HB2
          by_cases hjx : j = X
          · have hjx2 : ((j : Int) != (X : Int)) = false := by simp; omega
            clear hjx
            go_wp2_with fail
            go_roundw
            case rel => exact ⟨j + 1, by omega, by go_num, HB3⟩
            case measure => simp [intOf]; omega
          by_cases hjy : j = Y
          · have hjx2 : ((j : Int) != (X : Int)) = true := by simp; omega
            have hjy2 : ((j : Int) != (Y : Int)) = false := by simp; omega
            clear hjx hjy
            go_wp2_with fail
            go_roundw
            case rel => exact ⟨j + 1, by omega, by go_num, HB3⟩
            case measure => simp [intOf]; omega
          have hjx2 : ((j : Int) != (X : Int)) = true := by simp; omega
          have hjy2 : ((j : Int) != (Y : Int)) = true := by simp; omega
          have hrB := HS.out.2 j hj36 hjx hjy
          rw [if_neg ho] at hrB
          have hs1 := run_str (cap := 128) HR2.out
          rw [hrB] at hs1
          have hs2 := run_str (cap := 128) HZ.out
          clear hjx hjy hrB ho
          generalize Dk.zeros = W' at hs1 hs2
          go_wp2_with fail
          go_roundw
          case rel => exact ⟨j + 1, by omega, by go_num, HB3⟩
          case measure => simp [intOf]; omega
      · have hj2 : j = 36 := by omega
        subst hj2
        go_wp2_with fail
        go_ret
        exact ⟨rfl, HBw.out⟩
set_option maxRecDepth 100000 in
theorem lifted (os : Os) (started : os.Started) (H : Type) (enc : TypeId × Value → H) :
    ReturnsInHanded {} Try.checked os 7 .any (Rows.fileApartSpec.pre6 enc Try.prog Try.f7 Rows.fileApartRow.domain false) (Rows.fileApartSpec.post enc Try.prog Try.f7 false true false false) := by
  refine returnsInHanded_of_change (C := Try.checked) own started (by kernel_rfl) Try.func7
    (ChangeSpec.witness6 (enc := enc) (C := Try.checked) false ⟨#[], #[.slice none 0 0, .int .u8 0, .slice none 0 0, .int .u8 0], []⟩ 8 (by kernel_rfl) (by kernel_rfl) (by kernel_rfl) (by kernel_rfl)) ?_
  intro W base args ds gs before hval0 hW hcnd _
  have hval : ∀ (j : Nat) t v, Try.f7.params[j]? = some t → args[j]? = some v → Value.okWide Try.prog W .any base t v := hval0
  have hW' := hW
  obtain ⟨p, q, hA0, hV, rfl, hfz, hnd⟩ := hW
  have hA : DataW.TrodAll enc Try.prog W 0 (fun _ => true) true Try.f7.params.toList args.toList ds p := hA0
  rw [Try.params7] at hA hval
  obtain ⟨v0, vs0, d0, ds0, p0, q0, hargs, rfl, rfl, h0, t0⟩ := trodAll_cons hA
  obtain ⟨v1, vs1, d1, ds1, p1, q1, rfl, rfl, rfl, h1, t1⟩ := trodAll_cons t0
  obtain ⟨v2, vs2, d2, ds2, p2, q2, rfl, rfl, rfl, h2, t2⟩ := trodAll_cons t1
  obtain ⟨v3, vs3, d3, ds3, p3, q3, rfl, rfl, rfl, h3, t3⟩ := trodAll_cons t2
  obtain ⟨rfl, rfl, rfl⟩ := trodAll_nil t3
  obtain rfl : args = #[v0, v1, v2, v3] := by cases args; simp_all
  obtain ⟨rfl, rfl⟩ := trodVars_none hV
  have k0 : Reads enc W 37 v0 d0 p0 := h0
  have lt0 : ∀ x ∈ p0, x.block < W.heap.size := by obtain ⟨m, hm⟩ := k0; exact DataW.trod_lt m _ _ _ hm
  obtain ⟨A0, m0, c0, l0, rfl, r0, wc0, w0⟩ := in_bytes (hval 0 37 v0 rfl rfl) k0
  have k1 : Reads enc W 5 v1 d1 p1 := h1
  have lt1 : ∀ x ∈ p1, x.block < W.heap.size := by obtain ⟨m, hm⟩ := k1; exact DataW.trod_lt m _ _ _ hm
  obtain ⟨n1, rfl, w1⟩ := in_u8 (hval 1 5 v1 rfl rfl) k1
  have k2 : Reads enc W 37 v2 d2 p2 := h2
  have lt2 : ∀ x ∈ p2, x.block < W.heap.size := by obtain ⟨m, hm⟩ := k2; exact DataW.trod_lt m _ _ _ hm
  obtain ⟨A2, m2, c2, l2, rfl, r2, wc2, w2⟩ := in_bytes (hval 2 37 v2 rfl rfl) k2
  have k3 : Reads enc W 5 v3 d3 p3 := h3
  have lt3 : ∀ x ∈ p3, x.block < W.heap.size := by obtain ⟨m, hm⟩ := k3; exact DataW.trod_lt m _ _ _ hm
  obtain ⟨n3, rfl, w3⟩ := in_u8 (hval 3 5 v3 rfl rfl) k3
  clear hA0 hval0
  refine (walk A0 m0 c0 l0 n1 A2 m2 c2 l2 n3 W r0 wc0 w0 w1 r2 wc2 w2 w3).mono fun e W' ⟨he, bel⟩ => ?_
  subst he
  exact ⟨_, rfl, _, _, _, [], _, [], hW', trodAll_mk1 (shut_bool Try.underlying4 _), (trodAll_cons_mk (Below.trod laidOut (by kernel_rfl) (of_decide_eq_true (by kernel_rfl)) k0 bel lt0) (trodAll_cons_mk (Below.trod laidOut (by kernel_rfl) (of_decide_eq_true (by kernel_rfl)) k1 bel lt1) (trodAll_cons_mk (Below.trod laidOut (by kernel_rfl) (of_decide_eq_true (by kernel_rfl)) k2 bel lt2) (trodAll_cons_mk (Below.trod laidOut (by kernel_rfl) (of_decide_eq_true (by kernel_rfl)) k3 bel lt3) trodAll_mk0)))), rfl, bel.frame _, fun h => by cases h⟩
theorem over : Rows.fileApartRow.holds Try.pinned (OpenSpec.ofChange Rows.fileApartSpec) :=
  OpenClaim.holds_of_wide 7 Try.f7 rfl rfl rfl rfl rfl rfl rfl ⟨rfl, rfl, rfl, rfl, rfl⟩ rfl rfl rfl rfl rfl (by kernel_rfl) Try.func7 (by kernel_rfl)
    (of_decide_eq_true (by kernel_rfl)) (by unfold Func.isWrapper; first | (rw [if_pos (by decide +kernel)]; kernel_rfl) | (rw [if_neg (by decide +kernel)]; exact ⟨rfl, rfl⟩))
    (fun os started H enc _ => lifted os started H enc)
theorem proved : Rows.FileApartSaid := over
end Go.Proofs.Ytakocojbpdpflaa.fileApart
