/- Which lines and totals may be, and what comes of a line that is put into totals. -/
import Derived.Test.YtcoekdfmfjglpaaBoAddsW
import Derived.Test.YtcoekdfmfjglpaaBoLaw
import Derived.Test.YtcoekdfmfjglpaaIns
import Derived.Test.YtcoekdfmfjglpaaHolds
import Derived.WalkKit
import Derived.ProofKit
import Derived.OpenShut
import Derived.ShutString
import Derived.ChangeOld
import Derived.Below
import Derived.Deep.RegionHeld
namespace Go.Proofs.Ytcoekdfmfjglpaa.booksAdds
open Go.ChangeShapes Go.WideShapes Go.ChangeAt Go.RowKit
set_option linter.unusedVariables false
theorem own : ownKnob Try.prog.godebug = none := by kernel_rfl
theorem laidOut : laidOutB Try.prog = true := by kernel_rfl
set_option maxRecDepth 100000 in
set_option maxHeartbeats 16000000 in
theorem walk (A0 : Option Addr) (m0 c0 : Nat) (l0 : List Bo.Tt) (x1 : Bo.Ln) (w : World) (r0 : RdT w A0 m0 l0) (wc0 : m0 ≤ c0) (w0 : m0 ≤ 9223372036854775807) (w1 : x1.key.size ≤ 9223372036854775807) (wn1 : -9223372036854775808 ≤ x1.n ∧ x1.n ≤ 9223372036854775807) :
    Calls Try.prog 3 #[.slice A0 m0 c0, .agg x1.cells.toArray] w fun e w' => e = .returned (.bool true) ∧ Below w.heap.size w w' := by
-- heartbeats 16000000
  have HRa := Lib.hid r0
  obtain ⟨k1, s1, n1⟩ := x1
  dsimp only at w1 wn1
  have HX := Lib.hid (show ∀ x ∈ [(⟨k1, s1, n1⟩ : Bo.Ln)], x.key.size ≤ 9223372036854775807 ∧ (-9223372036854775808 ≤ x.n ∧ x.n ≤ 9223372036854775807) by
    intro x hx
    simp at hx
    rcases hx with rfl
    exact ⟨w1, wn1⟩)
  have hx1 : (Bo.Ln.cells ⟨k1, s1, n1⟩).toArray = #[Value.int .i64 k1, .string s1, .int .i64 n1] := rfl
  rw [hx1]
  have HU := Lib.hid (show Below w.heap.size w (w.alloc (.cells #[Value.int .i64 k1, .string s1, .int .i64 n1] 25)) from (Below.refl _ _).alloc (Nat.le_refl _) _)
  have HZ := Lib.hid (Holds.new w #[Value.int .i64 k1, .string s1, .int .i64 n1] 25)
  clear hx1 w1 wn1 r0
  go_enter Try.func3, Try.ntmps3
  go_upto_region 1 with fail
  have HSz := Lib.hid (show w.heap.size < (w.alloc (.cells #[Value.int .i64 k1, .string s1, .int .i64 n1] 25)).heap.size by simp)
  generalize (w.alloc (.cells #[Value.int .i64 k1, .string s1, .int .i64 n1] 25)) = u at *
  have HLe := Lib.hid (fun (v : World) (hv : Below u.heap.size u v) => lesso_any A0 m0 c0 l0 v (HRa.out.below (below_next HU.out hv)) w0)
  have HFe := Lib.hid (fun (v : World) (q : Nat) (hr : RdL v (some ⟨q, 0, none⟩) 1 [⟨k1, s1, n1⟩]) => few_any (some ⟨q, 0, none⟩) 1 1 [⟨k1, s1, n1⟩] v hr (by decide))
  have D0 : Below u.heap.size u u.drew := (Below.refl _ _).drew
  have D1 : Below u.heap.size u (u.alloc (.cells #[Value.int .i64 k1, .string s1, .int .i64 n1] 25)).drew := ((Below.refl _ _).alloc (Nat.le_refl _) _).drew
  have R1 : RdL (u.alloc (.cells #[Value.int .i64 k1, .string s1, .int .i64 n1] 25)).drew (some ⟨u.heap.size, 0, none⟩) 1 [⟨k1, s1, n1⟩] := RdL.new u [⟨k1, s1, n1⟩] HX.out
  obtain ⟨⟨b0, b1, b2⟩, _, _, _⟩ := box3 HZ.out D0
  go_cut [0] from 11 to 18 (fun s0 W => ∃ B c, s0 = .slice B (Bo.less l0).length c ∧ (Bo.less l0).length ≤ c ∧ Hid (RdT W B (Bo.less l0).length (Bo.less l0)) ∧ Hid (Holds W w.heap.size [.int .i64 k1, .string (Bo.cutK s1), .int .i64 n1]) ∧ Hid (Below w.heap.size w W))
  case first =>
    go_region_law ((first
      | (refine bstep_call1 (by rfl) 12 rfl (.tmp 11) rfl rfl enter_less ((HLe.out _ D0).mono ?_); rintro e v3 ⟨B3, c3, rfl, hf3, ho3, hb3⟩; have T3 := D0.trans (hb3.mono D0.size); have HO3 := Lib.hid (ho3.base_ D0.size); have HF3 := Lib.hid hf3; have T4 := T3.alloc T3.size (.cells #[Value.int .i64 k1, .string s1, .int .i64 n1] 25); have R4 := RdL.new v3 [⟨k1, s1, n1⟩] HX.out; have HO4 := Lib.hid (HO3.out.alloc (.cells #[Value.int .i64 k1, .string s1, .int .i64 n1] 25)); obtain ⟨⟨b0, b1, b2⟩, _, _, _⟩ := box3 HZ.out T3; clear hb3 ho3 hf3; refine ⟨_, rfl, ?_⟩)
      | (refine bstep_call1 (by rfl) 15 rfl (.tmp 14) rfl rfl enter_few ((HFe.out _ _ R4).mono ?_); rintro e v5 ⟨B5, c5, rfl, hf5, hr5, hb5⟩; have hr5 : RdL v5 B5 1 [⟨k1, Bo.cutK s1, n1⟩] := hr5; obtain ⟨b, o, rfl, hbl, hc⟩ := RdL.one hr5; have T5 := T4.trans (hb5.mono T4.size); have HO5 := Lib.hid (HO4.out.below hb5); obtain ⟨e0, e1, e2⟩ := hc v5 (Below.refl _ _); obtain ⟨⟨g0, g1, g2⟩, f0, f1, f2⟩ := box3 HZ.out T5; have HT5 := Lib.hid T5; clear hc hb5 hr5 hf5 T5 hbl; refine ⟨.slice (some ⟨b, o, none⟩) 1 c5, rfl, ?_⟩)
      | (refine bstep_call1 (by rfl) 12 rfl (.tmp 11) rfl rfl enter_less ((HLe.out _ D1).mono ?_); rintro e v3 ⟨B3, c3, rfl, hf3, ho3, hb3⟩; have T4 := D1.trans (hb3.mono D1.size); have HO4 := Lib.hid (ho3.base_ D1.size); have HF3 := Lib.hid hf3; have R4 := RdL.below R1 hb3; clear hb3 ho3 hf3; refine ⟨_, rfl, ?_⟩)
      | (refine bstep_call1 (by rfl) 15 rfl (.tmp 14) rfl rfl enter_few ((HFe.out _ _ R1).mono ?_); rintro e v3 ⟨B5, c5, rfl, hf5, hr5, hb5⟩; have hr5 : RdL v3 B5 1 [⟨k1, Bo.cutK s1, n1⟩] := hr5; obtain ⟨b, o, rfl, hbl, hc⟩ := RdL.one hr5; have T3 := D1.trans (hb5.mono D1.size); obtain ⟨e0, e1, e2⟩ := hc v3 (Below.refl _ _); have HC3 := Lib.hid hc; clear hc hb5 hr5 hf5 hbl; refine ⟨.slice (some ⟨b, o, none⟩) 1 c5, rfl, ?_⟩)
      | (refine bstep_call1 (by rfl) 12 rfl (.tmp 11) rfl rfl enter_less ((HLe.out _ T3).mono ?_); rintro e v5 ⟨B3, c3, rfl, hf3, ho3, hb3⟩; have T5 := T3.trans (hb3.mono T3.size); have HO5 := Lib.hid (ho3.base_ T3.size); have HF3 := Lib.hid hf3; obtain ⟨e0, e1, e2⟩ := HC3.out v5 hb3; obtain ⟨⟨g0, g1, g2⟩, f0, f1, f2⟩ := box3 HZ.out T5; have HT5 := Lib.hid T5; clear hb3 ho3 hf3 T5; refine ⟨_, rfl, ?_⟩)))
    all_goals
      go_wp2_with fail
      go_meet
      case rel =>
        have hd := box_done (x' := .int .i64 k1) (y' := .string (Bo.cutK s1)) (z' := .int .i64 n1) HO5.out HSz.out (HZ.out.below HT5.out) (below_next HU.out HT5.out) (Nat.le_refl _)
        exact ⟨B3, c3, rfl, HF3.out, Lib.hid hd.1, Lib.hid hd.2.1, Lib.hid hd.2.2⟩
  case rest =>
    obtain ⟨B, c, rfl, hf, HRT, HZ2, HBw⟩ := hcut
    have HN30 := Lib.hid (Bo.less_most l0)
    have HKs := Lib.hid (Bo.cutK_size s1)
    clear D0 D1 R1 b0 b1 b2 HLe HFe HZ HSz HU HX HRa
    generalize Bo.less l0 = T at *
    generalize Bo.cutK s1 = key at *
    generalize hN : T.length = N at *
    have HN := Lib.hid hN
    have hN30 : N ≤ 30 := HN30.out
    have hk20 : key.size ≤ 20 := HKs.out
    clear hN
    have HAd := Lib.hid (fun (v : World) (hv : Below wc.heap.size wc v) => badd_any B N c T ⟨k1, key, n1⟩ v (RdT.below HRT.out hv) (by omega) (by show key.size ≤ _; omega))
    have HRd := Lib.hid (fun (v : World) (hv : Below wc.heap.size wc v) => radd_any B N c T ⟨k1, key, n1⟩ v (RdT.below HRT.out hv) (by omega) hf (by show key.size ≤ _; omega))
    have HCk := Lib.hid (fun (v : World) => checkl_any ⟨k1, key, n1⟩ v (by show key.size ≤ _; omega))
    have HIs := Lib.hid (fun (v : World) => isl_any ⟨k1, key, n1⟩ v (by show key.size ≤ _; omega))
    have HCt := Lib.hid (fun (v : World) (hv : Below wc.heap.size wc v) => checkt_any B N c T v (RdT.below HRT.out hv) (by omega))
    have HAr := Lib.hid (fun (v : World) (hv : Below wc.heap.size wc v) => aretot_any B N c T v (RdT.below HRT.out hv) (by omega))
    have hx1 : (Bo.Ln.cells ⟨k1, key, n1⟩).toArray = #[Value.int .i64 k1, .string key, .int .i64 n1] := rfl
    rw [hx1] at HAd HRd HCk HIs
    clear hx1
    have HAl := Lib.hid (Bo.addT_len T ⟨k1, key, n1⟩)
    obtain ⟨⟨b0, b1, b2⟩, _, _, _⟩ := box3 HZ2.out (Below.refl _ _)
    go_wp2_with fail
    refine (HAd.out _ (Below.refl _ _)).mono ?_
    rintro e v3 ⟨B3, c3, rfl, ho3, hb3⟩
    have HR3 := Lib.hid (add_rd ho3)
    have HB3 := Lib.hid hb3
    clear ho3 hb3 b0 b1 b2
    obtain ⟨⟨b0, b1, b2⟩, _, _, _⟩ := box3 HZ2.out HB3.out
    go_wp2_with fail
    refine (HRd.out _ HB3.out).mono ?_
    rintro e v4 ⟨B4, c4, rfl, hr4, hb4⟩
    have HR4 := Lib.hid hr4
    have HR3 := Lib.hid (RdT.below HR3.out hb4)
    have HB4 := Lib.hid (HB3.out.trans (hb4.mono HB3.out.size))
    clear hr4 hb4 b0 b1 b2 HAd HRd HB3
    obtain ⟨⟨b0, b1, b2⟩, _, _, _⟩ := box3 HZ2.out HB4.out
    have HQ := Lib.hid (fun (v : World) (hv : Below v4.heap.size v4 v) => equal_any B3 B4 _ c3 _ c4 _ _ v (RdT.below HR3.out hv) (RdT.below HR4.out hv) (by have := HAl.out; have := HN.out; omega) (by have := HAl.out; have := HN.out; omega))
    have hQt : ∀ (v : World), Below v4.heap.size v4 v → Calls Try.prog 13 #[.slice B3 (Bo.addT T ⟨k1, key, n1⟩).length c3, .slice B4 (Bo.addT T ⟨k1, key, n1⟩).length c4] v fun e w' => e = .returned (.bool true) ∧ Below v.heap.size v w' := fun v hv => (HQ.out v hv).mono (fun e w' ⟨t, he, ht, hb⟩ => ⟨by rw [he, ht.2 rfl], hb⟩)
    have HQt := Lib.hid hQt
    clear hQt HQ HR3 HR4
    generalize Bo.addT T ⟨k1, key, n1⟩ = aT at *
    generalize Bo.addC T ⟨k1, key, n1⟩ = aC at *
    have hcc : (aC == aC) = true := by simp
    have HAw := Lib.hid (fun (v : World) => awake_any v)
    rcases ho : Bo.okL ⟨k1, key, n1⟩ with _ | _ <;> rcases ht : Bo.okT none T with _ | _
    · rw [ho] at HCk HIs
      rw [ht] at HCt HAr
      clear ho ht
      go_wp2_with fail
      refine (HCk.out _).mono ?_
      rintro e v5 ⟨rfl, hb⟩
      have HV := Lib.hid (hb)
      have HBn0 := Lib.hid (HB4.out.trans (HV.out.mono HB4.out.size))
      clear hb b0 b1 b2
      obtain ⟨⟨b0, b1, b2⟩, _, _, _⟩ := box3 HZ2.out HBn0.out
      go_wp2_with fail
      refine (HCt.out _ HBn0.out).mono ?_
      rintro e v6 ⟨rfl, hb⟩
      have HV := Lib.hid (below_next HV.out hb)
      have HBn1 := Lib.hid (HB4.out.trans (HV.out.mono HB4.out.size))
      clear hb b0 b1 b2
      obtain ⟨⟨b0, b1, b2⟩, _, _, _⟩ := box3 HZ2.out HBn1.out
      go_wp2_with fail
      refine (HQt.out _ HV.out).mono ?_
      rintro e v7 ⟨rfl, hb⟩
      have HV := Lib.hid (below_next HV.out hb)
      have HBn2 := Lib.hid (HB4.out.trans (HV.out.mono HB4.out.size))
      clear hb b0 b1 b2
      obtain ⟨⟨b0, b1, b2⟩, _, _, _⟩ := box3 HZ2.out HBn2.out
      go_wp2_with fail
      refine (HIs.out _).mono ?_
      rintro e v8 ⟨rfl, hb⟩
      have HV := Lib.hid (below_next HV.out hb)
      have HBn3 := Lib.hid (HB4.out.trans (HV.out.mono HB4.out.size))
      clear hb b0 b1 b2
      obtain ⟨⟨b0, b1, b2⟩, _, _, _⟩ := box3 HZ2.out HBn3.out
      go_wp2_with fail
      refine (HAr.out _ HBn3.out).mono ?_
      rintro e v9 ⟨rfl, hb⟩
      have HV := Lib.hid (below_next HV.out hb)
      have HBn4 := Lib.hid (HB4.out.trans (HV.out.mono HB4.out.size))
      clear hb b0 b1 b2
      obtain ⟨⟨b0, b1, b2⟩, _, _, _⟩ := box3 HZ2.out HBn4.out
      go_wp2_with fail
      refine (HCk.out _).mono ?_
      rintro e v10 ⟨rfl, hb⟩
      have HV := Lib.hid (below_next HV.out hb)
      have HBn5 := Lib.hid (HB4.out.trans (HV.out.mono HB4.out.size))
      clear hb b0 b1 b2
      obtain ⟨⟨b0, b1, b2⟩, _, _, _⟩ := box3 HZ2.out HBn5.out
      go_wp2_with fail
      refine (HCt.out _ HBn5.out).mono ?_
      rintro e v11 ⟨rfl, hb⟩
      have HV := Lib.hid (below_next HV.out hb)
      have HBn6 := Lib.hid (HB4.out.trans (HV.out.mono HB4.out.size))
      clear hb b0 b1 b2
      obtain ⟨⟨b0, b1, b2⟩, _, _, _⟩ := box3 HZ2.out HBn6.out
      go_wp2_with fail
      refine (HAw.out _).mono ?_
      rintro e v12 ⟨rfl, hb⟩
      have HV := Lib.hid (below_next HV.out hb)
      have HBn7 := Lib.hid (HB4.out.trans (HV.out.mono HB4.out.size))
      clear hb b0 b1 b2
      obtain ⟨⟨b0, b1, b2⟩, _, _, _⟩ := box3 HZ2.out HBn7.out
      have HF := Lib.hid (below_next HBw.out HBn7.out)
      go_wp2
      go_ret
      exact ⟨rfl, HF.out⟩
    · rw [ho] at HCk HIs
      rw [ht] at HCt HAr
      clear ho ht
      go_wp2_with fail
      refine (HCk.out _).mono ?_
      rintro e v5 ⟨rfl, hb⟩
      have HV := Lib.hid (hb)
      have HBn0 := Lib.hid (HB4.out.trans (HV.out.mono HB4.out.size))
      clear hb b0 b1 b2
      obtain ⟨⟨b0, b1, b2⟩, _, _, _⟩ := box3 HZ2.out HBn0.out
      go_wp2_with fail
      refine (HCt.out _ HBn0.out).mono ?_
      rintro e v6 ⟨rfl, hb⟩
      have HV := Lib.hid (below_next HV.out hb)
      have HBn1 := Lib.hid (HB4.out.trans (HV.out.mono HB4.out.size))
      clear hb b0 b1 b2
      obtain ⟨⟨b0, b1, b2⟩, _, _, _⟩ := box3 HZ2.out HBn1.out
      go_wp2_with fail
      refine (HQt.out _ HV.out).mono ?_
      rintro e v7 ⟨rfl, hb⟩
      have HV := Lib.hid (below_next HV.out hb)
      have HBn2 := Lib.hid (HB4.out.trans (HV.out.mono HB4.out.size))
      clear hb b0 b1 b2
      obtain ⟨⟨b0, b1, b2⟩, _, _, _⟩ := box3 HZ2.out HBn2.out
      go_wp2_with fail
      refine (HIs.out _).mono ?_
      rintro e v8 ⟨rfl, hb⟩
      have HV := Lib.hid (below_next HV.out hb)
      have HBn3 := Lib.hid (HB4.out.trans (HV.out.mono HB4.out.size))
      clear hb b0 b1 b2
      obtain ⟨⟨b0, b1, b2⟩, _, _, _⟩ := box3 HZ2.out HBn3.out
      go_wp2_with fail
      refine (HAr.out _ HBn3.out).mono ?_
      rintro e v9 ⟨rfl, hb⟩
      have HV := Lib.hid (below_next HV.out hb)
      have HBn4 := Lib.hid (HB4.out.trans (HV.out.mono HB4.out.size))
      clear hb b0 b1 b2
      obtain ⟨⟨b0, b1, b2⟩, _, _, _⟩ := box3 HZ2.out HBn4.out
      go_wp2_with fail
      refine (HCk.out _).mono ?_
      rintro e v10 ⟨rfl, hb⟩
      have HV := Lib.hid (below_next HV.out hb)
      have HBn5 := Lib.hid (HB4.out.trans (HV.out.mono HB4.out.size))
      clear hb b0 b1 b2
      obtain ⟨⟨b0, b1, b2⟩, _, _, _⟩ := box3 HZ2.out HBn5.out
      go_wp2_with fail
      refine (HAw.out _).mono ?_
      rintro e v11 ⟨rfl, hb⟩
      have HV := Lib.hid (below_next HV.out hb)
      have HBn6 := Lib.hid (HB4.out.trans (HV.out.mono HB4.out.size))
      clear hb b0 b1 b2
      obtain ⟨⟨b0, b1, b2⟩, _, _, _⟩ := box3 HZ2.out HBn6.out
      have HF := Lib.hid (below_next HBw.out HBn6.out)
      go_wp2
      go_ret
      exact ⟨rfl, HF.out⟩
    · rw [ho] at HCk HIs
      rw [ht] at HCt HAr
      clear ho ht
      go_wp2_with fail
      refine (HCk.out _).mono ?_
      rintro e v5 ⟨rfl, hb⟩
      have HV := Lib.hid (hb)
      have HBn0 := Lib.hid (HB4.out.trans (HV.out.mono HB4.out.size))
      clear hb b0 b1 b2
      obtain ⟨⟨b0, b1, b2⟩, _, _, _⟩ := box3 HZ2.out HBn0.out
      go_wp2_with fail
      refine (HCt.out _ HBn0.out).mono ?_
      rintro e v6 ⟨rfl, hb⟩
      have HV := Lib.hid (below_next HV.out hb)
      have HBn1 := Lib.hid (HB4.out.trans (HV.out.mono HB4.out.size))
      clear hb b0 b1 b2
      obtain ⟨⟨b0, b1, b2⟩, _, _, _⟩ := box3 HZ2.out HBn1.out
      go_wp2_with fail
      refine (HQt.out _ HV.out).mono ?_
      rintro e v7 ⟨rfl, hb⟩
      have HV := Lib.hid (below_next HV.out hb)
      have HBn2 := Lib.hid (HB4.out.trans (HV.out.mono HB4.out.size))
      clear hb b0 b1 b2
      obtain ⟨⟨b0, b1, b2⟩, _, _, _⟩ := box3 HZ2.out HBn2.out
      go_wp2_with fail
      refine (HIs.out _).mono ?_
      rintro e v8 ⟨rfl, hb⟩
      have HV := Lib.hid (below_next HV.out hb)
      have HBn3 := Lib.hid (HB4.out.trans (HV.out.mono HB4.out.size))
      clear hb b0 b1 b2
      obtain ⟨⟨b0, b1, b2⟩, _, _, _⟩ := box3 HZ2.out HBn3.out
      go_wp2_with fail
      refine (HAr.out _ HBn3.out).mono ?_
      rintro e v9 ⟨rfl, hb⟩
      have HV := Lib.hid (below_next HV.out hb)
      have HBn4 := Lib.hid (HB4.out.trans (HV.out.mono HB4.out.size))
      clear hb b0 b1 b2
      obtain ⟨⟨b0, b1, b2⟩, _, _, _⟩ := box3 HZ2.out HBn4.out
      go_wp2_with fail
      refine (HCt.out _ HBn4.out).mono ?_
      rintro e v10 ⟨rfl, hb⟩
      have HV := Lib.hid (below_next HV.out hb)
      have HBn5 := Lib.hid (HB4.out.trans (HV.out.mono HB4.out.size))
      clear hb b0 b1 b2
      obtain ⟨⟨b0, b1, b2⟩, _, _, _⟩ := box3 HZ2.out HBn5.out
      go_wp2_with fail
      refine (HAw.out _).mono ?_
      rintro e v11 ⟨rfl, hb⟩
      have HV := Lib.hid (below_next HV.out hb)
      have HBn6 := Lib.hid (HB4.out.trans (HV.out.mono HB4.out.size))
      clear hb b0 b1 b2
      obtain ⟨⟨b0, b1, b2⟩, _, _, _⟩ := box3 HZ2.out HBn6.out
      have HF := Lib.hid (below_next HBw.out HBn6.out)
      go_wp2
      go_ret
      exact ⟨rfl, HF.out⟩
    · rw [ho] at HCk HIs
      rw [ht] at HCt HAr
      clear ho ht
      go_wp2_with fail
      refine (HCk.out _).mono ?_
      rintro e v5 ⟨rfl, hb⟩
      have HV := Lib.hid (hb)
      have HBn0 := Lib.hid (HB4.out.trans (HV.out.mono HB4.out.size))
      clear hb b0 b1 b2
      obtain ⟨⟨b0, b1, b2⟩, _, _, _⟩ := box3 HZ2.out HBn0.out
      go_wp2_with fail
      refine (HCt.out _ HBn0.out).mono ?_
      rintro e v6 ⟨rfl, hb⟩
      have HV := Lib.hid (below_next HV.out hb)
      have HBn1 := Lib.hid (HB4.out.trans (HV.out.mono HB4.out.size))
      clear hb b0 b1 b2
      obtain ⟨⟨b0, b1, b2⟩, _, _, _⟩ := box3 HZ2.out HBn1.out
      go_wp2_with fail
      refine (HQt.out _ HV.out).mono ?_
      rintro e v7 ⟨rfl, hb⟩
      have HV := Lib.hid (below_next HV.out hb)
      have HBn2 := Lib.hid (HB4.out.trans (HV.out.mono HB4.out.size))
      clear hb b0 b1 b2
      obtain ⟨⟨b0, b1, b2⟩, _, _, _⟩ := box3 HZ2.out HBn2.out
      go_wp2_with fail
      refine (HIs.out _).mono ?_
      rintro e v8 ⟨rfl, hb⟩
      have HV := Lib.hid (below_next HV.out hb)
      have HBn3 := Lib.hid (HB4.out.trans (HV.out.mono HB4.out.size))
      clear hb b0 b1 b2
      obtain ⟨⟨b0, b1, b2⟩, _, _, _⟩ := box3 HZ2.out HBn3.out
      go_wp2_with fail
      refine (HAr.out _ HBn3.out).mono ?_
      rintro e v9 ⟨rfl, hb⟩
      have HV := Lib.hid (below_next HV.out hb)
      have HBn4 := Lib.hid (HB4.out.trans (HV.out.mono HB4.out.size))
      clear hb b0 b1 b2
      obtain ⟨⟨b0, b1, b2⟩, _, _, _⟩ := box3 HZ2.out HBn4.out
      go_wp2_with fail
      refine (HAw.out _).mono ?_
      rintro e v10 ⟨rfl, hb⟩
      have HV := Lib.hid (below_next HV.out hb)
      have HBn5 := Lib.hid (HB4.out.trans (HV.out.mono HB4.out.size))
      clear hb b0 b1 b2
      obtain ⟨⟨b0, b1, b2⟩, _, _, _⟩ := box3 HZ2.out HBn5.out
      have HF := Lib.hid (below_next HBw.out HBn5.out)
      go_wp2
      go_ret
      exact ⟨rfl, HF.out⟩
set_option maxRecDepth 100000 in
theorem lifted (os : Os) (started : os.Started) (H : Type) (enc : TypeId × Value → H) :
    ReturnsInHanded {} Try.checked os 3 .any (Rows.booksAddsSpec.pre6 enc Try.prog Try.f3 Rows.booksAddsRow.domain false) (Rows.booksAddsSpec.post enc Try.prog Try.f3 false true false false) := by
  refine returnsInHanded_of_change (C := Try.checked) own started (by kernel_rfl) Try.func3
    (ChangeSpec.witness6 (enc := enc) (C := Try.checked) false ⟨#[], #[.slice none 0 0, .agg #[.int .i64 0, .string ⟨#[]⟩, .int .i64 0]], []⟩ 8 (by kernel_rfl) (by kernel_rfl) (by kernel_rfl) (by kernel_rfl)) ?_
  intro W base args ds gs before hval0 hW hcnd _
  have hval : ∀ (j : Nat) t v, Try.f3.params[j]? = some t → args[j]? = some v → Value.okWide Try.prog W .any base t v := hval0
  have hW' := hW
  obtain ⟨p, q, hA0, hV, rfl, hfz, hnd⟩ := hW
  have hA : DataW.TrodAll enc Try.prog W 0 (fun _ => true) true Try.f3.params.toList args.toList ds p := hA0
  rw [Try.params3] at hA hval
  obtain ⟨v0, vs0, d0, ds0, p0, q0, hargs, rfl, rfl, h0, t0⟩ := trodAll_cons hA
  obtain ⟨v1, vs1, d1, ds1, p1, q1, rfl, rfl, rfl, h1, t1⟩ := trodAll_cons t0
  obtain ⟨rfl, rfl, rfl⟩ := trodAll_nil t1
  obtain rfl : args = #[v0, v1] := by cases args; simp_all
  obtain ⟨rfl, rfl⟩ := trodVars_none hV
  have k0 : Reads enc W 22 v0 d0 p0 := h0
  have lt0 : ∀ x ∈ p0, x.block < W.heap.size := by obtain ⟨m, hm⟩ := k0; exact DataW.trod_lt m _ _ _ hm
  obtain ⟨A0, m0, c0, l0, rfl, r0, wc0, w0⟩ := in_tots (hval 0 22 v0 rfl rfl) k0
  have k1 : Reads enc W 25 v1 d1 p1 := h1
  have lt1 : ∀ x ∈ p1, x.block < W.heap.size := by obtain ⟨m, hm⟩ := k1; exact DataW.trod_lt m _ _ _ hm
  obtain ⟨x1, rfl, w1, wn1⟩ := in_line (hval 1 25 v1 rfl rfl) k1
  clear hA0 hval0
  refine (walk A0 m0 c0 l0 x1 W r0 wc0 w0 w1 wn1).mono fun e W' ⟨he, bel⟩ => ?_
  subst he
  exact ⟨_, rfl, _, _, _, [], _, [], hW', trodAll_mk1 (shut_bool Try.underlying4 _), (trodAll_cons_mk (Below.trod laidOut (by kernel_rfl) (of_decide_eq_true (by kernel_rfl)) k0 bel lt0) (trodAll_cons_mk (Below.trod laidOut (by kernel_rfl) (of_decide_eq_true (by kernel_rfl)) k1 bel lt1) trodAll_mk0)), rfl, bel.frame _, fun h => by cases h⟩
theorem over : Rows.booksAddsRow.holds Try.pinned (OpenSpec.ofChange Rows.booksAddsSpec) :=
  OpenClaim.holds_of_wide 3 Try.f3 rfl rfl rfl rfl rfl rfl rfl ⟨rfl, rfl, rfl, rfl, rfl⟩ rfl rfl rfl rfl rfl (by kernel_rfl) Try.func3 (by kernel_rfl)
    (of_decide_eq_true (by kernel_rfl)) (by unfold Func.isWrapper; first | (rw [if_pos (by decide +kernel)]; kernel_rfl) | (rw [if_neg (by decide +kernel)]; exact ⟨rfl, rfl⟩))
    (fun os started H enc _ => lifted os started H enc)
theorem proved : Rows.BooksAddsSaid := over
end Go.Proofs.Ytcoekdfmfjglpaa.booksAdds
