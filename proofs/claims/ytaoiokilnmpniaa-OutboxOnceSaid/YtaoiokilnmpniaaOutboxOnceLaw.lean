/- In whatever order numbers are taken, and doubled (the first 200 of any bytes, each so far above any floor of 16 bits): each is taken once at most, and is had from then on, and none else is (P21.5), and the example at the head holds; the arguments stay as they were. No condition. -/
import Derived.Test.YtaoiokilnmpniaaBoxOnce
import Derived.WalkKit
import Derived.ProofKit
import Derived.OpenShut
import Derived.ShutString
import Derived.ChangeOld
import Derived.Below
import Derived.Deep.RegionHeld
namespace Go.Proofs.Ytaoiokilnmpniaa.outboxOnce
open Go.ChangeShapes Go.WideShapes Go.ChangeAt Go.RowKit
set_option linter.unusedVariables false
theorem own : ownKnob Try.prog.godebug = none := by kernel_rfl
theorem laidOut : laidOutB Try.prog = true := by kernel_rfl
set_option maxRecDepth 100000 in
set_option maxHeartbeats 4000000 in
theorem walk (n0 : Nat) (A1 : Option Addr) (m1 c1 : Nat) (l1 : List Nat) (w : World) (w0 : n0 < 65536) (r1 : Rd w A1 m1 l1) (wc1 : m1 ≤ c1) (w1 : m1 ≤ 9223372036854775807) :
    Calls Try.prog 7 #[.int .u16 (n0 : Int), .slice A1 m1 c1] w fun e w' => e = .returned (.bool true) ∧ Below w.heap.size w w' := by
  -- heartbeats 4000000
  go_enter Try.func7, Try.ntmps7
  go_wp2_with fail
  refine (awake_any _).mono ?_
  rintro e v1 ⟨rfl, hb1⟩
  have kb := Holds.new v1 #[.int .i64 (n0 : Int), .int .u64 0] 24
  have hst := kept_start (n0 : Int)
  have Hst := Lib.hid hst
  clear hst
  go_wp2_with fail
  go_loopw [6, 7] (fun v i wr => ∃ (k c : Nat) (B : Option Addr) (had : List Int) (g : Int) (x : Nat), k ≤ 200 ∧ i = .int .i64 (k : Int) ∧ v = .slice B had.length c ∧ had.length ≤ k ∧ (n0 : Int) ≤ g ∧ g ≤ 65735 ∧ x < 18446744073709551616 ∧ OwnV wr (v1.heap.size + 1) 3 B had.length c (zv had) ∧ Holds wr v1.heap.size [.int .i64 g, .int .u64 (x : Int)] ∧ Below v1.heap.size v1 wr ∧ Hid (Kept (n0 : Int) g x had)) (fun _ i _ => 200 - (intOf i).toNat)
  case atStart => exact ⟨0, 0, none, [], n0, 0, by omega, rfl, rfl, by simp, by omega, by omega, by omega, OwnV.none_ _ _ _, kb, (Below.refl _ _).alloc (Nat.le_refl _) _, Hst⟩
  case round =>
    clear kb Hst
    obtain ⟨k, c, B, had, g, x, hk, rfl, rfl, hhk, hg1, hg2, hx64, ho, kb, hb, hK⟩ := hrel
    have hsz := hb.size
    have hlt := kb.1
    by_cases hkn : k < m1 ∧ k < 200
    · obtain ⟨hkm, hk200⟩ := hkn
      have hkmi : (k : Int) < (m1 : Int) := by omega
      have hk2i : (k : Int) < 200 := by omega
      obtain ⟨b2, o2, y, rfl, hbl2, hy, hy2, hcell⟩ := r1.at_ hkm
      have hcell1 := ((below_next hb1 hb).cell (p := ⟨b2, o2 + k, none⟩) hbl2).trans hcell
      clear hy hcell
      obtain ⟨n, hn⟩ : ∃ n : Int, (n0 : Int) + (y : Int) = n := ⟨_, rfl⟩
      have hn1 : (n0 : Int) ≤ n := by omega
      have hn2 : n ≤ 65790 := by omega
      have hn0 : 0 ≤ n := by omega
      have hT := kept_take hK.out (by omega) (by omega) (by omega) n hn1 hn2
      have HT := Lib.hid hT
      have hB : Ob.isB g x = true := by
        obtain ⟨h1, h2, h3, h4, h5⟩ := hK.out
        exact Ob.isB_iff.2 ⟨by omega, by omega, h3⟩
      have hH : Ob.hasB g x n = decide (n ∈ had) := by
        obtain ⟨h1, h2, h3, h4, h5⟩ := hK.out
        unfold Ob.hasB
        rw [hB, decide_eq_true hn0, h5 n hn1]; rfl
      have HB := Lib.hid hB
      have HH := Lib.hid hH
      clear hT hB hH
      obtain ⟨wo, rfl⟩ : ∃ wo : World, wo = wr := ⟨_, rfl⟩
      have hlen : had.length ≤ 200 := by omega
      go_wp2_with fail
      go_loop [9, 10] (fun a i => ∃ j : Nat, j ≤ had.length ∧ i = .int .i64 (j : Int) ∧ a = .bool (decide (n ∈ had.take j))) (fun _ i => had.length - (intOf i).toNat)
      case atStart => exact ⟨0, by omega, rfl, by simp⟩
      case round =>
        obtain ⟨j, hj, rfl, rfl⟩ := hrel
        by_cases hjl : j < had.length
        · have hji : (j : Int) < (had.length : Int) := by omega
          have hq : had[j]? = some had[j] := List.getElem?_eq_getElem hjl
          generalize had[j] = z at hq
          obtain ⟨b3, o3, u, rfl, hbl3, hu, hcell3⟩ := ho.rd.at_ hjl
          rw [zv_at hq] at hu
          injection hu with hu
          subst hu
          have hsn := take_mem_succ had j z n hq
          have Hsn := Lib.hid hsn
          clear hsn hq
          cases hkw : decide (n ∈ had.take j)
          · rw [hkw] at Hsn
            go_wp2_with fail
            go_round
            case rel => exact ⟨j + 1, by omega, by go_num, by rw [Hsn.out]; rfl⟩
            case measure => simp [intOf]; omega
          · rw [hkw] at Hsn
            go_wp2_with fail
            go_round
            case rel => exact ⟨j + 1, by omega, by go_num, by rw [Hsn.out]; rfl⟩
            case measure => simp [intOf]; omega
        · have hjl : j = had.length := by omega
          subst hjl
          rw [List.take_length]
          rcases HT.out with ⟨hkn2, hTe⟩ | ⟨hkn2, h64, hTe⟩ | ⟨g', x', hkn2, hTe, hK2⟩
          · skip
            have hHas := fun W => hasbox_any g x n W hx64 (by omega)
            rw [HH.out, decide_eq_true hkn2] at hHas
            have hTk := fun W => take_any g x n W hx64
            unfold GivesBox at hTk
            rw [hTe] at hTk
            have hCk := fun W => checkbox_any g x W hx64
            rw [show chkB g x = 0 by unfold chkB; rw [HB.out]; rfl] at hCk
            unfold boxV at hHas hTk hCk
            have HHas := Lib.hid hHas
            have HTk := Lib.hid hTk
            have HCk := Lib.hid hCk
            rw [decide_eq_true hkn2]
            have cb0 := kb.at_ 0 rfl
            have cb1 := kb.at_ 1 rfl
            have hn0i : ¬ n < 0 := by omega
            have hgf : ¬ g < (n0 : Int) := by omega
            have hgr : ¬ ((had.length : Int) < g - (n0 : Int)) := by have := hK.out.2.1; omega
            clear hHas hTk hCk hTe
            go_wp2_with fail
            refine (HHas.out _).mono ?_
            rintro e w2 ⟨rfl, hb2⟩
            have kb2 := kb.below hb2
            have cc0 := kb2.at_ 0 rfl
            have cc1 := kb2.at_ 1 rfl
            clear cb0 cb1
            go_wp2_with fail
            refine (HTk.out _).mono ?_
            rintro e w3 ⟨rfl, hb3⟩
            have kb3 := kb2.below hb3
            clear cc0 cc1
            have kb4 := kb3.alloc (.cells #[.int .i64 0, .int .u64 0] 24)
            have hx3 := below_next (below_next hb (hb2)) hb3
            have c40 := kb4.at_ 0 rfl
            have c41 := kb4.at_ 1 rfl
            have hlt4 := kb4.1
            have ho3 := ((ho.below hb2).below hb3).alloc (.cells #[.int .i64 0, .int .u64 0] 24)
            have hx4 := hx3.alloc hx3.size (.cells #[.int .i64 0, .int .u64 0] 24)
            go_wp2_with fail
            refine (HCk.out _).mono ?_
            rintro e w5 ⟨rfl, rfl⟩
            have kb5 := kb4.alloc (.cells #[.int .i64 g, .int .u64 (x : Int)] 24)
            have c50 := kb5.at_ 0 rfl
            have c51 := kb5.at_ 1 rfl
            clear c40 c41
            go_wp2_with fail
            go_roundw
            case rel => exact ⟨k + 1, c, B, had, g, x, by omega, by go_num, rfl, by omega, by omega, by omega, hx64, ho3.alloc _, kb5, hx4.alloc hx4.size _, hK⟩
            case measure => simp [intOf]; omega
          · skip
            have hHas := fun W => hasbox_any g x n W hx64 (by omega)
            rw [HH.out, decide_eq_false hkn2] at hHas
            have hTk := fun W => take_any g x n W hx64
            unfold GivesBox at hTk
            rw [hTe] at hTk
            have hCk := fun W => checkbox_any g x W hx64
            rw [show chkB g x = 0 by unfold chkB; rw [HB.out]; rfl] at hCk
            unfold boxV at hHas hTk hCk
            have HHas := Lib.hid hHas
            have HTk := Lib.hid hTk
            have HCk := Lib.hid hCk
            rw [decide_eq_false hkn2]
            have cb0 := kb.at_ 0 rfl
            have cb1 := kb.at_ 1 rfl
            have hn0i : ¬ n < 0 := by omega
            have hgf : ¬ g < (n0 : Int) := by omega
            have hgr : ¬ ((had.length : Int) < g - (n0 : Int)) := by have := hK.out.2.1; omega
            clear hHas hTk hCk hTe
            go_wp2_with fail
            refine (HHas.out _).mono ?_
            rintro e w2 ⟨rfl, hb2⟩
            have kb2 := kb.below hb2
            have cc0 := kb2.at_ 0 rfl
            have cc1 := kb2.at_ 1 rfl
            clear cb0 cb1
            go_wp2_with fail
            refine (HTk.out _).mono ?_
            rintro e w3 ⟨rfl, hb3⟩
            have kb3 := kb2.below hb3
            clear cc0 cc1
            have kb4 := kb3.alloc (.cells #[.int .i64 0, .int .u64 0] 24)
            have hx3 := below_next (below_next hb (hb2)) hb3
            have c40 := kb4.at_ 0 rfl
            have c41 := kb4.at_ 1 rfl
            have hlt4 := kb4.1
            have ho3 := ((ho.below hb2).below hb3).alloc (.cells #[.int .i64 0, .int .u64 0] 24)
            have hx4 := hx3.alloc hx3.size (.cells #[.int .i64 0, .int .u64 0] 24)
            go_wp2_with fail
            refine (HCk.out _).mono ?_
            rintro e w5 ⟨rfl, rfl⟩
            have kb5 := kb4.alloc (.cells #[.int .i64 g, .int .u64 (x : Int)] 24)
            have c50 := kb5.at_ 0 rfl
            have c51 := kb5.at_ 1 rfl
            clear c40 c41
            go_wp2_with fail
            go_roundw
            case rel => exact ⟨k + 1, c, B, had, g, x, by omega, by go_num, rfl, by omega, by omega, by omega, hx64, ho3.alloc _, kb5, hx4.alloc hx4.size _, hK⟩
            case measure => simp [intOf]; omega
          · skip
            have hx2 : x' < 18446744073709551616 := hK2.2.2.2.1
            have hB2 : Ob.isB g' x' = true := by
              obtain ⟨h1, h2, h3, h4, h5⟩ := hK2
              rw [List.length_append, List.length_singleton] at h2
              exact Ob.isB_iff.2 ⟨by omega, by omega, h3⟩
            have hgA : (n0 : Int) ≤ g' := hK2.1
            have hgB : g' ≤ (n0 : Int) + (had.length + 1 : Nat) := by have := hK2.2.1; rw [List.length_append, List.length_singleton] at this; exact this
            have HK2 := Lib.hid hK2
            clear hK2
            have hHas := fun W => hasbox_any g x n W hx64 (by omega)
            rw [HH.out, decide_eq_false hkn2] at hHas
            have hTk := fun W => take_any g x n W hx64
            unfold GivesBox at hTk
            rw [hTe] at hTk
            have hCk := fun W => checkbox_any g' x' W hx2
            rw [show chkB g' x' = 0 by unfold chkB; rw [hB2]; rfl] at hCk
            unfold boxV at hHas hTk hCk
            have HHas := Lib.hid hHas
            have HTk := Lib.hid hTk
            have HCk := Lib.hid hCk
            rw [decide_eq_false hkn2]
            have cb0 := kb.at_ 0 rfl
            have cb1 := kb.at_ 1 rfl
            have hn0i : ¬ n < 0 := by omega
            have hgf : ¬ g < (n0 : Int) := by omega
            have hgr : ¬ ((had.length : Int) < g - (n0 : Int)) := by have := hK.out.2.1; omega
            clear hHas hTk hCk hTe
            go_wp2_with fail
            refine (HHas.out _).mono ?_
            rintro e w2 ⟨rfl, hb2⟩
            have kb2 := kb.below hb2
            have cc0 := kb2.at_ 0 rfl
            have cc1 := kb2.at_ 1 rfl
            clear cb0 cb1
            go_wp2_with fail
            refine (HTk.out _).mono ?_
            rintro e w3 ⟨rfl, hb3⟩
            have kb3 := kb2.below hb3
            clear cc0 cc1
            have kb4 := kb3.alloc (.cells #[.int .i64 g', .int .u64 (x' : Int)] 24)
            have hx3 := below_next (below_next hb (hb2)) hb3
            clear hB2
            have ho3 := (ho.below hb2).below hb3
            have k11 := Holds.new w3 #[.int .i64 g', .int .u64 (x' : Int)] 24
            have hne : (Value.slice B had.length c).ownBlock ≠ some v1.heap.size := fun e => by have := (ho.blk _ e).1; omega
            have hne2 : (Value.slice B had.length c).ownBlock ≠ some w3.heap.size := fun e => by have := (ho3.blk _ e).2; omega
            have ho4 := ho3.alloc (.cells #[.int .i64 g', .int .u64 (x' : Int)] 24)
            have hx4 := hx3.alloc hx3.size (.cells #[.int .i64 g', .int .u64 (x' : Int)] 24)
            have hb41 : v1.heap.size + 1 ≤ w3.heap.size + 1 := by have := hx3.size; omega
            have e0 := k11.at_ 0 rfl
            have e1 := k11.at_ 1 rfl
            have c40 := kb4.at_ 0 rfl
            have c41 := kb4.at_ 1 rfl
            have z40 := kb4.2.2 0
            have z41 := kb4.2.2 1
            have hlt4 := kb4.1
            have hlt5 := k11.1
            have hgA' : g' ≤ 65735 + 1 := by omega
            have hrn : RdV ((w3.alloc (.cells #[.int .i64 g', .int .u64 (x' : Int)] 24)).alloc (.cells #[.int .i64 n] 3)) (some ⟨w3.heap.size + 1, 0, none⟩) 1 [.int .i64 n] := by simpa using rdv_one (w3.alloc (.cells #[.int .i64 g', .int .u64 (x' : Int)] 24)) 3 (.int .i64 n)
            go_wp2_with fail
            go_region_law (refine step_appV oneInt (by simp [Region.wanted]) (.tmp 88) (.tmp 90) rfl rfl (ho4.drew.alloc _) (some ⟨w3.heap.size + 1, 0, none⟩) 1 1 [.int .i64 n] (by intro u hu; rw [List.mem_singleton.1 hu]; rfl) rfl hrn.drew (by omega) (by simp; omega) ?_; intro A5 c5 w5 hg5; have kB5 := ((kb4.alloc _).drew).grown hg5.grew hne; have kT5 := ((k11.alloc _).drew).grown hg5.grew hne2; have d0 := kB5.at_ 0 rfl; have d1 := kB5.at_ 1 rfl; have z0 := kB5.2.2 0; have z1 := kB5.2.2 1; have f0 := kT5.at_ 0 rfl; have f1 := kT5.at_ 1 rfl; have hx5 := hg5.below ((hx4.alloc hx4.size _).drew) (Nat.le_trans hx3.size (by simp; omega)) (fun q hq => Nat.le_of_succ_le (ho.blk q hq).1); have kS := Holds.set2 kB5 (.int .i64 g') (.int .u64 (x' : Int)); have s0 := kS.at_ 0 rfl; have s1 := kS.at_ 1 rfl; have hltS := kS.1; have oS := ((hg5.own.far (g := v1.heap.size) (j := 0) (by omega) (.int .i64 g')).far (g := v1.heap.size) (j := 1) (by omega) (.int .u64 (x' : Int))); have hxS := (hx5.setCell (Nat.le_refl v1.heap.size) (p := ⟨v1.heap.size, 0, none⟩) (.int .i64 g')).setCell (Nat.le_refl v1.heap.size) (p := ⟨v1.heap.size, 1, none⟩) (.int .u64 (x' : Int)); have kA := kS.alloc (.cells #[.int .i64 g', .int .u64 (x' : Int)] 24); have t0 := kA.at_ 0 rfl; have t1 := kA.at_ 1 rfl)
            all_goals
              have hgl : ¬ (((had.length + 1 : Nat) : Int) < g' - (n0 : Int)) := by omega
              have hgl2 : ¬ g' < (n0 : Int) := by omega
              go_wp2_with fail
              refine (HCk.out _).mono ?_
              rintro e w9 ⟨rfl, rfl⟩
              go_wp2_with fail
              go_roundw
              case rel =>
                refine ⟨k + 1, c5, A5, had ++ [n], g', x', by omega, by go_num, by rw [List.length_append]; rfl, by rw [List.length_append, List.length_singleton]; omega, hgA, by omega, hx2, ?_, kA, hxS.alloc hxS.size _, HK2⟩
                rw [List.length_append, zv_snoc]
                exact oS.alloc _
              case measure => simp [intOf]; omega
    · by_cases hkm : k < m1
      · have hkmi : (k : Int) < (m1 : Int) := by omega
        have hk2i : ¬ (k : Int) < 200 := by omega
        clear hkn
        go_wp2_with fail
        go_ret
        exact ⟨rfl, below_next hb1 hb⟩
      · have hkmi : ¬ (k : Int) < (m1 : Int) := by omega
        clear hkn
        go_wp2_with fail
        go_ret
        exact ⟨rfl, below_next hb1 hb⟩
set_option maxRecDepth 100000 in
theorem lifted (os : Os) (started : os.Started) (H : Type) (enc : TypeId × Value → H) :
    ReturnsInHanded {} Try.checked os 7 .any (Rows.outboxOnceSpec.pre6 enc Try.prog Try.f7 Rows.outboxOnceRow.domain false) (Rows.outboxOnceSpec.post enc Try.prog Try.f7 false true false false) := by
  refine returnsInHanded_of_change (C := Try.checked) own started (by kernel_rfl) Try.func7
    (ChangeSpec.witness6 (enc := enc) (C := Try.checked) false ⟨#[], #[.int .u16 0, .slice none 0 0], []⟩ 8 (by kernel_rfl) (by kernel_rfl) (by kernel_rfl) (by kernel_rfl)) ?_
  intro W base args ds gs before hval0 hW hcnd _
  have hval : ∀ (j : Nat) t v, Try.f7.params[j]? = some t → args[j]? = some v → Value.okWide Try.prog W .any base t v := hval0
  have hW' := hW
  obtain ⟨p, q, hA0, hV, rfl, hfz, hnd⟩ := hW
  have hA : DataW.TrodAll enc Try.prog W 0 (fun _ => true) true Try.f7.params.toList args.toList ds p := hA0
  rw [Try.params7] at hA hval
  obtain ⟨v0, vs0, d0, ds0, p0, q0, hargs, rfl, rfl, h0, t0⟩ := trodAll_cons hA
  obtain ⟨v1, vs1, d1, ds1, p1, q1, rfl, rfl, rfl, h1, t1⟩ := trodAll_cons t0
  obtain ⟨rfl, rfl, rfl⟩ := trodAll_nil t1
  obtain rfl : args = #[v0, v1] := by cases args; simp_all
  obtain ⟨rfl, rfl⟩ := trodVars_none hV
  have k0 : Reads enc W 77 v0 d0 p0 := h0
  have lt0 : ∀ x ∈ p0, x.block < W.heap.size := by obtain ⟨m, hm⟩ := k0; exact DataW.trod_lt m _ _ _ hm
  obtain ⟨n0, rfl, w0⟩ := in_u16 (hval 0 77 v0 rfl rfl) k0
  have k1 : Reads enc W 59 v1 d1 p1 := h1
  have lt1 : ∀ x ∈ p1, x.block < W.heap.size := by obtain ⟨m, hm⟩ := k1; exact DataW.trod_lt m _ _ _ hm
  obtain ⟨A1, m1, c1, l1, rfl, r1, wc1, w1⟩ := in_bytes (hval 1 59 v1 rfl rfl) k1
  clear hA0 hval0
  refine (walk n0 A1 m1 c1 l1 W w0 r1 wc1 w1).mono fun e W' ⟨he, bel⟩ => ?_
  subst he
  exact ⟨_, rfl, _, _, _, [], _, [], hW', trodAll_mk1 (shut_bool Try.underlying4 _), (trodAll_cons_mk (Below.trod laidOut (by kernel_rfl) (of_decide_eq_true (by kernel_rfl)) k0 bel lt0) (trodAll_cons_mk (Below.trod laidOut (by kernel_rfl) (of_decide_eq_true (by kernel_rfl)) k1 bel lt1) trodAll_mk0)), rfl, bel.frame _, fun h => by cases h⟩
theorem over : Rows.outboxOnceRow.holds Try.pinned (OpenSpec.ofChange Rows.outboxOnceSpec) :=
  OpenClaim.holds_of_wide 7 Try.f7 rfl rfl rfl rfl rfl rfl rfl ⟨rfl, rfl, rfl, rfl, rfl⟩ rfl rfl rfl rfl rfl (by kernel_rfl) Try.func7 (by kernel_rfl)
    (of_decide_eq_true (by kernel_rfl)) (by unfold Func.isWrapper; first | (rw [if_pos (by decide +kernel)]; kernel_rfl) | (rw [if_neg (by decide +kernel)]; exact ⟨rfl, rfl⟩))
    (fun os started H enc _ => lifted os started H enc)
theorem proved : Rows.OutboxOnceSaid := over
end Go.Proofs.Ytaoiokilnmpniaa.outboxOnce
