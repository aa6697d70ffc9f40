/- For any number of sectors and any pairs: which plots are free does not hang on the order in which they were claimed, and is as the document says. -/
import Derived.Test.YtaaodhnenaoheaaSpRClaim
import Derived.Test.YtaaodhnenaoheaaSpClaim
import Derived.Test.YtaaodhnenaoheaaSpPerm
import Derived.Test.YtaaodhnenaoheaaInPair
import Derived.WalkKit
import Derived.ProofKit
import Derived.OpenShut
import Derived.ShutString
import Derived.ChangeOld
import Derived.Below
import Derived.Deep.RegionHeld
namespace Go.Proofs.Ytaaodhnenaoheaa.spaceOrder
open Go.ChangeShapes Go.WideShapes Go.ChangeAt Go.RowKit
set_option linter.unusedVariables false
theorem own : ownKnob Try.prog.godebug = none := by kernel_rfl
theorem laidOut : laidOutB Try.prog = true := by kernel_rfl
/-- A claim's error, as one of three. -/
theorem three (T : List Bool) (ps : List Int) : (Sp.turnAll false 61 T ps).2 = 0 ∨ (Sp.turnAll false 61 T ps).2 = 5 ∨ (Sp.turnAll false 61 T ps).2 = 61 := by
  obtain ⟨T', h⟩ := Sp.turnAll_cases false 61 T ps
  rcases h with h | h | h <;> rw [h] <;> simp
theorem rdc_ch {s : Nat} {w w' : World} {A : Option Addr} {n b : Nat} {vs : List Value} (h : RdC s w A n vs) (hc : Ch b w w') (hne : 0 < n → ∀ g o, A = some ⟨g, o, none⟩ → g ≠ b) : RdC s w' A n vs := by
  refine ⟨h.1, fun hn => ?_⟩
  obtain ⟨g, o, rfl, hg, hcl⟩ := h.2 hn
  exact ⟨g, o, rfl, Nat.lt_of_lt_of_le hg hc.size, fun j x hx => (hc.cell (p := ⟨g, o + j, none⟩) hg (hne hn g o rfl)).trans (hcl j x hx)⟩
set_option maxRecDepth 100000 in
set_option maxHeartbeats 8000000 in
theorem walk (n0 : Nat) (A1 : Option Addr) (m1 c1 : Nat) (l1 : List (Int × Int)) (w : World) (w0 : n0 < 65536) (wn1 : l1.length = m1) (r1 : RdC 2 w A1 m1 (iv (flat l1))) (wx1 : ∀ x ∈ l1, Small x.1 ∧ Small x.2) (wc1 : m1 ≤ c1) (w1 : m1 ≤ 9223372036854775807) :
    Calls Try.prog 6 #[.int .u16 (n0 : Int), .slice A1 m1 c1] w fun e w' => e = .returned (.bool true) ∧ Below w.heap.size w w' := by
-- heartbeats 8000000
  have hn : ∃ s : Nat, s = n0 % 700 ∧ s < 700 := ⟨_, rfl, Nat.mod_lt _ (by omega)⟩
  obtain ⟨s, hs, hs2⟩ := hn
  have hmod : (n0 : Int) % 700 = (s : Int) := by omega
  have hnew := fun W => new_map (s : Int) W (by omega) (by omega)
  have hrnew := fun W => rnew_yes (s : Int) W (by omega) (by omega)
  have hkk : Sp.plots (s : Int) ≤ 511 := by unfold Sp.plots; split <;> (try split) <;> omega
  have hfew := few_any A1 m1 c1 l1 w wn1 wc1 w1
  have hps := few_rd r1 wn1
  have hlen3 : (l1.take 300).length ≤ 300 := List.length_take_le _ _
  have hblk : ∀ g o, 0 < (l1.take 300).length → A1 = some ⟨g, o, none⟩ → g < w.heap.size := fun g o h0 e => by
    obtain ⟨b, o2, he, hb, _⟩ := hps.2 h0
    rw [e] at he
    injection he with he
    injection he with e1 _
    omega
  generalize l1.take 300 = ps at *
  generalize Sp.plots (s : Int) = k at *
  have hP := Sp.turnAll_perm (f := false) (bad := 61) (by decide) (T := List.replicate k false) (Sp.back_perm ps)
  have hx := three (List.replicate k false) (flat ps)
  have hy := three (List.replicate k false) (flat (Sp.back ps))
  have hbl : (Sp.back ps).length = ps.length := by unfold Sp.back; rw [List.length_reverse, List.length_map]
  have hcl1 := fun (b : Nat) (v : World) hM hR => claims_any b (List.replicate k false) A1 ps.length c1 ps v hM hR rfl (by omega)
  have hcl2 := fun (b d : Nat) (D : Option Addr) (v : World) hM hR => claims_any b (List.replicate k false) D ps.length d (Sp.back ps) v hM hR hbl (by omega)
  have hrc := fun (A : Option Addr) (v : World) (h : RdT v A k (List.replicate k false)) hR => rclaim_any A k k (List.replicate k false) A1 ps.length c1 ps v h hkk (Nat.le_refl _) hR rfl (by omega)
  generalize Sp.turnAll false 61 (List.replicate k false) (flat ps) = t1 at *
  generalize Sp.turnAll false 61 (List.replicate k false) (flat (Sp.back ps)) = t2 at *
  obtain ⟨U1, x⟩ := t1
  obtain ⟨U2, y⟩ := t2
  obtain ⟨hxy, hSS⟩ := hP
  have hcl1 : ∀ (b : Nat) (v : World), Sp.MapAt v b (List.replicate k false) → RdC 2 v A1 ps.length (iv (flat ps)) → Calls Try.prog 17 #[.pointer (some ⟨b, 0, none⟩), .slice A1 ps.length c1] v fun e w' => e = .returned (.int .i64 x) ∧ Ch b v w' ∧ Sp.MapAt w' b (Sp.fin (List.replicate k false) (U1, x)).1 := hcl1
  have hcl2 : ∀ (b d : Nat) (D : Option Addr) (v : World), Sp.MapAt v b (List.replicate k false) → RdC 2 v D ps.length (iv (flat (Sp.back ps))) → Calls Try.prog 17 #[.pointer (some ⟨b, 0, none⟩), .slice D ps.length d] v fun e w' => e = .returned (.int .i64 y) ∧ Ch b v w' ∧ Sp.MapAt w' b (Sp.fin (List.replicate k false) (U2, y)).1 := hcl2
  have hrc : ∀ (A : Option Addr) (v : World), RdT v A k (List.replicate k false) → RdC 2 v A1 ps.length (iv (flat ps)) → Calls Try.prog 18 #[.agg #[.slice A k k], .slice A1 ps.length c1] v fun e w' => ∃ (B : Option Addr) (m c : Nat), e = .returned (.tuple #[.agg #[.slice B m c], .int .i64 x]) ∧ RdT w' B m (Sp.fin (List.replicate k false) (U1, x)).1 ∧ (B = A ∨ ∀ a, B = some a → v.heap.size ≤ a.block) ∧ Below v.heap.size v w' := hrc
  rw [← hSS] at hcl2
  generalize (Sp.fin (List.replicate k false) (U1, x)).1 = S at hcl1 hcl2 hrc
  have HCl1 := Lib.hid hcl1
  have HCl2 := Lib.hid hcl2
  have HRC := Lib.hid hrc
  have HXY := Lib.hid hxy
  have HX := Lib.hid hx
  have HY := Lib.hid hy
  clear hSS hcl1 hcl2 hrc hxy hx hy hbl
  have HN := Lib.hid hnew
  have HRN := Lib.hid hrnew
  have HFew := Lib.hid hfew
  have HPs := Lib.hid hps
  have HA := Lib.hid (fun W => awake_any W)
  have HBlk := Lib.hid hblk
  clear hnew hrnew hfew hps r1 wx1 wn1 hs hblk
  go_enter Try.func6, Try.ntmps6
  go_wp2_with (first | (go_at_call 16; refine HFew.out.mono ?_; rintro e w' ⟨rfl, rfl⟩))
  refine (HN.out _).mono ?_
  rintro e v1 ⟨rfl, hb1, hM1⟩
  go_wp2_with fail
  refine (HN.out _).mono ?_
  rintro e v2 ⟨rfl, hb2, hM2⟩
  have hb12 := hM1.lt
  have hM1 := hM1.below hb2
  have hb22 := hM2.lt
  go_wp2_with fail
  refine (HA.out _).mono ?_
  rintro e v3 ⟨rfl, hb3⟩
  have hM1 := hM1.below hb3
  have hM2 := hM2.below hb3
  have hw3 := below_next (below_next hb1 hb2) hb3
  have hs3 := hb3.size
  have hw0 : IntKind.i64.wrap ((ps.length : Int) - 1) = (ps.length : Int) - 1 := by rw [IntKind.wrap_i64]; omega
  have HM1 := Lib.hid hM1
  have HM2 := Lib.hid hM2
  have HW3 := Lib.hid hw3
  clear hM1 hM2 hw3 hb1 hb2 hb3
  go_wp2_with fail
  clear hw0
  go_loopw [10, 11] (fun l i wr => ∃ (j d q : Nat) (D : Option Addr), j ≤ ps.length ∧ q + j = ps.length ∧ i = .int .i64 ((j : Int) - 1) ∧ l = .slice D q d ∧ OwnC 2 wr v3.heap.size 56 D q d (iv (flat (Sp.back (ps.drop j)))) ∧ Below v3.heap.size v3 wr) (fun _ i _ => (intOf i + 1).toNat)
  case atStart => exact ⟨ps.length, 0, 0, none, Nat.le_refl _, by omega, rfl, rfl, by rw [List.drop_length]; exact OwnC.none_ _ _ _ _, Below.refl _ _⟩
  case round =>
    obtain ⟨j, d, q, D, hj, hqj, rfl, rfl, hO, hb⟩ := hrel
    rcases j with _ | i
    · rw [List.drop_zero] at hO
      have hqe : q = ps.length := by omega
      subst hqe
      rw [show (((0 : Nat) : Int) - 1) = (-1 : Int) by omega]
      have hM1 := HM1.out.below hb
      have hM2 := HM2.out.below hb
      have hw4 := below_next HW3.out hb
      have hx1 : x = 0 ∨ x = 5 ∨ x = 61 := HX.out
      have hy1 : y = 0 ∨ y = 5 ∨ y = 61 := HY.out
      have hxy : x = 0 ↔ y = 0 := HXY.out
      have hD : ∀ g o, D = some ⟨g, o, none⟩ → v3.heap.size ≤ g := fun g o e => (hO.blk g (by rw [e]; rfl)).1
      have HD := Lib.hid hD
      have HORd := Lib.hid hO.rd
      have HMM1 := Lib.hid hM1
      have HMM2 := Lib.hid hM2
      have HW4 := Lib.hid hw4
      clear hO hM1 hM2 hw4 hD hb
      go_wp2_with fail
      refine (HCl1.out _ wr HMM1.out (HPs.out.below HW4.out)).mono ?_
      rintro e v5 ⟨rfl, hC5, hM5⟩
      have hM25 := HMM2.out.ch hC5 (by omega)
      have hR5 := rdc_ch HORd.out hC5 (fun _ g o e => by have := HD.out g o e; omega)
      have hw5 := hC5.below HW4.out (Nat.le_refl _) HW4.out.size
      go_wp2_with fail
      refine (HCl2.out _ _ _ v5 hM25 hR5).mono ?_
      rintro e v6 ⟨rfl, hC6, hM6⟩
      have hM56 := hM5.ch hC6 (by omega)
      have hw6 := hC6.below hw5 (Nat.le_of_lt hb12) hw5.size
      clear hC5 hM5 hM25 hR5 hC6 hw5
      go_wp2_with fail
      refine (HRN.out v6).mono ?_
      rintro e v7 ⟨rfl, hb7, hO7⟩
      have hM57 := hM56.below hb7
      have hM67 := hM6.below hb7
      have hw7 := below_next hw6 hb7
      clear hM56 hM6 hw6 hb7
      have hM58 := hM57.below ((Below.refl _ v7).alloc (Nat.le_refl _) (.cells #[.slice (some ⟨v6.heap.size + 1, 0, none⟩) k k] 31))
      have hM68 := hM67.below ((Below.refl _ v7).alloc (Nat.le_refl _) (.cells #[.slice (some ⟨v6.heap.size + 1, 0, none⟩) k k] 31))
      have hw8 := hw7.alloc hw7.size (.cells #[.slice (some ⟨v6.heap.size + 1, 0, none⟩) k k] 31)
      have hR8 := hO7.rd.alloc (.cells #[.slice (some ⟨v6.heap.size + 1, 0, none⟩) k k] 31)
      clear hM57 hM67 hw7 hO7
      go_wp2_with fail
      refine (HRC.out _ _ hR8 (HPs.out.below hw8)).mono ?_
      rintro e v9 ⟨B, m9, c9, rfl, hR9, hor, hb9⟩
      have hM59 := (hM58.below hb9).below ((Below.refl _ v9).alloc (Nat.le_refl _) (.cells #[.slice B m9 c9] 31))
      have hM69 := (hM68.below hb9).below ((Below.refl _ v9).alloc (Nat.le_refl _) (.cells #[.slice B m9 c9] 31))
      have hw9 := (below_next hw8 hb9).alloc (below_next hw8 hb9).size (.cells #[.slice B m9 c9] 31)
      have hR10 := hR9.alloc (.cells #[.slice B m9 c9] 31)
      have k10 := Holds.new v9 #[.slice B m9 c9] 31
      clear hM58 hM68 hw8 hR8 hor hb9 hR9
      have hL1 := like_any _ _ _ m9 c9 _ hM59 hR10
      have HL1 := Lib.hid hL1
      have HM69 := Lib.hid hM69
      have HR10 := Lib.hid hR10
      have HK10 := Lib.hid k10
      clear hL1 hM59 hM69 hR10 k10 HXY
      rcases hx1 with hx1 | hx1 | hx1
      all_goals rcases hy1 with hy1 | hy1 | hy1
      all_goals first
        | (exfalso; omega)
        | (subst hx1
           subst hy1
           clear hxy
           go_wp2_with fail
           refine HL1.out.mono ?_
           rintro e v10 ⟨rfl, hb10⟩
           have c0 := (HK10.out.below hb10).at_ 0 rfl
           have hL2 := like_any _ _ _ m9 c9 _ (HM69.out.below hb10) (HR10.out.below hb10)
           have HL2 := Lib.hid hL2
           clear hL2
           go_wp2_with fail
           refine HL2.out.mono ?_
           rintro e v11 ⟨rfl, hb11⟩
           go_wp2_with fail
           go_ret
           exact ⟨rfl, below_next (below_next hw9 hb10) hb11⟩)
    · have hin : i < ps.length := by omega
      rw [show (((i + 1 : Nat) : Int) - 1) = (i : Int) by omega]
      have hwi : IntKind.i64.wrap ((i : Int) - 1) = (i : Int) - 1 := by rw [IntKind.wrap_i64]; omega
      have hii : (i : Int) < (ps.length : Int) := by omega
      have hq2 : ps[i]? = some ps[i] := List.getElem?_eq_getElem hin
      have hback := Sp.back_step hin
      generalize ps[i] = p at hq2 hback
      obtain ⟨x, y⟩ := p
      obtain ⟨g, o, rfl, hg, hcells⟩ := HPs.out.2 (by omega)
      have hwr := below_next HW3.out hb
      have cx : wr.cell? ⟨g, o + i * 2, none⟩ = some (.int .i64 x) := (hwr.cell (p := ⟨g, o + i * 2, none⟩) hg).trans (hcells _ _ (Sp.flat_get hq2).1)
      have cy : wr.cell? ⟨g, o + (i * 2 + 1), none⟩ = some (.int .i64 y) := (hwr.cell (p := ⟨g, o + (i * 2 + 1), none⟩) hg).trans (hcells _ _ (Sp.flat_get hq2).2)
      rw [← Nat.add_assoc] at cy
      have hOa : OwnC 2 (wr.alloc (.cells #[.int .i64 y, .int .i64 x] 56)).drew v3.heap.size 56 D q d (iv (flat (Sp.back (ps.drop (i + 1))))) := (hO.alloc _).drew
      have hra : RdC 2 (wr.alloc (.cells #[.int .i64 y, .int .i64 x] 56)).drew (some ⟨wr.heap.size, 0, none⟩) 1 (iv [y, x]) := rdc_new 2 wr 56 (iv [y, x]) 1 rfl (0, 0)
      have hbs := hb.size
      have hql : q + 1 ≤ 1000000 := by omega
      have hba : v3.heap.size ≤ (wr.alloc (.cells #[.int .i64 y, .int .i64 x] 56)).drew.heap.size := by simp; omega
      have hgw : g < wr.heap.size := by omega
      have hgv : g < v3.heap.size := by omega
      have hkeep : ∀ A3 c3 u, GrewC 2 (wr.alloc (.cells #[.int .i64 y, .int .i64 x] 56)).drew u v3.heap.size 56 D A3 q d (q + 1) c3 (iv (flat (Sp.back (ps.drop (i + 1)))) ++ iv [y, x]) → u.cell? ⟨g, o + i * 2, none⟩ = some (.int .i64 x) ∧ u.cell? ⟨g, o + i * 2 + 1, none⟩ = some (.int .i64 y) := by
        intro A3 c3 u hgr
        have hne : ∀ i, some (⟨g, i, none⟩ : Addr).block ≠ (Value.slice D q d).ownBlock := fun i e => by have := (hO.blk g e.symm).1; omega
        have hal : ∀ j, (wr.alloc (.cells #[.int .i64 y, .int .i64 x] 56)).drew.cell? ⟨g, j, none⟩ = wr.cell? ⟨g, j, none⟩ := fun j => ((Below.refl wr.heap.size wr).alloc (Nat.le_refl _) _).cell (p := ⟨g, j, none⟩) hgw
        exact ⟨(hgr.grew.cell_far ⟨g, _, none⟩ (by simp; omega) (hne _)).trans ((hal _).trans cx), (hgr.grew.cell_far ⟨g, _, none⟩ (by simp; omega) (hne _)).trans ((hal _).trans cy)⟩
      have HK := Lib.hid hkeep
      have HO := Lib.hid hO
      have HBack := Lib.hid hback
      clear hO hkeep hback hq2 hcells hwr
      go_wp2_with fail
      go_region_held3 (fun w' => w'.cell? ⟨g, o + i * 2, none⟩ = some (.int .i64 x) ∧ w'.cell? ⟨g, o + i * 2 + 1, none⟩ = some (.int .i64 y)) (first | go_keep | exact HK.out _ _ _ hg3) ((refine step_appC manyP (by rfl) 71 rfl (.tmp 58) (.tmp 70) rfl rfl hOa ⟨wr.heap.size, 0, none⟩ 1 1 (iv [y, x]) (iv_one _) rfl hra hql hba ?_; intro A3 c3 u3 hg3))
      have hbn : Below v3.heap.size v3 u3 := hg3.below ((hb.alloc hb.size (.cells #[.int .i64 y, .int .i64 x] 56)).drew) hba (fun g h => (HO.out.blk g h).1)
      have hOn := hg3.own
      rw [← iv_append, show [y, x] = flat [(y, x)] from rfl, ← Sp.flat_append, ← HBack.out] at hOn
      clear hOa hra hba cx cy hg3 HK
      go_wp2_with fail
      go_roundw
      case rel => exact ⟨i, c3, q + 1, A3, by omega, by omega, rfl, rfl, hOn, hbn⟩
      case measure => simp [intOf]
set_option maxRecDepth 100000 in
theorem lifted (os : Os) (started : os.Started) (H : Type) (enc : TypeId × Value → H) :
    ReturnsInHanded {} Try.checked os 6 .any (Rows.spaceOrderSpec.pre6 enc Try.prog Try.f6 Rows.spaceOrderRow.domain false) (Rows.spaceOrderSpec.post enc Try.prog Try.f6 false true false false) := by
  refine returnsInHanded_of_change (C := Try.checked) own started (by kernel_rfl) Try.func6
    (ChangeSpec.witness6 (enc := enc) (C := Try.checked) false ⟨#[], #[.int .u16 0, .slice none 0 0], []⟩ 8 (by kernel_rfl) (by kernel_rfl) (by kernel_rfl) (by kernel_rfl)) ?_
  intro W base args ds gs before hval0 hW hcnd _
  have hval : ∀ (j : Nat) t v, Try.f6.params[j]? = some t → args[j]? = some v → Value.okWide Try.prog W .any base t v := hval0
  have hW' := hW
  obtain ⟨p, q, hA0, hV, rfl, hfz, hnd⟩ := hW
  have hA : DataW.TrodAll enc Try.prog W 0 (fun _ => true) true Try.f6.params.toList args.toList ds p := hA0
  rw [Try.params6] at hA hval
  obtain ⟨v0, vs0, d0, ds0, p0, q0, hargs, rfl, rfl, h0, t0⟩ := trodAll_cons hA
  obtain ⟨v1, vs1, d1, ds1, p1, q1, rfl, rfl, rfl, h1, t1⟩ := trodAll_cons t0
  obtain ⟨rfl, rfl, rfl⟩ := trodAll_nil t1
  obtain rfl : args = #[v0, v1] := by cases args; simp_all
  obtain ⟨rfl, rfl⟩ := trodVars_none hV
  have k0 : Reads enc W 37 v0 d0 p0 := h0
  have lt0 : ∀ x ∈ p0, x.block < W.heap.size := by obtain ⟨m, hm⟩ := k0; exact DataW.trod_lt m _ _ _ hm
  obtain ⟨n0, rfl, w0⟩ := in_u16 (hval 0 37 v0 rfl rfl) k0
  have k1 : Reads enc W 39 v1 d1 p1 := h1
  have lt1 : ∀ x ∈ p1, x.block < W.heap.size := by obtain ⟨m, hm⟩ := k1; exact DataW.trod_lt m _ _ _ hm
  obtain ⟨A1, m1, c1, l1, rfl, wn1, r1, wx1, wc1, w1⟩ := in_pairs (hval 1 39 v1 rfl rfl) k1
  clear hA0 hval0
  refine (walk n0 A1 m1 c1 l1 W w0 wn1 r1 wx1 wc1 w1).mono fun e W' ⟨he, bel⟩ => ?_
  subst he
  exact ⟨_, rfl, _, _, _, [], _, [], hW', trodAll_mk1 (shut_bool Try.underlying4 _), (trodAll_cons_mk (Below.trod laidOut (by kernel_rfl) (of_decide_eq_true (by kernel_rfl)) k0 bel lt0) (trodAll_cons_mk (Below.trod laidOut (by kernel_rfl) (of_decide_eq_true (by kernel_rfl)) k1 bel lt1) trodAll_mk0)), rfl, bel.frame _, fun h => by cases h⟩
theorem over : Rows.spaceOrderRow.holds Try.pinned (OpenSpec.ofChange Rows.spaceOrderSpec) :=
  OpenClaim.holds_of_wide 6 Try.f6 rfl rfl rfl rfl rfl rfl rfl ⟨rfl, rfl, rfl, rfl, rfl⟩ rfl rfl rfl rfl rfl (by kernel_rfl) Try.func6 (by kernel_rfl)
    (of_decide_eq_true (by kernel_rfl)) (by unfold Func.isWrapper; first | (rw [if_pos (by decide +kernel)]; kernel_rfl) | (rw [if_neg (by decide +kernel)]; exact ⟨rfl, rfl⟩))
    (fun os started H enc _ => lifted os started H enc)
theorem proved : Rows.SpaceOrderSaid := over
end Go.Proofs.Ytaaodhnenaoheaa.spaceOrder
