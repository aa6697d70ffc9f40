/- MemOwn: what is put is copied, and what is told is new memory -/
import Derived.Test.YtfmbnoafmnbhcaaMmOwnM
import Derived.Test.YtfmbnoafmnbhcaaMmLaw
import Derived.Test.YtfmbnoafmnbhcaaMmIn
import Derived.Test.YtfmbnoafmnbhcaaIns
import Derived.Test.YtfmbnoafmnbhcaaHolds
import Derived.WalkKit
import Derived.ProofKit
import Derived.OpenShut
import Derived.ShutString
import Derived.ChangeOld
import Derived.Below
import Derived.Deep.RegionHeld
namespace Go.Proofs.Ytfmbnoafmnbhcaa.memOwn
open Go.ChangeShapes Go.WideShapes Go.ChangeAt Go.RowKit
set_option linter.unusedVariables false
theorem own : ownKnob Try.prog.godebug = none := by kernel_rfl
theorem laidOut : laidOutB Try.prog = true := by kernel_rfl
set_option maxRecDepth 100000 in
set_option maxHeartbeats 16000000 in
theorem walk (s0 : ByteArray) (A1 : Option Addr) (m1 c1 : Nat) (l1 : List Nat) (n2 : Nat) (w : World) (w0 : s0.size ≤ 9223372036854775807) (r1 : Rd w A1 m1 l1) (wc1 : m1 ≤ c1) (w1 : m1 ≤ 9223372036854775807) (w2 : n2 < 256) :
    Calls Try.prog 8 #[.string s0, .slice A1 m1 c1, .int .u8 (n2 : Int)] w fun e w' => e = .returned (.bool true) ∧ Below w.heap.size w w' := by
-- heartbeats 16000000
  have HR1 := Lib.hid (And.intro r1 (And.intro wc1 w1))
  have HW0 := Lib.hid w0
  have hm1 := r1.1
  have HW2 := Lib.hid w2
  clear r1 w0
  go_enter Try.func8, Try.ntmps8
  go_upto_if 20 with (fail)
  go_cut [0] from 21 to 22 (fun t0 W => ∃ (key : ByteArray), t0 = .string key ∧ key.size ≤ 64 ∧ w = W)
  case first =>
    by_cases h1 : 64 < s0.size
    · have h1' : (64 : Int) < (s0.size : Int) := by omega
      have h5' : (64 : Int) ≤ (s0.size : Int) := by omega
      go_wp2_with fail
      go_meet
      case rel => exact ⟨_, rfl, by rw [ByteArray.size_extract]; omega, rfl⟩
    · have h1' : ¬ (64 : Int) < (s0.size : Int) := by omega
      go_wp2_with fail
      go_meet
      case rel => exact ⟨_, rfl, by omega, rfl⟩
  obtain ⟨key, rfl, hk, hwc⟩ := hcut
  subst hwc
  go_upto_if 25 with (fail)
  go_cut [1] from 26 to 27 (fun t1 W => ∃ (n c : Nat) (l : List Nat), t1 = .slice A1 n c ∧ n ≤ 256 ∧ Hid (Rd W A1 n l ∧ n ≤ c) ∧ w = W)
  case first =>
    by_cases h2 : 256 < m1
    · have h2' : (256 : Int) < (m1 : Int) := by omega
      have h4' : (256 : Int) ≤ (c1 : Int) := by omega
      go_wp2_with fail
      go_meet
      case rel => exact ⟨256, _, _, rfl, by omega, Lib.hid ⟨HR1.out.1.take (by omega), by omega⟩, rfl⟩
    · have h2' : ¬ (256 : Int) < (m1 : Int) := by omega
      go_wp2_with fail
      go_meet
      case rel => exact ⟨_, _, _, rfl, by omega, Lib.hid ⟨HR1.out.1, HR1.out.2.1⟩, rfl⟩
  case rest =>
    obtain ⟨n, c, l, rfl, hn, HRv, hwc⟩ := hcut
    obtain ⟨hrv, hnc⟩ := HRv.out
    subst hwc
    have HRv2 := Lib.hid (And.intro hrv hnc)
    have hll := hrv.1
    clear HRv hrv HR1 HW0 hm1
    go_wp2_with fail
    refine (new_any w).mono ?_
    rintro e v1 ⟨rfl, hM1, hb1⟩
    have HM1 := Lib.hid hM1
    have HB1 := Lib.hid hb1
    have HL1 := Lib.hid hM1.choose_spec.1.1
    clear hM1 hb1
    have HD2 := Lib.hid ((Below.refl v1.heap.size v1).alloc (Nat.le_refl _) (.cells (bv []).toArray 5))
    have HO2 := Lib.hid (Own.lit (base := v1.heap.size) v1 [] (fun x hx => by cases hx) (Nat.le_refl _) (by simp))
    have HR2 := Lib.hid ((HRv2.out.1.below HB1.out).below HD2.out)
    have hkb : (key ++ ⟨#[107]⟩ : ByteArray).size = key.size + 1 := by rw [ByteArray.size_append]; rfl
    go_upto_if 37 with (at_builtin; refine wpList_appB rfl (.tmp 31) (.tmp 32) rfl rfl HO2.out A1 n c l rfl HR2.out (by simp; omega) (by simp) ?_; intro A6 c6 w6 hg6)
    have HO6 := Lib.hid (show Own w6 v1.heap.size A6 n c6 l by have h := hg6.own; rw [Nat.zero_add, List.nil_append] at h; exact h)
    have HB6 := Lib.hid (show Below v1.heap.size v1 w6 from hg6.below HD2.out (by simp) (fun g e => (HO2.out.blk g e).1))
    clear hg6
    have HX6 := Lib.hid (Holds.new w6 #[.string (key ++ ⟨#[107]⟩), .int .i64 1, .bool false, .slice A6 n c6] 24)
    have HD6 := Lib.hid ((Below.refl w6.heap.size w6).alloc (Nat.le_refl _) (.cells #[.string (key ++ ⟨#[107]⟩), .int .i64 1, .bool false, .slice A6 n c6] 24))
    go_cut [37] from 38 to 39 (fun t6 W => ∃ (tb : Bool), t6 = .bool tb ∧ ∃ K : ByteArray, 1 ≤ K.size ∧ K.size ≤ 64 ∧ Hid (Holds W w6.heap.size [.string K, .int .i64 1, .bool false, .slice A6 n c6] ∧ Below w6.heap.size w6 W))
    case first =>
      by_cases h64 : key.size = 64
      · have h64' : ((key.size : Int) == 64) = true := by simp; omega
        have H64 := Lib.hid h64
        clear h64
        have f0 := HX6.out.2.1 0 _ rfl
        have ff := HX6.out.2.2
        go_wp2_with fail
        go_meet
        case rel => exact ⟨_, rfl, key, by have := H64.out; omega, by have := H64.out; omega, Lib.hid ⟨Holds.new w6 #[.string key, .int .i64 1, .bool false, .slice A6 n c6] 24, (Below.refl w6.heap.size w6).alloc (Nat.le_refl _) (.cells #[.string key, .int .i64 1, .bool false, .slice A6 n c6] 24)⟩⟩
      · have h64' : ((key.size : Int) == 64) = false := by rw [beq_eq_false_iff_ne]; omega
        go_wp2_with fail
        go_meet
        case rel => exact ⟨_, rfl, _, by omega, by omega, Lib.hid ⟨HX6.out, HD6.out⟩⟩
    case rest =>
      obtain ⟨tb, rfl, K, hK1, hK2, HX⟩ := hcut
      have hwc := HX.out.2
      have HXc := Lib.hid HX.out.1
      have HBc := Lib.hid hwc
      clear hwc HX
      obtain ⟨S, hS⟩ : ∃ S : Nat → Prop, S = fun k => k = w.heap.size ∨ Blk A6 k := ⟨_, rfl⟩
      have HS := Lib.hid (show ∀ k, S k ↔ (k = w.heap.size ∨ Blk A6 k) from fun k => by rw [hS])
      clear hS
      have HOc := Lib.hid (HO6.out.below HBc.out)
      have HN := Lib.hid (show w.heap.size < v1.heap.size ∧ v1.heap.size ≤ w6.heap.size ∧ w6.heap.size < wc.heap.size from ⟨HL1.out, HB6.out.size, HXc.out.1⟩)
      have HA6 := Lib.hid (show ∀ k, Blk A6 k → v1.heap.size ≤ k ∧ k < w6.heap.size from fun k hk => blk_in HO6.out hk)
      have HMc := Lib.hid (show Bk.IsM S wc w.heap.size .leaf 0 by
        obtain ⟨p, h1, h2, _⟩ := (HM1.out.below HB6.out).below HBc.out
        exact ⟨p, h1, h2, (HS.out _).2 (.inl rfl)⟩)
      have HLw := Lib.hid (show ∀ k, S k → w.heap.size ≤ k ∧ k < wc.heap.size from fun k hk => by
        have h1 := HN.out
        rcases (HS.out k).1 hk with h | h
        · omega
        · have := HA6.out k h
          omega)
      have HBw := Lib.hid (show Below w.heap.size w wc from HB1.out.trans ((HB6.out.trans (HBc.out.mono HB6.out.size)).mono (Nat.le_of_lt HN.out.1)))
      have hat : Bk.At wc (⟨K, 1, false, l⟩, A6, n, c6) := ⟨HOc.out.rd, HOc.out.cap, by show K.size ≤ 1000000; omega, by show (1 : Int) < _; omega, by show _ ≤ (1 : Int); omega, by show n ≤ 1000000; omega⟩
      have hok : Bk.ok ⟨K, 1, false, l⟩ = true := by unfold Bk.ok; simp; omega
      have Pt := Lib.hid (put_any S w.heap.size .leaf 0 (⟨K, 1, false, l⟩, A6, n, c6) wc HMc.out (fun k hk => (HLw.out k hk).2) hat (by show 0 + 2 ≤ 1000000; omega) (by show 0 ≤ 1000000000000; omega))
      have Pt2 : Hid (Calls Try.prog 29 #[.pointer (some ⟨w.heap.size, 0, none⟩), .agg #[.string K, .int .i64 1, .bool false, .slice A6 n c6]] wc fun e w' => e = .returned (.int .i64 0) ∧ ∃ T, OSt S w w' w.heap.size w6.heap.size K A6 n c6 T ∧ Bk.Inv T 1 ∧ Own w' v1.heap.size A6 n c6 l ∧ (∃ x : Bk.P, T.row = [x] ∧ x.1 = ⟨K, 1, false, l⟩) ∧ wc.heap.size ≤ w'.heap.size) := Lib.hid (Pt.out.mono fun e w' ⟨h1, T', top', h2, h3, _, h5⟩ => by
        have h0 : Bk.putE .leaf 0 (⟨K, 1, false, l⟩, A6, n, c6) = 0 := Bk.putE_leaf hok (by show (0 : Int) ≤ 1; omega)
        obtain ⟨V, cv, hT, ht⟩ := h5 h0
        have ht : top' = 1 := ht
        subst ht
        have hI := (Bk.inv_ins (y := ((⟨K, 1, false, l⟩ : Bk.En), V, n, cv)) Bk.inv_leaf h0 rfl).1
        have hrow : T'.row = [((⟨K, 1, false, l⟩ : Bk.En), V, n, cv)] := by rw [hT, Bk.Tr.ins_row _ _ Bk.inv_leaf.1]; rfl
        refine ⟨by rw [h1, h0], T', ⟨h2, HXc.out.grown h3 (fun e => by injection e with e; have := HN.out; omega), HBw.out.grown h3 HBw.out.size (fun g e => by injection e with e; omega), fun k hk => ⟨(HLw.out k hk).1, Nat.lt_of_lt_of_le (HLw.out k hk).2 h3.size⟩⟩, by rw [hT]; exact hI, HOc.out.grown h3 (.inr fun g e e2 => ?_), ⟨_, hrow, rfl⟩, h3.size⟩
        injection e with e
        have := (HOc.out.blk g e2).1
        have := HN.out
        omega)
      clear Pt hat hok
      have q0 := HXc.out.2.1 0 _ rfl
      have q1 := HXc.out.2.1 1 _ rfl
      have q2 := HXc.out.2.1 2 _ rfl
      have q3 := HXc.out.2.1 3 _ rfl
      go_wp2_with fail
      refine Pt2.out.mono ?_
      rintro e v9 ⟨rfl, T, ho9, hi9, hw9, hr9, hz9⟩
      have HO9 := Lib.hid ho9
      have HI9 := Lib.hid (And.intro hi9 (And.intro hw9 (And.intro hr9 hz9)))
      clear ho9 hi9 hw9 hr9 hz9 q0 q1 q2 q3
      go_wp2_with fail
      refine (awake_any v9).mono ?_
      rintro e v10 ⟨rfl, hb10⟩
      have HS10 := Lib.hid (HO9.out.next hb10)
      have HW10 := Lib.hid (HI9.out.2.1.below hb10)
      have HT10 := Lib.hid (And.intro HI9.out.1 HI9.out.2.2.1)
      have HZ10 := Lib.hid (Nat.le_trans HI9.out.2.2.2 hb10.size)
      clear hb10
      go_wp2_with fail
      go_loopw [9] (fun ii wr => ∃ (k : Nat), k ≤ n ∧ ii = .int .i64 (k : Int) ∧ Hid (OSt S w wr w.heap.size w6.heap.size K A6 n c6 T) ∧ Hid (∃ l', Own wr v1.heap.size A6 n c6 l') ∧ Hid (True)) (fun ii _ => n - (intOf ii).toNat)
      case atStart => exact ⟨0, by omega, rfl, HS10, Lib.hid ⟨l, HW10.out⟩, Lib.hid trivial⟩
      case round =>
        rename_i wr hrel
        obtain ⟨k, hk, rfl, HQ, HW, HE⟩ := hrel
        by_cases hlt : k < n
        · have hki : (k : Int) < (n : Int) := by omega
          have hk0 : (0 : Int) ≤ (k : Int) := by omega
          obtain ⟨l', hl'⟩ := HW.out
          obtain ⟨g, hgA⟩ := own_at hl' (by omega)
          have HgA := Lib.hid hgA
          rw [hgA] at hl'
          obtain ⟨y, hy⟩ : ∃ y, l'[k]? = some y := ⟨_, List.getElem?_eq_getElem (by rw [hl'.1]; exact hlt)⟩
          have hc := hl'.cell hy
          have hf := hl'.free k
          have HL' := Lib.hid hl'
          have q3 := HQ.out.bx.2.1 3 _ rfl
          rw [hgA] at q3
          clear hl' hy hgA
          go_wp2
          go_roundw
          case rel => exact ⟨k + 1, by omega, by go_num, Lib.hid (HQ.out.store k _ ((HS.out g).2 (.inr ⟨0, HgA.out⟩)) (by have := HA6.out g ⟨0, HgA.out⟩; have := HN.out; omega) (by have := HA6.out g ⟨0, HgA.out⟩; omega)), Lib.hid ⟨_, by rw [HgA.out]; exact HL'.out.set k n2 HW2.out⟩, Lib.hid trivial⟩
          case measure => simp [intOf]; omega
        · have hkn : k = n := by omega
          obtain rfl : n = k := hkn.symm
          have hnk : ¬ (n : Int) < (n : Int) := by omega
          clear hlt
          have q3 := HQ.out.bx.2.1 3 _ rfl
          clear HW HE q3
          obtain ⟨v11, rfl⟩ : ∃ v11, v11 = wr := ⟨wr, rfl⟩
          have HQ1 := HQ
          clear HQ
          have q0 := HQ1.out.bx.2.1 0 _ rfl
          have q3 := HQ1.out.bx.2.1 3 _ rfl
          go_wp2_with fail
          refine (getO_any S w.heap.size T K l n v11 HQ1.out.mem HT10.out.2 HT10.out.1 hll).mono ?_
          rintro e v12 ⟨V12, c12, rfl, h12, hb12⟩
          have HD12 := Lib.hid (hb12.alloc hb12.size (.cells #[.string K, .int .i64 1, .bool false, .slice V12 n c12] 24))
          have HX12 := Lib.hid (Holds.new v12 #[.string K, .int .i64 1, .bool false, .slice V12 n c12] 24)
          have HA12 := Lib.hid (show ∀ k, Blk V12 k → v11.heap.size ≤ k ∧ k < v12.heap.size from fun k hk => blk_in h12 hk)
          have HO12 := Lib.hid (h12.alloc (.cells #[.string K, .int .i64 1, .bool false, .slice V12 n c12] 24))
          have HN11 := Lib.hid (show w6.heap.size < v11.heap.size ∧ w.heap.size < v11.heap.size from ⟨HQ1.out.bx.1, HQ1.out.mem.choose_spec.1.1⟩)
          obtain ⟨U2, hU2⟩ : ∃ U2 : Nat → Prop, U2 = fun k => S k ∨ Blk V12 k := ⟨_, rfl⟩
          have HU2 := Lib.hid (show ∀ k, U2 k ↔ (S k ∨ Blk V12 k) from fun k => by rw [hU2])
          have HQ2 := Lib.hid (show OSt U2 w (v12.alloc (.cells #[.string K, .int .i64 1, .bool false, .slice V12 n c12] 24)) w.heap.size w6.heap.size K A6 n c6 T from HQ1.out.later HD12.out (fun k hk => ((HU2.out k).1 hk).imp id (fun h => ⟨(HA12.out k h).1, by have := (HA12.out k h).2; simp; omega⟩)) ((HU2.out _).2 (.inl ((HS.out _).2 (.inl rfl)))))
          clear hb12 h12 hU2 q0 q3
          go_wp2_with fail
          generalize (v12.alloc (.cells #[.string K, .int .i64 1, .bool false, .slice V12 n c12] 24)) = v12b at HD12 HX12 HO12 HQ2 ⊢
          go_loopw [12] (fun ii wr => ∃ (k : Nat), k ≤ n ∧ ii = .int .i64 (k : Int) ∧ Hid (OSt U2 w wr w.heap.size w6.heap.size K A6 n c6 T) ∧ Hid (∃ l', Own wr v11.heap.size V12 n c12 l') ∧ Hid (Holds wr v12.heap.size [.string K, .int .i64 1, .bool false, .slice V12 n c12])) (fun ii _ => n - (intOf ii).toNat)
          case atStart => exact ⟨0, by omega, rfl, HQ2, Lib.hid ⟨l, HO12.out⟩, Lib.hid HX12.out⟩
          case round =>
            rename_i wr hrel
            obtain ⟨k, hk, rfl, HQ, HW, HE⟩ := hrel
            by_cases hlt : k < n
            · have hki : (k : Int) < (n : Int) := by omega
              have hk0 : (0 : Int) ≤ (k : Int) := by omega
              obtain ⟨l', hl'⟩ := HW.out
              obtain ⟨g, hgA⟩ := own_at hl' (by omega)
              have HgA := Lib.hid hgA
              rw [hgA] at hl'
              obtain ⟨y, hy⟩ : ∃ y, l'[k]? = some y := ⟨_, List.getElem?_eq_getElem (by rw [hl'.1]; exact hlt)⟩
              have hc := hl'.cell hy
              have hf := hl'.free k
              have HL' := Lib.hid hl'
              have q3 := HE.out.2.1 3 _ rfl
              rw [hgA] at q3
              clear hl' hy hgA
              go_wp2
              go_roundw
              case rel => exact ⟨k + 1, by omega, by go_num, Lib.hid (HQ.out.store k _ ((HU2.out g).2 (.inr ⟨0, HgA.out⟩)) (by have := HA12.out g ⟨0, HgA.out⟩; have := HN11.out; omega) (by have := HA12.out g ⟨0, HgA.out⟩; have := HN11.out; omega)), Lib.hid ⟨_, by rw [HgA.out]; exact HL'.out.set k n2 HW2.out⟩, Lib.hid (HE.out.other (by have := HA12.out g ⟨0, HgA.out⟩; omega))⟩
              case measure => simp [intOf]; omega
            · have hkn : k = n := by omega
              obtain rfl : n = k := hkn.symm
              have hnk : ¬ (n : Int) < (n : Int) := by omega
              clear hlt
              have q3 := HE.out.2.1 3 _ rfl
              clear HW HE
              obtain ⟨v13, rfl⟩ : ∃ v13, v13 = wr := ⟨wr, rfl⟩
              have HQ3 := HQ
              clear HQ
              have q0 := HQ3.out.bx.2.1 0 _ rfl
              go_wp2_with fail
              refine (allO_any U2 w.heap.size T K l n v13 HQ3.out.mem HT10.out.2 HT10.out.1 hll).mono ?_
              rintro e v14 ⟨gl, ol, cl, V14, c14, rfl, hc14, ho14, hgl, hb14⟩
              have HO14 := Lib.hid ho14
              have HC14 := Lib.hid (And.intro hc14 hgl)
              have HA14 := Lib.hid (show ∀ k, 0 < n → Blk V14 k → v13.heap.size ≤ k ∧ k < v14.heap.size ∧ gl ≠ k from fun k h0 hk => ⟨(blk_in (ho14 h0).1 hk).1, (blk_in (ho14 h0).1 hk).2, fun e => (ho14 h0).2 (by rw [e]; exact hk)⟩)
              have HN13 := Lib.hid (show w6.heap.size < v13.heap.size ∧ w.heap.size < v13.heap.size from ⟨HQ3.out.bx.1, HQ3.out.mem.choose_spec.1.1⟩)
              obtain ⟨U3, hU3⟩ : ∃ U3 : Nat → Prop, U3 = fun k => U2 k ∨ (0 < n ∧ Blk V14 k) := ⟨_, rfl⟩
              have HU3 := Lib.hid (show ∀ k, U3 k ↔ (U2 k ∨ (0 < n ∧ Blk V14 k)) from fun k => by rw [hU3])
              have HQ4 := Lib.hid (show OSt U3 w v14 w.heap.size w6.heap.size K A6 n c6 T from HQ3.out.later hb14 (fun k hk => ((HU3.out k).1 hk).imp id (fun h => ⟨(HA14.out k h.1 h.2).1, (HA14.out k h.1 h.2).2.1⟩)) ((HU3.out _).2 (.inl ((HU2.out _).2 (.inl ((HS.out _).2 (.inl rfl)))))))
              clear hc14 ho14 hgl hb14 hU3 q0 q3
              go_wp2_with fail
              go_loopw [14] (fun ii wr => ∃ (j : Nat), j ≤ 1 ∧ ii = .int .i64 (j : Int) ∧ Hid (OSt U3 w wr w.heap.size w6.heap.size K A6 n c6 T) ∧ Hid (0 < n → ∃ l', Own wr v13.heap.size V14 n c14 l') ∧ Hid (wr.cell? ⟨gl, ol + 3, none⟩ = some (.slice V14 n c14))) (fun ii _ => 1 - (intOf ii).toNat)
              case atStart => exact ⟨0, by omega, rfl, HQ4, Lib.hid (fun h0 => ⟨l, (HO14.out h0).1⟩), Lib.hid HC14.out.1⟩
              case round =>
                rename_i wr hrel
                obtain ⟨j, hj, rfl, HQ, HW, HE⟩ := hrel
                by_cases hlj : j < 1
                · obtain rfl : 0 = j := by omega
                  have hj1 : ((0 : Nat) : Int) < 1 := by omega
                  obtain ⟨v15, rfl⟩ : ∃ v15, v15 = wr := ⟨wr, rfl⟩
                  have HQ5 := HQ
                  have HW5 := HW
                  have HE5 := HE
                  clear HQ HW HE
                  go_wp2_with fail
                  go_loopw [15] (fun ii wr => ∃ (k : Nat), k ≤ n ∧ ii = .int .i64 (k : Int) ∧ Hid (OSt U3 w wr w.heap.size w6.heap.size K A6 n c6 T) ∧ Hid (0 < n → ∃ l', Own wr v13.heap.size V14 n c14 l') ∧ Hid (wr.cell? ⟨gl, ol + 3, none⟩ = some (.slice V14 n c14))) (fun ii _ => n - (intOf ii).toNat)
                  case atStart => exact ⟨0, by omega, rfl, HQ5, HW5, HE5⟩
                  case round =>
                    rename_i wr hrel
                    obtain ⟨k, hk, rfl, HQ, HW, HE⟩ := hrel
                    by_cases hlt : k < n
                    · have hki : (k : Int) < (n : Int) := by omega
                      have hk0 : (0 : Int) ≤ (k : Int) := by omega
                      have h0n : 0 < n := by omega
                      obtain ⟨l', hl'⟩ := HW.out h0n
                      obtain ⟨g, hgA⟩ := own_at hl' h0n
                      have HgA := Lib.hid hgA
                      have H0n := Lib.hid h0n
                      rw [hgA] at hl'
                      obtain ⟨y, hy⟩ : ∃ y, l'[k]? = some y := ⟨_, List.getElem?_eq_getElem (by rw [hl'.1]; exact hlt)⟩
                      have hc := hl'.cell hy
                      have hf := hl'.free k
                      have HL' := Lib.hid hl'
                      have q3 := HE.out
                      rw [hgA] at q3
                      clear hl' hy hgA h0n
                      go_wp2
                      go_roundw
                      case rel => exact ⟨k + 1, by omega, by go_num, Lib.hid (HQ.out.store k _ ((HU3.out g).2 (.inr ⟨H0n.out, 0, HgA.out⟩)) (by have := HA14.out g H0n.out ⟨0, HgA.out⟩; have := HN13.out; omega) (by have := HA14.out g H0n.out ⟨0, HgA.out⟩; have := HN13.out; omega)), Lib.hid (fun _ => ⟨_, by rw [HgA.out]; exact HL'.out.set k n2 HW2.out⟩), Lib.hid (by rw [World.cell?_setCell_other _ _ _ _ (fun e => by injection e with e _; exact (HA14.out g H0n.out ⟨0, HgA.out⟩).2.2 e.symm)]; exact HE.out)⟩
                      case measure => simp [intOf]; omega
                    · have hkn : k = n := by omega
                      obtain rfl : n = k := hkn.symm
                      have hnk : ¬ (n : Int) < (n : Int) := by omega
                      clear hlt
                      have q3 := HE.out
                      go_wp2
                      go_roundw
                      case rel => exact ⟨1, by omega, by go_num, HQ, HW, HE⟩
                      case measure => simp [intOf]
                · obtain rfl : 1 = j := by omega
                  clear hlj
                  obtain ⟨v15, rfl⟩ : ∃ v15, v15 = wr := ⟨wr, rfl⟩
                  have q0 := HQ.out.bx.2.1 0 _ rfl
                  go_wp2_with fail
                  refine (getO_any U3 w.heap.size T K l n v15 HQ.out.mem HT10.out.2 HT10.out.1 hll).mono ?_
                  rintro e v16 ⟨V16, c16, rfl, h16, hb16⟩
                  have HD16 := Lib.hid (hb16.alloc hb16.size (.cells #[.string K, .int .i64 1, .bool false, .slice V16 n c16] 24))
                  have HX16 := Lib.hid (Holds.new v16 #[.string K, .int .i64 1, .bool false, .slice V16 n c16] 24)
                  have HBe := Lib.hid (below_next HQ.out.below HD16.out)
                  have r1 := (h16.alloc (.cells #[.string K, .int .i64 1, .bool false, .slice V16 n c16] 24)).rd
                  have r2 := HRv2.out.1.below HBe.out
                  have s1 := run_str (cap := c16) r1
                  have s2 := run_str (cap := c) r2
                  have e4 := str_same (a := l) rfl
                  have q3 := HX16.out.2.1 3 _ rfl
                  clear r1 r2 h16 hb16 q0
                  go_wp2
                  go_ret
                  exact ⟨rfl, HBe.out⟩
set_option maxRecDepth 100000 in
theorem lifted (os : Os) (started : os.Started) (H : Type) (enc : TypeId × Value → H) :
    ReturnsInHanded {} Try.checked os 8 .any (Rows.memOwnSpec.pre6 enc Try.prog Try.f8 Rows.memOwnRow.domain false) (Rows.memOwnSpec.post enc Try.prog Try.f8 false true false false) := by
  refine returnsInHanded_of_change (C := Try.checked) own started (by kernel_rfl) Try.func8
    (ChangeSpec.witness6 (enc := enc) (C := Try.checked) false ⟨#[], #[.string ⟨#[]⟩, .slice none 0 0, .int .u8 0], []⟩ 8 (by kernel_rfl) (by kernel_rfl) (by kernel_rfl) (by kernel_rfl)) ?_
  intro W base args ds gs before hval0 hW hcnd _
  have hval : ∀ (j : Nat) t v, Try.f8.params[j]? = some t → args[j]? = some v → Value.okWide Try.prog W .any base t v := hval0
  have hW' := hW
  obtain ⟨p, q, hA0, hV, rfl, hfz, hnd⟩ := hW
  have hA : DataW.TrodAll enc Try.prog W 0 (fun _ => true) true Try.f8.params.toList args.toList ds p := hA0
  rw [Try.params8] at hA hval
  obtain ⟨v0, vs0, d0, ds0, p0, q0, hargs, rfl, rfl, h0, t0⟩ := trodAll_cons hA
  obtain ⟨v1, vs1, d1, ds1, p1, q1, rfl, rfl, rfl, h1, t1⟩ := trodAll_cons t0
  obtain ⟨v2, vs2, d2, ds2, p2, q2, rfl, rfl, rfl, h2, t2⟩ := trodAll_cons t1
  obtain ⟨rfl, rfl, rfl⟩ := trodAll_nil t2
  obtain rfl : args = #[v0, v1, v2] := by cases args; simp_all
  obtain ⟨rfl, rfl⟩ := trodVars_none hV
  have k0 : Reads enc W 9 v0 d0 p0 := h0
  have lt0 : ∀ x ∈ p0, x.block < W.heap.size := by obtain ⟨m, hm⟩ := k0; exact DataW.trod_lt m _ _ _ hm
  obtain ⟨s0, rfl, w0⟩ := in_str (hval 0 9 v0 rfl rfl) k0
  have k1 : Reads enc W 22 v1 d1 p1 := h1
  have lt1 : ∀ x ∈ p1, x.block < W.heap.size := by obtain ⟨m, hm⟩ := k1; exact DataW.trod_lt m _ _ _ hm
  obtain ⟨A1, m1, c1, l1, rfl, r1, wc1, w1⟩ := in_bytes (hval 1 22 v1 rfl rfl) k1
  have k2 : Reads enc W 5 v2 d2 p2 := h2
  have lt2 : ∀ x ∈ p2, x.block < W.heap.size := by obtain ⟨m, hm⟩ := k2; exact DataW.trod_lt m _ _ _ hm
  obtain ⟨n2, rfl, w2⟩ := in_u8 (hval 2 5 v2 rfl rfl) k2
  clear hA0 hval0
  refine (walk s0 A1 m1 c1 l1 n2 W w0 r1 wc1 w1 w2).mono fun e W' ⟨he, bel⟩ => ?_
  subst he
  exact ⟨_, rfl, _, _, _, [], _, [], hW', trodAll_mk1 (shut_bool Try.underlying4 _), (trodAll_cons_mk (Below.trod laidOut (by kernel_rfl) (of_decide_eq_true (by kernel_rfl)) k0 bel lt0) (trodAll_cons_mk (Below.trod laidOut (by kernel_rfl) (of_decide_eq_true (by kernel_rfl)) k1 bel lt1) (trodAll_cons_mk (Below.trod laidOut (by kernel_rfl) (of_decide_eq_true (by kernel_rfl)) k2 bel lt2) trodAll_mk0))), rfl, bel.frame _, fun h => by cases h⟩
theorem over : Rows.memOwnRow.holds Try.pinned (OpenSpec.ofChange Rows.memOwnSpec) :=
  OpenClaim.holds_of_wide 8 Try.f8 rfl rfl rfl rfl rfl rfl rfl ⟨rfl, rfl, rfl, rfl, rfl⟩ rfl rfl rfl rfl rfl (by kernel_rfl) Try.func8 (by kernel_rfl)
    (of_decide_eq_true (by kernel_rfl)) (by unfold Func.isWrapper; first | (rw [if_pos (by decide +kernel)]; kernel_rfl) | (rw [if_neg (by decide +kernel)]; exact ⟨rfl, rfl⟩))
    (fun os started H enc _ => lifted os started H enc)
theorem proved : Rows.MemOwnSaid := over
end Go.Proofs.Ytfmbnoafmnbhcaa.memOwn
