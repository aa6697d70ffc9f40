/- MemForks: a fork has the same entries, and both go their own ways -/
import Derived.Test.YtfmbnoafmnbhcaaMmFork
import Derived.Test.YtfmbnoafmnbhcaaMmLaw
import Derived.Test.YtfmbnoafmnbhcaaMmIn
import Derived.Test.YtfmbnoafmnbhcaaIns
import Derived.Test.YtfmbnoafmnbhcaaHolds
import Derived.WalkKit
import Derived.ProofKit
import Derived.OpenShut
import Derived.ShutString
import Derived.ChangeOld
import Derived.Below
import Derived.Deep.RegionHeld
namespace Go.Proofs.Ytfmbnoafmnbhcaa.memForks
open Go.ChangeShapes Go.WideShapes Go.ChangeAt Go.RowKit
set_option linter.unusedVariables false
theorem own : ownKnob Try.prog.godebug = none := by kernel_rfl
theorem laidOut : laidOutB Try.prog = true := by kernel_rfl
set_option maxRecDepth 100000 in
set_option maxHeartbeats 8000000 in
theorem walk (A0 : Option Addr) (m0 c0 : Nat) (l0 : List (Bk.En × Bk.Sl)) (A1 : Option Addr) (m1 c1 : Nat) (l1 : List (Bk.En × Bk.Sl)) (A2 : Option Addr) (m2 c2 : Nat) (l2 : List (Bk.En × Bk.Sl)) (w : World) (r0 : RdI w A0 m0 l0) (wc0 : m0 ≤ c0) (w0 : m0 ≤ 9223372036854775807) (r1 : RdI w A1 m1 l1) (wc1 : m1 ≤ c1) (w1 : m1 ≤ 9223372036854775807) (r2 : RdI w A2 m2 l2) (wc2 : m2 ≤ c2) (w2 : m2 ≤ 9223372036854775807) :
    Calls Try.prog 7 #[.slice A0 m0 c0, .slice A1 m1 c1, .slice A2 m2 c2] w fun e w' => e = .returned (.bool true) ∧ Below w.heap.size w w' := by
-- heartbeats 8000000
  have hl0 := r0.1
  subst hl0
  have HR0 := Lib.hid r0
  have HW0 := Lib.hid w0
  clear r0 w0
  have hl1 := r1.1
  subst hl1
  have hl2 := r2.1
  subst hl2
  have HRa := Lib.hid r1
  have HRb := Lib.hid r2
  have HWa := Lib.hid w1
  have HWb := Lib.hid w2
  clear r1 r2 w1 w2
  go_enter Try.func7, Try.ntmps7
  go_wp2_with fail
  refine (new_any w).mono ?_
  rintro e v1 ⟨rfl, hM1, hb1⟩
  have HM1 := Lib.hid hM1
  have HB1 := Lib.hid hb1
  have hlt1 := hM1.choose_spec.1.1
  have HL1 := Lib.hid hlt1
  clear hM1 hb1 hlt1
  go_wp2_with fail
  refine (awake_any v1).mono ?_
  rintro e v2 ⟨rfl, hb2⟩
  have HB2 := Lib.hid (below_next HB1.out hb2)
  have HM2 := Lib.hid (HM1.out.below hb2)
  have HL2 := Lib.hid (Nat.lt_of_lt_of_le HL1.out hb2.size)
  clear hb2
  go_wp2_with fail
  refine (few_new A0 l0.length c0 l0 v2 (HR0.out.below HB2.out) HW0.out).mono ?_
  rintro e v3 ⟨B3, c3, rfl, hn3, hr3, hb3⟩
  have HRS := Lib.hid (few_apart (m := w.heap.size) HR0.out (Nat.le_refl _) hr3 (fun h1 g o e => Nat.lt_of_lt_of_le HL2.out (hn3 h1 g o e)))
  have HB3 := Lib.hid (below_next HB2.out hb3)
  have HM3 := Lib.hid (HM2.out.below hb3)
  have HL3 := Lib.hid (Nat.lt_of_lt_of_le HL2.out hb3.size)
  clear hn3 hr3 hb3
  go_wp2_with fail
  refine (lput_any (fun k => k = w.heap.size) w.heap.size B3 (Bk.few l0).length c3 (Bk.few l0) v3 HM3.out (fun k hk => by rw [hk]; exact HL3.out) HRS.out (few_len80 l0)).mono ?_
  rintro e v4 ⟨A4, c4, es4, T4, top4, rfl, ht4, hg4⟩
  have HT4 := Lib.hid ht4
  have HB4 := Lib.hid (HB3.out.grown hg4 HB3.out.size (fun g e => by injection e with e; omega))
  clear ht4 hg4
  go_wp2_with fail
  have hb5 := (Below.refl v4.heap.size v4).alloc (Nat.le_refl _) (.cells #[Value.slice A4 es4.length c4, .int .i64 top4] 34)
  have HX5 := Lib.hid (Holds.new v4 #[Value.slice A4 es4.length c4, .int .i64 top4] 34)
  have HT5 := Lib.hid (HT4.out.below hb5)
  have HB5 := Lib.hid (below_next HB4.out hb5)
  clear hb5
  generalize (v4.alloc (.cells #[Value.slice A4 es4.length c4, .int .i64 top4] 34)) = v5 at HX5 HT5 HB5 ⊢
  generalize v4.heap.size = g4 at HX5 ⊢
  have hlen4 := HT5.out.len
  have hfew4 : es4.length ≤ 80 := by have := HT5.out.few; rw [hlen4, T4.row_size]; exact this
  have HLen := Lib.hid (And.intro hlen4 hfew4)
  clear hlen4 hfew4
  have HFk := Lib.hid (fun (u : World) (hu : Below v5.heap.size v5 u) => fork_any _ _ T4 top4 u (HT5.out.mem.below hu))
  have HMs := Lib.hid (show w.heap.size < v5.heap.size from HT5.out.mem.choose_spec.1.1)
  have HCl := Lib.hid (fun (u : World) (hu : Below v5.heap.size v5 u) => And.intro ((hu.cell (p := ⟨g4, 0, none⟩) HX5.out.1).trans (HX5.out.2.1 0 _ rfl)) ((hu.cell (p := ⟨g4, 1, none⟩) HX5.out.1).trans (HX5.out.2.1 1 _ rfl)))
  have q := HCl.out _ (Below.refl _ _)
  go_wp2_with fail
  refine (HFk.out _ (Below.refl _ _)).mono ?_
  rintro e v6 ⟨rfl, h6, h7, h8, h9⟩
  have hb6 := below_next (Below.refl _ _) h9
  obtain ⟨o, ho⟩ : ∃ o, o = v5.heap.size := ⟨_, rfl⟩
  obtain ⟨S2, hS2⟩ : ∃ S2 : Nat → Prop, S2 = fun k => k = w.heap.size ∨ k = v5.heap.size := ⟨_, rfl⟩
  have HTm := Lib.hid (show Tw S2 v6 w.heap.size T4 top4 A4 es4 80 from ⟨by rw [hS2]; exact h6, by rw [hS2]; exact (HT5.out.row.later (fun k h => h.imp id (fun e => by omega))).below h9, HT5.out.same, HT5.out.inv, HT5.out.few, HT5.out.low⟩)
  have HTo := Lib.hid (show Tw S2 v6 o T4 top4 A4 es4 80 from ⟨by rw [hS2, ho]; exact h7, by rw [hS2]; exact (HT5.out.row.later (fun k h => h.imp id (fun e => by omega))).below h9, HT5.out.same, HT5.out.inv, HT5.out.few, HT5.out.low⟩)
  have HOo := Lib.hid (show w.heap.size < o ∧ o < v6.heap.size by rw [ho]; exact ⟨HMs.out, h8⟩)
  have HSs := Lib.hid (show ∀ k, S2 k ↔ (k = w.heap.size ∨ k = o) from fun k => by rw [hS2, ho])
  rw [← ho]
  clear h6 h7 h8 h9 hS2 ho q
  have q := HCl.out _ hb6
  have HAl := Lib.hid (fun (u : World) (hu : Below v6.heap.size v6 u) => all_any _ _ T4 top4 u (HTo.out.mem.below hu) HTo.out.inv (by have := HLen.out; omega))
  have HSa := Lib.hid (fun (u : World) (B : Option Addr) (c : Nat) (es : List Bk.P) (hu : Below v6.heap.size v6 u) (h1 : RdE u B es.length es) (h2 : es.map (fun z => z.1) = T4.row.map (fun z => z.1)) => sameall_yes (c := c) (d := c4) h1 (HTo.out.row.rd.below hu) (by rw [map_length h2, ← HLen.out.1]; have := HLen.out.2; omega) (by have := HLen.out.2; omega) (h2.trans HTo.out.same.symm))
  have HC6 := Lib.hid (fun (u : World) (hu : Below v6.heap.size v6 u) => (HCl.out _ (below_next hb6 hu)))
  have HB6 := Lib.hid (HB5.out.trans (hb6.mono HB5.out.size))
  have HD := Lib.hid (show Below v6.heap.size v6 v6.drew from (Below.refl _ _).drew)
  clear hb6
  go_wp2_with fail
  go_region_held3 (fun wx => wx.cell? ⟨g4, 0, none⟩ = some (.slice A4 es4.length c4) ∧ wx.cell? ⟨g4, 1, none⟩ = some (.int .i64 top4)) (first | exact q | exact HC6.out _ hb7 | exact HC6.out _ hb8) (first
    | (go_at_call 19; (with_reducible refine (HAl.out _ HD.out).mono ?_); rintro e v7 ⟨B7, c7, es7, rfl, h6, h7, h8⟩; have hb7 := below_next HD.out h8; have HE7 := Lib.hid (And.intro h6 h7.rde); clear h6 h7 h8)
    | (go_at_call 18; (with_reducible refine (HSa.out _ B7 c7 es7 hb7 HE7.out.2 HE7.out.1).mono ?_); rintro e v8 ⟨rfl, hb8'⟩; have hb8 := below_next hb7 hb8'; clear hb8'))
  clear q
  have q := HC6.out _ hb8
  go_wp2_with fail
  have HB8 := Lib.hid (HB6.out.trans (hb8.mono HB6.out.size))
  have HT8 := Lib.hid (And.intro (HTm.out.below hb8) (HTo.out.below hb8))
  have HO8 := Lib.hid (Nat.lt_of_lt_of_le HOo.out.2 hb8.size)
  have HC8 := Lib.hid (fun (u : World) (hu : Below v8.heap.size v8 u) => HC6.out _ (below_next hb8 hu))
  clear hb8 hb7
  go_cut [11, 12] from 51 to 52 (fun t11 t12 W => ∃ gx gy, t11 = .pointer (some ⟨gx, 0, none⟩) ∧ t12 = .pointer (some ⟨gy, 0, none⟩) ∧ gx ≠ gy ∧ v8.heap.size ≤ gx ∧ v8.heap.size ≤ gy ∧ Hid (Holds W gx [.slice A4 es4.length c4, .int .i64 top4] ∧ Holds W gy [.slice A4 es4.length c4, .int .i64 top4] ∧ Below v8.heap.size v8 W))
  case first =>
    go_region_held3 (fun wx => wx.cell? ⟨g4, 0, none⟩ = some (.slice A4 es4.length c4) ∧ wx.cell? ⟨g4, 1, none⟩ = some (.int .i64 top4)) ((first | exact q | (refine HC8.out _ ?_; repeat (first | exact Below.refl _ _ | refine Below.drew ?_ | refine Below.alloc ?_ (by (try simp); (try omega)) _ | refine below_set ?_ _ _ (by (try simp); (try omega)))))) (fail)
    all_goals
      have HN := Lib.hid (show Holds ((v8.alloc (.cells #[Value.slice A4 es4.length c4, .int .i64 top4] 34)).alloc (.cells #[Value.slice A4 es4.length c4, .int .i64 top4] 34)).drew v8.heap.size [.slice A4 es4.length c4, .int .i64 top4] ∧ Holds ((v8.alloc (.cells #[Value.slice A4 es4.length c4, .int .i64 top4] 34)).alloc (.cells #[Value.slice A4 es4.length c4, .int .i64 top4] 34)).drew (v8.heap.size + 1) [.slice A4 es4.length c4, .int .i64 top4] ∧ Below v8.heap.size v8 ((v8.alloc (.cells #[Value.slice A4 es4.length c4, .int .i64 top4] 34)).alloc (.cells #[Value.slice A4 es4.length c4, .int .i64 top4] 34)).drew by
        have h1 := Holds.new v8 #[Value.slice A4 es4.length c4, .int .i64 top4] 34
        have h2 := Holds.new (v8.alloc (.cells #[Value.slice A4 es4.length c4, .int .i64 top4] 34)) #[Value.slice A4 es4.length c4, .int .i64 top4] 34
        rw [World.size_alloc] at h2
        exact ⟨(h1.alloc _).drew, h2.drew, (((Below.refl _ _).alloc (Nat.le_refl _) _).alloc (by simp) _).drew⟩)
    · go_wp2_with fail
      go_meet
      case rel => exact ⟨_, _, rfl, rfl, by omega, by omega, by omega, Lib.hid ⟨HN.out.1, HN.out.2.1, HN.out.2.2⟩⟩
    · go_wp2_with fail
      go_meet
      case rel => exact ⟨_, _, rfl, rfl, by omega, by omega, by omega, Lib.hid ⟨HN.out.2.1, HN.out.1, HN.out.2.2⟩⟩
  case rest =>
    obtain ⟨gx, gy, rfl, rfl, hne, hgx, hgy, HG⟩ := hcut
    have HBc := Lib.hid (HB8.out.trans (HG.out.2.2.mono HB8.out.size))
    have HNe := Lib.hid (show gx ≠ gy ∧ v8.heap.size ≤ gx ∧ v8.heap.size ≤ gy from ⟨hne, hgx, hgy⟩)
    obtain ⟨U, hU⟩ : ∃ U : Nat → Prop, U = fun k => k = w.heap.size ∨ k = o ∨ k = gx ∨ k = gy := ⟨_, rfl⟩
    have HU := Lib.hid (show (∀ k, U k ↔ (k = w.heap.size ∨ k = o ∨ k = gx ∨ k = gy)) from fun k => by rw [hU])
    clear hU hne hgx hgy
    have HW8 := Lib.hid HB8.out.size
    have HIn := Lib.hid (show U w.heap.size ∧ U o ∧ U gx ∧ U gy ∧ (∀ k, U k → w.heap.size ≤ k) ∧ (∀ k, U k → S2 k ∨ v8.heap.size ≤ k) from ⟨(HU.out _).2 (.inl rfl), (HU.out _).2 (.inr (.inl rfl)), (HU.out _).2 (.inr (.inr (.inl rfl))), (HU.out _).2 (.inr (.inr (.inr rfl))), fun k h => by
        have h1 := HOo.out
        have h2 := HNe.out
        have h3 := HW8.out
        rcases (HU.out k).1 h with h | h | h | h <;> omega, fun k h => by
        rcases (HU.out k).1 h with h | h | h | h
        · exact .inl ((HSs.out k).2 (.inl h))
        · exact .inl ((HSs.out k).2 (.inr h))
        · exact .inr (by rw [h]; exact HNe.out.2.1)
        · exact .inr (by rw [h]; exact HNe.out.2.2)⟩)
    have HUc := Lib.hid (show ∀ k, U k → k < wc.heap.size from fun k h => by
        have h1 := HOo.out
        have h2 := HG.out.1.1
        have h3 := HG.out.2.1.1
        have h4 := HO8.out
        have h5 := HG.out.2.2.size
        rcases (HU.out k).1 h with h | h | h | h <;> omega)
    have HDf := Lib.hid (show w.heap.size ≠ o ∧ gx ≠ gy ∧ w.heap.size ≠ gx ∧ w.heap.size ≠ gy ∧ o ≠ gx ∧ o ≠ gy ∧ w.heap.size ≤ gx ∧ w.heap.size ≤ gy ∧ w.heap.size ≤ o from by
        have h1 := HOo.out
        have h2 := HNe.out
        have h4 := HO8.out
        omega)
    go_wp2_with fail
    refine (few_new A1 l1.length c1 l1 wc (HRa.out.below HBc.out) HWa.out).mono ?_
    rintro e va ⟨Ba, ca, rfl, hna, hra, hba⟩
    have HXa := Lib.hid (few_apart2 HRa.out HIn.out.2.2.2.2.1 hra (fun h1 g oo e k hk => Nat.lt_of_lt_of_le (HUc.out k hk) (hna h1 g oo e)))
    have HBa := Lib.hid (below_next HBc.out hba)
    have HUa := Lib.hid (fun k h => Nat.lt_of_lt_of_le (HUc.out k h) hba.size)
    have HGa := Lib.hid (And.intro (HG.out.1.below hba) (And.intro (HG.out.2.1.below hba) (below_next HG.out.2.2 hba)))
    clear hna hra hba
    go_wp2_with fail
    refine (few_new A2 l2.length c2 l2 va (HRb.out.below HBa.out) HWb.out).mono ?_
    rintro e vb ⟨Bb, cb, rfl, hnb, hrb, hbb⟩
    have HXb := Lib.hid (few_apart2 HRb.out HIn.out.2.2.2.2.1 hrb (fun h1 g oo e k hk => Nat.lt_of_lt_of_le (HUa.out k hk) (hnb h1 g oo e)))
    have HXa2 := Lib.hid (HXa.out.below hbb)
    have HF0 := Lib.hid (show Fk U w vb w.heap.size gx T4 top4 A4 c4 es4 80 o gy T4 top4 A4 c4 es4 80 from ⟨(HT8.out.1.later HIn.out.2.2.2.2.2 HIn.out.1).below (below_next HGa.out.2.2 hbb), (HT8.out.2.later HIn.out.2.2.2.2.2 HIn.out.2.1).below (below_next HGa.out.2.2 hbb), HGa.out.1.below hbb, HGa.out.2.1.below hbb, fun k h => Nat.lt_of_lt_of_le (HUa.out k h) hbb.size, below_next HBa.out hbb⟩)
    clear hnb hrb hbb
    have HNa := Lib.hid (few_len80 l1)
    have HNb := Lib.hid (few_len80 l2)
    generalize Bk.few l1 = xa at HXa HXa2 HNa ⊢
    generalize Bk.few l2 = xb at HXb HNb ⊢
    clear HXa HGa HUa HBa HUc HBc HG
    go_wp2_with fail
    go_loopw [13] (fun ii wr => ∃ (k : Nat) (A : Option Addr) (c : Nat) (es : List Bk.P) (T : Bk.Tr) (top : Int), k ≤ xa.length ∧ ii = .int .i64 (k : Int) ∧ Hid (Fk U w wr w.heap.size gx T top A c es (80 + k) o gy T4 top4 A4 c4 es4 80) ∧ Hid (RdS U wr Ba xa.length xa ∧ RdS U wr Bb xb.length xb)) (fun ii _ => xa.length - (intOf ii).toNat)
    case atStart => exact ⟨0, _, _, _, _, _, by omega, rfl, Lib.hid HF0.out, Lib.hid ⟨HXa2.out, HXb.out⟩⟩
    case round =>
      rename_i wr hrel
      obtain ⟨k, A, c, es, T, top, hk, rfl, HF, HX⟩ := hrel
      by_cases hlt : k < xa.length
      · have hki : (k : Int) < (xa.length : Int) := by omega
        obtain ⟨y, hy⟩ : ∃ y, xa[k]? = some y := ⟨_, List.getElem?_eq_getElem hlt⟩
        obtain ⟨bx, ox, hB, hblx, hnSx, hcx, hAtx⟩ := HX.out.1.cells hy
        subst hB
        obtain ⟨c0, c1, c2', c3⟩ := hcx
        have HUr := Lib.hid HF.out.low
        have hlen := HF.out.p.len
        have hfew := HF.out.p.few
        have hlow := HF.out.p.low
        have hrs := T.row_size
        have hn80 := HNa.out
        have Pt := Lib.hid (put_any U w.heap.size T top y wr HF.out.p.mem HUr.out hAtx.1 (by omega) (by omega))
        have HAt := Lib.hid hAtx
        have HPE := Lib.hid (Bk.putE_eq HF.out.p.inv HF.out.p.same y)
        have HY := Lib.hid hy
        have hln : es.length ≤ 100000 := by omega
        clear hfew hlow hrs hlen hy hAtx
        have HLn := Lib.hid hln
        clear hln
        obtain ⟨⟨key, seq, del, val⟩, V, vn, vc⟩ := y
        obtain ⟨r, hr⟩ : ∃ r, r = Bk.rputE es top (⟨key, seq, del, val⟩, V, vn, vc) := ⟨_, rfl⟩
        have HRE := Lib.hid hr
        clear hr
        have Pt2 : Hid (Calls Try.prog 29 #[.pointer (some ⟨w.heap.size, 0, none⟩), .agg #[.string key, .int .i64 seq, .bool del, .slice V vn vc]] wr fun e w' => e = .returned (.int .i64 r) ∧ ∃ T' top', Bk.IsM U w' w.heap.size T' top' ∧ wr.grownBy w' (some w.heap.size) ∧ (Bk.putE T top (⟨key, seq, del, val⟩, V, vn, vc) ≠ 0 → T' = T ∧ top' = top) ∧ (Bk.putE T top (⟨key, seq, del, val⟩, V, vn, vc) = 0 → ∃ V' c', T' = Bk.Tr.ins (⟨key, seq, del, val⟩, V', vn, c') T ∧ top' = seq)) := Lib.hid (by have h := Pt.out; unfold GivesPut at h; rw [HPE.out, ← HRE.out] at h; rw [HPE.out, ← HRE.out]; exact h)
        clear Pt
        go_upto_region 14 with (go_at_call 29; refine Pt2.out.mono ?_; rintro e w5 ⟨rfl, T', top', hM', hg', hno, hyes⟩)
        have HP := Lib.hid (And.intro hM' (And.intro hno hyes))
        have HG := Lib.hid hg'
        clear hM' hno hyes hg' c0 c1 c2' c3
        have hUm := HIn.out.1
        have hUx := HIn.out.2.2.1
        have HUU := Lib.hid (And.intro hUm hUx)
        have HX5 := Lib.hid (HX.out.1.sm (Sm.of_grown HG.out hUm))
        have HR5 := Lib.hid (HF.out.p.row.sm (Sm.of_grown HG.out hUm))
        have HA5 := Lib.hid (HAt.out.sm (Sm.of_grown HG.out hUm))
        have HU5 := Lib.hid (fun k h => Nat.lt_of_lt_of_le (HUr.out k h) HG.out.size)
        have HBx := Lib.hid (HF.out.bx.grown HG.out (fun e => by injection e with e; exact HDf.out.2.2.1 e))
        clear hUm hUx
        have hcx5 := HX5.out.cells HY.out
        obtain ⟨b', o', hA', _, _, hc5, _⟩ := hcx5
        injection hA' with hA'
        injection hA' with e1 e2
        subst e1 e2
        have HC5 := Lib.hid hc5
        have HBl := Lib.hid (Nat.lt_of_lt_of_le hblx HG.out.size)
        clear hc5 hblx hnSx
        have Rp2 : Hid (∀ u, Below w5.heap.size w5 u → Calls Try.prog 30 #[.agg #[.slice A es.length c, .int .i64 top], .agg #[.string key, .int .i64 seq, .bool del, .slice V vn vc]] u (GivesRPut U u es top (⟨key, seq, del, val⟩, V, vn, vc))) := Lib.hid (fun (u : World) (hu : Below w5.heap.size w5 u) => rput_any U A es.length c es top (⟨key, seq, del, val⟩, V, vn, vc) u (levelS HU5.out hu) (HR5.out.below hu) (HA5.out.sm (.of_below hu)) HLn.out)
        have Rp3 : Hid (Calls Try.prog 30 #[.agg #[.slice A es.length c, .int .i64 top], .agg #[.string key, .int .i64 seq, .bool del, .slice V vn vc]] (w5.alloc (.cells #[Value.slice none 0 0, .int .i64 0] 34)).drew (GivesRPut (fun k => U k ∨ k = w5.heap.size) (w5.alloc (.cells #[Value.slice none 0 0, .int .i64 0] 34)).drew es top (⟨key, seq, del, val⟩, V, vn, vc))) := Lib.hid (by
          have hD : Below w5.heap.size w5 (w5.alloc (.cells #[Value.slice none 0 0, .int .i64 0] 34)).drew := ((Below.refl _ _).alloc (Nat.le_refl _) _).drew
          have hT : ∀ k, (U k ∨ k = w5.heap.size) → U k ∨ w5.heap.size ≤ k := fun k h => h.imp id (fun e => by omega)
          exact rput_any (fun k => U k ∨ k = w5.heap.size) A es.length c es top (⟨key, seq, del, val⟩, V, vn, vc) _ (fun k h => h.elim (levelS HU5.out hD k) (fun e => by rw [e]; simp)) ((HR5.out.later hT).below hD) (Bk.AtS.sm ⟨HA5.out.1, Av.later HA5.out.1.1 HA5.out.2 hT⟩ (.of_below hD)) HLn.out)
        have HCl5 := Lib.hid (fun (u : World) (hu : Below w5.heap.size w5 u) => lput_cells HBx.out HC5.out HBl.out hu)
        have q5 := HCl5.out _ (Below.refl _ _)
        have HD5 := Lib.hid (show Below w5.heap.size w5 w5.drew from (Below.refl _ _).drew)
        have HDa := Lib.hid (show Below w5.heap.size w5 (w5.alloc (.cells #[Value.slice none 0 0, .int .i64 0] 34)).drew from ((Below.refl _ _).alloc (Nat.le_refl _) _).drew)
        go_cut [15, 16] from 69 to 77 (fun t9 t10 W => ∃ (g9 : Nat) (A' : Option Addr) (c' : Nat) (es' : List Bk.P) (rtop : Int), t9 = .pointer (some ⟨g9, 0, none⟩) ∧ t10 = .int .i64 r ∧ Hid (InBox U w5 W g9 A' c' es es' top rtop (⟨key, seq, del, val⟩, V, vn, vc)))
        case first =>
          go_region_held3 (fun wx => wx.cell? ⟨gx, 0, none⟩ = some (.slice A es.length c) ∧ wx.cell? ⟨gx, 1, none⟩ = some (.int .i64 top) ∧ wx.cell? ⟨bx, ox + k * 4, none⟩ = some (.string key) ∧ wx.cell? ⟨bx, ox + k * 4 + 1, none⟩ = some (.int .i64 seq) ∧ wx.cell? ⟨bx, ox + k * 4 + 2, none⟩ = some (.bool del) ∧ wx.cell? ⟨bx, ox + k * 4 + 3, none⟩ = some (.slice V vn vc)) (first | exact q5 | exact HCl5.out _ hb6 | exact HCl5.out _ HDa.out | exact HCl5.out _ (hb6.alloc hb6.size _) | exact HKs.out _ _) (first
            | (go_at_call 30; (with_reducible refine (Rp2.out _ HD5.out).mono ?_); rintro e v6 ⟨A', c', es', rtop, he, hR', hb6', hno', hyes'⟩; rw [← HRE.out] at he; subst he; have hb6 := below_next HD5.out hb6'; have HO := Lib.hid (And.intro hR' (And.intro hb6' (And.intro hno' hyes'))); clear hR' hb6' hno' hyes')
            | (go_at_call 30; (with_reducible refine Rp3.out.mono ?_); rintro e v6 ⟨A', c', es', rtop, he, hR', hb6', hno', hyes'⟩; rw [← HRE.out] at he; subst he; have hb6 := below_next HDa.out hb6'; have HN6 := Lib.hid ((Holds.new w5 #[Value.slice none 0 0, .int .i64 0] 34).drew.below hb6'); have n0 := HN6.out.2.1 0 _ rfl; have n1 := HN6.out.2.1 1 _ rfl; have nf := HN6.out.2.2; have HKs := Lib.hid (fun (u0 u1 : Value) => lput_keep (HCl5.out _ hb6) HBx.out.1 HBl.out u0 u1); have HO := Lib.hid (And.intro hR' (And.intro hb6' (And.intro hno' hyes'))); clear hR' hb6' hno' hyes'))
          · go_wp2_with fail
            go_meet
            case rel =>
              have ha := (Below.refl v6.heap.size v6).alloc (Nat.le_refl _) (.cells #[Value.slice A' es'.length c', .int .i64 rtop] 34)
              exact ⟨v6.heap.size, A', c', es', rtop, rfl, rfl, Lib.hid ⟨Holds.new v6 #[Value.slice A' es'.length c', .int .i64 rtop] 34, HO.out.1.below ha, below_next hb6 ha, HO.out.2.2.1, HO.out.2.2.2, hb6.size⟩⟩
          · go_wp2_with fail
            go_meet
            case rel =>
              exact ⟨w5.heap.size, A', c', es', rtop, rfl, rfl, Lib.hid (inbox_two HDa.out HO.out.2.1 HU5.out HN6.out (Nat.le_refl _) (HO.out.1.mono (fun k h => .inl h)) ⟨(HO.out.1.mono (S := fun k => k = w5.heap.size) (fun k h => .inr h)).av, (HO.out.1.mono (S := fun k => k = w5.heap.size) (fun k h => .inr h)).vals⟩ HO.out.2.2.1 HO.out.2.2.2)⟩
        case rest =>
          obtain ⟨g9, A', c', es', rtop, rfl, rfl, HI⟩ := hcut
          have HFn := Lib.hid (Fk.step HF.out HDf.out.1 HDf.out.2.1 HDf.out.2.2.1 HDf.out.2.2.2.1 HDf.out.2.2.2.2.1 HUU.out.1 HUU.out.2 HDf.out.2.2.2.2.2.2.1 (Nat.le_refl _) HAt.out.1 HP.out.1 HG.out HP.out.2.1 HP.out.2.2 HI.out)
          have HXn := Lib.hid (fun (y z : Value) => And.intro (HX.out.1.step HUU.out.1 HUU.out.2 HG.out HI.out (y := y) (z := z)) (HX.out.2.step HUU.out.1 HUU.out.2 HG.out HI.out (y := y) (z := z)))
          have hBq := HBx.out.below HI.out.below
          have p0 := HI.out.box.2.1 0 _ rfl
          have p1 := HI.out.box.2.1 1 _ rfl
          have s0 := hBq.2.1 0 _ rfl
          have s1 := hBq.2.1 1 _ rfl
          have sf := hBq.2.2
          clear q5 hBq
          go_wp2
          go_roundw
          case rel => exact ⟨k + 1, A', c', es', T', top', by omega, by go_num, Lib.hid HFn.out, Lib.hid (HXn.out _ _)⟩
          case measure => simp [intOf]; omega
      · have hkn : k = xa.length := by omega
        subst hkn
        have hnk : ¬ (xa.length : Int) < (xa.length : Int) := by omega
        clear hlt
        have HF1 := HF
        have HXr := Lib.hid HX.out.2
        clear HF HX
        revert HF1
        generalize T = T1, top = top1, A = A1x, c = c1x, es = es1
        intro HF1
        go_wp2_with fail
        go_loopw [17] (fun ii wr => ∃ (k : Nat) (A : Option Addr) (c : Nat) (es : List Bk.P) (T : Bk.Tr) (top : Int), k ≤ xb.length ∧ ii = .int .i64 (k : Int) ∧ Hid (Fk U w wr o gy T top A c es (80 + k) w.heap.size gx T1 top1 A1x c1x es1 (80 + xa.length)) ∧ Hid (RdS U wr Bb xb.length xb)) (fun ii _ => xb.length - (intOf ii).toNat)
        case atStart => exact ⟨0, _, _, _, _, _, by omega, rfl, Lib.hid HF1.out.swap, Lib.hid HXr.out⟩
        case round =>
          rename_i wr hrel
          obtain ⟨k, A, c, es, T, top, hk, rfl, HF, HX⟩ := hrel
          by_cases hlt : k < xb.length
          · have hki : (k : Int) < (xb.length : Int) := by omega
            obtain ⟨y, hy⟩ : ∃ y, xb[k]? = some y := ⟨_, List.getElem?_eq_getElem hlt⟩
            obtain ⟨bx, ox, hB, hblx, hnSx, hcx, hAtx⟩ := HX.out.cells hy
            subst hB
            obtain ⟨c0, c1, c2', c3⟩ := hcx
            have HUr := Lib.hid HF.out.low
            have hlen := HF.out.p.len
            have hfew := HF.out.p.few
            have hlow := HF.out.p.low
            have hrs := T.row_size
            have hn80 := HNb.out
            have Pt := Lib.hid (put_any U o T top y wr HF.out.p.mem HUr.out hAtx.1 (by omega) (by omega))
            have HAt := Lib.hid hAtx
            have HPE := Lib.hid (Bk.putE_eq HF.out.p.inv HF.out.p.same y)
            have HY := Lib.hid hy
            have hln : es.length ≤ 100000 := by omega
            clear hfew hlow hrs hlen hy hAtx
            have HLn := Lib.hid hln
            clear hln
            obtain ⟨⟨key, seq, del, val⟩, V, vn, vc⟩ := y
            obtain ⟨r, hr⟩ : ∃ r, r = Bk.rputE es top (⟨key, seq, del, val⟩, V, vn, vc) := ⟨_, rfl⟩
            have HRE := Lib.hid hr
            clear hr
            have Pt2 : Hid (Calls Try.prog 29 #[.pointer (some ⟨o, 0, none⟩), .agg #[.string key, .int .i64 seq, .bool del, .slice V vn vc]] wr fun e w' => e = .returned (.int .i64 r) ∧ ∃ T' top', Bk.IsM U w' o T' top' ∧ wr.grownBy w' (some o) ∧ (Bk.putE T top (⟨key, seq, del, val⟩, V, vn, vc) ≠ 0 → T' = T ∧ top' = top) ∧ (Bk.putE T top (⟨key, seq, del, val⟩, V, vn, vc) = 0 → ∃ V' c', T' = Bk.Tr.ins (⟨key, seq, del, val⟩, V', vn, c') T ∧ top' = seq)) := Lib.hid (by have h := Pt.out; unfold GivesPut at h; rw [HPE.out, ← HRE.out] at h; rw [HPE.out, ← HRE.out]; exact h)
            clear Pt
            go_upto_region 22 with (go_at_call 29; refine Pt2.out.mono ?_; rintro e w5 ⟨rfl, T', top', hM', hg', hno, hyes⟩)
            have HP := Lib.hid (And.intro hM' (And.intro hno hyes))
            have HG := Lib.hid hg'
            clear hM' hno hyes hg' c0 c1 c2' c3
            have hUm := HIn.out.2.1
            have hUx := HIn.out.2.2.2.1
            have HUU := Lib.hid (And.intro hUm hUx)
            have HX5 := Lib.hid (HX.out.sm (Sm.of_grown HG.out hUm))
            have HR5 := Lib.hid (HF.out.p.row.sm (Sm.of_grown HG.out hUm))
            have HA5 := Lib.hid (HAt.out.sm (Sm.of_grown HG.out hUm))
            have HU5 := Lib.hid (fun k h => Nat.lt_of_lt_of_le (HUr.out k h) HG.out.size)
            have HBx := Lib.hid (HF.out.bx.grown HG.out (fun e => by injection e with e; exact HDf.out.2.2.2.2.2.1 e))
            clear hUm hUx
            have hcx5 := HX5.out.cells HY.out
            obtain ⟨b', o', hA', _, _, hc5, _⟩ := hcx5
            injection hA' with hA'
            injection hA' with e1 e2
            subst e1 e2
            have HC5 := Lib.hid hc5
            have HBl := Lib.hid (Nat.lt_of_lt_of_le hblx HG.out.size)
            clear hc5 hblx hnSx
            have Rp2 : Hid (∀ u, Below w5.heap.size w5 u → Calls Try.prog 30 #[.agg #[.slice A es.length c, .int .i64 top], .agg #[.string key, .int .i64 seq, .bool del, .slice V vn vc]] u (GivesRPut U u es top (⟨key, seq, del, val⟩, V, vn, vc))) := Lib.hid (fun (u : World) (hu : Below w5.heap.size w5 u) => rput_any U A es.length c es top (⟨key, seq, del, val⟩, V, vn, vc) u (levelS HU5.out hu) (HR5.out.below hu) (HA5.out.sm (.of_below hu)) HLn.out)
            have Rp3 : Hid (Calls Try.prog 30 #[.agg #[.slice A es.length c, .int .i64 top], .agg #[.string key, .int .i64 seq, .bool del, .slice V vn vc]] (w5.alloc (.cells #[Value.slice none 0 0, .int .i64 0] 34)).drew (GivesRPut (fun k => U k ∨ k = w5.heap.size) (w5.alloc (.cells #[Value.slice none 0 0, .int .i64 0] 34)).drew es top (⟨key, seq, del, val⟩, V, vn, vc))) := Lib.hid (by
              have hD : Below w5.heap.size w5 (w5.alloc (.cells #[Value.slice none 0 0, .int .i64 0] 34)).drew := ((Below.refl _ _).alloc (Nat.le_refl _) _).drew
              have hT : ∀ k, (U k ∨ k = w5.heap.size) → U k ∨ w5.heap.size ≤ k := fun k h => h.imp id (fun e => by omega)
              exact rput_any (fun k => U k ∨ k = w5.heap.size) A es.length c es top (⟨key, seq, del, val⟩, V, vn, vc) _ (fun k h => h.elim (levelS HU5.out hD k) (fun e => by rw [e]; simp)) ((HR5.out.later hT).below hD) (Bk.AtS.sm ⟨HA5.out.1, Av.later HA5.out.1.1 HA5.out.2 hT⟩ (.of_below hD)) HLn.out)
            have HCl5 := Lib.hid (fun (u : World) (hu : Below w5.heap.size w5 u) => lput_cells HBx.out HC5.out HBl.out hu)
            have q5 := HCl5.out _ (Below.refl _ _)
            have HD5 := Lib.hid (show Below w5.heap.size w5 w5.drew from (Below.refl _ _).drew)
            have HDa := Lib.hid (show Below w5.heap.size w5 (w5.alloc (.cells #[Value.slice none 0 0, .int .i64 0] 34)).drew from ((Below.refl _ _).alloc (Nat.le_refl _) _).drew)
            go_cut [19, 20] from 94 to 102 (fun t9 t10 W => ∃ (g9 : Nat) (A' : Option Addr) (c' : Nat) (es' : List Bk.P) (rtop : Int), t9 = .pointer (some ⟨g9, 0, none⟩) ∧ t10 = .int .i64 r ∧ Hid (InBox U w5 W g9 A' c' es es' top rtop (⟨key, seq, del, val⟩, V, vn, vc)))
            case first =>
              go_region_held3 (fun wx => wx.cell? ⟨gy, 0, none⟩ = some (.slice A es.length c) ∧ wx.cell? ⟨gy, 1, none⟩ = some (.int .i64 top) ∧ wx.cell? ⟨bx, ox + k * 4, none⟩ = some (.string key) ∧ wx.cell? ⟨bx, ox + k * 4 + 1, none⟩ = some (.int .i64 seq) ∧ wx.cell? ⟨bx, ox + k * 4 + 2, none⟩ = some (.bool del) ∧ wx.cell? ⟨bx, ox + k * 4 + 3, none⟩ = some (.slice V vn vc)) (first | exact q5 | exact HCl5.out _ hb6 | exact HCl5.out _ HDa.out | exact HCl5.out _ (hb6.alloc hb6.size _) | exact HKs.out _ _) (first
                | (go_at_call 30; (with_reducible refine (Rp2.out _ HD5.out).mono ?_); rintro e v6 ⟨A', c', es', rtop, he, hR', hb6', hno', hyes'⟩; rw [← HRE.out] at he; subst he; have hb6 := below_next HD5.out hb6'; have HO := Lib.hid (And.intro hR' (And.intro hb6' (And.intro hno' hyes'))); clear hR' hb6' hno' hyes')
                | (go_at_call 30; (with_reducible refine Rp3.out.mono ?_); rintro e v6 ⟨A', c', es', rtop, he, hR', hb6', hno', hyes'⟩; rw [← HRE.out] at he; subst he; have hb6 := below_next HDa.out hb6'; have HN6 := Lib.hid ((Holds.new w5 #[Value.slice none 0 0, .int .i64 0] 34).drew.below hb6'); have n0 := HN6.out.2.1 0 _ rfl; have n1 := HN6.out.2.1 1 _ rfl; have nf := HN6.out.2.2; have HKs := Lib.hid (fun (u0 u1 : Value) => lput_keep (HCl5.out _ hb6) HBx.out.1 HBl.out u0 u1); have HO := Lib.hid (And.intro hR' (And.intro hb6' (And.intro hno' hyes'))); clear hR' hb6' hno' hyes'))
              · go_wp2_with fail
                go_meet
                case rel =>
                  have ha := (Below.refl v6.heap.size v6).alloc (Nat.le_refl _) (.cells #[Value.slice A' es'.length c', .int .i64 rtop] 34)
                  exact ⟨v6.heap.size, A', c', es', rtop, rfl, rfl, Lib.hid ⟨Holds.new v6 #[Value.slice A' es'.length c', .int .i64 rtop] 34, HO.out.1.below ha, below_next hb6 ha, HO.out.2.2.1, HO.out.2.2.2, hb6.size⟩⟩
              · go_wp2_with fail
                go_meet
                case rel =>
                  exact ⟨w5.heap.size, A', c', es', rtop, rfl, rfl, Lib.hid (inbox_two HDa.out HO.out.2.1 HU5.out HN6.out (Nat.le_refl _) (HO.out.1.mono (fun k h => .inl h)) ⟨(HO.out.1.mono (S := fun k => k = w5.heap.size) (fun k h => .inr h)).av, (HO.out.1.mono (S := fun k => k = w5.heap.size) (fun k h => .inr h)).vals⟩ HO.out.2.2.1 HO.out.2.2.2)⟩
            case rest =>
              obtain ⟨g9, A', c', es', rtop, rfl, rfl, HI⟩ := hcut
              have HFn := Lib.hid (Fk.step HF.out (fun e => HDf.out.1 e.symm) (fun e => HDf.out.2.1 e.symm) HDf.out.2.2.2.2.2.1 HDf.out.2.2.2.2.1 HDf.out.2.2.2.1 HUU.out.1 HUU.out.2 HDf.out.2.2.2.2.2.2.2.1 HDf.out.2.2.2.2.2.2.2.2 HAt.out.1 HP.out.1 HG.out HP.out.2.1 HP.out.2.2 HI.out)
              have HXn := Lib.hid (fun (y z : Value) => HX.out.step HUU.out.1 HUU.out.2 HG.out HI.out (y := y) (z := z))
              have hBq := HBx.out.below HI.out.below
              have p0 := HI.out.box.2.1 0 _ rfl
              have p1 := HI.out.box.2.1 1 _ rfl
              have s0 := hBq.2.1 0 _ rfl
              have s1 := hBq.2.1 1 _ rfl
              have sf := hBq.2.2
              clear q5 hBq
              go_wp2
              go_roundw
              case rel => exact ⟨k + 1, A', c', es', T', top', by omega, by go_num, Lib.hid HFn.out, Lib.hid (HXn.out _ _)⟩
              case measure => simp [intOf]; omega
          · have hkn : k = xb.length := by omega
            subst hkn
            have hnk : ¬ (xb.length : Int) < (xb.length : Int) := by omega
            clear hlt
            have hA1 := HF.out.q.len
            have hA2 := HF.out.q.few
            have hA3 := T1.row_size
            have hA4 := HF.out.p.len
            have hA5 := HF.out.p.few
            have hA6 := T.row_size
            have HL := Lib.hid (show es1.length ≤ 200 ∧ es.length ≤ 200 ∧ T1.row.length ≤ 200 ∧ T.row.length ≤ 200 by have := HNa.out; have := HNb.out; omega)
            clear hA1 hA2 hA3 hA4 hA5 hA6
            have HAl1 := Lib.hid (fun (u : World) (hu : Below wr.heap.size wr u) => all_any U w.heap.size T1 top1 u (HF.out.q.mem.below hu) HF.out.q.inv (by have := HL.out; omega))
            have HAl2 := Lib.hid (fun (u : World) (hu : Below wr.heap.size wr u) => all_any U o T top u (HF.out.p.mem.below hu) HF.out.p.inv (by have := HL.out; omega))
            have HSa1 := Lib.hid (fun (u : World) (B : Option Addr) (cc : Nat) (fs : List Bk.P) (hu : Below wr.heap.size wr u) (h1 : RdE u B fs.length fs) (h2 : fs.map (fun z => z.1) = T1.row.map (fun z => z.1)) => sameall_yes (c := cc) (d := c1x) h1 (HF.out.q.row.rd.below hu) (by rw [map_length h2]; have := HL.out; omega) (by have := HL.out; omega) (h2.trans HF.out.q.same.symm))
            have HSa2 := Lib.hid (fun (u : World) (B : Option Addr) (cc : Nat) (fs : List Bk.P) (hu : Below wr.heap.size wr u) (h1 : RdE u B fs.length fs) (h2 : fs.map (fun z => z.1) = T.row.map (fun z => z.1)) => sameall_yes (c := cc) (d := c) h1 (HF.out.p.row.rd.below hu) (by rw [map_length h2]; have := HL.out; omega) (by have := HL.out; omega) (h2.trans HF.out.p.same.symm))
            have HCe := Lib.hid (fun (u : World) (hu : Below wr.heap.size wr u) => (show u.cell? ⟨gx, 0, none⟩ = some (.slice A1x es1.length c1x) ∧ u.cell? ⟨gy, 0, none⟩ = some (.slice A es.length c) from ⟨(HF.out.by_.below hu).2.1 0 _ rfl, (HF.out.bx.below hu).2.1 0 _ rfl⟩))
            have q9 := HCe.out _ (Below.refl _ _)
            have HD9 := Lib.hid (show Below wr.heap.size wr wr.drew from (Below.refl _ _).drew)
            go_wp2_with fail
            go_region_held3 (fun wx => wx.cell? ⟨gx, 0, none⟩ = some (.slice A1x es1.length c1x) ∧ wx.cell? ⟨gy, 0, none⟩ = some (.slice A es.length c)) (first | exact q9 | exact HCe.out _ hb20 | exact HCe.out _ hb21 | exact HCe.out _ hb22 | exact HCe.out _ hb23) (first
              | (go_at_call 19; (with_reducible refine (HAl1.out _ HD9.out).mono ?_); rintro e v20 ⟨B20, c20, es20, rfl, h6, h7, h8⟩; have hb20 := below_next HD9.out h8; have HE20 := Lib.hid (And.intro h6 h7.rde); clear h6 h7 h8)
              | (go_at_call 18; (with_reducible refine (HSa1.out _ B20 c20 es20 hb20 HE20.out.2 HE20.out.1).mono ?_); rintro e v21 ⟨rfl, hb21'⟩; have hb21 := below_next hb20 hb21'; clear hb21')
              | (go_at_call 19; (with_reducible refine (HAl2.out _ hb21).mono ?_); rintro e v22 ⟨B22, c22, es22, rfl, h6, h7, h8⟩; have hb22 := below_next hb21 h8; have HE22 := Lib.hid (And.intro h6 h7.rde); clear h6 h7 h8)
              | (go_at_call 18; (with_reducible refine (HSa2.out _ B22 c22 es22 hb22 HE22.out.2 HE22.out.1).mono ?_); rintro e v23 ⟨rfl, hb23'⟩; have hb23 := below_next hb22 hb23'; clear hb23'))
            all_goals
              go_wp2
              go_ret
              exact ⟨rfl, HF.out.below.trans (hb23.mono HF.out.below.size)⟩
set_option maxRecDepth 100000 in
theorem lifted (os : Os) (started : os.Started) (H : Type) (enc : TypeId × Value → H) :
    ReturnsInHanded {} Try.checked os 7 .any (Rows.memForksSpec.pre6 enc Try.prog Try.f7 Rows.memForksRow.domain false) (Rows.memForksSpec.post enc Try.prog Try.f7 false true false false) := by
  refine returnsInHanded_of_change (C := Try.checked) own started (by kernel_rfl) Try.func7
    (ChangeSpec.witness6 (enc := enc) (C := Try.checked) false ⟨#[], #[.slice none 0 0, .slice none 0 0, .slice none 0 0], []⟩ 8 (by kernel_rfl) (by kernel_rfl) (by kernel_rfl) (by kernel_rfl)) ?_
  intro W base args ds gs before hval0 hW hcnd _
  have hval : ∀ (j : Nat) t v, Try.f7.params[j]? = some t → args[j]? = some v → Value.okWide Try.prog W .any base t v := hval0
  have hW' := hW
  obtain ⟨p, q, hA0, hV, rfl, hfz, hnd⟩ := hW
  have hA : DataW.TrodAll enc Try.prog W 0 (fun _ => true) true Try.f7.params.toList args.toList ds p := hA0
  rw [Try.params7] at hA hval
  obtain ⟨v0, vs0, d0, ds0, p0, q0, hargs, rfl, rfl, h0, t0⟩ := trodAll_cons hA
  obtain ⟨v1, vs1, d1, ds1, p1, q1, rfl, rfl, rfl, h1, t1⟩ := trodAll_cons t0
  obtain ⟨v2, vs2, d2, ds2, p2, q2, rfl, rfl, rfl, h2, t2⟩ := trodAll_cons t1
  obtain ⟨rfl, rfl, rfl⟩ := trodAll_nil t2
  obtain rfl : args = #[v0, v1, v2] := by cases args; simp_all
  obtain ⟨rfl, rfl⟩ := trodVars_none hV
  have k0 : Reads enc W 30 v0 d0 p0 := h0
  have lt0 : ∀ x ∈ p0, x.block < W.heap.size := by obtain ⟨m, hm⟩ := k0; exact DataW.trod_lt m _ _ _ hm
  obtain ⟨A0, m0, c0, l0, rfl, r0, wc0, w0⟩ := in_entries (hval 0 30 v0 rfl rfl) k0
  have k1 : Reads enc W 30 v1 d1 p1 := h1
  have lt1 : ∀ x ∈ p1, x.block < W.heap.size := by obtain ⟨m, hm⟩ := k1; exact DataW.trod_lt m _ _ _ hm
  obtain ⟨A1, m1, c1, l1, rfl, r1, wc1, w1⟩ := in_entries (hval 1 30 v1 rfl rfl) k1
  have k2 : Reads enc W 30 v2 d2 p2 := h2
  have lt2 : ∀ x ∈ p2, x.block < W.heap.size := by obtain ⟨m, hm⟩ := k2; exact DataW.trod_lt m _ _ _ hm
  obtain ⟨A2, m2, c2, l2, rfl, r2, wc2, w2⟩ := in_entries (hval 2 30 v2 rfl rfl) k2
  clear hA0 hval0
  refine (walk A0 m0 c0 l0 A1 m1 c1 l1 A2 m2 c2 l2 W r0 wc0 w0 r1 wc1 w1 r2 wc2 w2).mono fun e W' ⟨he, bel⟩ => ?_
  subst he
  exact ⟨_, rfl, _, _, _, [], _, [], hW', trodAll_mk1 (shut_bool Try.underlying4 _), (trodAll_cons_mk (Below.trod laidOut (by kernel_rfl) (of_decide_eq_true (by kernel_rfl)) k0 bel lt0) (trodAll_cons_mk (Below.trod laidOut (by kernel_rfl) (of_decide_eq_true (by kernel_rfl)) k1 bel lt1) (trodAll_cons_mk (Below.trod laidOut (by kernel_rfl) (of_decide_eq_true (by kernel_rfl)) k2 bel lt2) trodAll_mk0))), rfl, bel.frame _, fun h => by cases h⟩
theorem over : Rows.memForksRow.holds Try.pinned (OpenSpec.ofChange Rows.memForksSpec) :=
  OpenClaim.holds_of_wide 7 Try.f7 rfl rfl rfl rfl rfl rfl rfl ⟨rfl, rfl, rfl, rfl, rfl⟩ rfl rfl rfl rfl rfl (by kernel_rfl) Try.func7 (by kernel_rfl)
    (of_decide_eq_true (by kernel_rfl)) (by unfold Func.isWrapper; first | (rw [if_pos (by decide +kernel)]; kernel_rfl) | (rw [if_neg (by decide +kernel)]; exact ⟨rfl, rfl⟩))
    (fun os started H enc _ => lifted os started H enc)
theorem proved : Rows.MemForksSaid := over
end Go.Proofs.Ytfmbnoafmnbhcaa.memForks
