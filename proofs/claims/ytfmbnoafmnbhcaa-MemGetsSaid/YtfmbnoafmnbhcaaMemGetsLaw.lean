/- MemGets: Get tells the newest entry of a key that is not above a number -/
import Derived.Test.YtfmbnoafmnbhcaaMmGets
import Derived.Test.YtfmbnoafmnbhcaaMmLaw
import Derived.Test.YtfmbnoafmnbhcaaMmIn
import Derived.Test.YtfmbnoafmnbhcaaIns
import Derived.Test.YtfmbnoafmnbhcaaHolds
import Derived.WalkKit
import Derived.ProofKit
import Derived.OpenShut
import Derived.ShutString
import Derived.ChangeOld
import Derived.Below
import Derived.Deep.RegionHeld
namespace Go.Proofs.Ytfmbnoafmnbhcaa.memGets
open Go.ChangeShapes Go.WideShapes Go.ChangeAt Go.RowKit
set_option linter.unusedVariables false
theorem own : ownKnob Try.prog.godebug = none := by kernel_rfl
theorem laidOut : laidOutB Try.prog = true := by kernel_rfl
set_option maxRecDepth 100000 in
set_option maxHeartbeats 8000000 in
theorem walk (A0 : Option Addr) (m0 c0 : Nat) (l0 : List (Bk.En × Bk.Sl)) (s1 : ByteArray) (n2 : Int) (w : World) (r0 : RdI w A0 m0 l0) (wc0 : m0 ≤ c0) (w0 : m0 ≤ 9223372036854775807) (w1 : s1.size ≤ 9223372036854775807) (wl2 : -9223372036854775808 ≤ n2) (w2 : n2 ≤ 9223372036854775807) :
    Calls Try.prog 5 #[.slice A0 m0 c0, .string s1, .int .i64 n2] w fun e w' => e = .returned (.bool true) ∧ Below w.heap.size w w' := by
-- heartbeats 8000000
  have hl0 := r0.1
  subst hl0
  have HR0 := Lib.hid r0
  have HW0 := Lib.hid w0
  clear r0 w0
  go_enter Try.func5, Try.ntmps5
  go_wp2_with fail
  refine (new_any w).mono ?_
  rintro e v1 ⟨rfl, hM1, hb1⟩
  have HM1 := Lib.hid hM1
  have HB1 := Lib.hid hb1
  have hlt1 := hM1.choose_spec.1.1
  have HL1 := Lib.hid hlt1
  clear hM1 hb1 hlt1
  go_wp2_with fail
  refine (awake_any v1).mono ?_
  rintro e v2 ⟨rfl, hb2⟩
  have HB2 := Lib.hid (below_next HB1.out hb2)
  have HM2 := Lib.hid (HM1.out.below hb2)
  have HL2 := Lib.hid (Nat.lt_of_lt_of_le HL1.out hb2.size)
  clear hb2
  go_wp2_with fail
  refine (few_new A0 l0.length c0 l0 v2 (HR0.out.below HB2.out) HW0.out).mono ?_
  rintro e v3 ⟨B3, c3, rfl, hn3, hr3, hb3⟩
  have HRS := Lib.hid (few_apart (m := w.heap.size) HR0.out (Nat.le_refl _) hr3 (fun h1 g o e => Nat.lt_of_lt_of_le HL2.out (hn3 h1 g o e)))
  have HB3 := Lib.hid (below_next HB2.out hb3)
  have HM3 := Lib.hid (HM2.out.below hb3)
  have HL3 := Lib.hid (Nat.lt_of_lt_of_le HL2.out hb3.size)
  clear hn3 hr3 hb3
  go_wp2_with fail
  refine (lput_any (fun k => k = w.heap.size) w.heap.size B3 (Bk.few l0).length c3 (Bk.few l0) v3 HM3.out (fun k hk => by rw [hk]; exact HL3.out) HRS.out (few_len80 l0)).mono ?_
  rintro e v4 ⟨A4, c4, es4, T4, top4, rfl, ht4, hg4⟩
  have HT4 := Lib.hid ht4
  have HB4 := Lib.hid (HB3.out.grown hg4 HB3.out.size (fun g e => by injection e with e; omega))
  clear ht4 hg4
  go_wp2_with fail
  have hb5 := (Below.refl v4.heap.size v4).alloc (Nat.le_refl _) (.cells #[Value.slice A4 es4.length c4, .int .i64 top4] 34)
  have HX5 := Lib.hid (Holds.new v4 #[Value.slice A4 es4.length c4, .int .i64 top4] 34)
  have HT5 := Lib.hid (HT4.out.below hb5)
  have HB5 := Lib.hid (below_next HB4.out hb5)
  clear hb5
  generalize (v4.alloc (.cells #[Value.slice A4 es4.length c4, .int .i64 top4] 34)) = v5 at HX5 HT5 HB5 ⊢
  generalize v4.heap.size = g4 at HX5 ⊢
  have hlen4 := HT5.out.len
  have hfew4 : es4.length ≤ 80 := by have := HT5.out.few; rw [hlen4, T4.row_size]; exact this
  have HLen := Lib.hid (And.intro hlen4 hfew4)
  clear hlen4 hfew4
  have HGe := Lib.hid (fun (u : World) (hu : Below v5.heap.size v5 u) => (HT5.out.below hu).get_any s1 n2)
  have HRg := Lib.hid (fun (u : World) (hu : Below v5.heap.size v5 u) => rget_any A4 es4.length c4 es4 s1 n2 u (HT5.out.row.rd.below hu) (by have := HLen.out.2; omega))
  have HCl := Lib.hid (fun (u : World) (hu : Below v5.heap.size v5 u) => (hu.cell (p := ⟨g4, 0, none⟩) HX5.out.1).trans (HX5.out.2.1 0 _ rfl))
  have HAt := Lib.hid (fun (u : World) (hu : Below v5.heap.size v5 u) => Bk.best_at (key := s1) (seq := n2) ((HT5.out.row.rd.below hu).2.2))
  obtain ⟨b, hbest⟩ : ∃ b, b = Bk.best s1 n2 es4 := ⟨_, rfl⟩
  have HBest := Lib.hid hbest
  rw [← hbest] at HGe HRg HAt
  clear hbest
  obtain ⟨⟨⟨ey, V7, n7, c7⟩, hz⟩⟩ : Nonempty { z : Bk.P // b.getD Bk.zeroE = z } := ⟨⟨_, rfl⟩⟩
  have HGr := Lib.hid (fun (u v : World) (e : Ending) (h : GivesRGet u b e v) => show e = .returned (.tuple #[.agg #[.string ey.key, .int .i64 ey.seq, .bool ey.del, .slice V7 n7 c7], .bool b.isSome]) ∧ Below u.heap.size u v from by unfold GivesRGet at h; rw [hz] at h; exact h)
  rw [hz] at HGe HAt
  generalize b.isSome = t at HGe HGr
  clear hz
  have hb6' := Below.refl v5.heap.size v5
  go_wp2_with fail
  refine (HGe.out _ (Below.refl _ _)).mono ?_
  rintro e v6 ⟨⟨e6, V6, n6, c6⟩, rfl, h6, h7, h8⟩
  have h6 : e6 = ey := h6
  subst h6
  have hb6 := (below_next (Below.refl _ _) h8).alloc (Nat.le_trans (Below.refl v5.heap.size v5).size h8.size) (.cells #[.string e6.key, .int .i64 e6.seq, .bool e6.del, .slice V6 n6 c6] 24)
  have HX6 := Lib.hid (Holds.new v6 #[.string e6.key, .int .i64 e6.seq, .bool e6.del, .slice V6 n6 c6] 24)
  have HE6 := Lib.hid (h7.below ((Below.refl v6.heap.size v6).alloc (Nat.le_refl _) (.cells #[.string e6.key, .int .i64 e6.seq, .bool e6.del, .slice V6 n6 c6] 24)))
  have q6 := HCl.out _ hb6
  clear h7 h8
  simp only [Bk.cells]
  go_wp2_with fail
  refine (HRg.out _ hb6).mono ?_
  intro e v7 h7
  obtain ⟨rfl, h8⟩ := HGr.out _ _ _ h7
  clear h7
  have hb7 := (below_next hb6 h8).alloc (Nat.le_trans hb6.size h8.size) (.cells #[.string e6.key, .int .i64 e6.seq, .bool e6.del, .slice V7 n7 c7] 24)
  have HX7 := Lib.hid (And.intro ((HX6.out.below h8).alloc (.cells #[.string e6.key, .int .i64 e6.seq, .bool e6.del, .slice V7 n7 c7] 24)) (Holds.new v7 #[.string e6.key, .int .i64 e6.seq, .bool e6.del, .slice V7 n7 c7] 24))
  have HE7 := Lib.hid ((HE6.out.below h8).below ((Below.refl v7.heap.size v7).alloc (Nat.le_refl _) (.cells #[.string e6.key, .int .i64 e6.seq, .bool e6.del, .slice V7 n7 c7] 24)))
  have HF7 := Lib.hid (HAt.out _ hb7)
  have q60 := HX7.out.1.2.1 0 _ rfl
  have q61 := HX7.out.1.2.1 1 _ rfl
  have q62 := HX7.out.1.2.1 2 _ rfl
  have q63 := HX7.out.1.2.1 3 _ rfl
  have q70 := HX7.out.2.2.1 0 _ rfl
  have q71 := HX7.out.2.2.1 1 _ rfl
  have q72 := HX7.out.2.2.1 2 _ rfl
  have q73 := HX7.out.2.2.1 3 _ rfl
  have ee : (t == t) = true := by simp
  clear h8 q6
  go_wp2_with fail
  refine (show Calls _ _ #[.agg #[.string e6.key, .int .i64 e6.seq, .bool e6.del, .slice V6 n6 c6], .agg #[.string e6.key, .int .i64 e6.seq, .bool e6.del, .slice V7 n7 c7]] _ _ from same_yes (p := (e6, V6, n6, c6)) (q := (e6, V7, n7, c7)) HE7.out HF7.out rfl).mono ?_
  rintro e v8 ⟨rfl, h9⟩
  have hb8 := below_next hb7 h9
  go_wp2
  go_ret
  exact ⟨rfl, HB5.out.trans (hb8.mono HB5.out.size)⟩
set_option maxRecDepth 100000 in
theorem lifted (os : Os) (started : os.Started) (H : Type) (enc : TypeId × Value → H) :
    ReturnsInHanded {} Try.checked os 5 .any (Rows.memGetsSpec.pre6 enc Try.prog Try.f5 Rows.memGetsRow.domain false) (Rows.memGetsSpec.post enc Try.prog Try.f5 false true false false) := by
  refine returnsInHanded_of_change (C := Try.checked) own started (by kernel_rfl) Try.func5
    (ChangeSpec.witness6 (enc := enc) (C := Try.checked) false ⟨#[], #[.slice none 0 0, .string ⟨#[]⟩, .int .i64 0], []⟩ 8 (by kernel_rfl) (by kernel_rfl) (by kernel_rfl) (by kernel_rfl)) ?_
  intro W base args ds gs before hval0 hW hcnd _
  have hval : ∀ (j : Nat) t v, Try.f5.params[j]? = some t → args[j]? = some v → Value.okWide Try.prog W .any base t v := hval0
  have hW' := hW
  obtain ⟨p, q, hA0, hV, rfl, hfz, hnd⟩ := hW
  have hA : DataW.TrodAll enc Try.prog W 0 (fun _ => true) true Try.f5.params.toList args.toList ds p := hA0
  rw [Try.params5] at hA hval
  obtain ⟨v0, vs0, d0, ds0, p0, q0, hargs, rfl, rfl, h0, t0⟩ := trodAll_cons hA
  obtain ⟨v1, vs1, d1, ds1, p1, q1, rfl, rfl, rfl, h1, t1⟩ := trodAll_cons t0
  obtain ⟨v2, vs2, d2, ds2, p2, q2, rfl, rfl, rfl, h2, t2⟩ := trodAll_cons t1
  obtain ⟨rfl, rfl, rfl⟩ := trodAll_nil t2
  obtain rfl : args = #[v0, v1, v2] := by cases args; simp_all
  obtain ⟨rfl, rfl⟩ := trodVars_none hV
  have k0 : Reads enc W 30 v0 d0 p0 := h0
  have lt0 : ∀ x ∈ p0, x.block < W.heap.size := by obtain ⟨m, hm⟩ := k0; exact DataW.trod_lt m _ _ _ hm
  obtain ⟨A0, m0, c0, l0, rfl, r0, wc0, w0⟩ := in_entries (hval 0 30 v0 rfl rfl) k0
  have k1 : Reads enc W 9 v1 d1 p1 := h1
  have lt1 : ∀ x ∈ p1, x.block < W.heap.size := by obtain ⟨m, hm⟩ := k1; exact DataW.trod_lt m _ _ _ hm
  obtain ⟨s1, rfl, w1⟩ := in_str (hval 1 9 v1 rfl rfl) k1
  have k2 : Reads enc W 3 v2 d2 p2 := h2
  have lt2 : ∀ x ∈ p2, x.block < W.heap.size := by obtain ⟨m, hm⟩ := k2; exact DataW.trod_lt m _ _ _ hm
  obtain ⟨n2, rfl, wl2, w2⟩ := in_int (hval 2 3 v2 rfl rfl) k2
  clear hA0 hval0
  refine (walk A0 m0 c0 l0 s1 n2 W r0 wc0 w0 w1 wl2 w2).mono fun e W' ⟨he, bel⟩ => ?_
  subst he
  exact ⟨_, rfl, _, _, _, [], _, [], hW', trodAll_mk1 (shut_bool Try.underlying4 _), (trodAll_cons_mk (Below.trod laidOut (by kernel_rfl) (of_decide_eq_true (by kernel_rfl)) k0 bel lt0) (trodAll_cons_mk (Below.trod laidOut (by kernel_rfl) (of_decide_eq_true (by kernel_rfl)) k1 bel lt1) (trodAll_cons_mk (Below.trod laidOut (by kernel_rfl) (of_decide_eq_true (by kernel_rfl)) k2 bel lt2) trodAll_mk0))), rfl, bel.frame _, fun h => by cases h⟩
theorem over : Rows.memGetsRow.holds Try.pinned (OpenSpec.ofChange Rows.memGetsSpec) :=
  OpenClaim.holds_of_wide 5 Try.f5 rfl rfl rfl rfl rfl rfl rfl ⟨rfl, rfl, rfl, rfl, rfl⟩ rfl rfl rfl rfl rfl (by kernel_rfl) Try.func5 (by kernel_rfl)
    (of_decide_eq_true (by kernel_rfl)) (by unfold Func.isWrapper; first | (rw [if_pos (by decide +kernel)]; kernel_rfl) | (rw [if_neg (by decide +kernel)]; exact ⟨rfl, rfl⟩))
    (fun os started H enc _ => lifted os started H enc)
theorem proved : Rows.MemGetsSaid := over
end Go.Proofs.Ytfmbnoafmnbhcaa.memGets
