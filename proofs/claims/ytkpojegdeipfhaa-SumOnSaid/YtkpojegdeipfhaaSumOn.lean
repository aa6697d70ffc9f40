/- For every two slices of bytes: the sum of both, one behind the other, is what More tells of the first one's sum and the second, and what Join tells of both sums (P1.5), and the example at the head holds; the arguments stay as they were. No condition. -/
import Derived.Test.YtkpojegdeipfhaaLin
import Derived.WalkKit
import Derived.ProofKit
import Derived.OpenShut
import Derived.ShutString
import Derived.ChangeOld
import Derived.Below
namespace Go.Proofs.Ytkpojegdeipfhaa.sumOn
open Go.ChangeShapes Go.WideShapes Go.ChangeAt Go.RowKit
open Go.ChangeMaps (open_string shut_string)
set_option linter.unusedVariables false

theorem own : ownKnob Try.prog.godebug = none := by kernel_rfl
theorem laidOut : laidOutB Try.prog = true := by kernel_rfl

set_option maxRecDepth 100000 in
theorem walk (a0 : Option Addr) (len0 cap0 : Nat) (z0 : List Int) (a1 : Option Addr) (len1 cap1 : Nat) (z1 : List Int) (w : World) (w0 : IsRow .u8 w a0 len0 cap0 z0) (w1 : IsRow .u8 w a1 len1 cap1 z1) :
    Calls Try.prog 6 #[.slice a0 len0 cap0, .slice a1 len1 cap1] w fun e w' => e = .returned (.bool true) ∧ Below w.heap.size w w' := by
  obtain ⟨l0, hr0, hcap0, hmax0⟩ := row_rd w0
  obtain ⟨l1, hr1, hcap1, hmax1⟩ := row_rd w1
  have hx := hr0.take (k := min len0 3000) (by omega)
  have hy := hr1.take (k := min len1 3000) (by omega)
  have hn : min len0 3000 ≤ 3000 := by omega
  have hm : min len1 3000 ≤ 3000 := by omega
  clear w0 w1 hr0 hr1
  have hcut0 := cut_any a0 len0 cap0 hcap0 hmax0
  have Hcut0 := Lib.hid hcut0
  clear hcut0
  have hcut1 := cut_any a1 len1 cap1 hcap1 hmax1
  have Hcut1 := Lib.hid hcut1
  clear hcut1
  generalize l0.take (min len0 3000) = x at hx
  generalize min len0 3000 = n at hx hn Hcut0
  generalize l1.take (min len1 3000) = y at hy
  generalize min len1 3000 = m at hy hm Hcut1
  have hlx := Cr.more_lt (c := 0) hx.2.1 (by omega)
  have hly := Cr.more_lt (c := 0) hy.2.1 (by omega)
  have e20 : len20 (m : Int) = m := by unfold len20; split <;> (try split) <;> omega
  have eJ : Cr.steps (8 * len20 (m : Int)) (Cr.more 0 x) ^^^ Cr.more 0 y = Cr.more 0 (x ++ y) := by
    rw [e20, ← hy.1, Cr.join_more, Cr.more_append]
  have EJ := Lib.hid eJ
  clear eJ e20
  go_enter Try.func6, Try.ntmps6
  go_wp2_with fail
  refine (Hcut0.out _).mono ?_
  rintro e v0 ⟨rfl, rfl⟩
  go_wp2_with fail
  refine (Hcut1.out _).mono ?_
  rintro e v0 ⟨rfl, rfl⟩
  go_wp2_with (first | (at_builtin; refine wpList_appB rfl (.tmp 11) (.tmp 12) rfl rfl (Own.lit (base := w.heap.size) w [] (by simp) (Nat.le_refl _) (by simp)) a0 n cap0 x rfl (hx.alloc _) (by simp; omega) (by simp) ?_; intro A1 c1 w1 hg1; have hb1 : Below w.heap.size w w1 := hg1.below ((Below.refl _ _).alloc (Nat.le_refl _) _) (by simp) (fun g hg => by simp [Value.ownBlock] at hg; omega); have hs1 := hb1.size; have ho1 : Own w1 w.heap.size A1 n c1 x := by simpa using hg1.own) | (at_builtin; refine wpList_appB rfl (.tmp 13) (.tmp 14) rfl rfl ho1 a1 m cap1 y rfl (hy.below hb1) (by omega) hs1 ?_; intro A2 c2 w2 hg2))
  have ho2 := hg2.own
  have hb2 := hg2.below hb1 hs1 (fun g hg => (ho1.blk g hg).1)
  refine (of_any _ _ _ (x ++ y) _ ho2.rd (by omega)).mono ?_
  rintro e w3 ⟨rfl, hb3⟩
  have s3 := hb2.trans (hb3.mono hb2.size)
  go_wp2_with fail
  refine (of_any _ _ _ x _ (hx.below s3) (by omega)).mono ?_
  rintro e w4 ⟨rfl, hb4⟩
  have s4 := s3.trans (hb4.mono s3.size)
  go_wp2_with fail
  refine (more_any _ hlx _ _ _ y _ (hy.below s4) (by omega)).mono ?_
  rintro e w5 ⟨rfl, hb5⟩
  have s5 := s4.trans (hb5.mono s4.size)
  rw [← Cr.more_append]
  go_wp2_with fail
  refine (of_any _ _ _ x _ (hx.below s5) (by omega)).mono ?_
  rintro e w6 ⟨rfl, hb6⟩
  have s6 := s5.trans (hb6.mono s5.size)
  go_wp2_with fail
  refine (of_any _ _ _ y _ (hy.below s6) (by omega)).mono ?_
  rintro e w7 ⟨rfl, hb7⟩
  have s7 := s6.trans (hb7.mono s6.size)
  go_wp2_with fail
  refine (join_any _ _ _ hlx hly _).mono ?_
  rintro e w8 ⟨rfl, rfl⟩
  rw [EJ.out]
  go_wp2_with fail
  refine (awake_any _).mono ?_
  rintro e w9 ⟨rfl, hb9⟩
  go_wp2_with fail
  go_ret
  exact ⟨rfl, s7.trans (hb9.mono s7.size)⟩

set_option maxRecDepth 100000 in
theorem lifted (os : Os) (started : os.Started) (H : Type) (enc : TypeId × Value → H) :
    ReturnsInHanded {} Try.checked os 6 .any (Rows.sumOnSpec.pre6 enc Try.prog Try.f6 Rows.sumOnRow.domain false) (Rows.sumOnSpec.post enc Try.prog Try.f6 false true false false) := by
  refine returnsInHanded_of_change (C := Try.checked) own started (by kernel_rfl) Try.func6
    (ChangeSpec.witness6 (enc := enc) (C := Try.checked) false ⟨#[], #[.slice none 0 0, .slice none 0 0], []⟩ 8 (by kernel_rfl) (by kernel_rfl) (by kernel_rfl) (by kernel_rfl)) ?_
  intro W base args ds gs before hval0 hW hcnd _
  have hval : ∀ (j : Nat) t v, Try.f6.params[j]? = some t → args[j]? = some v → Value.okWide Try.prog W .any base t v := hval0
  have hW' := hW
  obtain ⟨p, q, hA0, hV, rfl, hfz, hnd⟩ := hW
  have hA : DataW.TrodAll enc Try.prog W 0 (fun _ => true) true Try.f6.params.toList args.toList ds p := hA0
  rw [Try.params6] at hA hval
  obtain ⟨v0, vs0, d0, ds0, p0, q0, hargs, rfl, rfl, h0, r0⟩ := trodAll_cons hA
  obtain ⟨v1, vs1, d1, ds1, p1, q1, rfl, rfl, rfl, h1, r1⟩ := trodAll_cons r0
  obtain ⟨rfl, rfl, rfl⟩ := trodAll_nil r1
  obtain rfl : args = #[v0, v1] := by cases args; simp_all
  obtain ⟨rfl, rfl⟩ := trodVars_none hV
  obtain ⟨a0, len0, cap0, rfl⟩ := okWide_slice Try.underlying22 (hval 0 22 v0 rfl rfl)
  have k0 := h0
  have lt0 : ∀ x ∈ p0, x.block < W.heap.size := by obtain ⟨m, hm⟩ := k0; exact DataW.trod_lt m _ _ _ hm
  obtain ⟨z0, w0⟩ : ∃ zs, IsRow .u8 W a0 len0 cap0 zs := by
    obtain ⟨fuel, hf⟩ := h0
    rcases open_ints Try.underlying22 Try.underlying5 (by kernel_rfl) hf with ⟨hcs, _⟩ | ⟨x, l, c, zs, hcs, _, hl, hm, hz, _, hcell, hwz⟩
    · simp [Value.cells] at hcs
      obtain ⟨rfl, rfl, rfl⟩ := hcs
      exact ⟨[], .inl ⟨rfl, rfl, rfl, rfl⟩⟩
    · simp [Value.cells] at hcs
      obtain ⟨rfl, rfl, rfl⟩ := hcs
      exact ⟨zs, .inr ⟨_, rfl, hl, hm, by simpa using hz, hcell, hwz⟩⟩
  obtain ⟨a1, len1, cap1, rfl⟩ := okWide_slice Try.underlying22 (hval 1 22 v1 rfl rfl)
  have k1 := h1
  have lt1 : ∀ x ∈ p1, x.block < W.heap.size := by obtain ⟨m, hm⟩ := k1; exact DataW.trod_lt m _ _ _ hm
  obtain ⟨z1, w1⟩ : ∃ zs, IsRow .u8 W a1 len1 cap1 zs := by
    obtain ⟨fuel, hf⟩ := h1
    rcases open_ints Try.underlying22 Try.underlying5 (by kernel_rfl) hf with ⟨hcs, _⟩ | ⟨x, l, c, zs, hcs, _, hl, hm, hz, _, hcell, hwz⟩
    · simp [Value.cells] at hcs
      obtain ⟨rfl, rfl, rfl⟩ := hcs
      exact ⟨[], .inl ⟨rfl, rfl, rfl, rfl⟩⟩
    · simp [Value.cells] at hcs
      obtain ⟨rfl, rfl, rfl⟩ := hcs
      exact ⟨zs, .inr ⟨_, rfl, hl, hm, by simpa using hz, hcell, hwz⟩⟩
  clear hA0 hval0
  refine (walk a0 len0 cap0 z0 a1 len1 cap1 z1 W w0 w1).mono fun e W' ⟨he, bel⟩ => ?_
  subst he
  exact ⟨_, rfl, _, _, _, [], _, [], hW', trodAll_mk1 (shut_bool Try.underlying4 _), (trodAll_cons_mk (Below.trod laidOut (by kernel_rfl) (of_decide_eq_true (by kernel_rfl)) k0 bel lt0) (trodAll_cons_mk (Below.trod laidOut (by kernel_rfl) (of_decide_eq_true (by kernel_rfl)) k1 bel lt1) trodAll_mk0)), rfl, bel.frame _, fun h => by cases h⟩

theorem over : Rows.sumOnRow.holds Try.pinned (OpenSpec.ofChange Rows.sumOnSpec) :=
  OpenClaim.holds_of_wide 6 Try.f6 rfl rfl rfl rfl rfl rfl rfl ⟨rfl, rfl, rfl, rfl, rfl⟩ rfl rfl rfl rfl rfl (by kernel_rfl) Try.func6 (by kernel_rfl)
    (of_decide_eq_true (by kernel_rfl)) (by unfold Func.isWrapper; first | (rw [if_pos (by decide +kernel)]; kernel_rfl) | (rw [if_neg (by decide +kernel)]; exact ⟨rfl, rfl⟩))
    (fun os started H enc _ => lifted os started H enc)

theorem proved : Rows.SumOnSaid := over
end Go.Proofs.Ytkpojegdeipfhaa.sumOn
