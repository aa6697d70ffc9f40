/- For every slice of bytes: Seal tells what the document's Seal tells, and Open tells of it what the document's Open tells (P1.4), and the example at the head holds; the argument stays as it was. No condition. -/
import Derived.Test.YtkpojegdeipfhaaTurn
import Derived.WalkKit
import Derived.Deep.RegionHeld
import Derived.ProofKit
import Derived.OpenShut
import Derived.ShutString
import Derived.ChangeOld
import Derived.Below
namespace Go.Proofs.Ytkpojegdeipfhaa.sumSeals
open Go.ChangeShapes Go.WideShapes Go.ChangeAt Go.RowKit
open Go.ChangeMaps (open_string shut_string)
set_option linter.unusedVariables false

theorem own : ownKnob Try.prog.godebug = none := by kernel_rfl
theorem laidOut : laidOutB Try.prog = true := by kernel_rfl

theorem below_next {a v v' : World} (h : Below a.heap.size a v) (hb : Below v.heap.size v v') : Below a.heap.size a v' := h.trans (hb.mono h.size)
set_option maxRecDepth 100000 in
set_option maxHeartbeats 1000000 in
theorem bad (A : Option Addr) (N n cap : Nat) (l : List Nat) (w : World) (hl : Rd w A n l) (h3 : n ≤ 3000) (hN : N ≤ 9223372036854775807) (hNn : n = min N 3000) (hcap : N ≤ cap) (ho : Cr.opened l = none) :
    Calls Try.prog 5 #[.slice A N cap] w fun e w' => e = .returned (.bool true) ∧ Below w.heap.size w w' := by
  have hcut := cut_any A N cap hcap hN
  rw [← hNn] at hcut
  have Hcut := Lib.hid hcut
  have hncap : n ≤ cap := by omega
  clear hcut hNn
  have hop := fun v (h : Rd v A n l) => open_any A n cap l v h hncap (by omega)
  have hrop := fun v (h : Rd v A n l) => ropen_any A n cap l v h hncap (by omega)
  rw [ho] at hop hrop
  have Hop := Lib.hid hop
  have Hrop := Lib.hid hrop
  clear hop hrop ho
  go_enter Try.func5, Try.ntmps5
  go_wp2_with (first | (go_at_call 11; refine (Hcut.out _).mono ?_; rintro e v1 ⟨rfl, rfl⟩) | (go_at_call 21; refine (Hop.out _ hl).mono ?_; rintro e w1 ⟨rfl, hb1⟩) | (go_at_call 22; refine (Hrop.out _ (hl.below hb1)).mono ?_; rintro e w2 ⟨rfl, hb2⟩))
  have hw2 := below_next hb1 hb2
  have hl2 := hl.below hw2
  have hd : Below w2.heap.size w2 w2.drew := (Below.refl _ _).drew
  have hnil : ∀ wx : World, (convert 22 9 (.slice none 0 0)).run Try.prog wx = .ok (.string (str [])) wx := fun wx => run_str (Rd.nil wx none)
  clear hb1 hb2
  go_region_held (fun w' => Below w2.heap.size w2 w') (first | exact hd | exact hc3 | exact hc4 | exact hc5) (first | (go_at_call 23; refine (seal_any _ _ _ l _ (hl2.below (by assumption)) (by omega)).mono ?_; rintro e w3 ⟨A3, cap3, rfl, ho3, hb3⟩; have hc3 : Below w2.heap.size w2 w3 := below_next (by assumption) hb3; have hcv3 : ∀ wx : World, Below w3.heap.size w3 wx → (convert 22 9 (.slice A3 (Cr.sealed l).length cap3)).run Try.prog wx = .ok (.string (str (Cr.sealed l))) wx := fun wx h => run_str (ho3.rd.below h); have hr3 : Below w3.heap.size w3 w3 := Below.refl _ _) | (go_at_call 24; refine (rseal_any _ _ _ l _ (hl2.below (by assumption)) (by omega)).mono ?_; rintro e w4 ⟨A4, cap4, rfl, ho4, hb4⟩; have hc4 : Below w2.heap.size w2 w4 := below_next (by assumption) hb4; have hcv4 : ∀ wx : World, Below w4.heap.size w4 wx → (convert 22 9 (.slice A4 (Cr.sealed l).length cap4)).run Try.prog wx = .ok (.string (str (Cr.sealed l))) wx := fun wx h => run_str (ho4.rd.below h); have hr4 : Below w4.heap.size w4 w4 := Below.refl _ _) | (go_at_call 16; refine (awake_any _).mono ?_; rintro e w5 ⟨rfl, hb5⟩; have hc5 : Below w2.heap.size w2 w5 := below_next (by assumption) hb5))
  all_goals
    go_wp2
    go_ret
    exact ⟨rfl, below_next hw2 hc5⟩
set_option maxRecDepth 100000 in
set_option maxHeartbeats 1000000 in
theorem good (A : Option Addr) (N n cap : Nat) (l x : List Nat) (w : World) (hl : Rd w A n l) (h3 : n ≤ 3000) (hN : N ≤ 9223372036854775807) (hNn : n = min N 3000) (hcap : N ≤ cap) (ho : Cr.opened l = some x) :
    Calls Try.prog 5 #[.slice A N cap] w fun e w' => e = .returned (.bool true) ∧ Below w.heap.size w w' := by
  have hcut := cut_any A N cap hcap hN
  rw [← hNn] at hcut
  have Hcut := Lib.hid hcut
  have hncap : n ≤ cap := by omega
  clear hcut hNn
  have hop := fun v (h : Rd v A n l) => open_any A n cap l v h hncap (by omega)
  have hrop := fun v (h : Rd v A n l) => ropen_any A n cap l v h hncap (by omega)
  rw [ho] at hop hrop
  have Hop := Lib.hid hop
  have Hrop := Lib.hid hrop
  clear hop hrop ho
  go_enter Try.func5, Try.ntmps5
  go_wp2_with (first | (go_at_call 11; refine (Hcut.out _).mono ?_; rintro e v1 ⟨rfl, rfl⟩) | (go_at_call 21; refine (Hop.out _ hl).mono ?_; rintro e w1 ⟨A1, cap1, rfl, ho1, hb1⟩) | (go_at_call 22; refine (Hrop.out _ (hl.below hb1)).mono ?_; rintro e w2 ⟨A2, cap2, rfl, ho2, hb2⟩))
  have hw2 := below_next hb1 hb2
  have hl2 := hl.below hw2
  have hd : Below w2.heap.size w2 w2.drew := (Below.refl _ _).drew
  have ho1' := ho1.below hb2
  have hcx : ∀ wx : World, Below w2.heap.size w2 wx → (convert 22 9 (.slice A1 x.length cap1)).run Try.prog wx = .ok (.string (str x)) wx := fun wx h => run_str (ho1'.rd.below h)
  have hcy : ∀ wx : World, Below w2.heap.size w2 wx → (convert 22 9 (.slice A2 x.length cap2)).run Try.prog wx = .ok (.string (str x)) wx := fun wx h => run_str (ho2.rd.below h)
  clear ho1 ho1' ho2
  clear hb1 hb2
  go_region_held (fun w' => Below w2.heap.size w2 w') (first | exact hd | exact hc3 | exact hc4 | exact hc5) (first | (go_at_call 23; refine (seal_any _ _ _ l _ (hl2.below (by assumption)) (by omega)).mono ?_; rintro e w3 ⟨A3, cap3, rfl, ho3, hb3⟩; have hc3 : Below w2.heap.size w2 w3 := below_next (by assumption) hb3; have hcv3 : ∀ wx : World, Below w3.heap.size w3 wx → (convert 22 9 (.slice A3 (Cr.sealed l).length cap3)).run Try.prog wx = .ok (.string (str (Cr.sealed l))) wx := fun wx h => run_str (ho3.rd.below h); have hr3 : Below w3.heap.size w3 w3 := Below.refl _ _) | (go_at_call 24; refine (rseal_any _ _ _ l _ (hl2.below (by assumption)) (by omega)).mono ?_; rintro e w4 ⟨A4, cap4, rfl, ho4, hb4⟩; have hc4 : Below w2.heap.size w2 w4 := below_next (by assumption) hb4; have hcv4 : ∀ wx : World, Below w4.heap.size w4 wx → (convert 22 9 (.slice A4 (Cr.sealed l).length cap4)).run Try.prog wx = .ok (.string (str (Cr.sealed l))) wx := fun wx h => run_str (ho4.rd.below h); have hr4 : Below w4.heap.size w4 w4 := Below.refl _ _) | (go_at_call 16; refine (awake_any _).mono ?_; rintro e w5 ⟨rfl, hb5⟩; have hc5 : Below w2.heap.size w2 w5 := below_next (by assumption) hb5))
  all_goals
    go_wp2
    go_ret
    exact ⟨rfl, below_next hw2 hc5⟩
set_option maxRecDepth 100000 in
theorem walk (a0 : Option Addr) (len0 cap0 : Nat) (z0 : List Int) (w : World) (w0 : IsRow .u8 w a0 len0 cap0 z0) :
    Calls Try.prog 5 #[.slice a0 len0 cap0] w fun e w' => e = .returned (.bool true) ∧ Below w.heap.size w w' := by
  obtain ⟨l0, hr, hcap, hmax⟩ := row_rd w0
  have hl := hr.take (k := min len0 3000) (by omega)
  rcases ho : Cr.opened (l0.take (min len0 3000)) with _ | x
  · exact bad a0 len0 _ cap0 _ w hl (by omega) hmax rfl hcap ho
  · exact good a0 len0 _ cap0 _ x w hl (by omega) hmax rfl hcap ho

set_option maxRecDepth 100000 in
theorem lifted (os : Os) (started : os.Started) (H : Type) (enc : TypeId × Value → H) :
    ReturnsInHanded {} Try.checked os 5 .any (Rows.sumSealsSpec.pre6 enc Try.prog Try.f5 Rows.sumSealsRow.domain false) (Rows.sumSealsSpec.post enc Try.prog Try.f5 false true false false) := by
  refine returnsInHanded_of_change (C := Try.checked) own started (by kernel_rfl) Try.func5
    (ChangeSpec.witness6 (enc := enc) (C := Try.checked) false ⟨#[], #[.slice none 0 0], []⟩ 8 (by kernel_rfl) (by kernel_rfl) (by kernel_rfl) (by kernel_rfl)) ?_
  intro W base args ds gs before hval0 hW hcnd _
  have hval : ∀ (j : Nat) t v, Try.f5.params[j]? = some t → args[j]? = some v → Value.okWide Try.prog W .any base t v := hval0
  have hW' := hW
  obtain ⟨p, q, hA0, hV, rfl, hfz, hnd⟩ := hW
  have hA : DataW.TrodAll enc Try.prog W 0 (fun _ => true) true Try.f5.params.toList args.toList ds p := hA0
  rw [Try.params5] at hA hval
  obtain ⟨v0, vs0, d0, ds0, p0, q0, hargs, rfl, rfl, h0, r0⟩ := trodAll_cons hA
  obtain ⟨rfl, rfl, rfl⟩ := trodAll_nil r0
  obtain rfl : args = #[v0] := by cases args; simp_all
  obtain ⟨rfl, rfl⟩ := trodVars_none hV
  obtain ⟨a0, len0, cap0, rfl⟩ := okWide_slice Try.underlying22 (hval 0 22 v0 rfl rfl)
  have k0 := h0
  have lt0 : ∀ x ∈ p0, x.block < W.heap.size := by obtain ⟨m, hm⟩ := k0; exact DataW.trod_lt m _ _ _ hm
  obtain ⟨z0, w0⟩ : ∃ zs, IsRow .u8 W a0 len0 cap0 zs := by
    obtain ⟨fuel, hf⟩ := h0
    rcases open_ints Try.underlying22 Try.underlying5 (by kernel_rfl) hf with ⟨hcs, _⟩ | ⟨x, l, c, zs, hcs, _, hl, hm, hz, _, hcell, hwz⟩
    · simp [Value.cells] at hcs
      obtain ⟨rfl, rfl, rfl⟩ := hcs
      exact ⟨[], .inl ⟨rfl, rfl, rfl, rfl⟩⟩
    · simp [Value.cells] at hcs
      obtain ⟨rfl, rfl, rfl⟩ := hcs
      exact ⟨zs, .inr ⟨_, rfl, hl, hm, by simpa using hz, hcell, hwz⟩⟩
  clear hA0 hval0
  refine (walk a0 len0 cap0 z0 W w0).mono fun e W' ⟨he, bel⟩ => ?_
  subst he
  exact ⟨_, rfl, _, _, _, [], _, [], hW', trodAll_mk1 (shut_bool Try.underlying4 _), (trodAll_cons_mk (Below.trod laidOut (by kernel_rfl) (of_decide_eq_true (by kernel_rfl)) k0 bel lt0) trodAll_mk0), rfl, bel.frame _, fun h => by cases h⟩

theorem over : Rows.sumSealsRow.holds Try.pinned (OpenSpec.ofChange Rows.sumSealsSpec) :=
  OpenClaim.holds_of_wide 5 Try.f5 rfl rfl rfl rfl rfl rfl rfl ⟨rfl, rfl, rfl, rfl, rfl⟩ rfl rfl rfl rfl rfl (by kernel_rfl) Try.func5 (by kernel_rfl)
    (of_decide_eq_true (by kernel_rfl)) (by unfold Func.isWrapper; first | (rw [if_pos (by decide +kernel)]; kernel_rfl) | (rw [if_neg (by decide +kernel)]; exact ⟨rfl, rfl⟩))
    (fun os started H enc _ => lifted os started H enc)

theorem proved : Rows.SumSealsSaid := over
end Go.Proofs.Ytkpojegdeipfhaa.sumSeals
