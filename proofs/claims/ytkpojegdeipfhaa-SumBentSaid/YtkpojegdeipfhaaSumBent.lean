/- For every slice of bytes and every bit of it: the sum of the bytes in which that bit is turned is the sum, turned by Bent, and Bent is not 0 there (P1.6), and the example at the head holds; the arguments stay as they were. No condition. -/
import Derived.Test.YtkpojegdeipfhaaTurn
import Derived.WalkKit
import Derived.ProofKit
import Derived.OpenShut
import Derived.ShutString
import Derived.ChangeOld
import Derived.Below
namespace Go.Proofs.Ytkpojegdeipfhaa.sumBent
open Go.ChangeShapes Go.WideShapes Go.ChangeAt Go.RowKit
open Go.ChangeMaps (open_string shut_string)
set_option linter.unusedVariables false

theorem own : ownKnob Try.prog.godebug = none := by kernel_rfl
theorem laidOut : laidOutB Try.prog = true := by kernel_rfl

set_option maxRecDepth 100000 in
theorem empty (a0 : Option Addr) (cap0 : Nat) (a1 : Int) (w : World) :
    Calls Try.prog 7 #[.slice a0 0 cap0, .int .u64 a1] w fun e w' => e = .returned (.bool true) ∧ Below w.heap.size w w' := by
  have hcut := cut_any a0 0 cap0 (by omega) (by omega)
  have Hcut := Lib.hid hcut
  clear hcut
  go_enter Try.func7, Try.ntmps7
  go_wp2_with (first | (go_at_call 11; refine (Hcut.out _).mono ?_; rintro e v1 ⟨rfl, rfl⟩) | (go_at_call 16; refine (awake_any _).mono ?_; rintro e v5 ⟨rfl, hb5⟩))
  go_ret
  exact ⟨rfl, hb5⟩
set_option maxRecDepth 100000 in
theorem full (A : Option Addr) (N n cap c p q j x : Nat) (l : List Nat) (w : World) (hl : Rd w A n l) (h0 : 0 < n) (h3 : n ≤ 3000) (hN : N ≤ 9223372036854775807) (hNn : n = min N 3000) (hcap : N ≤ cap)
    (hc : c < 18446744073709551616) (hp : (c : Int) % (8 * (n : Int)) = (p : Int)) (hpn : p < 8 * n) (hq : (p : Int) / 8 = (q : Int)) (hj : (p : Int) % 8 = (j : Int)) (hx : l[q]? = some x) (hx2 : x < 256) :
    Calls Try.prog 7 #[.slice A N cap, .int .u64 (c : Int)] w fun e w' => e = .returned (.bool true) ∧ Below w.heap.size w w' := by
  have hcut := cut_any A N cap hcap hN
  rw [← hNn] at hcut
  have Hcut := Lib.hid hcut
  clear hcut hNn
  have hj8 : j < 8 := by omega
  have hpow : 2 ^ j < 256 := Nat.pow_lt_pow_right (a := 2) (m := j) (n := 8) (by omega) hj8
  have hxor : bits .xor .u8 (x : Int) ((2 : Int) ^ j % 256) = ((x ^^^ 2 ^ j : Nat) : Int) := by rw [pow_cast, mod_u8 _ hpow]; exact u8_xor_nat x (2 ^ j) hx2 hpow
  have hy : x ^^^ 2 ^ j < 256 := Nat.xor_lt_two_pow (n := 8) hx2 hpow
  have hqn : (q : Int) < (n : Int) := by omega
  have hj8' : (j : Int) < 8 := by omega
  have hc0 : ((n : Int) == 0) = false := by rw [beq_eq_false_iff_ne]; omega
  have hB : bentN (n : Int) (p : Int) = Cr.steps (8 * (n - q)) (2 ^ j) := by
    rw [bentN_in (by omega) hpn, show p / 8 = q by omega, show p % 8 = j by omega]
  have hBlt : bentN (n : Int) (p : Int) < 4294967296 := by rw [hB]; exact Cr.steps_lt _ (by omega)
  have hBne : ((bentN (n : Int) (p : Int) : Int) != 0) = true := by
    rw [bne_iff_ne, hB]
    have hpos : 0 < 2 ^ j := Nat.pow_pos (by omega)
    have := Cr.steps_ne (8 * (n - q)) (r := 2 ^ j) (by omega) (by omega)
    omega
  have hm := Cr.more_lt (c := 0) hl.2.1 (by omega)
  have hset : bits .xor .u32 (Cr.more 0 l : Int) (bentN (n : Int) (p : Int) : Int) = (Cr.more 0 (l.set q (x ^^^ 2 ^ j)) : Int) := by
    rw [u32_xor_nat _ _ hm hBlt, Cr.more_set l q x _ hx, hB, hl.1]
  have Hx := Lib.hid hx
  clear hx hB hBlt
  go_enter Try.func7, Try.ntmps7
  go_wp2_with (first | (go_at_call 11; refine (Hcut.out _).mono ?_; rintro e v1 ⟨rfl, rfl⟩) | (at_builtin; (refine wpList_appB rfl (.tmp 20) (.tmp 21) rfl rfl (Own.empty w) A n cap l rfl (hl.alloc _) (by omega) (size_alloc_le _ _) ?_; intro A1 c1 w1 hg1; have hz := hg1.fresh; have hb1 := hz.1; have ho1 := hz.2; clear hg1 hz; obtain ⟨g, rfl, hgb, hgl⟩ := ho1.form h0; have hcell := ho1.cell Hx.out; have hfree := ho1.free q)))
  have ho2 := ho1.set q (x ^^^ 2 ^ j) hy
  have hb2 := hb1.setCell (p := ⟨g, q, none⟩) hgb (.int .u8 ((x ^^^ 2 ^ j : Nat) : Int))
  have Ho2 := Lib.hid ho2
  have Hb2 := Lib.hid hb2
  clear ho2 hb2 hcell hfree
  refine (of_any _ _ _ _ _ Ho2.out.rd (by omega)).mono ?_
  rintro e w3 ⟨rfl, hb3⟩
  have hb4 := Hb2.out.trans (hb3.mono Hb2.out.size)
  clear Ho2 Hb2 hb3 hb1 ho1
  go_wp2_with fail
  refine (of_any _ _ _ _ _ (hl.below hb4) (by omega)).mono ?_
  rintro e w5 ⟨rfl, hb5⟩
  have hb6 := hb4.trans (hb5.mono hb4.size)
  go_wp2_with (first | (go_at_call 19; refine (bent_any _ _ _).mono ?_; rintro e v3 ⟨rfl, rfl⟩) | (go_at_call 16; refine (awake_any _).mono ?_; rintro e v5 ⟨rfl, hb7⟩))
  go_ret
  exact ⟨rfl, hb6.trans (hb7.mono hb6.size)⟩
set_option maxRecDepth 100000 in
theorem walk (a0 : Option Addr) (len0 cap0 : Nat) (z0 : List Int) (a1 : Int) (w : World) (w0 : IsRow .u8 w a0 len0 cap0 z0) (w1 : (Lit.int .u64 a1).wf = true) :
    Calls Try.prog 7 #[.slice a0 len0 cap0, .int .u64 a1] w fun e w' => e = .returned (.bool true) ∧ Below w.heap.size w w' := by
  obtain ⟨l0, hr, hcap, hmax⟩ := row_rd w0
  obtain ⟨c, rfl, hc⟩ := u64_in w1
  by_cases h0 : len0 = 0
  · subst h0
    exact empty a0 cap0 _ w
  · have hl := hr.take (k := min len0 3000) (by omega)
    have hp : c % (8 * min len0 3000) < 8 * min len0 3000 := Nat.mod_lt _ (by omega)
    have hqn : c % (8 * min len0 3000) / 8 < min len0 3000 := by omega
    obtain ⟨_, _, x, _, _, hx, hx2, _⟩ := hl.at_ hqn
    exact full a0 len0 (min len0 3000) cap0 c (c % (8 * min len0 3000)) (c % (8 * min len0 3000) / 8) (c % (8 * min len0 3000) % 8) x _ w hl (by omega) (by omega) hmax rfl hcap hc
      (by rw [Int.natCast_emod, Int.natCast_mul]; rfl) hp (by omega) (by omega) hx hx2

set_option maxRecDepth 100000 in
theorem lifted (os : Os) (started : os.Started) (H : Type) (enc : TypeId × Value → H) :
    ReturnsInHanded {} Try.checked os 7 .any (Rows.sumBentSpec.pre6 enc Try.prog Try.f7 Rows.sumBentRow.domain false) (Rows.sumBentSpec.post enc Try.prog Try.f7 false true false false) := by
  refine returnsInHanded_of_change (C := Try.checked) own started (by kernel_rfl) Try.func7
    (ChangeSpec.witness6 (enc := enc) (C := Try.checked) false ⟨#[], #[.slice none 0 0, .int .u64 0], []⟩ 8 (by kernel_rfl) (by kernel_rfl) (by kernel_rfl) (by kernel_rfl)) ?_
  intro W base args ds gs before hval0 hW hcnd _
  have hval : ∀ (j : Nat) t v, Try.f7.params[j]? = some t → args[j]? = some v → Value.okWide Try.prog W .any base t v := hval0
  have hW' := hW
  obtain ⟨p, q, hA0, hV, rfl, hfz, hnd⟩ := hW
  have hA : DataW.TrodAll enc Try.prog W 0 (fun _ => true) true Try.f7.params.toList args.toList ds p := hA0
  rw [Try.params7] at hA hval
  obtain ⟨v0, vs0, d0, ds0, p0, q0, hargs, rfl, rfl, h0, r0⟩ := trodAll_cons hA
  obtain ⟨v1, vs1, d1, ds1, p1, q1, rfl, rfl, rfl, h1, r1⟩ := trodAll_cons r0
  obtain ⟨rfl, rfl, rfl⟩ := trodAll_nil r1
  obtain rfl : args = #[v0, v1] := by cases args; simp_all
  obtain ⟨rfl, rfl⟩ := trodVars_none hV
  obtain ⟨a0, len0, cap0, rfl⟩ := okWide_slice Try.underlying22 (hval 0 22 v0 rfl rfl)
  have k0 := h0
  have lt0 : ∀ x ∈ p0, x.block < W.heap.size := by obtain ⟨m, hm⟩ := k0; exact DataW.trod_lt m _ _ _ hm
  obtain ⟨z0, w0⟩ : ∃ zs, IsRow .u8 W a0 len0 cap0 zs := by
    obtain ⟨fuel, hf⟩ := h0
    rcases open_ints Try.underlying22 Try.underlying5 (by kernel_rfl) hf with ⟨hcs, _⟩ | ⟨x, l, c, zs, hcs, _, hl, hm, hz, _, hcell, hwz⟩
    · simp [Value.cells] at hcs
      obtain ⟨rfl, rfl, rfl⟩ := hcs
      exact ⟨[], .inl ⟨rfl, rfl, rfl, rfl⟩⟩
    · simp [Value.cells] at hcs
      obtain ⟨rfl, rfl, rfl⟩ := hcs
      exact ⟨zs, .inr ⟨_, rfl, hl, hm, by simpa using hz, hcell, hwz⟩⟩
  obtain ⟨a1, rfl, rfl, rfl, w1⟩ := open_int Try.underlying39 (hval 1 39 v1 rfl rfl) h1
  clear hA0 hval0
  refine (walk a0 len0 cap0 z0 a1 W w0 w1).mono fun e W' ⟨he, bel⟩ => ?_
  subst he
  exact ⟨_, rfl, _, _, _, [], _, [], hW', trodAll_mk1 (shut_bool Try.underlying4 _), (trodAll_cons_mk (Below.trod laidOut (by kernel_rfl) (of_decide_eq_true (by kernel_rfl)) k0 bel lt0) (trodAll_cons_mk (shut_int Try.underlying39 w1) trodAll_mk0)), rfl, bel.frame _, fun h => by cases h⟩

theorem over : Rows.sumBentRow.holds Try.pinned (OpenSpec.ofChange Rows.sumBentSpec) :=
  OpenClaim.holds_of_wide 7 Try.f7 rfl rfl rfl rfl rfl rfl rfl ⟨rfl, rfl, rfl, rfl, rfl⟩ rfl rfl rfl rfl rfl (by kernel_rfl) Try.func7 (by kernel_rfl)
    (of_decide_eq_true (by kernel_rfl)) (by unfold Func.isWrapper; first | (rw [if_pos (by decide +kernel)]; kernel_rfl) | (rw [if_neg (by decide +kernel)]; exact ⟨rfl, rfl⟩))
    (fun os started H enc _ => lifted os started H enc)

theorem proved : Rows.SumBentSaid := over
end Go.Proofs.Ytkpojegdeipfhaa.sumBent
