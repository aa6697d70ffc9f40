/- For every slice of bytes, every place and every mask of 32 bits: if any bit of the sealed bytes is turned by the mask from that place on, Open tells it with ErrSum and no bytes, and else it opens them (P1.8), and the example at the head holds; the arguments stay as they were. No condition. -/
import Derived.Test.YtkpojegdeipfhaaBurst
import Derived.WalkKit
import Derived.ProofKit
import Derived.OpenShut
import Derived.ShutString
import Derived.ChangeOld
import Derived.Below
namespace Go.Proofs.Ytkpojegdeipfhaa.sumBursts
open Go.ChangeShapes Go.WideShapes Go.ChangeAt Go.RowKit
open Go.ChangeMaps (open_string shut_string)
set_option linter.unusedVariables false

theorem own : ownKnob Try.prog.godebug = none := by kernel_rfl
theorem laidOut : laidOutB Try.prog = true := by kernel_rfl

theorem below_next {a v v' : World} (h : Below a.heap.size a v) (hb : Below v.heap.size v v') : Below a.heap.size a v' := h.trans (hb.mono h.size)
theorem byte_at {w : World} {A : Option Addr} {n : Nat} {l : List Nat} (h : Rd w A n l) {k : Nat} (hk : k < n) : ∃ x, l[k]? = some x ∧ x < 256 := by
  obtain ⟨_, _, x, _, _, hx, hx2, _⟩ := h.at_ hk
  exact ⟨x, hx, hx2⟩
theorem bit_val (m k : Nat) (hm : m < 4294967296) : bits .and .u32 ((m : Int) / 2 ^ k) 1 = ((m / 2 ^ k % 2 : Nat) : Int) := by
  rw [div_pow_cast]
  have := u32_and_nat (m / 2 ^ k) 1 (Nat.lt_of_le_of_lt (Nat.div_le_self _ _) hm) (by omega)
  rw [Nat.and_one_is_mod] at this
  exact this
set_option maxRecDepth 100000 in
theorem none_ (A : Option Addr) (N n cap : Nat) (c : Int) (l : List Nat) (w : World) (hl : Rd w A n l) (h3 : n ≤ 3000) (hN : N ≤ 9223372036854775807) (hNn : n = min N 3000) (hcap : N ≤ cap) :
    Calls Try.prog 9 #[.slice A N cap, .int .u64 c, .int .u32 0] w fun e w' => e = .returned (.bool true) ∧ Below w.heap.size w w' := by
  have hcut := cut_any A N cap hcap hN
  rw [← hNn] at hcut
  have Hcut := Lib.hid hcut
  clear hcut hNn
  have hsl4 : 4 ≤ ((Cr.sealed l).length : Int) := by rw [Cr.sealed_length]; omega
  go_enter Try.func9, Try.ntmps9
  go_wp2_with (first | (go_at_call 11; refine (Hcut.out _).mono ?_; rintro e v1 ⟨rfl, rfl⟩))
  refine (seal_any _ _ _ l _ hl (by omega)).mono ?_
  rintro e w1 ⟨A1, c1, rfl, ho1, hb1⟩
  go_wp2_with (first | (go_at_call 16; refine (awake_any _).mono ?_; rintro e w7 ⟨rfl, hb7⟩))
  go_ret
  exact ⟨rfl, below_next hb1 hb7⟩
/-- What is kept through the loop. -/
def Kept (l lk : List Nat) (p k acc : Nat) (t : Bool) : Prop := acc < 2 ^ k ∧ (t = true ↔ acc ≠ 0) ∧ Cr.run 4294967295 lk = Cr.steps 32 4294967295 ^^^ Cr.steps (8 * (Cr.sealed l).length - p) acc
set_option maxRecDepth 100000 in
theorem some_ (A : Option Addr) (N n cap c m p : Nat) (l : List Nat) (w : World) (hl : Rd w A n l) (h3 : n ≤ 3000) (hN : N ≤ 9223372036854775807) (hNn : n = min N 3000) (hcap : N ≤ cap)
    (hc : c < 18446744073709551616) (hm : m < 4294967296) (hm0 : m ≠ 0) (hp : (c : Int) % (8 * ((Cr.sealed l).length : Int)) = (p : Int)) (hpn : p < 8 * (Cr.sealed l).length) :
    Calls Try.prog 9 #[.slice A N cap, .int .u64 (c : Int), .int .u32 (m : Int)] w fun e w' => e = .returned (.bool true) ∧ Below w.heap.size w w' := by
  have hcut := cut_any A N cap hcap hN
  rw [← hNn] at hcut
  have Hcut := Lib.hid hcut
  clear hcut hNn
  have hll := hl.1
  have hsl : (Cr.sealed l).length = l.length + 4 := Cr.sealed_length l
  have hs4 : 4 ≤ (Cr.sealed l).length := by omega
  have hs3 : (Cr.sealed l).length ≤ 3004 := by omega
  have Hsl := Lib.hid hsl
  have Hll := Lib.hid hll
  clear hsl hll
  have hmne : ((m : Int) == 0) = false := by rw [beq_eq_false_iff_ne]; omega
  have hrs := Cr.run_sealed hl.2.1
  have Hrs := Lib.hid hrs
  clear hrs hm0
  go_enter Try.func9, Try.ntmps9
  go_wp2_with (first | (go_at_call 11; refine (Hcut.out _).mono ?_; rintro e v1 ⟨rfl, rfl⟩))
  refine (seal_any _ _ _ l _ hl (by omega)).mono ?_
  rintro e w1 ⟨A1, c1, rfl, ho1, hb1⟩
  go_wp2_with fail
  clear hp hmne
  obtain ⟨g, rfl, hgb, hgl⟩ := ho1.form (by omega)
  have Ho1 := Lib.hid ho1
  have Hb1 := Lib.hid hb1
  clear ho1 hb1
  go_loopw [9, 10] (fun tv i v => ∃ (k acc : Nat) (t : Bool) (lk : List Nat), k ≤ 32 ∧ i = .int .i64 k ∧ tv = .bool t ∧ Own v w.heap.size (some ⟨g, 0, none⟩) (Cr.sealed l).length c1 lk ∧ Below w.heap.size w v ∧ Kept l lk p k acc t) (fun _ i _ => 32 - (intOf i).toNat)
  case atStart => exact ⟨0, 0, false, _, by omega, rfl, rfl, Ho1.out, Hb1.out, by omega, by simp, by rw [Hrs.out, Cr.steps_zero, Nat.xor_zero]⟩
  case round =>
    obtain ⟨k, acc, t, lk, hk, rfl, rfl, ho, hb, hK⟩ := hrel
    by_cases hlt : k < 32
    · have hbv := bit_val m k hm
      have hk32 : (k : Int) < 32 := by omega
      have HK := Lib.hid hK
      have Ho := Lib.hid ho
      have Hb := Lib.hid hb
      clear hK ho hb
      by_cases hbit : m / 2 ^ k % 2 = 1
      · have hb1 : (bits .and .u32 ((m : Int) / 2 ^ k) 1 == 1) = true := by rw [hbv, hbit]; rfl
        clear hbv hbit
        by_cases hin : p + k < 8 * (Cr.sealed l).length
        · obtain ⟨q, hq⟩ : ∃ q, q = (p + k) / 8 := ⟨_, rfl⟩
          obtain ⟨j, hj⟩ : ∃ j, j = (p + k) % 8 := ⟨_, rfl⟩
          obtain ⟨x, hx, hx2⟩ := byte_at Ho.out.rd (show q < (Cr.sealed l).length by omega)
          have hcell := Ho.out.cell hx
          have hfree := Ho.out.free q
          have hj8 : j < 8 := by omega
          have hj8' : (j : Int) < 8 := by omega
          have hpow : 2 ^ j < 256 := Nat.pow_lt_pow_right (a := 2) (m := j) (n := 8) (by omega) hj8
          have hxor : bits .xor .u8 (x : Int) ((2 : Int) ^ j % 256) = ((x ^^^ 2 ^ j : Nat) : Int) := by rw [pow_cast, mod_u8 _ hpow]; exact u8_xor_nat x (2 ^ j) hx2 hpow
          have hy : x ^^^ 2 ^ j < 256 := Nat.xor_lt_two_pow (n := 8) hx2 hpow
          have hqn : (q : Int) < ((Cr.sealed l).length : Int) := by omega
          have hq' : ((p : Int) + (k : Int)) / 8 = (q : Int) := by omega
          have hj' : ((p : Int) + (k : Int)) % 8 = (j : Int) := by omega
          have hin' : (p : Int) + (k : Int) < 8 * ((Cr.sealed l).length : Int) := by omega
          have hpk0 : 0 ≤ (p : Int) + (k : Int) := by omega
          have hturn := Cr.turn_step Ho.out.1 hin hq hj hx _ HK.out.2.2
          have hnext := Cr.acc_next HK.out.1
          have Hturn := Lib.hid hturn
          have Hnext := Lib.hid hnext
          clear hturn hnext hx hq hj
          go_wp2
          go_roundw
          case rel => exact ⟨k + 1, acc ^^^ 2 ^ k, true, lk.set q (x ^^^ 2 ^ j), by omega, by go_num, rfl, Ho.out.set q _ hy, Hb.out.setCell (p := ⟨g, q, none⟩) hgb _, Hnext.out.1, ⟨fun _ => Hnext.out.2, fun _ => rfl⟩, Hturn.out⟩
          case measure => simp [intOf]; omega
        · go_wp2
          go_roundw
          case rel => exact ⟨k + 1, acc, t, lk, by omega, by go_num, rfl, Ho.out, Hb.out, Cr.pow_next HK.out.1, HK.out.2⟩
          case measure => simp [intOf]; omega
      · have hb1 : (bits .and .u32 ((m : Int) / 2 ^ k) 1 == 1) = false := by
          rw [hbv, beq_eq_false_iff_ne]; omega
        clear hbv hbit
        go_wp2
        go_roundw
        case rel => exact ⟨k + 1, acc, t, lk, by omega, by go_num, rfl, Ho.out, Hb.out, Cr.pow_next HK.out.1, HK.out.2⟩
        case measure => simp [intOf]; omega
    · have hk32 : k = 32 := by omega
      subst hk32
      obtain ⟨hacc, ht, hr⟩ := hK
      have hod := Cr.opened_turned (m := l.length) (N := 8 * (Cr.sealed l).length - p) (acc := acc) (L := lk) (by rw [ho.1]; exact Hsl.out) ho.2.1 hacc hr
      have hop := open_any _ _ c1 lk _ ho.rd ho.cap (by omega)
      have Hb := Lib.hid hb
      clear hb ho hr hacc
      cases t
      · have ha0 : acc = 0 := by
          rcases Nat.eq_zero_or_pos acc with h0 | h0
          · exact h0
          · have := ht.2 (by omega); cases this
        obtain ⟨x, hx⟩ := hod.1 ha0
        rw [hx] at hop
        have Hop := Lib.hid hop
        clear hop hx hod ht ha0
        go_wp2_with (first | (go_at_call 21; refine Hop.out.mono ?_; rintro e w4 ⟨A4, c4, rfl, ho4, hb4⟩) | (go_at_call 16; refine (awake_any _).mono ?_; rintro e w7 ⟨rfl, hb7⟩))
        go_ret
        exact ⟨rfl, below_next (below_next Hb.out hb4) hb7⟩
      · have ha0 : acc ≠ 0 := ht.1 rfl
        have hx := hod.2 ha0
        rw [hx] at hop
        have Hop := Lib.hid hop
        clear hop hx hod ht ha0
        go_wp2_with (first | (go_at_call 21; refine Hop.out.mono ?_; rintro e w4 ⟨rfl, hb4⟩) | (go_at_call 16; refine (awake_any _).mono ?_; rintro e w7 ⟨rfl, hb7⟩))
        go_ret
        exact ⟨rfl, below_next (below_next Hb.out hb4) hb7⟩
set_option maxRecDepth 100000 in
theorem walk (a0 : Option Addr) (len0 cap0 : Nat) (z0 : List Int) (a1 : Int) (a2 : Int) (w : World) (w0 : IsRow .u8 w a0 len0 cap0 z0) (w1 : (Lit.int .u64 a1).wf = true) (w2 : (Lit.int .u32 a2).wf = true) :
    Calls Try.prog 9 #[.slice a0 len0 cap0, .int .u64 a1, .int .u32 a2] w fun e w' => e = .returned (.bool true) ∧ Below w.heap.size w w' := by
  obtain ⟨l0, hr, hcap, hmax⟩ := row_rd w0
  obtain ⟨c, rfl, hc⟩ := u64_in w1
  obtain ⟨m, rfl, hm⟩ := u32_in w2
  have hl := hr.take (k := min len0 3000) (by omega)
  by_cases h0 : m = 0
  · subst h0
    exact none_ a0 len0 _ cap0 _ _ w hl (by omega) hmax rfl hcap
  · have hs := Cr.sealed_length (l0.take (min len0 3000))
    exact some_ a0 len0 _ cap0 c m (c % (8 * (Cr.sealed (l0.take (min len0 3000))).length)) _ w hl (by omega) hmax rfl hcap hc hm h0
      (by rw [Int.natCast_emod, Int.natCast_mul]; rfl) (Nat.mod_lt _ (by omega))

set_option maxRecDepth 100000 in
theorem lifted (os : Os) (started : os.Started) (H : Type) (enc : TypeId × Value → H) :
    ReturnsInHanded {} Try.checked os 9 .any (Rows.sumBurstsSpec.pre6 enc Try.prog Try.f9 Rows.sumBurstsRow.domain false) (Rows.sumBurstsSpec.post enc Try.prog Try.f9 false true false false) := by
  refine returnsInHanded_of_change (C := Try.checked) own started (by kernel_rfl) Try.func9
    (ChangeSpec.witness6 (enc := enc) (C := Try.checked) false ⟨#[], #[.slice none 0 0, .int .u64 0, .int .u32 0], []⟩ 8 (by kernel_rfl) (by kernel_rfl) (by kernel_rfl) (by kernel_rfl)) ?_
  intro W base args ds gs before hval0 hW hcnd _
  have hval : ∀ (j : Nat) t v, Try.f9.params[j]? = some t → args[j]? = some v → Value.okWide Try.prog W .any base t v := hval0
  have hW' := hW
  obtain ⟨p, q, hA0, hV, rfl, hfz, hnd⟩ := hW
  have hA : DataW.TrodAll enc Try.prog W 0 (fun _ => true) true Try.f9.params.toList args.toList ds p := hA0
  rw [Try.params9] at hA hval
  obtain ⟨v0, vs0, d0, ds0, p0, q0, hargs, rfl, rfl, h0, r0⟩ := trodAll_cons hA
  obtain ⟨v1, vs1, d1, ds1, p1, q1, rfl, rfl, rfl, h1, r1⟩ := trodAll_cons r0
  obtain ⟨v2, vs2, d2, ds2, p2, q2, rfl, rfl, rfl, h2, r2⟩ := trodAll_cons r1
  obtain ⟨rfl, rfl, rfl⟩ := trodAll_nil r2
  obtain rfl : args = #[v0, v1, v2] := by cases args; simp_all
  obtain ⟨rfl, rfl⟩ := trodVars_none hV
  obtain ⟨a0, len0, cap0, rfl⟩ := okWide_slice Try.underlying22 (hval 0 22 v0 rfl rfl)
  have k0 := h0
  have lt0 : ∀ x ∈ p0, x.block < W.heap.size := by obtain ⟨m, hm⟩ := k0; exact DataW.trod_lt m _ _ _ hm
  obtain ⟨z0, w0⟩ : ∃ zs, IsRow .u8 W a0 len0 cap0 zs := by
    obtain ⟨fuel, hf⟩ := h0
    rcases open_ints Try.underlying22 Try.underlying5 (by kernel_rfl) hf with ⟨hcs, _⟩ | ⟨x, l, c, zs, hcs, _, hl, hm, hz, _, hcell, hwz⟩
    · simp [Value.cells] at hcs
      obtain ⟨rfl, rfl, rfl⟩ := hcs
      exact ⟨[], .inl ⟨rfl, rfl, rfl, rfl⟩⟩
    · simp [Value.cells] at hcs
      obtain ⟨rfl, rfl, rfl⟩ := hcs
      exact ⟨zs, .inr ⟨_, rfl, hl, hm, by simpa using hz, hcell, hwz⟩⟩
  obtain ⟨a1, rfl, rfl, rfl, w1⟩ := open_int Try.underlying39 (hval 1 39 v1 rfl rfl) h1
  obtain ⟨a2, rfl, rfl, rfl, w2⟩ := open_int Try.underlying23 (hval 2 23 v2 rfl rfl) h2
  clear hA0 hval0
  refine (walk a0 len0 cap0 z0 a1 a2 W w0 w1 w2).mono fun e W' ⟨he, bel⟩ => ?_
  subst he
  exact ⟨_, rfl, _, _, _, [], _, [], hW', trodAll_mk1 (shut_bool Try.underlying4 _), (trodAll_cons_mk (Below.trod laidOut (by kernel_rfl) (of_decide_eq_true (by kernel_rfl)) k0 bel lt0) (trodAll_cons_mk (shut_int Try.underlying39 w1) (trodAll_cons_mk (shut_int Try.underlying23 w2) trodAll_mk0))), rfl, bel.frame _, fun h => by cases h⟩

theorem over : Rows.sumBurstsRow.holds Try.pinned (OpenSpec.ofChange Rows.sumBurstsSpec) :=
  OpenClaim.holds_of_wide 9 Try.f9 rfl rfl rfl rfl rfl rfl rfl ⟨rfl, rfl, rfl, rfl, rfl⟩ rfl rfl rfl rfl rfl (by kernel_rfl) Try.func9 (by kernel_rfl)
    (of_decide_eq_true (by kernel_rfl)) (by unfold Func.isWrapper; first | (rw [if_pos (by decide +kernel)]; kernel_rfl) | (rw [if_neg (by decide +kernel)]; exact ⟨rfl, rfl⟩))
    (fun os started H enc _ => lifted os started H enc)

theorem proved : Rows.SumBurstsSaid := over
end Go.Proofs.Ytkpojegdeipfhaa.sumBursts
