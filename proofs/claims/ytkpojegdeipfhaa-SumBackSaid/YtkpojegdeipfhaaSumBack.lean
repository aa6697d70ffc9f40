/- For every slice of bytes: what Seal tells Open gives back, what both tell is the caller's own, and the argument stays as it was (P1.7, P1.10), and the example at the head holds. No condition. -/
import Derived.Test.YtkpojegdeipfhaaTurn
import Derived.WalkKit
import Derived.ProofKit
import Derived.OpenShut
import Derived.ShutString
import Derived.ChangeOld
import Derived.Below
namespace Go.Proofs.Ytkpojegdeipfhaa.sumBack
open Go.ChangeShapes Go.WideShapes Go.ChangeAt Go.RowKit
open Go.ChangeMaps (open_string shut_string)
set_option linter.unusedVariables false

theorem own : ownKnob Try.prog.godebug = none := by kernel_rfl
theorem laidOut : laidOutB Try.prog = true := by kernel_rfl

theorem below_next {a v v' : World} (h : Below a.heap.size a v) (hb : Below v.heap.size v v') : Below a.heap.size a v' := h.trans (hb.mono h.size)
theorem opened_sealed (l : List Nat) : Cr.opened (Cr.sealed l) = some l := by
  have h : (Cr.sealed l).take ((Cr.sealed l).length - 4) = l := by
    rw [Cr.sealed_length, show l.length + 4 - 4 = l.length by omega]
    unfold Cr.sealed
    rw [List.take_append_of_le_length (Nat.le_refl _), List.take_length]
  unfold Cr.opened
  rw [h, if_pos ⟨by rw [Cr.sealed_length]; omega, rfl⟩]
theorem own_far {w : World} {base n cap g j : Nat} {A : Option Addr} {l : List Nat} (h : Own w base A n cap l) (hg : g < base) (u : Value) : Own (w.setCell ⟨g, j, none⟩ u) base A n cap l := by
  refine h.grown (row := some g) ⟨rfl, rfl, rfl, by simp [World.setCell], fun k hk hne => Below.heap_setCell _ _ _ _ (fun e => hne (by rw [e]))⟩ (.inr fun g' hg' e => ?_)
  injection hg' with hg'
  have := (h.blk _ e).1
  omega
theorem byte_at {w : World} {A : Option Addr} {n : Nat} {l : List Nat} (h : Rd w A n l) {k : Nat} (hk : k < n) : ∃ x, l[k]? = some x ∧ x < 256 := by
  obtain ⟨_, _, x, _, _, hx, hx2, _⟩ := h.at_ hk
  exact ⟨x, hx, hx2⟩
set_option maxRecDepth 100000 in
theorem main (A : Option Addr) (N n cap : Nat) (l : List Nat) (w : World) (hl : Rd w A n l) (h3 : n ≤ 3000) (hN : N ≤ 9223372036854775807) (hNn : n = min N 3000) (hcap : N ≤ cap) :
    Calls Try.prog 8 #[.slice A N cap] w fun e w' => e = .returned (.bool true) ∧ Below w.heap.size w w' := by
  have hcut := cut_any A N cap hcap hN
  rw [← hNn] at hcut
  have Hcut := Lib.hid hcut
  clear hcut hNn
  have hll := hl.1
  have hlen : l.length ≤ 3000 := by omega
  have hsl : (Cr.sealed l).length ≤ 3004 := by rw [Cr.sealed_length]; omega
  have hsl4 : 4 ≤ (Cr.sealed l).length := by rw [Cr.sealed_length]; omega
  clear hll
  have hs0 := run_str (cap := cap) hl
  have hop := fun v A' cap' (h : Rd v A' (Cr.sealed l).length (Cr.sealed l)) (hc : (Cr.sealed l).length ≤ cap') => open_any A' _ cap' _ v h hc (by omega)
  rw [opened_sealed] at hop
  have Hop := Lib.hid hop
  clear hop
  go_enter Try.func8, Try.ntmps8
  go_wp2_with (first | (go_at_call 11; refine (Hcut.out _).mono ?_; rintro e v1 ⟨rfl, rfl⟩))
  refine (seal_any _ _ _ l _ hl (by omega)).mono ?_
  rintro e w1 ⟨A1, c1, rfl, ho1, hb1⟩
  have hs1 := run_str (cap := c1) ho1.rd
  go_wp2_with fail
  refine (Hop.out w1 A1 c1 ho1.rd ho1.cap).mono ?_
  rintro e w2 ⟨A2, c2, rfl, ho2, hb2⟩
  have hs2 := run_str (cap := c2) ho2.rd
  go_wp2_with fail
  clear hs0 hs1 hs2
  have Ho1 := Lib.hid ho1
  have Ho2 := Lib.hid ho2
  have Hb1 := Lib.hid hb1
  have Hb2 := Lib.hid hb2
  clear ho1 ho2 hb1 hb2
  go_loopw [8] (fun i wr => ∃ (k : Nat) (lk : List Nat), k ≤ l.length ∧ i = .int .i64 k ∧ Own wr w1.heap.size A2 l.length c2 lk ∧ Below w1.heap.size w1 wr) (fun i _ => l.length - (intOf i).toNat)
  case atStart => exact ⟨0, l, by omega, rfl, Ho2.out, Hb2.out⟩
  case round =>
    obtain ⟨k, lk, hk, rfl, ho, hb⟩ := hrel
    by_cases hlt : k < l.length
    · obtain ⟨g, rfl, hgb, hgl⟩ := ho.form (by omega)
      obtain ⟨x, hx, hx2⟩ := byte_at ho.rd hlt
      have hcell := ho.cell hx
      have hfree := ho.free k
      have hv : bits .xor .u8 (x : Int) 255 = ((x ^^^ 255 : Nat) : Int) := u8_xor_nat x 255 hx2 (by omega)
      have hy : x ^^^ 255 < 256 := Nat.xor_lt_two_pow (n := 8) hx2 (by omega)
      have hkn : (k : Int) < (l.length : Int) := by omega
      have Ho := Lib.hid ho
      have Hb := Lib.hid hb
      clear ho hb hx
      go_wp2
      go_roundw
      case rel => exact ⟨k + 1, lk.set k (x ^^^ 255), by omega, by go_num, Ho.out.set k _ hy, Hb.out.setCell (p := ⟨g, k, none⟩) hgb _⟩
      case measure => simp [intOf]; omega
    · have hkn : k = l.length := by omega
      subst hkn
      have ho1' := Ho1.out.below hb
      have Hb := Lib.hid hb
      clear ho hb
      go_wp2_with fail
      refine (Hop.out wr A1 c1 ho1'.rd ho1'.cap).mono ?_
      rintro e w4 ⟨A4, c4, rfl, ho4, hb4⟩
      go_wp2_with fail
      have hw4 : Below w.heap.size w w4 := below_next (below_next Hb1.out Hb.out) hb4
      have ho1'' := ho1'.below hb4
      have hlt1 := Hb.out.size
      have Hw4 := Lib.hid hw4
      have Ho4 := Lib.hid ho4
      have Ho1'' := Lib.hid ho1''
      clear hb4 ho4 ho1'' ho1' hw4 hlt
      go_loopw [11] (fun i v => ∃ (k : Nat) (lk : List Nat), k ≤ (Cr.sealed l).length ∧ i = .int .i64 k ∧ Own v w.heap.size A1 (Cr.sealed l).length c1 lk ∧ Own v wr.heap.size A4 l.length c4 l ∧ Below w.heap.size w v) (fun i _ => (Cr.sealed l).length - (intOf i).toNat)
      case atStart => exact ⟨0, _, by omega, rfl, Ho1''.out, Ho4.out, Hw4.out⟩
      case round =>
        obtain ⟨k, lk, hk, rfl, ho, hoy, hb⟩ := hrel
        by_cases hlt : k < (Cr.sealed l).length
        · obtain ⟨g, rfl, hgb, hgl⟩ := Ho1.out.form (by omega)
          obtain ⟨x, hx, hx2⟩ := byte_at ho.rd hlt
          have hcell := ho.cell hx
          have hfree := ho.free k
          have hv : bits .xor .u8 (x : Int) 255 = ((x ^^^ 255 : Nat) : Int) := u8_xor_nat x 255 hx2 (by omega)
          have hy : x ^^^ 255 < 256 := Nat.xor_lt_two_pow (n := 8) hx2 (by omega)
          have hkn : (k : Int) < ((Cr.sealed l).length : Int) := by omega
          have Ho := Lib.hid ho
          have Hoy := Lib.hid hoy
          have Hbv := Lib.hid hb
          clear ho hb hx hoy
          go_wp2
          go_roundw
          case rel => exact ⟨k + 1, lk.set k (x ^^^ 255), by omega, by go_num, Ho.out.set k _ hy, own_far Hoy.out (by omega) _, Hbv.out.setCell (p := ⟨g, k, none⟩) hgb _⟩
          case measure => simp [intOf]; omega
        · have hlv := hl.below hb
          have hs0 := run_str (cap := cap) hlv
          have hsy := run_str (cap := c4) hoy.rd
          have Hbv := Lib.hid hb
          have Hlv := Lib.hid hlv
          clear hb hoy ho hlv
          go_wp2_with fail
          clear hs0 hsy
          refine (seal_any _ _ _ l _ Hlv.out (by omega)).mono ?_
          rintro e w6 ⟨A6, c6, rfl, ho6, hb6⟩
          have hs6 := run_str (cap := c6) ho6.rd
          have hw6 := below_next Hbv.out hb6
          have Hw6 := Lib.hid hw6
          clear ho6 hb6 hw6
          go_wp2_with (first | (go_at_call 16; refine (awake_any _).mono ?_; rintro e w7 ⟨rfl, hb7⟩))
          go_ret
          exact ⟨rfl, below_next Hw6.out hb7⟩
set_option maxRecDepth 100000 in
theorem walk (a0 : Option Addr) (len0 cap0 : Nat) (z0 : List Int) (w : World) (w0 : IsRow .u8 w a0 len0 cap0 z0) :
    Calls Try.prog 8 #[.slice a0 len0 cap0] w fun e w' => e = .returned (.bool true) ∧ Below w.heap.size w w' := by
  obtain ⟨l0, hr, hcap, hmax⟩ := row_rd w0
  exact main a0 len0 _ cap0 _ w (hr.take (k := min len0 3000) (by omega)) (by omega) hmax rfl hcap

set_option maxRecDepth 100000 in
theorem lifted (os : Os) (started : os.Started) (H : Type) (enc : TypeId × Value → H) :
    ReturnsInHanded {} Try.checked os 8 .any (Rows.sumBackSpec.pre6 enc Try.prog Try.f8 Rows.sumBackRow.domain false) (Rows.sumBackSpec.post enc Try.prog Try.f8 false true false false) := by
  refine returnsInHanded_of_change (C := Try.checked) own started (by kernel_rfl) Try.func8
    (ChangeSpec.witness6 (enc := enc) (C := Try.checked) false ⟨#[], #[.slice none 0 0], []⟩ 8 (by kernel_rfl) (by kernel_rfl) (by kernel_rfl) (by kernel_rfl)) ?_
  intro W base args ds gs before hval0 hW hcnd _
  have hval : ∀ (j : Nat) t v, Try.f8.params[j]? = some t → args[j]? = some v → Value.okWide Try.prog W .any base t v := hval0
  have hW' := hW
  obtain ⟨p, q, hA0, hV, rfl, hfz, hnd⟩ := hW
  have hA : DataW.TrodAll enc Try.prog W 0 (fun _ => true) true Try.f8.params.toList args.toList ds p := hA0
  rw [Try.params8] at hA hval
  obtain ⟨v0, vs0, d0, ds0, p0, q0, hargs, rfl, rfl, h0, r0⟩ := trodAll_cons hA
  obtain ⟨rfl, rfl, rfl⟩ := trodAll_nil r0
  obtain rfl : args = #[v0] := by cases args; simp_all
  obtain ⟨rfl, rfl⟩ := trodVars_none hV
  obtain ⟨a0, len0, cap0, rfl⟩ := okWide_slice Try.underlying22 (hval 0 22 v0 rfl rfl)
  have k0 := h0
  have lt0 : ∀ x ∈ p0, x.block < W.heap.size := by obtain ⟨m, hm⟩ := k0; exact DataW.trod_lt m _ _ _ hm
  obtain ⟨z0, w0⟩ : ∃ zs, IsRow .u8 W a0 len0 cap0 zs := by
    obtain ⟨fuel, hf⟩ := h0
    rcases open_ints Try.underlying22 Try.underlying5 (by kernel_rfl) hf with ⟨hcs, _⟩ | ⟨x, l, c, zs, hcs, _, hl, hm, hz, _, hcell, hwz⟩
    · simp [Value.cells] at hcs
      obtain ⟨rfl, rfl, rfl⟩ := hcs
      exact ⟨[], .inl ⟨rfl, rfl, rfl, rfl⟩⟩
    · simp [Value.cells] at hcs
      obtain ⟨rfl, rfl, rfl⟩ := hcs
      exact ⟨zs, .inr ⟨_, rfl, hl, hm, by simpa using hz, hcell, hwz⟩⟩
  clear hA0 hval0
  refine (walk a0 len0 cap0 z0 W w0).mono fun e W' ⟨he, bel⟩ => ?_
  subst he
  exact ⟨_, rfl, _, _, _, [], _, [], hW', trodAll_mk1 (shut_bool Try.underlying4 _), (trodAll_cons_mk (Below.trod laidOut (by kernel_rfl) (of_decide_eq_true (by kernel_rfl)) k0 bel lt0) trodAll_mk0), rfl, bel.frame _, fun h => by cases h⟩

theorem over : Rows.sumBackRow.holds Try.pinned (OpenSpec.ofChange Rows.sumBackSpec) :=
  OpenClaim.holds_of_wide 8 Try.f8 rfl rfl rfl rfl rfl rfl rfl ⟨rfl, rfl, rfl, rfl, rfl⟩ rfl rfl rfl rfl rfl (by kernel_rfl) Try.func8 (by kernel_rfl)
    (of_decide_eq_true (by kernel_rfl)) (by unfold Func.isWrapper; first | (rw [if_pos (by decide +kernel)]; kernel_rfl) | (rw [if_neg (by decide +kernel)]; exact ⟨rfl, rfl⟩))
    (fun os started H enc _ => lifted os started H enc)

theorem proved : Rows.SumBackSaid := over
end Go.Proofs.Ytkpojegdeipfhaa.sumBack
