/- For every three slices of bytes: the sum of all three, turned by one another byte by byte, is their three sums, turned by one another (P1.9), and the example at the head holds; the arguments stay as they were. No condition. -/
import Derived.Test.YtkpojegdeipfhaaSet
import Derived.WalkKit
import Derived.ProofKit
import Derived.OpenShut
import Derived.ShutString
import Derived.ChangeOld
import Derived.Below
namespace Go.Proofs.Ytkpojegdeipfhaa.sumThree
open Go.ChangeShapes Go.WideShapes Go.ChangeAt Go.RowKit
open Go.ChangeMaps (open_string shut_string)
set_option linter.unusedVariables false

theorem own : ownKnob Try.prog.godebug = none := by kernel_rfl
theorem laidOut : laidOutB Try.prog = true := by kernel_rfl

set_option maxRecDepth 100000 in
theorem walk (a0 : Option Addr) (len0 cap0 : Nat) (z0 : List Int) (a1 : Option Addr) (len1 cap1 : Nat) (z1 : List Int) (a2 : Option Addr) (len2 cap2 : Nat) (z2 : List Int) (w : World) (w0 : IsRow .u8 w a0 len0 cap0 z0) (w1 : IsRow .u8 w a1 len1 cap1 z1) (w2 : IsRow .u8 w a2 len2 cap2 z2) :
    Calls Try.prog 10 #[.slice a0 len0 cap0, .slice a1 len1 cap1, .slice a2 len2 cap2] w fun e w' => e = .returned (.bool true) ∧ Below w.heap.size w w' := by
  obtain ⟨l0, hr0, hcap0, hmax0⟩ := row_rd w0
  obtain ⟨l1, hr1, hcap1, hmax1⟩ := row_rd w1
  obtain ⟨l2, hr2, hcap2, hmax2⟩ := row_rd w2
  clear w0 w1 w2
  obtain ⟨n, hn⟩ : ∃ n, n ≤ len0 ∧ n ≤ len1 ∧ n ≤ len2 ∧ n ≤ 2000 ∧ (n = len0 ∨ n = len1 ∨ n = len2 ∨ n = 2000) := ⟨min (min (min len0 len1) len2) 2000, by omega⟩
  have n0 := hn.1
  have n1 := hn.2.1
  have n2 := hn.2.2.1
  have n3 := hn.2.2.2.1
  have hmin := min_four len0 len1 len2 n hn
  have hmk := make_all n (by omega)
  clear hn
  have hx := hr0.take n0
  have hy := hr1.take n1
  have hz := hr2.take n2
  have k0 : n ≤ cap0 := by omega
  have k1 : n ≤ cap1 := by omega
  have k2 : n ≤ cap2 := by omega
  have hz0 := Own.zeros w w.heap.size n (Nat.le_refl _) (by omega)
  have hbz : Below w.heap.size w (w.alloc (.cells (madeCells #[.int .u8 0] n) 5)) := (Below.refl _ _).alloc (Nat.le_refl _) _
  go_enter Try.func10, Try.ntmps10
  go_wp2
  clear hmin hmk
  generalize l0.take n = x at hx
  generalize l1.take n = y at hy
  generalize l2.take n = z at hz
  have exy : x.length = y.length := by rw [hx.1, hy.1]
  have eyz : y.length = z.length := by rw [hy.1, hz.1]
  have Exy := Lib.hid exy
  have Eyz := Lib.hid eyz
  clear exy eyz hr0 hr1 hr2
  go_loopw [9] (fun i wr => ∃ (k : Nat), k ≤ n ∧ i = .int .i64 k ∧ Own wr w.heap.size (some ⟨w.heap.size, 0, none⟩) n n (Cr.xor3 (x.take k) (y.take k) (z.take k) ++ List.replicate (n - k) 0) ∧ Below w.heap.size w wr) (fun i _ => n - (intOf i).toNat)
  case atStart => exact ⟨0, by omega, rfl, by simpa [Cr.xor3] using hz0, hbz⟩
  case round =>
    obtain ⟨k, hk, rfl, ho, hb⟩ := hrel
    by_cases hlt : k < n
    · obtain ⟨b0, o0, x0, rfl, hlt0, hx0, hx256, hcx⟩ := hx.at_ hlt
      obtain ⟨b1, o1, y0, rfl, hlt1, hy0, hy256, hcy⟩ := hy.at_ hlt
      obtain ⟨b2, o2, q0, rfl, hlt2, hq0, hq256, hcq⟩ := hz.at_ hlt
      have hcx1 := (hb.cell (p := ⟨b0, o0 + k, none⟩) hlt0).trans hcx
      have hcy1 := (hb.cell (p := ⟨b1, o1 + k, none⟩) hlt1).trans hcy
      have hcq1 := (hb.cell (p := ⟨b2, o2 + k, none⟩) hlt2).trans hcq
      clear hcx hcy hcq
      have hlen : (Cr.xor3 (x.take k) (y.take k) (z.take k)).length = k := by
        rw [Cr.xor3_length _ _ _ (by simp [Exy.out]) (by simp [Eyz.out]), List.length_take, hx.1]; omega
      have hold : (Cr.xor3 (x.take k) (y.take k) (z.take k) ++ List.replicate (n - k) 0)[k]? = some 0 := by
        rw [List.getElem?_append_right (by omega), hlen, Nat.sub_self, List.getElem?_replicate, if_pos (by omega)]
      have hcold := ho.cell hold
      have hfree := ho.free k
      have hv1 := u8_xor_nat x0 y0 hx256 hy256
      have hv1lt : x0 ^^^ y0 < 256 := Nat.xor_lt_two_pow (n := 8) hx256 hy256
      have hv2 := u8_xor_nat (x0 ^^^ y0) q0 hv1lt hq256
      have hv2lt : x0 ^^^ y0 ^^^ q0 < 256 := Nat.xor_lt_two_pow (n := 8) hv1lt hq256
      have hkn : (k : Int) < (n : Int) := by omega
      have hkl0 : (k : Int) < (len0 : Int) := by omega
      have hkl1 : (k : Int) < (len1 : Int) := by omega
      have hkl2 : (k : Int) < (len2 : Int) := by omega
      have Hx0 := Lib.hid hx0
      have Hy0 := Lib.hid hy0
      have Hq0 := Lib.hid hq0
      have Ho := Lib.hid ho
      have Hlen := Lib.hid hlen
      have Hb := Lib.hid hb
      clear hx0 hy0 hq0 ho hlen hold hb
      go_wp2
      go_region
      go_wp2
      go_roundw
      case rel =>
        refine ⟨k + 1, by omega, by go_num, ?_, (Hb.out.setCell (p := ⟨w.heap.size, k, none⟩) (by simp) _).drew⟩
        have h1 := (Ho.out.set k _ hv2lt).drew
        rw [List.set_append_right _ _ (by rw [Hlen.out]; exact Nat.le_refl _), Hlen.out, Nat.sub_self] at h1
        have e1 : (List.replicate (n - k) 0).set 0 (x0 ^^^ y0 ^^^ q0) = (x0 ^^^ y0 ^^^ q0) :: List.replicate (n - (k + 1)) 0 := by
          rw [show n - k = (n - (k + 1)) + 1 by omega]; rfl
        rw [e1] at h1
        rw [take_snoc Hx0.out, take_snoc Hy0.out, take_snoc Hq0.out, Cr.xor3_snoc _ _ _ _ _ _ (by simp [Exy.out]) (by simp [Eyz.out]), List.append_assoc]
        exact h1
      case measure => simp [intOf]; omega
    · have hkn : k = n := by omega
      subst hkn
      rw [Nat.sub_self, List.take_of_length_le (Nat.le_of_eq hx.1), List.take_of_length_le (Nat.le_of_eq hy.1), List.take_of_length_le (Nat.le_of_eq hz.1)] at ho
      have ho' : Own wr w.heap.size (some ⟨w.heap.size, 0, none⟩) k k (Cr.xor3 x y z) := by simpa using ho
      have Ho := Lib.hid ho'
      have hX := Cr.more_lt (c := 0) hx.2.1 (by omega)
      have hY := Cr.more_lt (c := 0) hy.2.1 (by omega)
      have hZ := Cr.more_lt (c := 0) hz.2.1 (by omega)
      have v1 := u32_xor_nat _ _ hX hY
      have v2 := u32_xor_nat _ _ (Cr.xor_lt hX hY) hZ
      have hall : ∀ v : World, Below wr.heap.size wr v → Calls Try.prog 12 #[.slice (some ⟨w.heap.size, 0, none⟩) k k] v fun e w' => e = .returned (.int .u32 ((Cr.more 0 x ^^^ Cr.more 0 y ^^^ Cr.more 0 z : Nat) : Int)) ∧ Below wr.heap.size wr w' := by
        intro v hv
        rw [← Cr.more_xor3 _ _ _ Exy.out Eyz.out]
        exact calls_class hv (of_any _ _ _ _ _ (Ho.out.below hv).rd (by omega))
      have hca : ∀ v : World, Below wr.heap.size wr v → Calls Try.prog 12 #[.slice a0 k cap0] v fun e w' => e = .returned (.int .u32 (Cr.more 0 x : Int)) ∧ Below wr.heap.size wr w' :=
        fun v hv => calls_class hv (of_any _ _ _ _ _ ((hx.below hb).below hv) (by omega))
      have hcb : ∀ v : World, Below wr.heap.size wr v → Calls Try.prog 12 #[.slice a1 k cap1] v fun e w' => e = .returned (.int .u32 (Cr.more 0 y : Int)) ∧ Below wr.heap.size wr w' :=
        fun v hv => calls_class hv (of_any _ _ _ _ _ ((hy.below hb).below hv) (by omega))
      have hcc : ∀ v : World, Below wr.heap.size wr v → Calls Try.prog 12 #[.slice a2 k cap2] v fun e w' => e = .returned (.int .u32 (Cr.more 0 z : Int)) ∧ Below wr.heap.size wr w' :=
        fun v hv => calls_class hv (of_any _ _ _ _ _ ((hz.below hb).below hv) (by omega))
      have Hall := Lib.hid hall
      have Hca := Lib.hid hca
      have Hcb := Lib.hid hcb
      have Hcc := Lib.hid hcc
      have Hb := Lib.hid hb
      clear ho ho' hz0 hall hca hcb hcc hb hbz
      go_wp2
      refine region_class (fun w' => Below wr.heap.size wr w') (by kernel_rfl) (by kernel_rfl) ((Below.refl _ _).drew) ?_
      repeat (go_big_quiet_step ((intro _; with_reducible rfl)))
      go_big_quiet_step ((intro hq; exact Hall.out _ hq))
      repeat (go_big_quiet_step ((intro _; with_reducible rfl)))
      go_big_quiet_step ((intro hq; exact Hca.out _ hq))
      repeat (go_big_quiet_step ((intro _; with_reducible rfl)))
      go_big_quiet_step ((intro hq; exact Hcb.out _ hq))
      repeat (go_big_quiet_step ((intro _; with_reducible rfl)))
      go_big_quiet_step ((intro hq; exact Hcc.out _ hq))
      repeat (go_big_quiet_step ((intro _; with_reducible rfl)))
      go_big_quiet_step ((intro hq; exact calls_class hq (awake_any _)))
      repeat (go_big_quiet_step ((intro _; with_reducible rfl)))
      refine wpQuiet_nil ?_
      intro v hv
      go_wp2
      go_ret
      exact ⟨rfl, Hb.out.trans (hv.mono Hb.out.size)⟩

set_option maxRecDepth 100000 in
theorem lifted (os : Os) (started : os.Started) (H : Type) (enc : TypeId × Value → H) :
    ReturnsInHanded {} Try.checked os 10 .any (Rows.sumThreeSpec.pre6 enc Try.prog Try.f10 Rows.sumThreeRow.domain false) (Rows.sumThreeSpec.post enc Try.prog Try.f10 false true false false) := by
  refine returnsInHanded_of_change (C := Try.checked) own started (by kernel_rfl) Try.func10
    (ChangeSpec.witness6 (enc := enc) (C := Try.checked) false ⟨#[], #[.slice none 0 0, .slice none 0 0, .slice none 0 0], []⟩ 8 (by kernel_rfl) (by kernel_rfl) (by kernel_rfl) (by kernel_rfl)) ?_
  intro W base args ds gs before hval0 hW hcnd _
  have hval : ∀ (j : Nat) t v, Try.f10.params[j]? = some t → args[j]? = some v → Value.okWide Try.prog W .any base t v := hval0
  have hW' := hW
  obtain ⟨p, q, hA0, hV, rfl, hfz, hnd⟩ := hW
  have hA : DataW.TrodAll enc Try.prog W 0 (fun _ => true) true Try.f10.params.toList args.toList ds p := hA0
  rw [Try.params10] at hA hval
  obtain ⟨v0, vs0, d0, ds0, p0, q0, hargs, rfl, rfl, h0, r0⟩ := trodAll_cons hA
  obtain ⟨v1, vs1, d1, ds1, p1, q1, rfl, rfl, rfl, h1, r1⟩ := trodAll_cons r0
  obtain ⟨v2, vs2, d2, ds2, p2, q2, rfl, rfl, rfl, h2, r2⟩ := trodAll_cons r1
  obtain ⟨rfl, rfl, rfl⟩ := trodAll_nil r2
  obtain rfl : args = #[v0, v1, v2] := by cases args; simp_all
  obtain ⟨rfl, rfl⟩ := trodVars_none hV
  obtain ⟨a0, len0, cap0, rfl⟩ := okWide_slice Try.underlying22 (hval 0 22 v0 rfl rfl)
  have k0 := h0
  have lt0 : ∀ x ∈ p0, x.block < W.heap.size := by obtain ⟨m, hm⟩ := k0; exact DataW.trod_lt m _ _ _ hm
  obtain ⟨z0, w0⟩ : ∃ zs, IsRow .u8 W a0 len0 cap0 zs := by
    obtain ⟨fuel, hf⟩ := h0
    rcases open_ints Try.underlying22 Try.underlying5 (by kernel_rfl) hf with ⟨hcs, _⟩ | ⟨x, l, c, zs, hcs, _, hl, hm, hz, _, hcell, hwz⟩
    · simp [Value.cells] at hcs
      obtain ⟨rfl, rfl, rfl⟩ := hcs
      exact ⟨[], .inl ⟨rfl, rfl, rfl, rfl⟩⟩
    · simp [Value.cells] at hcs
      obtain ⟨rfl, rfl, rfl⟩ := hcs
      exact ⟨zs, .inr ⟨_, rfl, hl, hm, by simpa using hz, hcell, hwz⟩⟩
  obtain ⟨a1, len1, cap1, rfl⟩ := okWide_slice Try.underlying22 (hval 1 22 v1 rfl rfl)
  have k1 := h1
  have lt1 : ∀ x ∈ p1, x.block < W.heap.size := by obtain ⟨m, hm⟩ := k1; exact DataW.trod_lt m _ _ _ hm
  obtain ⟨z1, w1⟩ : ∃ zs, IsRow .u8 W a1 len1 cap1 zs := by
    obtain ⟨fuel, hf⟩ := h1
    rcases open_ints Try.underlying22 Try.underlying5 (by kernel_rfl) hf with ⟨hcs, _⟩ | ⟨x, l, c, zs, hcs, _, hl, hm, hz, _, hcell, hwz⟩
    · simp [Value.cells] at hcs
      obtain ⟨rfl, rfl, rfl⟩ := hcs
      exact ⟨[], .inl ⟨rfl, rfl, rfl, rfl⟩⟩
    · simp [Value.cells] at hcs
      obtain ⟨rfl, rfl, rfl⟩ := hcs
      exact ⟨zs, .inr ⟨_, rfl, hl, hm, by simpa using hz, hcell, hwz⟩⟩
  obtain ⟨a2, len2, cap2, rfl⟩ := okWide_slice Try.underlying22 (hval 2 22 v2 rfl rfl)
  have k2 := h2
  have lt2 : ∀ x ∈ p2, x.block < W.heap.size := by obtain ⟨m, hm⟩ := k2; exact DataW.trod_lt m _ _ _ hm
  obtain ⟨z2, w2⟩ : ∃ zs, IsRow .u8 W a2 len2 cap2 zs := by
    obtain ⟨fuel, hf⟩ := h2
    rcases open_ints Try.underlying22 Try.underlying5 (by kernel_rfl) hf with ⟨hcs, _⟩ | ⟨x, l, c, zs, hcs, _, hl, hm, hz, _, hcell, hwz⟩
    · simp [Value.cells] at hcs
      obtain ⟨rfl, rfl, rfl⟩ := hcs
      exact ⟨[], .inl ⟨rfl, rfl, rfl, rfl⟩⟩
    · simp [Value.cells] at hcs
      obtain ⟨rfl, rfl, rfl⟩ := hcs
      exact ⟨zs, .inr ⟨_, rfl, hl, hm, by simpa using hz, hcell, hwz⟩⟩
  clear hA0 hval0
  refine (walk a0 len0 cap0 z0 a1 len1 cap1 z1 a2 len2 cap2 z2 W w0 w1 w2).mono fun e W' ⟨he, bel⟩ => ?_
  subst he
  exact ⟨_, rfl, _, _, _, [], _, [], hW', trodAll_mk1 (shut_bool Try.underlying4 _), (trodAll_cons_mk (Below.trod laidOut (by kernel_rfl) (of_decide_eq_true (by kernel_rfl)) k0 bel lt0) (trodAll_cons_mk (Below.trod laidOut (by kernel_rfl) (of_decide_eq_true (by kernel_rfl)) k1 bel lt1) (trodAll_cons_mk (Below.trod laidOut (by kernel_rfl) (of_decide_eq_true (by kernel_rfl)) k2 bel lt2) trodAll_mk0))), rfl, bel.frame _, fun h => by cases h⟩

theorem over : Rows.sumThreeRow.holds Try.pinned (OpenSpec.ofChange Rows.sumThreeSpec) :=
  OpenClaim.holds_of_wide 10 Try.f10 rfl rfl rfl rfl rfl rfl rfl ⟨rfl, rfl, rfl, rfl, rfl⟩ rfl rfl rfl rfl rfl (by kernel_rfl) Try.func10 (by kernel_rfl)
    (of_decide_eq_true (by kernel_rfl)) (by unfold Func.isWrapper; first | (rw [if_pos (by decide +kernel)]; kernel_rfl) | (rw [if_neg (by decide +kernel)]; exact ⟨rfl, rfl⟩))
    (fun os started H enc _ => lifted os started H enc)

theorem proved : Rows.SumThreeSaid := over
end Go.Proofs.Ytkpojegdeipfhaa.sumThree
