/- The document's shared. -/
import Derived.Test.YtbfjcpblbmlfcaaBkAlike
namespace Go.Proofs.Ytbfjcpblbmlfcaa
open Go.RowKit
set_option maxRecDepth 100000 in
set_option maxHeartbeats 8000000 in
theorem rshared_any (a b : ByteArray) (w : World) (ha : a.size ≤ 1000000) (hb : b.size ≤ 1000000) :
    Calls Try.prog 26 #[.string a, .string b] w fun e w' => e = .returned (.int .i64 (Bk.preS a b)) ∧ Below w.heap.size w w' := by
  go_enter Try.func26, Try.ntmps26
  go_wp2
  go_loopw [5] (fun i wr => ∃ k : Nat, k ≤ a.size ∧ k ≤ b.size ∧ i = .int .i64 (k : Int) ∧ Hid (Bk.preS a b = k + Bk.pre ((bs a).drop k) ((bs b).drop k)) ∧ Hid (Below w.heap.size w wr)) (fun i _ => a.size - (intOf i).toNat)
  case atStart => exact ⟨0, by omega, by omega, rfl, Lib.hid (by simp [Bk.preS]), Lib.hid (Below.refl _ _)⟩
  case round =>
    rename_i wr hrel
    obtain ⟨k, hka, hkb, rfl, HP, HB⟩ := hrel
    have HBd0 := Lib.hid ((Below.refl wr.heap.size wr).drew)
    by_cases h1 : k < a.size
    · have h1' : (k : Int) < (a.size : Int) := by omega
      by_cases h2 : k < b.size
      · have h2' : (k : Int) < (b.size : Int) := by omega
        by_cases h3 : a[k] = b[k]
        · have hp : Bk.preS a b = (k + 1) + Bk.pre ((bs a).drop (k + 1)) ((bs b).drop (k + 1)) := by
            rw [HP.out, Bk.pre_drop (bs_at h1) (bs_at h2), if_pos (by rw [h3])]
            omega
          have Hp := Lib.hid hp
          clear hp
          go_wp2_with fail
          refine region_class (fun w' => Below wr.heap.size wr w') (by kernel_rfl) (by kernel_rfl) HBd0.out ?_
          repeat (go_big_quiet_step ((first | (intro _; with_reducible rfl))))
          refine wpQuiet_nil ?_
          intro v9 hv9
          have HQ := Lib.hid (below_next HB.out hv9)
          go_wp2
          go_roundw
          case rel => exact ⟨k + 1, by omega, by omega, by simp only [Value.int.injEq, true_and]; omega, Hp, HQ⟩
          case measure => simp [intOf]; omega
        · have h3' : ¬ a[k].toNat = b[k].toNat := fun e => h3 (UInt8.toNat.inj e)
          have h3'' : ¬ (a[k].toNat : Int) = (b[k].toNat : Int) := by omega
          have he : Bk.preS a b = k := by rw [HP.out, Bk.pre_drop (bs_at h1) (bs_at h2), if_neg h3']; rfl
          have He := Lib.hid he
          clear he
          go_wp2_with fail
          refine region_class (fun w' => Below wr.heap.size wr w') (by kernel_rfl) (by kernel_rfl) HBd0.out ?_
          repeat (go_big_quiet_step ((first | (intro _; with_reducible rfl))))
          refine wpQuiet_nil ?_
          intro v9 hv9
          have HQ := Lib.hid (below_next HB.out hv9)
          go_wp2
          go_ret
          exact ⟨by rw [He.out]; rfl, HQ.out⟩
      · have h2' : ¬ (k : Int) < (b.size : Int) := by omega
        have he : Bk.preS a b = k := by rw [HP.out, Bk.pre_end (.inr (List.drop_eq_nil_of_le (by rw [bs_length]; omega)))]; rfl
        have He := Lib.hid he
        clear he
        go_wp2_with fail
        refine region_class (fun w' => Below wr.heap.size wr w') (by kernel_rfl) (by kernel_rfl) HBd0.out ?_
        repeat (go_big_quiet_step ((first | (intro _; with_reducible rfl))))
        refine wpQuiet_nil ?_
        intro v9 hv9
        have HQ := Lib.hid (below_next HB.out hv9)
        go_wp2
        go_ret
        exact ⟨by rw [He.out]; rfl, HQ.out⟩
    · have h1' : ¬ (k : Int) < (a.size : Int) := by omega
      have he : Bk.preS a b = k := by rw [HP.out, Bk.pre_end (.inl (List.drop_eq_nil_of_le (by rw [bs_length]; omega)))]; rfl
      have He := Lib.hid he
      clear he
      go_wp2_with fail
      refine region_class (fun w' => Below wr.heap.size wr w') (by kernel_rfl) (by kernel_rfl) HBd0.out ?_
      repeat (go_big_quiet_step ((first | (intro _; with_reducible rfl))))
      refine wpQuiet_nil ?_
      intro v9 hv9
      have HQ := Lib.hid (below_next HB.out hv9)
      go_wp2
      go_ret
      exact ⟨by rw [He.out]; rfl, HQ.out⟩
end Go.Proofs.Ytbfjcpblbmlfcaa
