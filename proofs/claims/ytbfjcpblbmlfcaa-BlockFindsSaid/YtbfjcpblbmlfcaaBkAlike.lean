/- Package block's alike: how many bytes two texts share at their beginnings. -/
import Derived.Test.YtbfjcpblbmlfcaaBkCmp
import Derived.Test.YtbfjcpblbmlfcaaStepV
import Derived.Test.YtbfjcpblbmlfcaaStr
import Derived.BigQuiet
namespace Go.Proofs.Ytbfjcpblbmlfcaa
open Go.RowKit
namespace Bk
/-- How many elements two lists share at their beginnings. -/
def pre : List Nat → List Nat → Nat
  | x :: xs, y :: ys => if x = y then 1 + pre xs ys else 0
  | _, _ => 0
theorem pre_le : ∀ (a b : List Nat), pre a b ≤ a.length ∧ pre a b ≤ b.length
  | [], _ => by simp [pre]
  | _ :: _, [] => by simp [pre]
  | x :: xs, y :: ys => by
    have := pre_le xs ys
    unfold pre
    split <;> simp <;> omega
theorem pre_take : ∀ (a b : List Nat), a.take (pre a b) = b.take (pre a b)
  | [], _ => by simp [pre]
  | _ :: _, [] => by simp [pre]
  | x :: xs, y :: ys => by
    have := pre_take xs ys
    unfold pre
    split
    · rename_i h
      rw [Nat.add_comm, List.take_succ_cons, List.take_succ_cons, this, h]
    · rfl
theorem pre_end {a b : List Nat} (h : a = [] ∨ b = []) : pre a b = 0 := by
  rcases h with rfl | rfl
  · rfl
  · cases a <;> rfl
theorem pre_drop {a b : List Nat} {k : Nat} {x y : Nat} (hx : a[k]? = some x) (hy : b[k]? = some y) : pre (a.drop k) (b.drop k) = if x = y then 1 + pre (a.drop (k + 1)) (b.drop (k + 1)) else 0 := by
  obtain ⟨ha, rfl⟩ := List.getElem?_eq_some_iff.1 hx
  obtain ⟨hb, rfl⟩ := List.getElem?_eq_some_iff.1 hy
  rw [List.drop_eq_getElem_cons ha, List.drop_eq_getElem_cons hb]
  rfl
/-- How many bytes two texts share at their beginnings. -/
def preS (a b : ByteArray) : Nat := pre (bs a) (bs b)
end Bk
set_option maxRecDepth 100000 in
set_option maxHeartbeats 8000000 in
theorem alike_any (a b : ByteArray) (w : World) (ha : a.size ≤ 1000000) (hb : b.size ≤ 1000000) :
    Calls Try.prog 21 #[.string a, .string b] w fun e w' => e = .returned (.int .i64 (Bk.preS a b)) ∧ Below w.heap.size w w' := by
  go_enter Try.func21, Try.ntmps21
  go_wp2
  go_loopw [5] (fun i wr => ∃ k : Nat, k ≤ a.size ∧ k ≤ b.size ∧ i = .int .i64 (k : Int) ∧ Hid (Bk.preS a b = k + Bk.pre ((bs a).drop k) ((bs b).drop k)) ∧ Hid (Below w.heap.size w wr)) (fun i _ => a.size - (intOf i).toNat)
  case atStart => exact ⟨0, by omega, by omega, rfl, Lib.hid (by simp [Bk.preS]), Lib.hid (Below.refl _ _)⟩
  case round =>
    rename_i wr hrel
    obtain ⟨k, hka, hkb, rfl, HP, HB⟩ := hrel
    have HBd0 := Lib.hid ((Below.refl wr.heap.size wr).drew)
    by_cases h1 : k < a.size
    · have h1' : (k : Int) < (a.size : Int) := by omega
      by_cases h2 : k < b.size
      · have h2' : (k : Int) < (b.size : Int) := by omega
        by_cases h3 : a[k] = b[k]
        · have hp : Bk.preS a b = (k + 1) + Bk.pre ((bs a).drop (k + 1)) ((bs b).drop (k + 1)) := by
            rw [HP.out, Bk.pre_drop (bs_at h1) (bs_at h2), if_pos (by rw [h3])]
            omega
          have Hp := Lib.hid hp
          clear hp
          go_wp2_with fail
          refine region_class (fun w' => Below wr.heap.size wr w') (by kernel_rfl) (by kernel_rfl) HBd0.out ?_
          repeat (go_big_quiet_step ((first | (intro _; with_reducible rfl))))
          refine wpQuiet_nil ?_
          intro v9 hv9
          have HQ := Lib.hid (below_next HB.out hv9)
          go_wp2
          go_roundw
          case rel => exact ⟨k + 1, by omega, by omega, by simp only [Value.int.injEq, true_and]; omega, Hp, HQ⟩
          case measure => simp [intOf]; omega
        · have h3' : ¬ a[k].toNat = b[k].toNat := fun e => h3 (UInt8.toNat.inj e)
          have h3'' : ¬ (a[k].toNat : Int) = (b[k].toNat : Int) := by omega
          have he : Bk.preS a b = k := by rw [HP.out, Bk.pre_drop (bs_at h1) (bs_at h2), if_neg h3']; rfl
          have He := Lib.hid he
          clear he
          go_wp2_with fail
          refine region_class (fun w' => Below wr.heap.size wr w') (by kernel_rfl) (by kernel_rfl) HBd0.out ?_
          repeat (go_big_quiet_step ((first | (intro _; with_reducible rfl))))
          refine wpQuiet_nil ?_
          intro v9 hv9
          have HQ := Lib.hid (below_next HB.out hv9)
          go_wp2
          go_ret
          exact ⟨by rw [He.out]; rfl, HQ.out⟩
      · have h2' : ¬ (k : Int) < (b.size : Int) := by omega
        have he : Bk.preS a b = k := by rw [HP.out, Bk.pre_end (.inr (List.drop_eq_nil_of_le (by rw [bs_length]; omega)))]; rfl
        have He := Lib.hid he
        clear he
        go_wp2_with fail
        refine region_class (fun w' => Below wr.heap.size wr w') (by kernel_rfl) (by kernel_rfl) HBd0.out ?_
        repeat (go_big_quiet_step ((first | (intro _; with_reducible rfl))))
        refine wpQuiet_nil ?_
        intro v9 hv9
        have HQ := Lib.hid (below_next HB.out hv9)
        go_wp2
        go_ret
        exact ⟨by rw [He.out]; rfl, HQ.out⟩
    · have h1' : ¬ (k : Int) < (a.size : Int) := by omega
      have he : Bk.preS a b = k := by rw [HP.out, Bk.pre_end (.inl (List.drop_eq_nil_of_le (by rw [bs_length]; omega)))]; rfl
      have He := Lib.hid he
      clear he
      go_wp2_with fail
      refine region_class (fun w' => Below wr.heap.size wr w') (by kernel_rfl) (by kernel_rfl) HBd0.out ?_
      repeat (go_big_quiet_step ((first | (intro _; with_reducible rfl))))
      refine wpQuiet_nil ?_
      intro v9 hv9
      have HQ := Lib.hid (below_next HB.out hv9)
      go_wp2
      go_ret
      exact ⟨by rw [He.out]; rfl, HQ.out⟩
end Go.Proofs.Ytbfjcpblbmlfcaa
