/- The document's disk: Write. -/
import Derived.Test.YtamdihodconjiaaRkWriteE
import Derived.Test.YtamdihodconjiaaRkWriteN
namespace Go.Proofs.Ytamdihodconjiaa
open Go.RowKit
set_option linter.unusedVariables false
set_option maxRecDepth 100000 in
set_option maxHeartbeats 4000000 in
theorem rwrite_any (at_ : Int) (A : Option Addr) (n cb k0 : Nat) (b : List Nat) (w : World) (g : Nat) (lab : Nat → Tag) (st : Dk.St) (h : IsRef w g lab st) (hb : Rd w A n b) (hlow : st.low k0) (hk0 : k0 ≤ 1000) (hnn : n ≤ 9223372036854775807) :
    Calls Try.prog 21 #[.pointer (some ⟨g, 0, none⟩), .int .i64 at_, .slice A n cb] w fun e w' => e = .returned (.int .i64 (st.writeE at_ b.length)) ∧ LeftR lab g (st.write at_ b) w w' := by
  have HD := Lib.hid (rdown_any w g lab st h)
  have HH := Lib.hid (rhas_any at_ w g lab st h)
  have HSf := Lib.hid (LeftR.refl h)
  have hbl := hb.1
  have Hno : ∀ e, st.writeE at_ b.length = e → e ≠ 0 → st.write at_ b = st := fun e h1 h2 => by unfold Dk.St.write; rw [if_neg (by rw [h1]; exact h2)]
  cases hd : st.down
  · rw [hd] at HD
    cases hh : st.has at_
    · have hr : st.writeE at_ b.length = 5 := by unfold Dk.St.writeE Dk.St.ready; rw [hd, hh]; rfl
      rw [hr, Hno 5 hr (by omega)]
      rw [hh] at HH
      clear hr hh hd h hb hlow Hno hbl
      go_enter Try.func21, Try.ntmps21
      go_upto_region 5 with (refine HD.out.mono ?_; rintro e w' ⟨rfl, rfl⟩)
      go_wp2_with (refine HH.out.mono ?_; rintro e w' ⟨rfl, rfl⟩)
      go_ret
      exact ⟨rfl, HSf.out⟩
    · rw [hh] at HH
      have hrd : st.ready at_ = 0 := by unfold Dk.St.ready; rw [hd, hh]; rfl
      by_cases h128 : n = 128
      · subst h128
        have e1 : st.writeE at_ b.length = 0 := by unfold Dk.St.writeE; rw [if_pos hrd, if_pos hbl]
        have e2 : st.write at_ b = Dk.St.burn ⟨Dk.upd st.s at_.toNat (fun s => ⟨s.f, s.l ++ [b]⟩), st.n, st.fused, st.left⟩ := by unfold Dk.St.write; rw [if_pos e1]
        rw [e1, e2]
        obtain ⟨i, s, rfl, hs, _, _⟩ := ready_in hrd
        rw [Int.toNat_natCast]
        by_cases hl : s.l = []
        · exact rwrite_none i s A cb k0 b w g lab st h hb hlow hk0 hs hl HD HH hd
        · exact rwrite_more i s A cb k0 b w g lab st h hb hlow hk0 hs hl HD HH hd
      · have hr : st.writeE at_ b.length = 1 := by unfold Dk.St.writeE; rw [if_pos hrd, if_neg (by omega)]
        rw [hr, Hno 1 hr (by omega)]
        have h128i : ((n : Int) == 128) = false := by simp; omega
        clear hr hh hd h hb hlow Hno hbl hrd
        go_enter Try.func21, Try.ntmps21
        go_upto_region 5 with (refine HD.out.mono ?_; rintro e w' ⟨rfl, rfl⟩)
        go_wp2_with (refine HH.out.mono ?_; rintro e w' ⟨rfl, rfl⟩)
        go_ret
        exact ⟨rfl, HSf.out⟩
  · rw [hd] at HD
    have hr : st.writeE at_ b.length = 30 := by unfold Dk.St.writeE Dk.St.ready; rw [hd]; rfl
    rw [hr, Hno 30 hr (by omega)]
    clear hr hd h hb hlow Hno hbl
    go_enter Try.func21, Try.ntmps21
    go_wp2_with (refine HD.out.mono ?_; rintro e w' ⟨rfl, rfl⟩)
    go_ret
    exact ⟨rfl, HSf.out⟩
end Go.Proofs.Ytamdihodconjiaa
