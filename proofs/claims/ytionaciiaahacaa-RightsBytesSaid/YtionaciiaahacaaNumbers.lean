/- What the document's numbers makes of bytes. -/
import Derived.Test.YtionaciiaahacaaTakeRef
import Derived.Test.YtionaciiaahacaaReadRef
namespace Go.Proofs.Ytionaciiaahacaa
open Go.RowKit
set_option linter.unusedVariables false
theorem below_row {w v w' : World} {row : Option Nat} (hb : Below w.heap.size w v) (hg : v.grownBy w' row) (h : ∀ g, row = some g → w.heap.size ≤ g) : Below w.heap.size w w' :=
  ⟨hg.os.trans hb.os, hg.tape.trans hb.tape, hg.output.trans hb.output, Nat.le_trans hb.size hg.size, fun k hk => (hg.block k (Nat.lt_of_lt_of_le hk hb.size) (fun e => by have := h k e.symm; omega)).trans (hb.block k hk)⟩
theorem rd_grown {w w' : World} {A : Option Addr} {n : Nat} {l : List Nat} {row : Option Nat} (h : Rd w A n l) (hg : w.grownBy w' row) (hne : 0 < n → ∀ b o, A = some ⟨b, o, none⟩ → some b ≠ row) : Rd w' A n l := by
  refine ⟨h.1, h.2.1, fun hn => ?_⟩
  obtain ⟨b, o, rfl, hb, hc⟩ := h.2.2 hn
  exact ⟨b, o, rfl, Nat.lt_of_lt_of_le hb hg.size, fun j x hx => (hg.cell_far ⟨b, o + j, none⟩ hb (hne hn b o rfl)).trans (hc j x hx)⟩
def GivesNums (w : World) (o : Option (List Nat)) (e : Ending) (w' : World) : Prop :=
  ∃ (B : Option Addr) (m c : Nat), e = .returned (.tuple #[.slice B m c, .bool (takeOk o)]) ∧ (∀ ys, o = some ys → RdZ w' B m (ys.map fun (x : Nat) => (x : Int))) ∧ Below w.heap.size w w'
set_option maxRecDepth 100000 in
set_option maxHeartbeats 1000000 in
theorem numbers_any (A : Option Addr) (n cap k : Nat) (lb : List Nat) (w : World) (hl : Rd w A n lb) (hc : n ≤ cap) (hn : n ≤ 1000) (hk : k ≤ 10) :
    Calls Try.prog 54 #[.slice A n cap, .int .i64 (k : Int)] w (GivesNums w (Ac.just k lb)) := by
  go_enter Try.func54, Try.ntmps54
  go_wp2
  go_loopw [0, 6, 7] (fun sb so i wr => ∃ (j m c co : Nat) (B Bo : Option Addr) (cur pre : List Nat), j ≤ k ∧ i = .int .i64 (j : Int) ∧ sb = .slice B m c ∧ m ≤ 1000 ∧ m ≤ c ∧ Rd wr B m cur ∧ so = .slice Bo j co ∧ OwnI wr w.heap.size Bo j co (pre.map fun (x : Nat) => (x : Int)) ∧ Below w.heap.size w wr ∧ Hid (Ac.Sofar k j lb cur pre)) (fun _ _ i _ => k - (intOf i).toNat)
  case atStart => exact ⟨0, n, cap, 0, A, none, lb, [], by omega, rfl, rfl, by omega, hc, hl, rfl, OwnI.none_ w _, Below.refl _ _, Lib.hid (Ac.Sofar.start k lb)⟩
  case round =>
    obtain ⟨j, m, c, co, B, Bo, cur, pre, hj, rfl, rfl, hm, hmc, hr, rfl, hO, hb, hS⟩ := hrel
    by_cases hjk : j < k
    · have hjk' : (j : Int) < (k : Int) := by omega
      have ht := rtakenum_own B m c cur wr hr hmc (by omega)
      rcases htk : Cd.takeNum cur with _ | ⟨x, r⟩
      · rw [htk] at ht
        have hnone : Ac.just k lb = none := by unfold Ac.just; rw [hS.out.none_ hjk htk]
        have Hnone := Lib.hid hnone
        clear hnone htk
        go_wp2_with fail
        refine ht.mono ?_
        rintro e v2 ⟨rfl, hb2⟩
        go_wp2_with fail
        go_ret2
        rw [Hnone.out]
        exact ⟨none, 0, 0, rfl, (fun ys h => by cases h), below_next hb hb2⟩
      · rw [htk] at ht
        have hrb := (takeNum_bound htk).2.1
        rw [hr.1] at hrb
        by_cases hgreat : 1125899906842624 < x
        · have hnone : Ac.just k lb = none := by unfold Ac.just; rw [hS.out.great hjk htk hgreat]
          have Hnone := Lib.hid hnone
          have hg' : (1125899906842624 : Int) < (x : Int) := by omega
          clear hnone htk
          go_wp2_with fail
          refine ht.mono ?_
          rintro e v2 ⟨A2, c2, rfl, ho2, hb2⟩
          go_wp2_with fail
          go_ret2
          rw [Hnone.out]
          exact ⟨none, 0, 0, rfl, (fun ys h => by cases h), below_next hb hb2⟩
        · have hnext := hS.out.next hjk htk hgreat
          have Hnext := Lib.hid hnext
          have hg' : ¬ (1125899906842624 : Int) < (x : Int) := by omega
          have hg2 : (x : Int) ≤ 1125899906842624 := by omega
          have hw : IntKind.i64.wrap (x : Int) = (x : Int) := by rw [IntKind.wrap_i64]; omega
          clear htk hnext
          go_wp2_with fail
          refine ht.mono ?_
          rintro e v2 ⟨A2, c2, rfl, ho2, hb2⟩
          have hOa : OwnI (v2.alloc (.cells #[.int .i64 (x : Int)] 3)) w.heap.size Bo j co (pre.map fun (x : Nat) => (x : Int)) := (hO.below hb2).alloc _
          have hba : Below w.heap.size w (v2.alloc (.cells #[.int .i64 (x : Int)] 3)) := (below_next hb hb2).alloc (below_next hb hb2).size _
          have hra : Rd (v2.alloc (.cells #[.int .i64 (x : Int)] 3)) A2 r.length r := (ho2.alloc _).rd
          have hca : (v2.alloc (.cells #[.int .i64 (x : Int)] 3)).cell? ⟨v2.heap.size, 0, none⟩ = some (.int .i64 (x : Int)) := by rw [World.cell?_alloc_mark]; rfl
          have Hca := Lib.hid hca
          have HO := Lib.hid hO
          have hjle : j + 1 ≤ 1000000 := by omega
          clear hca hO ht
          go_wp2_with (first | (at_builtin; refine wpList_appI rfl (.tmp 28) (.tmp 31) rfl rfl hOa ⟨v2.heap.size, 0, none⟩ (x : Int) 1 rfl Hca.out hjle hba.size ?_; intro A3 c3 v3 hO3 hg3))
          have hb3 := below_row hba hg3 (fun g h => (HO.out.blk g h).1)
          have hr3 : Rd v3 A2 r.length r := rd_grown hra hg3 (fun h0 b o hA e => by
            obtain ⟨g, hgA, hgb, _⟩ := ho2.form h0
            have := (HO.out.blk b e.symm).2
            rw [hA] at hgA
            injection hgA with e1
            injection e1 with e1 _
            omega)
          have hc2 := ho2.cap
          clear hOa hba hra ho2 hg3
          go_roundw
          case rel =>
            refine ⟨j + 1, r.length, c2, c3, A2, A3, r, pre ++ [x], by omega, by go_num, rfl, by omega, hc2, hr3, rfl, ?_, hb3, Hnext⟩
            rw [List.map_append]
            exact hO3
          case measure => simp [intOf]; omega
    · have hjk2 : j = k := by omega
      subst hjk2
      have hend := hS.out.end_
      have hjj : ¬ (j : Int) < (j : Int) := by omega
      have hOr := hO.rd
      by_cases hm0 : m = 0
      · have hcur : cur = [] := List.eq_nil_of_length_eq_zero (by rw [hr.1]; exact hm0)
        have hjust : Ac.just j lb = some pre := by unfold Ac.just; rw [hend, hcur]
        have hb0 : ((m : Int) == 0) = true := by rw [beq_iff_eq]; omega
        have Hj := Lib.hid hjust
        clear hm0 hcur hjust hend
        go_wp2_with fail
        go_ret2
        rw [Hj.out]
        exact ⟨Bo, j, co, rfl, (fun ys h => by injection h with h; rw [← h]; exact hOr), hb⟩
      · have hjust : Ac.just j lb = none := by
          unfold Ac.just
          rw [hend]
          cases hcur : cur with
          | nil => exact absurd (by rw [← hr.1, hcur]; rfl) hm0
          | cons y t => rfl
        have hb0 : ((m : Int) == 0) = false := by rw [beq_eq_false_iff_ne]; omega
        have Hj := Lib.hid hjust
        clear hm0 hjust hend
        go_wp2_with fail
        go_ret2
        rw [Hj.out]
        exact ⟨Bo, j, co, rfl, (fun ys h => by cases h), hb⟩
end Go.Proofs.Ytionaciiaahacaa
