/- Slices of steps that came in; what becomes of an account by a step, as numbers. -/
import Derived.Test.YtionaciiaahacaaStructs
import Derived.Test.YtionaciiaahacaaInAcc
import Derived.Test.YtionaciiaahacaaHolds
namespace Go.Proofs.Ytionaciiaahacaa
open Go.ChangeShapes Go.WideShapes Go.ChangeAt Go.RowKit Go.Joins
theorem u8_in {a : Int} (h : (Lit.int .u8 a).wf = true) : ∃ c : Nat, a = (c : Int) ∧ c < 256 := by
  simp [Lit.wf, IntKind.min, IntKind.max, IntKind.signed, IntKind.bits] at h
  exact ⟨a.toNat, by omega, by omega⟩
structure St where
  k : Nat
  n : Int
  u : Int
  t : Int
/-- A slice that reads as these steps. -/
def RdT (w : World) (A : Option Addr) (n : Nat) (l : List St) : Prop :=
  l.length = n ∧ (0 < n → ∃ b o, A = some ⟨b, o, none⟩ ∧ b < w.heap.size ∧ ∀ (i : Nat) (s : St), l[i]? = some s →
    w.cell? ⟨b, o + (i * 4 + 0), none⟩ = some (.int .u8 (s.k : Int)) ∧ w.cell? ⟨b, o + (i * 4 + 1), none⟩ = some (.int .i64 s.n) ∧ w.cell? ⟨b, o + (i * 4 + 2), none⟩ = some (.int .i64 s.u) ∧ w.cell? ⟨b, o + (i * 4 + 3), none⟩ = some (.int .i64 s.t) ∧ s.k < 256 ∧ -9223372036854775808 ≤ s.n ∧ s.n ≤ 9223372036854775807)
section
variable {H : Type} {enc : TypeId × Value → H} {W : World} {base : Nat} {v : Value} {d : DataW H} {p : List MemPlace}
theorem cells_step : Try.prog.cellsOf 50 = 4 := by kernel_rfl
theorem in_steps (hval : Value.okWide Try.prog W .any base 46 v) (h : Reads enc W 46 v d p) : ∃ (A : Option Addr) (n cap : Nat) (l : List St), v = .slice A n cap ∧ RdT W A n l ∧ n ≤ cap ∧ n ≤ 9223372036854775807 := by
  obtain ⟨A, n, cap, rfl, hc, hn, hr⟩ := in_structs Try.underlying46 Try.underlying50 (by kernel_rfl) cells_step (by decide) hval h
  by_cases h0 : 0 < n
  · obtain ⟨b, o, rfl, hb, he⟩ := hr h0
    obtain ⟨l, hl, hp⟩ := exists_list (α := St) (P := fun i s => W.cell? ⟨b, o + (i * 4 + 0), none⟩ = some (.int .u8 (s.k : Int)) ∧ W.cell? ⟨b, o + (i * 4 + 1), none⟩ = some (.int .i64 s.n) ∧ W.cell? ⟨b, o + (i * 4 + 2), none⟩ = some (.int .i64 s.u) ∧ W.cell? ⟨b, o + (i * 4 + 3), none⟩ = some (.int .i64 s.t) ∧ s.k < 256 ∧ -9223372036854775808 ≤ s.n ∧ s.n ≤ 9223372036854775807) n (fun i hi => by
      obtain ⟨u0, c0, m0, y0, r0⟩ := he i hi 0 _ rfl
      obtain ⟨u1, c1, m1, y1, r1⟩ := he i hi 1 _ rfl
      obtain ⟨u2, c2, m2, y2, r2⟩ := he i hi 2 _ rfl
      obtain ⟨u3, c3, m3, y3, r3⟩ := he i hi 3 _ rfl
      obtain ⟨a0, e0, _, wa⟩ := DataW.trod_int Try.underlying5 r0
      simp at e0
      subst e0
      obtain ⟨k, rfl, hk⟩ := u8_in wa
      obtain ⟨a1, rfl, w1a, w1b⟩ := one_int r1
      obtain ⟨a2, rfl, _⟩ := one_int r2
      obtain ⟨a3, rfl, _⟩ := one_int r3
      exact ⟨⟨k, a1, a2, a3⟩, c0, c1, c2, c3, hk, w1a, w1b⟩)
    exact ⟨some ⟨b, o, none⟩, n, cap, l, rfl, ⟨hl, fun _ => ⟨b, o, rfl, hb, hp⟩⟩, hc, hn⟩
  · have : n = 0 := by omega
    subst this
    exact ⟨A, 0, cap, [], rfl, ⟨rfl, fun h => absurd h (Nat.lt_irrefl 0)⟩, hc, hn⟩
end
namespace Ac
/-- What a step makes of an account: the account and an error. -/
def did (f h q : Int) (s : St) : Int × Int × Int × Int :=
  if s.k % 9 = 0 ∨ s.k % 9 = 1 then chg f h q s.n 1 (more f h q s.n) else if s.k % 9 = 2 ∨ s.k % 9 = 3 then chg f h q s.n 1 (less f h q s.n) else if s.k % 9 = 4 then chg f h q s.n 0 (f, h, s.n, 0)
  else if s.k % 9 = 5 then reserve f h q s.n s.u else if s.k % 9 = 6 then cancel f h q s.n s.u else if s.k % 9 = 7 then confirm f h q s.n s.u s.t else expire f h q s.n s.u s.t
/-- By how much free and held together change. -/
def by_ (s : St) : Int := if s.k % 9 = 0 ∨ s.k % 9 = 1 then s.n else if s.k % 9 = 2 ∨ s.k % 9 = 3 ∨ s.k % 9 = 7 then -s.n else 0
def step (f h q : Int) (s : St) : Int × Int × Int × Int × Int :=
  if (did f h q s).2.2.2 = 0 then ((did f h q s).1, (did f h q s).2.1, (did f h q s).2.2.1, by_ s, 0) else (f, h, q, 0, (did f h q s).2.2.2)
theorem did_kept (f h q : Int) (s : St) (hk : okA f h q = true) (he : (did f h q s).2.2.2 = 0) :
    okA (did f h q s).1 (did f h q s).2.1 (did f h q s).2.2.1 = true ∧ (did f h q s).1 + (did f h q s).2.1 = f + h + by_ s ∧ (by_ s = s.n ∨ by_ s = -s.n ∨ by_ s = 0) := by
  obtain ⟨k1, k2, k3, k4, k5, k6, k7⟩ := okA_iff.1 hk
  have hb : s.k % 9 < 9 := Nat.mod_lt _ (by omega)
  unfold did by_ at *
  generalize s.k % 9 = m at *
  have fin : ∀ (r : Int × Int × Int × Int) (c : Int), (0 ≤ r.1 ∧ r.1 ≤ 1125899906842624 ∧ 0 ≤ r.2.1 ∧ r.2.1 ≤ 1125899906842624 ∧ 0 ≤ r.2.2.1 ∧ r.2.2.1 ≤ 1125899906842624 ∧ r.1 + r.2.1 ≤ 1125899906842624) → r.1 + r.2.1 = f + h + c → (c = s.n ∨ c = -s.n ∨ c = 0) → okA r.1 r.2.1 r.2.2.1 = true ∧ r.1 + r.2.1 = f + h + c ∧ (c = s.n ∨ c = -s.n ∨ c = 0) := fun r c h1 h2 h3 => ⟨okA_iff.2 h1, h2, h3⟩
  have chgm : ∀ (n least : Int) (g : Int × Int × Int × Int), (chg f h q n least g).2.2.2 = 0 → chg f h q n least g = g ∧ least ≤ n ∧ n ≤ 1125899906842624 := by
    intro n least g hg
    unfold chg at hg ⊢
    rw [hk, if_pos rfl] at hg ⊢
    by_cases hm : least ≤ n ∧ n ≤ 1125899906842624
    · rw [if_pos hm]; exact ⟨rfl, hm.1, hm.2⟩
    · rw [if_neg hm] at hg; exact absurd hg (by decide)
  by_cases e1 : m = 0 ∨ m = 1
  · rw [if_pos e1] at he ⊢
    rw [if_pos e1]
    obtain ⟨g, g1, g2⟩ := chgm _ _ _ he
    rw [g] at he ⊢
    unfold more at he ⊢
    split at he
    · exact absurd he (by decide)
    · rename_i hm
      rw [if_neg hm]
      exact fin _ _ (by simp only; omega) (by simp only; omega) (.inl rfl)
  · rw [if_neg e1] at he ⊢
    rw [if_neg e1]
    by_cases e2 : m = 2 ∨ m = 3
    · rw [if_pos e2] at he ⊢
      rw [if_pos (by omega)]
      obtain ⟨g, g1, g2⟩ := chgm _ _ _ he
      rw [g] at he ⊢
      unfold less at he ⊢
      split at he
      · exact absurd he (by decide)
      · rename_i hm
        rw [if_neg hm]
        exact fin _ _ (by simp only; omega) (by simp only; omega) (.inr (.inl rfl))
    · rw [if_neg e2] at he ⊢
      by_cases e4 : m = 4
      · rw [if_pos e4] at he ⊢
        rw [if_neg (by omega)]
        obtain ⟨g, g1, g2⟩ := chgm _ _ _ he
        rw [g]
        exact fin _ _ (by simp only; omega) (by simp only; omega) (.inr (.inr rfl))
      · rw [if_neg e4] at he ⊢
        by_cases e5 : m = 5
        · rw [if_pos e5] at he ⊢
          rw [if_neg (by omega)]
          unfold reserve at he ⊢
          split at he
          · rename_i hj
            obtain ⟨_, kh⟩ := (Bool.and_eq_true _ _).mp hj
            obtain ⟨j1, j2, j3, j4⟩ := okH_iff.1 kh
            rw [if_pos hj]
            split at he
            · exact absurd he (by decide)
            · rename_i hm
              rw [if_neg hm]
              split at he
              · exact absurd he (by decide)
              · rename_i hm2
                rw [if_neg hm2]
                exact fin _ _ (by simp only; omega) (by simp only; omega) (.inr (.inr rfl))
          · exact absurd he (by decide)
        · rw [if_neg e5] at he ⊢
          have can : (cancel f h q s.n s.u).2.2.2 = 0 → okA (cancel f h q s.n s.u).1 (cancel f h q s.n s.u).2.1 (cancel f h q s.n s.u).2.2.1 = true ∧ (cancel f h q s.n s.u).1 + (cancel f h q s.n s.u).2.1 = f + h + 0 ∧ ((0 : Int) = s.n ∨ (0 : Int) = -s.n ∨ (0 : Int) = 0) := by
            intro he
            unfold cancel at he ⊢
            split at he
            · rename_i hj
              obtain ⟨_, kh⟩ := (Bool.and_eq_true _ _).mp hj
              obtain ⟨j1, j2, j3, j4⟩ := okH_iff.1 kh
              rw [if_pos hj]
              split at he
              · exact absurd he (by decide)
              · rename_i hm
                rw [if_neg hm]
                exact fin _ _ (by simp only; omega) (by simp only; omega) (.inr (.inr rfl))
            · exact absurd he (by decide)
          by_cases e6 : m = 6
          · rw [if_pos e6] at he ⊢
            rw [if_neg (by omega)]
            exact can he
          · rw [if_neg e6] at he ⊢
            by_cases e7 : m = 7
            · rw [if_pos e7] at he ⊢
              rw [if_pos (by omega)]
              unfold confirm at he ⊢
              split at he
              · rename_i hj
                obtain ⟨_, kh⟩ := (Bool.and_eq_true _ _).mp hj
                obtain ⟨j1, j2, j3, j4⟩ := okH_iff.1 kh
                rw [if_pos hj]
                split at he
                · rename_i ht
                  rw [if_pos ht]
                  split at he
                  · exact absurd he (by decide)
                  · rename_i hm
                    rw [if_neg hm]
                    split at he
                    · exact absurd he (by decide)
                    · rename_i hm2
                      rw [if_neg hm2]
                      exact fin _ _ (by simp only; omega) (by simp only; omega) (.inr (.inl rfl))
                · exact absurd he (by decide)
              · exact absurd he (by decide)
            · rw [if_neg e7] at he ⊢
              rw [if_neg (by omega)]
              unfold expire at he ⊢
              split at he
              · rename_i hj
                rw [if_pos hj]
                split at he
                · rename_i ht
                  rw [if_pos ht]
                  split at he
                  · rename_i hm
                    rw [if_pos hm]
                    exact fin _ _ (by simp only; omega) (by simp only; omega) (.inr (.inr rfl))
                  · rename_i hm
                    rw [if_neg hm]
                    exact can he
                · exact absurd he (by decide)
              · exact absurd he (by decide)
end Ac
end Go.Proofs.Ytionaciiaahacaa
