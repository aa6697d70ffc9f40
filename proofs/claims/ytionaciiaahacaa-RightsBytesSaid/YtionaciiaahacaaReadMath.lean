/- What is written as an account or a hold is read; what is read as an account, written, is what was read. -/
import Derived.Test.YtionaciiaahacaaReadBack
namespace Go.Proofs.Ytionaciiaahacaa
open Go.RowKit
set_option linter.unusedVariables false
namespace Ac
theorem takeN_nums : ∀ (xs : List Nat), (∀ x ∈ xs, x ≤ 1125899906842624) → takeN xs.length (numsOf xs) = some (xs, [])
  | [], _ => rfl
  | x :: t, h => by
    have hx := h x List.mem_cons_self
    have h1 : Cd.takeNum (numsOf (x :: t)) = some (x, numsOf t) := takeNum_num x (by omega) (numsOf t)
    show takeN (t.length + 1) (numsOf (x :: t)) = _
    rw [takeN_some h1 (by omega), takeN_nums t (fun y hy => h y (List.mem_cons_of_mem _ hy))]
    rfl
theorem just_nums (xs : List Nat) (h : ∀ x ∈ xs, x ≤ 1125899906842624) : just xs.length (numsOf xs) = some xs := by
  unfold just; rw [takeN_nums xs h]
theorem nums_takeN : ∀ (k : Nat) (l xs r : List Nat), (∀ x ∈ l, x < 256) → takeN k l = some (xs, r) → numsOf xs ++ r = l
  | 0, l, xs, r, _, h => by
    unfold takeN at h
    injection h with h
    injection h with h1 h2
    subst h1 h2
    rfl
  | k + 1, l, xs, r, hl, h => by
    rcases htk : Cd.takeNum l with _ | ⟨x, r1⟩
    · rw [takeN_none htk] at h
      cases h
    · by_cases hx : 1125899906842624 < x
      · rw [takeN_great htk hx] at h
        cases h
      · rw [takeN_some htk hx] at h
        have hr1 := (takeNum_bound htk).2.2
        rcases hn : takeN k r1 with _ | ⟨ys, r2⟩
        · rw [hn] at h
          cases h
        · rw [hn] at h
          injection h with h
          injection h with h1 h2
          subst h1 h2
          have ih := nums_takeN k r1 ys r2 (fun y hy => hl y (hr1 y hy)) hn
          show (Cd.num x ++ numsOf ys) ++ r2 = l
          rw [List.append_assoc, ih]
          exact (num_takeNum hl htk).2
theorem nums_just {k : Nat} {l xs : List Nat} (hl : ∀ x ∈ l, x < 256) (h : just k l = some xs) : numsOf xs = l := by
  unfold just at h
  split at h
  · next ys hn =>
    injection h with h
    subst h
    have := nums_takeN k l ys [] hl hn
    rwa [List.append_nil] at this
  · cases h
theorem readA_bytes {f h q : Int} (hk : okA f h q = true) : readA (bytesA f h q) = (f, h, q, 0) := by
  obtain ⟨k1, k2, k3, k4, k5, k6, k7⟩ := okA_iff.1 hk
  obtain ⟨a, rfl⟩ := Int.eq_ofNat_of_zero_le k1
  obtain ⟨b, rfl⟩ := Int.eq_ofNat_of_zero_le k3
  obtain ⟨c, rfl⟩ := Int.eq_ofNat_of_zero_le k5
  have e : bytesA (a : Int) (b : Int) (c : Int) = numsOf [a, b, c] := by unfold bytesA; rw [hk]; rfl
  have hj : just 3 (numsOf [a, b, c]) = some [a, b, c] := just_nums [a, b, c] (by intro x hx; simp at hx; omega)
  rw [e]
  unfold readA
  rw [hj]
  show (if _ then _ else _) = _
  rw [hk]
  rfl
theorem readH_bytes {n u : Int} (hk : okH n u = true) : readH (bytesH n u) = (n, u, 0) := by
  obtain ⟨k1, k2, k3, k4⟩ := okH_iff.1 hk
  obtain ⟨a, rfl⟩ := Int.eq_ofNat_of_zero_le (show 0 ≤ n by omega)
  obtain ⟨b, rfl⟩ := Int.eq_ofNat_of_zero_le k3
  have e : bytesH (a : Int) (b : Int) = numsOf [a, b] := by unfold bytesH; rw [hk]; rfl
  have hj : just 2 (numsOf [a, b]) = some [a, b] := just_nums [a, b] (by intro x hx; simp at hx; omega)
  rw [e]
  unfold readH
  rw [hj]
  show (if _ then _ else _) = _
  rw [hk]
  rfl
theorem bytesA_length (f h q : Int) : (bytesA f h q).length ≤ 33 := by
  unfold bytesA
  split
  · exact numsOf_length _
  · simp
theorem bytesH_length (n u : Int) : (bytesH n u).length ≤ 22 := by
  unfold bytesH
  split
  · exact numsOf_length _
  · simp
theorem readA_cases (l : List Nat) (hl : ∀ x ∈ l, x < 256) : (∃ f h q : Int, readA l = (f, h, q, 0) ∧ okA f h q = true ∧ bytesA f h q = l) ∨ readA l = (0, 0, 0, 206) := by
  unfold readA
  split
  · next f h q hj =>
    rcases hk : okA f h q with _ | _
    · exact .inr rfl
    · refine .inl ⟨f, h, q, rfl, hk, ?_⟩
      unfold bytesA
      rw [hk]
      exact nums_just hl hj
  · exact .inr rfl
end Ac
end Go.Proofs.Ytionaciiaahacaa
