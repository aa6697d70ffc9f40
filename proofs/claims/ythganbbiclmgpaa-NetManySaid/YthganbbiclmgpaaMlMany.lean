/- So many mails. -/
import Derived.Test.YthganbbiclmgpaaMlAwake
namespace Go.Proofs.Ythganbbiclmgpaa
open Go.RowKit
namespace Ml
/-- The first k mails of so many. -/
def many (k : Nat) : List M := (List.range k).map fun j => ⟨1, 2, str [j]⟩
theorem many_length (k : Nat) : (many k).length = k := by simp [many]
theorem many_succ (k : Nat) : many (k + 1) = many k ++ [⟨1, 2, str [k]⟩] := by simp [many, List.range_succ]
theorem many_at {k j : Nat} (h : j < k) : (many k)[j]? = some ⟨1, 2, str [j]⟩ := by simp [many, h]
theorem ok_one (j : Nat) : ok ⟨1, 2, str [j]⟩ = true := by
  have : (str [j]).size = 1 := rfl
  simp [ok, this]
theorem ok_none : ok ⟨1, 2, ⟨#[]⟩⟩ = true := by decide
theorem send_many {k : Nat} (h : k < 256) : sendE (many k) ⟨1, 2, str [k]⟩ = 0 ∧ sendL (many k) ⟨1, 2, str [k]⟩ = many (k + 1) := by
  have h1 : ¬ 256 ≤ (many k).length := by rw [many_length]; omega
  have h2 : decide ((many k).length < 256) = true := by rw [many_length]; simp [h]
  unfold sendE sendL
  rw [ok_one, if_pos rfl, if_neg h1, h2, many_succ]
  exact ⟨rfl, rfl⟩
end Ml
end Go.Proofs.Ythganbbiclmgpaa
