/- A frame's parts, read off its bytes. -/
import Derived.Test.YtcckhdmdklholaaFrOpen
namespace Go.Proofs.Ytcckhdmdklholaa
open Go.RowKit
set_option linter.unusedVariables false
namespace Fr
theorem num_le (k n : Nat) : num (le k n) = n % 256 ^ k := by
  induction k with
  | zero => simp [le, num, Nat.mod_one]
  | succ k ih => rw [le_snoc, num_snoc, ih, le_len, Nat.mod_pow_succ]
theorem F_mid {A B C : List Nat} {o s : Nat} (ho : A.length = o) (hs : B.length = s) : F (A ++ (B ++ C)) o s = num B := by
  unfold F
  rw [List.drop_left' ho, List.take_left' hs]
section
variable (k f e i : Nat) {p : List Nat} (hn : p.length ≤ 108)
theorem form0 : F (frame k f e i p) 0 1 = 76 := by
  have := F_mid (A := []) (B := [76]) (C := [k] ++ (le 2 p.length ++ (le 4 f ++ (le 4 e ++ (le 4 i ++ (p ++ (List.replicate (108 - p.length) 0 ++ le 4 (Cr.more 0 (body k f e i p))))))))) rfl rfl
  simpa [frame, body, top, num] using this
theorem form1 : F (frame k f e i p) 1 1 = k := by
  have := F_mid (A := [76]) (B := [k]) (C := le 2 p.length ++ (le 4 f ++ (le 4 e ++ (le 4 i ++ (p ++ (List.replicate (108 - p.length) 0 ++ le 4 (Cr.more 0 (body k f e i p)))))))) rfl rfl
  simpa [frame, body, top, num] using this
theorem form2 : F (frame k f e i p) 2 2 = p.length % 256 ^ 2 := by
  have := F_mid (A := [76, k]) (B := le 2 p.length) (C := le 4 f ++ (le 4 e ++ (le 4 i ++ (p ++ (List.replicate (108 - p.length) 0 ++ le 4 (Cr.more 0 (body k f e i p))))))) rfl (le_len _ _)
  rw [num_le] at this
  simpa [frame, body, top] using this
theorem form4 : F (frame k f e i p) 4 4 = f % 256 ^ 4 := by
  have := F_mid (A := [76, k] ++ le 2 p.length) (B := le 4 f) (C := le 4 e ++ (le 4 i ++ (p ++ (List.replicate (108 - p.length) 0 ++ le 4 (Cr.more 0 (body k f e i p)))))) (o := 4) (by simp [le_len]) (le_len _ _)
  rw [num_le] at this
  simpa [frame, body, top] using this
theorem form8 : F (frame k f e i p) 8 4 = e % 256 ^ 4 := by
  have := F_mid (A := [76, k] ++ le 2 p.length ++ le 4 f) (B := le 4 e) (C := le 4 i ++ (p ++ (List.replicate (108 - p.length) 0 ++ le 4 (Cr.more 0 (body k f e i p))))) (o := 8) (by simp [le_len]) (le_len _ _)
  rw [num_le] at this
  simpa [frame, body, top] using this
theorem form12 : F (frame k f e i p) 12 4 = i % 256 ^ 4 := by
  have := F_mid (A := [76, k] ++ le 2 p.length ++ le 4 f ++ le 4 e) (B := le 4 i) (C := p ++ (List.replicate (108 - p.length) 0 ++ le 4 (Cr.more 0 (body k f e i p)))) (o := 12) (by simp [le_len]) (le_len _ _)
  rw [num_le] at this
  simpa [frame, body, top] using this
theorem form_payload : ((frame k f e i p).drop 16).take p.length = p := by
  have ht := top_len k f e i p.length
  unfold frame body
  rw [List.append_assoc, List.append_assoc, List.drop_left' ht, List.take_left' rfl]
theorem form_zeros : ((frame k f e i p).drop (16 + p.length)).take (108 - p.length) = List.replicate (108 - p.length) 0 := by
  have ht : (top k f e i p.length ++ p).length = 16 + p.length := by rw [List.length_append, top_len]
  unfold frame body
  rw [List.append_assoc, List.drop_left' ht, List.take_left' (by simp)]
include hn
theorem form124 : F (frame k f e i p) 124 4 = Cr.more 0 (body k f e i p) % 256 ^ 4 := by
  have := F_mid (A := body k f e i p) (B := le 4 (Cr.more 0 (body k f e i p))) (C := []) (body_len hn) (le_len _ _)
  rw [num_le, List.append_nil] at this
  exact this
theorem form_body : (frame k f e i p).take 124 = body k f e i p := List.take_left' (body_len hn)
end
end Fr
end Go.Proofs.Ytcckhdmdklholaa
