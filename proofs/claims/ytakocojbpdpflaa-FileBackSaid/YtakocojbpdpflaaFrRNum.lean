/- The document's number. -/
import Derived.Test.YtakocojbpdpflaaFrLowB
namespace Go.Proofs.Ytakocojbpdpflaa
open Go.RowKit Fr
set_option linter.unusedVariables false
theorem num_drop {l : List Nat} {j x : Nat} (h : l[j]? = some x) : num (l.drop j) = num (l.drop (j + 1)) * 256 + x := by
  have hj := (List.getElem?_eq_some_iff.1 h)
  obtain ⟨hj, hx⟩ := hj
  rw [List.drop_eq_getElem_cons hj, hx]
  show x + 256 * num (l.drop (j + 1)) = _
  omega
theorem num_small {l : List Nat} (h : ∀ x ∈ l, x < 256) (hl : l.length ≤ 4) : num l < 4294967296 := by
  have := num_lt l h
  have h2 : 256 ^ l.length ≤ 256 ^ 4 := Nat.pow_le_pow_right (by omega) hl
  rw [show 256 ^ 4 = 4294967296 by decide] at h2
  omega
def AtNum (l : List Nat) (n : Nat) (v i : Value) : Prop := ∃ j : Nat, j ≤ n ∧ i = .int .i64 ((j : Int) - 1) ∧ v = .int .i64 (num (l.drop j) : Int)
set_option maxRecDepth 100000 in
theorem number_any (A : Option Addr) (n c : Nat) (l : List Nat) (w : World) (h : Rd w A n l) (hn : n ≤ 4) : Calls Try.prog 62 #[.slice A n c] w fun e w' => e = .returned (.int .i64 (num l : Int)) ∧ w = w' := by
  have H := Lib.hid h
  have hlen := h.1
  have HL := Lib.hid hlen
  clear h hlen
  go_enter Try.func62, Try.ntmps62
  go_wp2
  go_loop [3, 4] (fun v i => ∃ j : Nat, j ≤ n ∧ i = .int .i64 ((j : Int) - 1) ∧ v = .int .i64 (num (l.drop j) : Int)) (fun _ i => (intOf i + 1).toNat)
  case atStart => exact ⟨n, Nat.le_refl _, rfl, by rw [List.drop_of_length_le (Nat.le_of_eq HL.out)]; rfl⟩
  case round =>
    obtain ⟨j, hj, rfl, rfl⟩ := hrel
    by_cases h0 : j = 0
    · subst h0
      go_wp2
      go_ret
      exact ⟨rfl, rfl⟩
    · obtain ⟨m, hm⟩ : ∃ m, m + 1 = j := ⟨j - 1, by omega⟩
      subst hm
      have hmi : ((m + 1 : Nat) : Int) - 1 = (m : Int) := by omega
      rw [hmi]
      obtain ⟨g, q, x, rfl, hg, hx, hx2, hc⟩ := H.out.at_ (show m < n by omega)
      have hnd := num_drop hx
      have hsm := num_small (l := l.drop (m + 1)) (fun x hx => H.out.lt (List.mem_of_mem_drop hx)) (by rw [List.length_drop]; have := HL.out; omega)
      have HN := Lib.hid hnd
      clear hnd hx hmi
      have hge : (0 : Int) ≤ (m : Int) := by omega
      have hmn : (m : Int) < (n : Int) := by omega
      go_wp2
      go_round
      case rel => exact ⟨m, by omega, rfl, by rw [HN.out]; rfl⟩
      case measure => simp [intOf]
end Go.Proofs.Ytakocojbpdpflaa
