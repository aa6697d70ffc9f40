/- Stamps that came in; the cut of the law; what both Encodes give. -/
import Derived.Test.YtcckhdmdklholaaFrEnc
import Derived.Test.YtcckhdmdklholaaFrREnc
import Derived.Test.YtcckhdmdklholaaIns
import Derived.Lib.SmallJoins
namespace Go.Proofs.Ytcckhdmdklholaa
open Go.ChangeShapes Go.WideShapes Go.ChangeAt Go.RowKit Go.Joins Fr
set_option linter.unusedVariables false
section
variable {H : Type} {enc : TypeId × Value → H} {W : World} {base : Nat} {v : Value} {d : DataW H} {p : List MemPlace}
theorem cells_stamp : Try.prog.cellsOf 23 = 3 := by kernel_rfl
theorem one_int {f : Nat} {c : Value} {y : DataW H × List MemPlace} {sp : Nat → Bool} {hd : Bool} (h : DataW.trod enc Try.prog W 0 sp hd f 3 [c] = some y) : ∃ n : Int, c = .int .i64 n ∧ -9223372036854775808 ≤ n ∧ n ≤ 9223372036854775807 := by
  obtain ⟨a, e0, _, wa⟩ := DataW.trod_int Try.underlying3 h
  simp at e0
  exact ⟨a, e0, i64_in wa⟩
theorem in_stamp (hval : Value.okWide Try.prog W .any base 23 v) (h : Reads enc W 23 v d p) : ∃ f e i : Int, v = .agg #[.int .i64 f, .int .i64 e, .int .i64 i] := by
  obtain ⟨v0, v1, v2, y0, y1, y2, m, rfl, _, _, h0, h1, h2⟩ := open_agg3 Try.underlying23 (by kernel_rfl) cells_stamp hval h
  obtain ⟨a, rfl, _⟩ := one_int h0
  obtain ⟨b, rfl, _⟩ := one_int h1
  obtain ⟨c, rfl, _⟩ := one_int h2
  exact ⟨a, b, c, rfl⟩
end
theorem cut_any (A : Option Addr) (m c : Nat) (l : List Nat) (w : World) (hm : l.length = m) (hc : m ≤ c) (hbig : m ≤ 9223372036854775807) : Calls Try.prog 9 #[.slice A m c] w fun e w' => e = .returned (.slice A (l.take 300).length c) ∧ w = w' := by
  rw [List.length_take, hm]
  by_cases h : 300 < m
  · rw [Nat.min_eq_left (by omega)]
    have h2 : (300 : Int) < (m : Int) := by omega
    have h3 : 300 ≤ c := by omega
    have h4 : (300 : Int) ≤ (c : Int) := by omega
    clear hm
    go_enter Try.func9, Try.ntmps9
    go_wp2
    go_ret
    exact ⟨rfl, rfl⟩
  · rw [Nat.min_eq_right (by omega)]
    have h2 : ¬ (300 : Int) < (m : Int) := by omega
    clear hm
    go_enter Try.func9, Try.ntmps9
    go_wp2
    go_ret
    exact ⟨rfl, rfl⟩
/-- One list of bytes and one error that both Encodes give. -/
theorem both_enc (f e i k : Int) (A : Option Addr) (c : Nat) (p : List Nat) (hbig : p.length ≤ 9223372036854775807) :
    ∃ (l : List Nat) (r : Int),
      (∀ W, Rd W A p.length p → Calls Try.prog 10 #[.agg #[.int .i64 f, .int .i64 e, .int .i64 i], .int .i64 k, .slice A p.length c] W (GivesEnc W l r)) ∧
      (∀ W, Rd W A p.length p → Calls Try.prog 11 #[.agg #[.int .i64 f, .int .i64 e, .int .i64 i], .int .i64 k, .slice A p.length c] W (GivesEnc W l r)) := by
  by_cases h : okS f e i = true ∧ okK k = true
  · by_cases hn : 108 < p.length
    · exact ⟨[], 2, fun W _ => encode_long f e i k A p.length c W h.1 h.2 hn hbig, fun W _ => rencode_long f e i k A p.length c W h.1 h.2 hn hbig⟩
    · obtain ⟨hs, hk⟩ := h
      obtain ⟨⟨f1, f2⟩, ⟨e1, e2⟩, i1, i2⟩ := okS_iff.1 hs
      obtain ⟨k1, k2⟩ := okK_iff.1 hk
      obtain ⟨f', rfl⟩ := Int.eq_ofNat_of_zero_le f1
      obtain ⟨e', rfl⟩ := Int.eq_ofNat_of_zero_le e1
      obtain ⟨i', rfl⟩ := Int.eq_ofNat_of_zero_le i1
      obtain ⟨k', rfl⟩ := Int.eq_ofNat_of_zero_le (show 0 ≤ k by omega)
      exact ⟨frame k' f' e' i' p, 0, fun W hp => encode_ok f' e' i' k' A c p W hs hk hp (by omega), fun W hp => rencode_ok f' e' i' k' A c p W hs hk hp (by omega)⟩
  · exact ⟨[], 1, fun W _ => encode_arg f e i k A p.length c W h, fun W _ => rencode_arg f e i k A p.length c W h⟩
end Go.Proofs.Ytcckhdmdklholaa
