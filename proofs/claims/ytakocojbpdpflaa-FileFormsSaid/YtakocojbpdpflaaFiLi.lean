/- light: a place with not many more pairs than there may be. -/
import Derived.Test.YtakocojbpdpflaaFiNil
import Derived.Test.YtakocojbpdpflaaInP
namespace Go.Proofs.Ytakocojbpdpflaa
open Go.RowKit Fi
set_option linter.unusedVariables false
namespace Fi
def light (P : Pl) : Pl := ⟨P.i, P.e, P.ps.take 66⟩
end Fi
set_option maxRecDepth 100000 in
set_option maxHeartbeats 1000000 in
theorem flight_any (s : Pl) (A : Option Addr) (c : Nat) (w : World) (hc : s.ps.length ≤ c) (hbig : s.ps.length ≤ 9223372036854775807) : Calls Try.prog 9 #[Fi.val s A c] w fun e w' => e = .returned (Fi.val (Fi.light s) A c) ∧ Below w.heap.size w w' := by
  unfold Fi.val Fi.light
  simp only
  rw [List.length_take]
  obtain ⟨n, hn⟩ : ∃ n, n = s.ps.length := ⟨_, rfl⟩
  rw [← hn] at hc hbig ⊢
  clear hn
  have hB : ∀ x tx y ty, Below w.heap.size w ((w.alloc (.cells x tx)).alloc (.cells y ty)) := fun x tx y ty => by repeat (first | exact Below.refl _ _ | refine Below.alloc ?_ (by simp <;> omega) _)
  by_cases h : 66 < n
  · rw [Nat.min_eq_left (by omega)]
    have h2 : (66 : Int) < (n : Int) := by omega
    have hmn : min (n : Int) 66 = 66 := by omega
    have h2' : ¬ (n : Int) < 66 := by omega
    have h3 : 66 ≤ c := by omega
    have h4 : (66 : Int) ≤ (c : Int) := by omega
    go_enter Try.func9, Try.ntmps9
    go_wp2_with fail
    refine bodyPost_ret (v := .agg #[.int .i64 s.i, .int .i64 s.e, .slice A 66 c]) (by first | (simp [results, Try.results9, go_sem]; done) | (simp [results, Try.results9, go_sem, hmn]; done)) rfl ?_
    exact ⟨rfl, (by repeat (first | exact Below.refl _ _ | refine Below.setCell ?_ (by simp) _ | refine Below.alloc ?_ (by simp <;> omega) _))⟩
  · rw [Nat.min_eq_right (by omega)]
    have hmn : min (n : Int) 66 = (n : Int) := by omega
    have h2 : ¬ (66 : Int) < (n : Int) := by omega
    have h4 : (n : Int) ≤ (c : Int) := by omega
    go_enter Try.func9, Try.ntmps9
    go_wp2_with fail
    refine bodyPost_ret (v := .agg #[.int .i64 s.i, .int .i64 s.e, .slice A n c]) (by first | (simp [results, Try.results9, go_sem]; done) | (simp [results, Try.results9, go_sem, hmn]; done)) rfl ?_
    exact ⟨rfl, (by repeat (first | exact Below.refl _ _ | refine Below.setCell ?_ (by simp) _ | refine Below.alloc ?_ (by simp <;> omega) _))⟩
theorem rd_lightP {w : World} {A : Option Addr} {ps : List (Int × Int)} {n : Nat} (h : RdC 2 w A n (pv ps)) (hn : n = ps.length) : RdC 2 w A (ps.take 66).length (pv (ps.take 66)) := by
  subst hn
  have := h.take (k := (ps.take 66).length) (by rw [List.length_take]; omega)
  have e : pv (ps.take 66) = (pv ps).take ((ps.take 66).length * 2) := by
    have key : ∀ (l : List (Int × Int)) (k : Nat), pv (l.take k) = (pv l).take ((l.take k).length * 2) := by
      intro l
      induction l with
      | nil => intro k; simp [pv, flat]
      | cons x r ih =>
        intro k
        cases k with
        | zero => simp [pv, flat]
        | succ k =>
          have h1 : pv (x :: r) = .int .i64 x.1 :: .int .i64 x.2 :: pv r := by simp [pv, flat]
          have h2 : pv ((x :: r).take (k + 1)) = .int .i64 x.1 :: .int .i64 x.2 :: pv (r.take k) := by simp [pv, flat]
          rw [h1, h2, ih k, List.take_succ_cons, List.length_cons, show ((r.take k).length + 1) * 2 = (r.take k).length * 2 + 1 + 1 by omega]
          rfl
    exact key ps 66
  rw [e]
  exact this
end Go.Proofs.Ytakocojbpdpflaa
