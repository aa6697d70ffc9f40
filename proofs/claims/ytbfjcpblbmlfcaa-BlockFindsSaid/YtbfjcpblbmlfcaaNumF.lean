/- What package code's own TakeNum returns. -/
import Derived.Test.YtbfjcpblbmlfcaaNumE
namespace Go.Proofs.Ytbfjcpblbmlfcaa
open Go.RowKit
/-- What stands behind a cut of a slice, whatever its capacity. -/
theorem cut_rd {w : World} {A : Option Addr} {n v c : Nat} {l : List Nat} (h : Rd w A n l) (hv : v ≤ n) (hc : n ≤ c) : Rd w (if c = v then A else A.map (fun x => x.add v)) (n - v) (l.drop v) := by
  refine ⟨by rw [List.length_drop, h.1], fun x hx => h.2.1 x (List.mem_of_mem_drop hx), fun hn => ?_⟩
  obtain ⟨b, o, rfl, hb, hcell⟩ := h.2.2 (by omega)
  rw [if_neg (by omega)]
  have e : (⟨b, o, none⟩ : Addr).add v = ⟨b, o + v, none⟩ := by unfold Addr.add; split <;> simp_all
  refine ⟨b, o + v, by rw [Option.map_some, e], hb, fun j x hx => ?_⟩
  rw [List.getElem?_drop] at hx
  rw [Nat.add_assoc]
  exact hcell _ x hx
theorem takeNum_bound {l : List Nat} {v : Nat} {r : List Nat} (h : Cd.takeNum l = some (v, r)) : v < 18446744073709551616 ∧ r.length ≤ l.length ∧ ∀ x ∈ r, x ∈ l := by
  unfold Cd.takeNum at h
  split at h
  · cases h
  · split at h
    · cases h
    · split at h
      · injection h with h
        injection h with h1 h2
        subst h1 h2
        exact ⟨by omega, by rw [List.length_drop]; omega, fun x hx => List.mem_of_mem_drop hx⟩
      · cases h
theorem own_drop (A : Option Addr) (n cap k : Nat) (l : List Nat) (w : World) (hl : Rd w A n l) (hk : k ≤ n) (hc : n ≤ cap) (hn : n ≤ 1000000) :
    Calls Try.prog 51 #[.slice (if cap = k then A else A.map (fun x => x.add k)) (n - k) (cap - k)] w (GivesBytes w (l.drop k)) :=
  own_any _ _ _ _ _ (cut_rd hl hk hc) (by omega)
set_option maxRecDepth 100000 in
theorem takenum_any (A : Option Addr) (n cap : Nat) (l : List Nat) (w : World) (hl : Rd w A n l) (hc : n ≤ cap) (hn : n ≤ 1000000) :
    Calls Try.prog 46 #[.slice A n cap] w (GivesTake w (Cd.takeNum l)) := by
  have hnum := number_any A n cap l w hl hc hn
  rcases htk : Cd.takeNum l with _ | ⟨v, r⟩
  · rw [htk] at hnum
    have Hnum := Lib.hid hnum
    clear hnum
    go_enter Try.func46, Try.ntmps46
    go_wp2_with (first | (go_at_call 50; refine Hnum.out.mono ?_; rintro e w1 ⟨rfl, rfl⟩))
    go_ret3
    exact ⟨rfl, Below.refl _ _⟩
  · rw [htk] at hnum
    have Hnum := Lib.hid hnum
    have hlen := hl.1
    have Hlen := Lib.hid hlen
    clear hnum htk hlen
    go_enter Try.func46, Try.ntmps46
    go_wp2_with (first | (go_at_call 50; refine Hnum.out.mono ?_; rintro e w1 ⟨rfl, k, rfl, hk1, hk2, hr, hv⟩; rw [Hlen.out] at hk2; have hk0 : ((k : Int) == 0) = false := (by rw [beq_eq_false_iff_ne]; omega); have Hr := Lib.hid hr; clear hr) | (go_at_call 51; refine (own_drop A n cap k l _ hl hk2 hc hn).mono ?_; rintro e w2 ⟨A2, c2, rfl, ho2, hb2⟩))
    all_goals
      go_ret3
      rw [Hr.out]
      refine ⟨A2, c2, ?_, ho2.rd, ho2.cap, hb2⟩
      rw [List.length_drop]
      rfl
end Go.Proofs.Ytbfjcpblbmlfcaa
