/- Get and All of a Mem of one entry. -/
import Derived.Test.YtfmbnoafmnbhcaaMmOwnL
namespace Go.Proofs.Ytfmbnoafmnbhcaa
open Go.RowKit
theorem getO_any (S : Nat → Prop) (m : Nat) (T : Bk.Tr) (K : ByteArray) (l : List Nat) (n : Nat) (u : World) (hM : Bk.IsM S u m T 1) (hr : ∃ x : Bk.P, T.row = [x] ∧ x.1 = ⟨K, 1, false, l⟩) (hI : Bk.Inv T 1) (hl : l.length = n) :
    Calls Try.prog 23 #[.pointer (some ⟨m, 0, none⟩), .string K, .int .i64 1] u fun e w' => ∃ V c, e = .returned (.tuple #[.agg #[.string K, .int .i64 1, .bool false, .slice V n c], .bool true]) ∧ Own w' u.heap.size V n c l ∧ Below u.heap.size u w' := by
  obtain ⟨x, hx, he⟩ := hr
  have hp : Bk.pick K (T.from_ (Bk.want K 1)) = some x := by
    have h := Bk.pick_one hx hI.1
    rw [he] at h
    exact h
  refine (getS_any S m T 1 K 1 u hM).mono fun e w' ⟨⟨eq, V, nq, c⟩, h1, h2, h3, h4, h5⟩ => ?_
  rw [hp] at h1 h2
  have h2 : eq = ⟨K, 1, false, l⟩ := by
    have h2 : eq = x.1 := h2
    rw [h2, he]
  subst h2
  have h4 : Own w' u.heap.size V nq c l := h4
  have hn : nq = n := h4.1.symm.trans hl
  subst hn
  exact ⟨V, c, h1, h4, h5⟩
theorem allO_any (S : Nat → Prop) (m : Nat) (T : Bk.Tr) (K : ByteArray) (l : List Nat) (n : Nat) (u : World) (hM : Bk.IsM S u m T 1) (hr : ∃ x : Bk.P, T.row = [x] ∧ x.1 = ⟨K, 1, false, l⟩) (hI : Bk.Inv T 1) (hl : l.length = n) :
    Calls Try.prog 19 #[.pointer (some ⟨m, 0, none⟩)] u fun e w' => ∃ gl ol c V cv, e = .returned (.slice (some ⟨gl, ol, none⟩) 1 c) ∧ w'.cell? ⟨gl, ol + 3, none⟩ = some (.slice V n cv) ∧ (0 < n → Own w' u.heap.size V n cv l ∧ ¬ Blk V gl) ∧ gl < w'.heap.size ∧ Below u.heap.size u w' := by
  obtain ⟨x, hx, he⟩ := hr
  refine (allS_any S m T 1 u hM hI (by rw [hx]; simp)).mono fun e w' ⟨B, c, es, h1, h2, h3, h4⟩ => ?_
  rw [hx] at h2
  match es, h2 with
  | [⟨eq, V, nq, cv⟩], h2 =>
    have h2 : eq = x.1 := by simpa using h2
    rw [he] at h2
    subst h2
    have hat := (h3.1.vals _ List.mem_cons_self).1
    have hn : nq = n := hat.1.1.symm.trans hl
    subst hn
    obtain ⟨b, o, hB, hb, hc⟩ := h3.1.rde.at_ (k := 0) rfl
    subst hB
    refine ⟨b, o, c, V, cv, h1, hc 3 _ rfl, fun h0 => ⟨h3.2 _ List.mem_cons_self h0, fun ⟨o2, e2⟩ => ?_⟩, hb, h4⟩
    exact ((h3.1.vals _ List.mem_cons_self).2 h0 b o2 e2).2.2 rfl
end Go.Proofs.Ytfmbnoafmnbhcaa
