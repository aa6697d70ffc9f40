/- What Open of package sum returns: the bytes ahead of their sum, or ErrSum, for every slice of at most 1,000,000 bytes. -/
import Derived.Test.YtkpojegdeipfhaaSeal
namespace Go.Proofs.Ytkpojegdeipfhaa
open Go.RowKit
namespace Cr
def fromLe : List Nat → Nat
  | [] => 0
  | x :: t => x + 256 * fromLe t
theorem fromLe_snoc (l : List Nat) (x : Nat) : fromLe (l ++ [x]) = fromLe l + 2 ^ (8 * l.length) * x := by
  induction l with
  | nil => simp [fromLe]
  | cons y t ih =>
    show y + 256 * fromLe (t ++ [x]) = y + 256 * fromLe t + _
    have e : 2 ^ (8 * (y :: t).length) = 256 * 2 ^ (8 * t.length) := by
      rw [List.length_cons, Nat.mul_add, Nat.pow_add, Nat.mul_comm]
    rw [ih, e, Nat.mul_add, Nat.mul_assoc]
    omega
theorem fromLe_lt (l : List Nat) (hl : ∀ x ∈ l, x < 256) : fromLe l < 2 ^ (8 * l.length) := by
  induction l with
  | nil => simp [fromLe]
  | cons y t ih =>
    have e : 2 ^ (8 * (y :: t).length) = 256 * 2 ^ (8 * t.length) := by
      rw [List.length_cons, Nat.mul_add, Nat.pow_add, Nat.mul_comm]
    have h1 := ih (fun x hx => hl x (List.mem_cons_of_mem _ hx))
    have h2 := hl y (List.mem_cons_self ..)
    rw [e]
    show y + 256 * fromLe t < _
    omega
theorem le4_fromLe {l : List Nat} (h : l.length = 4) (hl : ∀ x ∈ l, x < 256) : le4 (fromLe l) = l := by
  match l, h with
  | [a, b, c, d], _ =>
    have ha := hl a (by simp)
    have hb := hl b (by simp)
    have hc := hl c (by simp)
    have hd := hl d (by simp)
    simp only [le4, byteAt, fromLe, show 2 ^ (8 * 0) = 1 by decide, show 2 ^ (8 * 1) = 256 by decide, show 2 ^ (8 * 2) = 65536 by decide, show 2 ^ (8 * 3) = 16777216 by decide, List.cons.injEq, and_true]
    omega
theorem fromLe_le4 {c : Nat} (h : c < 4294967296) : fromLe (le4 c) = c := by
  simp only [le4, byteAt, fromLe, show 2 ^ (8 * 0) = 1 by decide, show 2 ^ (8 * 1) = 256 by decide, show 2 ^ (8 * 2) = 65536 by decide, show 2 ^ (8 * 3) = 16777216 by decide]
  omega
theorem or_shift (c x k : Nat) (hc : c < 2 ^ (8 * k)) : c ||| 2 ^ (8 * k) * x = c + 2 ^ (8 * k) * x := by
  rw [Nat.or_comm, ← Nat.two_pow_add_eq_or_of_lt hc, Nat.add_comm]
/-- What Open tells of bytes. -/
def opened (l : List Nat) : Option (List Nat) := if 4 ≤ l.length ∧ l = sealed (l.take (l.length - 4)) then some (l.take (l.length - 4)) else none
end Cr
theorem or_val (c x k : Nat) (hk : k < 4) (hc : c < 2 ^ (8 * k)) (hx : x < 256) : bits .or .u32 (c : Int) ((x : Int) * 2 ^ (8 * k) % 4294967296) = ((c + 2 ^ (8 * k) * x : Nat) : Int) := by
  have hp : 2 ^ (8 * k) * x < 4294967296 ∧ 2 ^ (8 * k) ≤ 16777216 := by
    rcases (show k = 0 ∨ k = 1 ∨ k = 2 ∨ k = 3 by omega) with rfl | rfl | rfl | rfl
    · rw [show 2 ^ (8 * 0) = 1 by decide]; omega
    · rw [show 2 ^ (8 * 1) = 256 by decide]; omega
    · rw [show 2 ^ (8 * 2) = 65536 by decide]; omega
    · rw [show 2 ^ (8 * 3) = 16777216 by decide]; omega
  have e : (x : Int) * 2 ^ (8 * k) % 4294967296 = ((2 ^ (8 * k) * x : Nat) : Int) := by
    have e1 : (x : Int) * 2 ^ (8 * k) = ((2 ^ (8 * k) * x : Nat) : Int) := by
      rw [Int.natCast_mul, Int.mul_comm, Int.natCast_pow]; rfl
    rw [e1]
    generalize 2 ^ (8 * k) * x = y at hp ⊢
    omega
  rw [e, u32_or_nat _ _ (by omega) hp.1, Cr.or_shift _ _ _ hc]
theorem below_same {B : Nat} (w : World) : Below B w w := Below.refl B w
set_option maxRecDepth 100000 in
theorem open_short (A : Option Addr) (n cap : Nat) (h : n < 4) (w : World) :
    Calls Try.prog 21 #[.slice A n cap] w fun e w' => e = .returned (.tuple #[.slice none 0 0, .int .i64 10]) ∧ w = w' := by
  have h1 : (n : Int) - 4 < 0 := by omega
  go_enter Try.func21, Try.ntmps21
  go_wp2
  go_ret2
  exact ⟨rfl, rfl⟩
/-- How Open ends: in words of what it tells. -/
def GivesOpen (w : World) (o : Option (List Nat)) (e : Ending) (w' : World) : Prop :=
  match o with
  | none => e = .returned (.tuple #[.slice none 0 0, .int .i64 10]) ∧ Below w.heap.size w w'
  | some x => ∃ A cap, e = .returned (.tuple #[.slice A x.length cap, .int .i64 0]) ∧ Own w' w.heap.size A x.length cap x ∧ Below w.heap.size w w'
theorem Cr.opened_long {m : Nat} {l : List Nat} (h : l.length = m + 4) (hl : ∀ x ∈ l, x < 256) : Cr.opened l = if Cr.fromLe (l.drop m) = Cr.more 0 (l.take m) then some (l.take m) else none := by
  have hd : (l.drop m).length = 4 := by rw [List.length_drop, h]; omega
  have hml := Cr.more_lt (c := 0) (l := l.take m) (fun x hx => hl x (List.mem_of_mem_take hx)) (by omega)
  unfold Cr.opened
  rw [h, show m + 4 - 4 = m by omega]
  by_cases hc : Cr.fromLe (l.drop m) = Cr.more 0 (l.take m)
  · rw [if_pos hc, if_pos]
    refine ⟨by omega, ?_⟩
    unfold Cr.sealed
    rw [← hc, Cr.le4_fromLe hd (fun x hx => hl x (List.mem_of_mem_drop hx)), List.take_append_drop]
  · rw [if_neg hc, if_neg]
    rintro ⟨_, hs⟩
    apply hc
    have h2 : l.drop m = Cr.le4 (Cr.more 0 (l.take m)) := by
      have h3 : l.take m ++ l.drop m = l.take m ++ Cr.le4 (Cr.more 0 (l.take m)) := by
        rw [List.take_append_drop]; exact hs
      exact List.append_cancel_left h3
    rw [h2, Cr.fromLe_le4 hml]
set_option maxRecDepth 100000 in
theorem open_bad (b o m cap : Nat) (l : List Nat) (w : World) (hl : Rd w (some ⟨b, o, none⟩) (m + 4) l) (hc : m + 4 ≤ cap) (hn : m ≤ 1000000) (hbad : Cr.fromLe (l.drop m) ≠ Cr.more 0 (l.take m)) :
    Calls Try.prog 21 #[.slice (some ⟨b, o, none⟩) (m + 4) cap] w fun e w' => e = .returned (.tuple #[.slice none 0 0, .int .i64 10]) ∧ Below w.heap.size w w' := by
  have h1 : ¬ m = cap := by omega
  have hlen : (l.drop m).length = 4 := by rw [List.length_drop, hl.1]; omega
  have hlm := hl.take (show m ≤ m + 4 by omega)
  go_enter Try.func21, Try.ntmps21
  go_wp2
  go_loop [5, 17] (fun r i => ∃ k : Nat, k ≤ 4 ∧ i = .int .i64 k ∧ r = .int .u32 (Cr.fromLe ((l.drop m).take k) : Int)) (fun _ i => 4 - (intOf i).toNat)
  case atStart => exact ⟨0, by omega, rfl, rfl⟩
  case round =>
    obtain ⟨k, hk, rfl, rfl⟩ := hrel
    by_cases hlt : k < 4
    · obtain ⟨b', o', x, he, hb, hx, hx256, hcell⟩ := hl.at_ (k := m + k) (by omega)
      injection he with he
      injection he with he1 he2
      subst he1 he2
      rw [← Nat.add_assoc] at hcell
      have hx2 : (x : Int) < 256 := by omega
      have hk2 : (k : Int) < 4 := by omega
      have Hx := Lib.hid hx
      clear hx
      go_wp2
      go_round
      case rel =>
        refine ⟨k + 1, by omega, by go_num, ?_⟩
        have hlk : ((l.drop m).take k).length = k := by rw [List.length_take, hlen]; omega
        have hcl := Cr.fromLe_lt ((l.drop m).take k) (fun y hy => hl.lt (List.mem_of_mem_drop (List.mem_of_mem_take hy)))
        rw [hlk] at hcl
        rw [or_val _ x k hlt hcl hx256, take_snoc (l := l.drop m) (by rw [List.getElem?_drop]; exact Hx.out), Cr.fromLe_snoc, hlk]
      case measure => simp [intOf]; omega
    · have hk8 : k = 4 := by omega
      subst hk8
      have hne : ((Cr.fromLe ((l.drop m).take 4) : Int) != (Cr.more 0 (l.take m) : Int)) = true := by
        rw [List.take_of_length_le (by omega), bne_iff_ne]; omega
      clear hlen
      go_wp2_with (go_at_call 12; refine (of_any _ m cap (l.take m) _ hlm hn).mono ?_; rintro e w1 ⟨rfl, hb1⟩)
      go_ret2
      exact ⟨rfl, hb1⟩
set_option maxRecDepth 100000 in
theorem open_good (b o m cap : Nat) (l : List Nat) (w : World) (hl : Rd w (some ⟨b, o, none⟩) (m + 4) l) (hc : m + 4 ≤ cap) (hn : m ≤ 1000000) (hgood : Cr.fromLe (l.drop m) = Cr.more 0 (l.take m)) :
    Calls Try.prog 21 #[.slice (some ⟨b, o, none⟩) (m + 4) cap] w (GivesOpen w (some (l.take m))) := by
  have h1 : ¬ m = cap := by omega
  have hlen : (l.drop m).length = 4 := by rw [List.length_drop, hl.1]; omega
  have hlm := hl.take (show m ≤ m + 4 by omega)
  go_enter Try.func21, Try.ntmps21
  go_wp2
  go_loop [5, 17] (fun r i => ∃ k : Nat, k ≤ 4 ∧ i = .int .i64 k ∧ r = .int .u32 (Cr.fromLe ((l.drop m).take k) : Int)) (fun _ i => 4 - (intOf i).toNat)
  case atStart => exact ⟨0, by omega, rfl, rfl⟩
  case round =>
    obtain ⟨k, hk, rfl, rfl⟩ := hrel
    by_cases hlt : k < 4
    · obtain ⟨b', o', x, he, hb, hx, hx256, hcell⟩ := hl.at_ (k := m + k) (by omega)
      injection he with he
      injection he with he1 he2
      subst he1 he2
      rw [← Nat.add_assoc] at hcell
      have hx2 : (x : Int) < 256 := by omega
      have hk2 : (k : Int) < 4 := by omega
      have Hx := Lib.hid hx
      clear hx
      go_wp2
      go_round
      case rel =>
        refine ⟨k + 1, by omega, by go_num, ?_⟩
        have hlk : ((l.drop m).take k).length = k := by rw [List.length_take, hlen]; omega
        have hcl := Cr.fromLe_lt ((l.drop m).take k) (fun y hy => hl.lt (List.mem_of_mem_drop (List.mem_of_mem_take hy)))
        rw [hlk] at hcl
        rw [or_val _ x k hlt hcl hx256, take_snoc (l := l.drop m) (by rw [List.getElem?_drop]; exact Hx.out), Cr.fromLe_snoc, hlk]
      case measure => simp [intOf]; omega
    · have hk8 : k = 4 := by omega
      subst hk8
      have hne : ((Cr.fromLe ((l.drop m).take 4) : Int) != (Cr.more 0 (l.take m) : Int)) = false := by
        rw [List.take_of_length_le (by omega), bne_eq_false_iff_eq]; omega
      clear hlen hgood
      go_wp2_with (first | (go_at_call 12; refine (of_any _ m cap (l.take m) _ hlm hn).mono ?_; rintro e w1 ⟨rfl, hb1⟩) | (at_builtin; refine wpList_appB rfl (.const (.slice none 0 0)) (.tmp 38) rfl rfl (Own.none_ w1 w.heap.size) _ m cap (l.take m) rfl (hlm.below hb1) (by omega) hb1.size ?_; intro A2 cap2 w2 hg2))
      go_ret2
      have ho2 : Own w2 w.heap.size A2 m cap2 (l.take m) := by simpa using hg2.own
      have hb2 := hg2.below hb1 hb1.size (fun g hg => by simp [Value.ownBlock] at hg)
      have hlen2 : (l.take m).length = m := hlm.1
      unfold GivesOpen
      refine ⟨A2, cap2, ?_⟩
      rw [hlen2]
      exact ⟨rfl, ho2, hb2⟩
theorem open_any (A : Option Addr) (n cap : Nat) (l : List Nat) (w : World) (hl : Rd w A n l) (hc : n ≤ cap) (hn : n ≤ 1000000) :
    Calls Try.prog 21 #[.slice A n cap] w (GivesOpen w (Cr.opened l)) := by
  by_cases h4 : n < 4
  · have e : Cr.opened l = none := by
      unfold Cr.opened; rw [hl.1, if_neg]; omega
    rw [e]
    exact (open_short A n cap h4 w).mono fun e w' ⟨h1, h2⟩ => by subst h2; exact ⟨h1, Below.refl _ _⟩
  · obtain ⟨m, rfl⟩ : ∃ m, n = m + 4 := ⟨n - 4, by omega⟩
    obtain ⟨b, o, rfl, _⟩ := hl.2.2 (by omega)
    rw [Cr.opened_long hl.1 hl.2.1]
    split
    · exact open_good b o m cap l w hl hc (by omega) (by assumption)
    · exact open_bad b o m cap l w hl hc (by omega) (by assumption)
end Go.Proofs.Ytkpojegdeipfhaa
