/- Fragments read off bytes: frag's fragment. -/
import Derived.Test.YtpfdacnjikdifaaFgFew
import Derived.Test.YtpfdacnjikdifaaFgRCut
import Derived.Deep.QuietTactic
namespace Go.Proofs.Ytpfdacnjikdifaa
open Go.RowKit
set_option linter.unusedVariables false
namespace Fg
/-- The fragment at the beginning: its kind and its bytes. -/
def frag1 (p : List Nat) : Option (Nat × List Nat) :=
  match p with
  | k :: n :: rest => if 1 ≤ k ∧ k ≤ 4 ∧ n ≤ 106 ∧ n ≤ rest.length then some (k, rest.take n) else none
  | _ => none
theorem frag1_short {p : List Nat} (h : p.length < 2) : frag1 p = none := by
  match p, h with
  | [], _ => rfl
  | [_], _ => rfl
  | _ :: _ :: _, h => simp at h; omega
theorem frag1_at {p : List Nat} {k n : Nat} (h0 : p[0]? = some k) (h1 : p[1]? = some n) : frag1 p = if 1 ≤ k ∧ k ≤ 4 ∧ n ≤ 106 ∧ n ≤ p.length - 2 then some (k, (p.drop 2).take n) else none := by
  match p, h0, h1 with
  | k' :: n' :: rest, h0, h1 =>
    simp at h0 h1
    subst h0 h1
    show (if 1 ≤ k' ∧ k' ≤ 4 ∧ n' ≤ 106 ∧ n' ≤ rest.length then some (k', rest.take n') else none) = _
    simp
theorem frag1_some {p : List Nat} {k : Nat} {b : List Nat} (h : frag1 p = some (k, b)) : 1 ≤ k ∧ k ≤ 4 ∧ b.length ≤ 106 ∧ 2 + b.length ≤ p.length := by
  match p, h with
  | k' :: n :: rest, h =>
    unfold frag1 at h
    simp only at h
    split at h
    · rename_i hc
      injection h with h
      injection h with e1 e2
      subst e1 e2
      refine ⟨hc.1, hc.2.1, ?_, ?_⟩
      · rw [List.length_take]; omega
      · rw [List.length_take]; simp; omega
    · cases h
end Fg
def GivesFrag (w : World) (A : Option Addr) (n : Nat) (p : List Nat) (f : Option (Nat × List Nat)) (e : Ending) (w' : World) : Prop :=
  Below w.heap.size w w' ∧ (f = none → e = .returned (.tuple #[.int .i64 0, .slice none 0 0, .bool false])) ∧
    ∀ k b, f = some (k, b) → ∃ (B : Option Addr) (d : Nat), e = .returned (.tuple #[.int .i64 (k : Int), .slice B b.length d, .bool true]) ∧ (∀ W, Rd W A n p → Rd W B b.length b) ∧ b.length ≤ d
theorem run_two (A : Option Addr) (n c t : Nat) (ht : 2 + t ≤ n) (hc : n ≤ c) (w : World) : (Instr.slice 29 (.slice A n c) (some (.int .i64 2)) (some (.int .i64 (2 + (t : Int)))) none).run Try.prog w = .ok (.slice (partOf A c 2) t (c - 2)) w := by
  have := run_cut A n c 2 (2 + t) (by omega) ht hc w
  rw [show ((2 : Nat) : Int) = 2 by rfl, show ((2 + t : Nat) : Int) = 2 + (t : Int) by omega, show 2 + t - 2 = t by omega] at this
  exact this
set_option maxRecDepth 100000 in
set_option maxHeartbeats 2000000 in
theorem fragment_any (A : Option Addr) (n c : Nat) (p : List Nat) (w : World) (hr : Rd w A n p) (hc : n ≤ c) (hn : n ≤ 108) :
    Calls Try.prog 27 #[.slice A n c] w (GivesFrag w A n p (Fg.frag1 p)) := by
  have hlen := hr.1
  by_cases h2 : n < 2
  · have hf := Fg.frag1_short (p := p) (by omega)
    rw [hf]
    have h2i : (n : Int) < 2 := by omega
    clear hf hr hlen
    go_enter Try.func27, Try.ntmps27
    go_wp2
    go_ret3
    exact ⟨Below.refl _ _, fun _ => rfl, fun k b e => by cases e⟩
  · have h2i : ¬ (n : Int) < 2 := by omega
    obtain ⟨g, o, k, rfl, hg, hk, hk256, hc0⟩ := hr.at_ (k := 0) (by omega)
    obtain ⟨m, hm, hm256⟩ := byte_at hr (show 1 < n by omega)
    have hc1 : w.cell? ⟨g, o + 1, none⟩ = some (.int .u8 (m : Int)) := by
      obtain ⟨b', o', he, _, hcc⟩ := hr.2.2 (by omega)
      injection he with he; injection he with e1 e2
      subst e1 e2
      exact hcc 1 m hm
    have hat := Fg.frag1_at hk hm
    rw [Nat.add_zero] at hc0
    have h0i : (0 : Int) < (n : Int) := by omega
    have h1i : (1 : Int) < (n : Int) := by omega
    by_cases hk1 : k < 1
    · rw [if_neg (by omega)] at hat
      rw [hat]
      have hki : (k : Int) < 1 := by omega
      have HA := Lib.hid hat
      clear hat hr hk hm hlen
      go_enter Try.func27, Try.ntmps27
      go_wp2
      go_ret3
      exact ⟨Below.refl _ _, fun _ => rfl, fun k b e => by cases e⟩
    · have hki : ¬ (k : Int) < 1 := by omega
      by_cases hk4 : 4 < k
      · rw [if_neg (by omega)] at hat
        rw [hat]
        have hk4i : (4 : Int) < (k : Int) := by omega
        clear hat hr hk hm hlen
        go_enter Try.func27, Try.ntmps27
        go_wp2
        go_ret3
        exact ⟨Below.refl _ _, fun _ => rfl, fun k b e => by cases e⟩
      · have hk4i : ¬ (4 : Int) < (k : Int) := by omega
        by_cases hm1 : 106 < m
        · rw [if_neg (by omega)] at hat
          rw [hat]
          have hmi : (106 : Int) < (m : Int) := by omega
          clear hat hr hk hm hlen
          go_enter Try.func27, Try.ntmps27
          go_wp2
          go_ret3
          exact ⟨Below.refl _ _, fun _ => rfl, fun k b e => by cases e⟩
        · have hmi : ¬ (106 : Int) < (m : Int) := by omega
          by_cases hm2 : n - 2 < m
          · rw [if_neg (by omega)] at hat
            rw [hat]
            have hm2i : (n : Int) - 2 < (m : Int) := by omega
            clear hat hr hk hm hlen
            go_enter Try.func27, Try.ntmps27
            go_wp2
            go_ret3
            exact ⟨Below.refl _ _, fun _ => rfl, fun k b e => by cases e⟩
          · have hm2i : ¬ (n : Int) - 2 < (m : Int) := by omega
            rw [if_pos (by omega)] at hat
            rw [hat]
            have hcut := fun (W : World) (h : Rd W (some ⟨g, o, none⟩) n p) => rd_cut (f := 2) (t := 2 + m) h (by omega) (by omega) hc
            rw [show 2 + m - 2 = m by omega] at hcut
            have hsl := fun W => run_two (some ⟨g, o, none⟩) n c m (by omega) hc W
            have hw2 : IntKind.i64.wrap (2 + (m : Int)) = 2 + (m : Int) := by rw [IntKind.wrap_i64]; omega
            have hbl : ((p.drop 2).take m).length = m := by rw [List.length_take, List.length_drop]; omega
            have HCut := Lib.hid hcut
            have HBl := Lib.hid hbl
            have hcd : c - 2 ≥ m := by omega
            generalize (p.drop 2).take m = b at *
            clear hat hr hk hm hlen hcut hbl
            go_enter Try.func27, Try.ntmps27
            go_wp2
            go_quiet (fail)
            go_wp2
            go_ret3
            refine ⟨(Below.refl _ _).trans ⟨rfl, rfl, rfl, Nat.le_refl _, fun _ _ => rfl⟩, (fun e => by cases e), fun k' b' e => ?_⟩
            injection e with e
            injection e with e1 e2
            subst e1 e2
            exact ⟨partOf (some ⟨g, o, none⟩) c 2, c - 2, by rw [HBl.out]; rfl, by rw [HBl.out]; exact HCut.out, by rw [HBl.out]; exact hcd⟩
end Go.Proofs.Ytpfdacnjikdifaa
