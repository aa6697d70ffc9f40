/- There and back: what Split, ReadNum, ReadInbox and ReadIntent say of what the others made. Plain mathematics. -/
import Derived.Test.YtaoiokilnmpniaaBoxOrd
import Derived.Test.YtaoiokilnmpniaaBoxReads
namespace Go.Proofs.Ytaoiokilnmpniaa
open Go.RowKit
theorem numV_numS (n : Nat) (hn : n ≤ 1099511627776) : numV (numS (n : Int) 8) = n ∧ numB (numS (n : Int) 8) = true := by
  have e : (IntKind.u64.wrap (n : Int)).toNat = n := by rw [IntKind.wrap_u64]; omega
  have hv : Cd.be (bs (numS (n : Int) 8)) = n := by
    rw [bs_numS n 8 (by omega) (by omega) (by omega), be_low, Nat.mod_eq_of_lt (by omega)]
  have hz : (numS (n : Int) 8).size = 8 := by
    rw [← bs_length, bs_numS n 8 (by omega) (by omega) (by omega), List.length_reverse]
    rfl
  exact ⟨hv, by unfold numB; rw [hv, hz]; exact decide_eq_true (by omega)⟩
theorem peer_numS (p : Nat) (h1 : 1 ≤ p) (h2 : p ≤ 15) : (numS (p : Int) 1).size = 1 ∧ (bs (numS (p : Int) 1)).getD 0 0 = p ∧ peerS (numS (p : Int) 1) = true := by
  have hb : bs (numS (p : Int) 1) = [p] := by
    rw [bs_numS p 1 (by omega) (by omega) (by omega)]
    show [p / 256 ^ 0 % 256] = [p]
    simp; omega
  have hz : (numS (p : Int) 1).size = 1 := by rw [← bs_length, hb]; rfl
  have hg : (bs (numS (p : Int) 1)).getD 0 0 = p := by rw [hb]; rfl
  refine ⟨hz, hg, ?_⟩
  unfold peerS
  rw [hz, hg]
  unfold withinB
  rw [decide_eq_true (show 1 ≤ (p : Int) ∧ (p : Int) ≤ 15 by omega)]; rfl
theorem splitO_key (l : List ByteArray) (h : l.length ≤ 8) : splitO (str (Cd.keyOf l)) = splitL l := by
  unfold splitO
  rw [bs_str (Cd.keyOf_lt _), parts_keyOf l h]; rfl
theorem back_hold (s : ByteArray) (n : Nat) (hs : nameB s = true) (hn : n ≤ 1099511627776) : splitO (str (Cd.keyOf [⟨#[104]⟩, s, numS (n : Int) 8])) = some (⟨#[104]⟩, s, (n : Int)) := by
  rw [splitO_key _ (by simp)]
  obtain ⟨h1, h2⟩ := numV_numS n hn
  show (if numB (numS (n : Int) 8) = true ∧ _ then some (_, _, (numV (numS (n : Int) 8) : Int)) else none) = _
  rw [if_pos ⟨h2, .inl ⟨rfl, hs⟩⟩, h1]
theorem back_account (s : ByteArray) (hs : nameB s = true) : splitO (str (Cd.keyOf [⟨#[97]⟩, s])) = some (⟨#[97]⟩, s, 0) := by
  rw [splitO_key _ (by simp)]
  show (if _ ∨ _ then _ else none) = _
  rw [if_pos (.inl ⟨rfl, hs⟩)]
theorem back_out (p n : Nat) (h1 : 1 ≤ p) (h2 : p ≤ 15) (hn : n ≤ 1099511627776) : splitO (str (Cd.keyOf [⟨#[111]⟩, numS (p : Int) 1, numS (n : Int) 8])) = some (⟨#[111]⟩, numS (p : Int) 1, (n : Int)) := by
  rw [splitO_key _ (by simp)]
  obtain ⟨g1, g2⟩ := numV_numS n hn
  show (if numB (numS (n : Int) 8) = true ∧ _ then some (_, _, (numV (numS (n : Int) 8) : Int)) else none) = _
  rw [if_pos ⟨g2, .inr ⟨rfl, (peer_numS p h1 h2).2.2⟩⟩, g1]
theorem back_inbox (p : Nat) (h1 : 1 ≤ p) (h2 : p ≤ 15) : splitO (str (Cd.keyOf [⟨#[105]⟩, numS (p : Int) 1])) = some (⟨#[105]⟩, numS (p : Int) 1, 0) := by
  rw [splitO_key _ (by simp)]
  show (if _ ∨ _ then _ else none) = _
  rw [if_pos (.inr ⟨.inr rfl, (peer_numS p h1 h2).2.2⟩)]
theorem back_num (a : Nat) (h : a ≤ 1099511627776) : Ob.readN (Cd.num a) = ((a : Int), 0) := by
  have e := takeNum_num a (by omega) []
  rw [List.append_nil] at e
  unfold Ob.readN
  rw [e]
  show (if [] = [] ∧ a ≤ 1099511627776 then _ else _) = _
  rw [if_pos ⟨rfl, h⟩]
theorem back_box (f m : Nat) (hf : f ≤ 1099511627776) (hm : m < 18446744073709551616) (h2 : m % 2 = 0) : Ob.readB (Cd.num f ++ Cd.num m) = ((f : Int), m, 0) := by
  have e := takeNum_num f (by omega) (Cd.num m)
  have e2 := takeNum_num m hm []
  rw [List.append_nil] at e2
  unfold Ob.readB
  rw [e]
  dsimp only
  rw [e2]
  show (if [] = [] ∧ f ≤ 1099511627776 ∧ m % 2 = 0 then _ else _) = _
  rw [if_pos ⟨rfl, hf, h2⟩]
theorem back_intent (s : ByteArray) (n : Nat) (h : Ob.isI s (n : Int) = true) : Ob.readI (Cd.text s ++ Cd.num n) = (s, (n : Int), 0) := by
  have h0 := h
  unfold Ob.isI nameB withinB at h0
  rw [Bool.and_eq_true, decide_eq_true_iff, decide_eq_true_iff] at h0
  have e2 := takeNum_num n (by omega) []
  rw [List.append_nil] at e2
  have e : Cd.takeText (Cd.text s ++ Cd.num n) 16 = some (bs s, Cd.num n) := by
    have e3 := takeText_text s (by omega) (Cd.num n)
    have e4 := takeNum_num s.size (by omega) (bs s ++ Cd.num n)
    unfold Cd.takeText Cd.text at e3 ⊢
    rw [List.append_assoc, e4] at e3 ⊢
    replace e3 : (if (s.size : Int) < 0 ∨ (s.size : Int) < (s.size : Int) ∨ (bs s ++ Cd.num n).length < s.size then none else some ((bs s ++ Cd.num n).take s.size, (bs s ++ Cd.num n).drop s.size)) = some (bs s, Cd.num n) := e3
    show (if (16 : Int) < 0 ∨ (16 : Int) < (s.size : Int) ∨ (bs s ++ Cd.num n).length < s.size then none else some ((bs s ++ Cd.num n).take s.size, (bs s ++ Cd.num n).drop s.size)) = some (bs s, Cd.num n)
    have hlen : ¬ (bs s ++ Cd.num n).length < s.size := by rw [List.length_append, bs_length]; omega
    rw [if_neg (by omega)] at e3
    rw [if_neg (by omega)]
    exact e3
  unfold Ob.readI
  rw [e]
  dsimp only
  rw [e2]
  show (if [] = [] ∧ Ob.isI (str (bs s)) (n : Int) = true then _ else _) = _
  rw [str_bs, if_pos ⟨rfl, h⟩]
theorem key2_size (c a : ByteArray) (hc : c.size ≤ 1) (ha : a.size ≤ 16) : (str (Cd.keyOf [c, a])).size ≤ 64 := by
  rw [str_size]
  show (Cd.esc (bs c) ++ [0, 1] ++ (Cd.esc (bs a) ++ [0, 1] ++ [])).length ≤ 64
  have h1 := Cd.esc_length (bs c)
  have h2 := Cd.esc_length (bs a)
  rw [bs_length] at h1 h2
  simp only [List.length_append, List.length_cons, List.length_nil]
  omega
end Go.Proofs.Ytaoiokilnmpniaa
