/- What package code's own Num, own, number and TakeNum of layer 2 return: for every argument in its kind. Plain mathematics of numbers as bytes, more: which number stands at the beginning, byte by byte. -/
import Derived.Test.YthfcjlndaajkfaaGreatN02
import Derived.Test.YthfcjlndaajkfaaGreatN03
namespace Go.Proofs.YthfcjlndaajkfaaGreat
open Go.RowKit
set_option maxRecDepth 100000 in
theorem num_any (n : Nat) (hn : n < 18446744073709551616) (w : World) :
    Calls Tryz.prog 51 #[.int .u64 (n : Int)] w (GivesBytes w (Cd.num n)) := by
  have Hn := Lib.hid (And.intro hn (num_start n hn))
  clear hn
  go_enter Tryz.func51, Tryz.ntmps51
  go_wp2
  go_loopw [0, 3] (fun u v wr => ∃ (cur f cap : Nat) (A : Option Addr) (acc : List Nat), acc.length + f ≤ 10 ∧ u = .int .u64 (cur : Int) ∧ v = .slice A acc.length cap ∧ Own wr w.heap.size A acc.length cap acc ∧ Below w.heap.size w wr ∧ Hid (cur < 18446744073709551616 ∧ cur < 128 ^ f * 128 ∧ acc ++ Cd.numF f cur = Cd.num n)) (fun u _ _ => (intOf u).toNat)
  case atStart => exact ⟨n, 10, 0, none, [], by simp, rfl, rfl, Own.none_ w w.heap.size, Below.refl _ _, Lib.hid ⟨Hn.out.1, Hn.out.2, rfl⟩⟩
  case round =>
    obtain ⟨cur, f, cap, A, acc, hlen, rfl, rfl, ho, hb, hH⟩ := hrel
    have hsz := hb.size
    by_cases h128 : 128 ≤ cur
    · obtain ⟨f', rfl⟩ : ∃ f', f = f' + 1 := by
        cases f with
        | zero => exact absurd hH.out.2.1 (by omega)
        | succ f' => exact ⟨f', rfl⟩
      obtain ⟨y, hy⟩ : ∃ y : Nat, y = cur % 128 + 128 := ⟨_, rfl⟩
      have hyi : bits .or .u8 ((cur : Int) % 256) 128 = (y : Int) := by rw [or128, hy]
      have hy2 : y < 256 := by omega
      have hrn := rd_one wr y hy2
      have Hy := Lib.hid hy
      clear hy
      have hlen2 : acc.length ≤ 10 := by omega
      go_wp2_with (first | (at_builtin; refine wpList_appB rfl (.tmp 8) (.tmp 12) rfl rfl (ho.alloc _) (some ⟨wr.heap.size, 0, none⟩) 1 1 [y] rfl hrn (by omega) (Nat.le_trans hsz (size_alloc_le _ _)) ?_; intro A3 cap3 w3 hg3))
      go_roundw
      case rel =>
        have hl3 : (acc ++ [y]).length = acc.length + 1 := by rw [List.length_append]; rfl
        refine ⟨cur / 128, f', cap3, A3, acc ++ [y], by omega, by go_num, by rw [hl3], by rw [hl3]; exact hg3.own, hg3.below (hb.alloc hsz _) (Nat.le_trans hsz (size_alloc_le _ _)) (fun g hg => (ho.blk g hg).1), Lib.hid ⟨?_, ?_, ?_⟩⟩
        · have h1 := hH.out.1
          omega
        · have h1 := hH.out.2.1
          rw [Nat.pow_succ] at h1
          omega
        · have h2 := hH.out.2.2
          rw [Cd.numF_big (by omega)] at h2
          rw [Hy.out, List.append_assoc]
          exact h2
      case measure => simp [intOf]; omega
    · have hc8 : (cur : Int) < 256 := by omega
      have hrn := rd_one wr cur (by omega)
      have hlen2 : acc.length ≤ 10 := by omega
      go_wp2_with (first | (at_builtin; refine wpList_appB rfl (.tmp 14) (.tmp 17) rfl rfl (ho.alloc _) (some ⟨wr.heap.size, 0, none⟩) 1 1 [cur] rfl hrn (by omega) (Nat.le_trans hsz (size_alloc_le _ _)) ?_; intro A3 cap3 w3 hg3))
      go_ret
      have h2 := hH.out.2.2
      rw [Cd.numF_small (by omega)] at h2
      have hl3 : (Cd.num n).length = acc.length + 1 := by rw [← h2, List.length_append]; rfl
      refine ⟨A3, cap3, ?_⟩
      rw [hl3, ← h2]
      exact ⟨rfl, hg3.own, hg3.below (hb.alloc hsz _) (Nat.le_trans hsz (size_alloc_le _ _)) (fun g hg => (ho.blk g hg).1)⟩
set_option maxRecDepth 100000 in
theorem cown_any (A : Option Addr) (n cap : Nat) (l : List Nat) (w : World) (hl : Rd w A n l) (hn : n ≤ 1000000) :
    Calls Tryz.prog 103 #[.slice A n cap] w (GivesBytes w l) := by
  have Hl := Lib.hid hl.1
  go_enter Tryz.func103, Tryz.ntmps103
  go_wp2_with (first | (at_builtin; refine wpList_appB rfl (.const (.slice none 0 0)) (.tmp 3) rfl rfl (Own.none_ w w.heap.size) A n cap l rfl hl (by omega) (Nat.le_refl _) ?_; intro A3 cap3 w3 hg3))
  go_ret
  have ho := hg3.own
  rw [Nat.zero_add, List.nil_append] at ho

  refine ⟨A3, cap3, ?_⟩
  rw [Hl.out]
  exact ⟨rfl, ho, hg3.below (Below.refl _ _) (Nat.le_refl _) (fun g hg => by simp [Value.ownBlock] at hg)⟩
end Go.Proofs.YthfcjlndaajkfaaGreat
namespace Go.Proofs.YthfcjlndaajkfaaGreat
open Go.RowKit
theorem Cd.val7_append (a b : List Nat) : Cd.val7 (a ++ b) = Cd.val7 a + Cd.val7 b * 128 ^ a.length := by
  induction a with
  | nil => simp [Cd.val7]
  | cons x t ih =>
    show Cd.val7 (t ++ b) * 128 + x % 128 = (Cd.val7 t * 128 + x % 128) + Cd.val7 b * 128 ^ (t.length + 1)
    rw [ih, Nat.pow_succ, Nat.add_mul, ← Nat.mul_assoc]; omega
theorem Cd.val7_lt (l : List Nat) : Cd.val7 l < 128 ^ l.length := by
  induction l with
  | nil => simp [Cd.val7]
  | cons x t ih =>
    show Cd.val7 t * 128 + x % 128 < 128 ^ (t.length + 1)
    rw [Nat.pow_succ]; omega
theorem Cd.val7_take (l : List Nat) (j x : Nat) (h : l[j]? = some x) : Cd.val7 (l.take (j + 1)) = Cd.val7 (l.take j) + x % 128 * 128 ^ j := by
  have hl : (l.take j).length = j := by
    have := (List.getElem?_eq_some_iff.1 h).1
    rw [List.length_take]; omega
  rw [take_snoc h, Cd.val7_append, hl]
  show _ + (0 * 128 + x % 128) * 128 ^ j = _
  rw [Nat.zero_mul, Nat.zero_add]
theorem Cd.val7_take_lt (l : List Nat) (j : Nat) (h : j ≤ l.length) : Cd.val7 (l.take j) < 128 ^ j := by
  have := Cd.val7_lt (l.take j)
  rw [List.length_take, Nat.min_eq_left h] at this
  exact this
theorem Cd.numF_len (k f n : Nat) (hf : k ≤ f) (h1 : k = 0 ∨ 128 ^ k ≤ n) (h2 : n < 128 ^ (k + 1)) : (Cd.numF f n).length = k + 1 := by
  induction k generalizing f n with
  | zero => rw [Cd.numF_small (by simpa using h2)]; rfl
  | succ k ih =>
    cases f with
    | zero => omega
    | succ f =>
      rcases h1 with h1 | h1
      · omega
      · rw [Nat.pow_succ] at h1 h2
        have hp : 1 ≤ 128 ^ k := Nat.pow_pos (by omega)
        rw [Cd.numF_big (by omega), List.length_cons, ih f (n / 128) (by omega) (.inr (by omega)) (by omega)]
theorem Cd.numF_short (k f n : Nat) (hk : 1 ≤ k) (h2 : n < 128 ^ k) : (Cd.numF f n).length ≤ k := by
  induction k generalizing f n with
  | zero => omega
  | succ k ih =>
    by_cases hn : n < 128
    · rw [Cd.numF_small hn]; simp
    · cases f with
      | zero => simp [Cd.numF]
      | succ f =>
        rw [Cd.numF_big hn, List.length_cons]
        cases k with
        | zero => simp at h2; omega
        | succ k =>
          rw [Nat.pow_succ] at h2
          have := ih f (n / 128) (by omega) (by omega)
          omega
theorem Cd.lead_of {l : List Nat} {j x : Nat} (hl : Led l j) (hj : j ≤ 9) (h : l[j]? = some x) (hx : x < 128) : Cd.lead 10 l = j ∧ j < l.length := by
  have hlt := (List.getElem?_eq_some_iff.1 h).1
  exact ⟨Cd.lead_eq 10 l j (by omega) (by omega) hl (.inr (.inr ⟨x, h, hx⟩)), hlt⟩
theorem Cd.take_big {l : List Nat} {j x : Nat} (hl : Led l j) (hj : j = 9) (h : l[j]? = some x) (hx : 1 < x) : Cd.takeNum l = none := by
  subst hj
  by_cases h128 : x < 128
  · obtain ⟨h1, h2⟩ := Cd.lead_of hl (by omega) h h128
    rw [Cd.takeNum_led h1 h2 (by omega), if_pos]
    rw [Cd.val7_take l 9 x h, show 128 ^ 9 = 9223372036854775808 by decide]
    omega
  · refine Cd.takeNum_none (.inr (Cd.lead_eq 10 l 10 (by omega) ?_ ?_ (.inl rfl)))
    · have := (List.getElem?_eq_some_iff.1 h).1; omega
    · intro i y hi hy
      by_cases e : i = 9
      · subst e; rw [h] at hy; injection hy with hy; omega
      · exact hl i y (by omega) hy
theorem Cd.take_zero {l : List Nat} {j : Nat} (hl : Led l j) (h0 : 0 < j) (hj : j ≤ 9) (h : l[j]? = some 0) : Cd.takeNum l = none := by
  obtain ⟨h1, h2⟩ := Cd.lead_of hl hj h (by omega)
  rw [Cd.takeNum_led h1 h2 (by omega)]
  have hv := Cd.val7_take l j 0 h
  rw [Nat.zero_mod, Nat.zero_mul, Nat.add_zero] at hv
  have hlt := Cd.val7_take_lt l j (by omega)
  have hs : (Cd.num (Cd.val7 (l.take (j + 1)))).length ≤ j := Cd.numF_short j 10 _ h0 (by rw [hv]; exact hlt)
  split
  · rfl
  · rw [if_neg (by omega)]
theorem Cd.pow_128 (j : Nat) (hj : j ≤ 9) : 128 ^ j ≤ 9223372036854775808 := by
  have := Nat.pow_le_pow_right (show 0 < 128 by omega) hj
  rw [show 128 ^ 9 = 9223372036854775808 by decide] at this
  exact this
theorem Cd.pow_128' (j : Nat) (hj : j ≤ 8) : 128 ^ j ≤ 72057594037927936 := by
  have := Nat.pow_le_pow_right (show 0 < 128 by omega) hj
  rw [show 128 ^ 8 = 72057594037927936 by decide] at this
  exact this
theorem Cd.val_bound (l : List Nat) (j x : Nat) (hj : j ≤ 9) (h : l[j]? = some x) (hx9 : j = 9 → x ≤ 1) : Cd.val7 (l.take (j + 1)) < 18446744073709551616 := by
  have hlt := Cd.val7_take_lt l j (by have := (List.getElem?_eq_some_iff.1 h).1; omega)
  rw [Cd.val7_take l j x h]
  by_cases e : j = 9
  · have := hx9 e
    subst e
    rw [show 128 ^ 9 = 9223372036854775808 by decide] at hlt ⊢
    have : x % 128 ≤ 1 := by omega
    omega
  · have hp := Cd.pow_128' j (by omega)
    have hm : x % 128 * 128 ^ j ≤ 127 * 72057594037927936 := Nat.mul_le_mul (by omega) hp
    omega
theorem Cd.take_some {l : List Nat} {j x : Nat} (hl : Led l j) (hj : j ≤ 9) (h : l[j]? = some x) (hx : x < 128) (h0 : 0 < x ∨ j = 0) (hx9 : j = 9 → x ≤ 1) :
    Cd.takeNum l = some (Cd.val7 (l.take j) + x % 128 * 128 ^ j, l.drop (j + 1)) := by
  obtain ⟨h1, h2⟩ := Cd.lead_of hl hj h hx
  have hb := Cd.val_bound l j x hj h hx9
  rw [Cd.takeNum_led h1 h2 (by omega), if_neg (by omega), Cd.val7_take l j x h]
  have hlt := Cd.val7_take_lt l j (by omega)
  rw [if_pos]
  refine Cd.numF_len j 10 _ (by omega) ?_ ?_
  · rcases h0 with h0 | h0
    · right
      rw [Nat.mod_eq_of_lt hx]
      have : 1 * 128 ^ j ≤ x * 128 ^ j := Nat.mul_le_mul_right _ h0
      omega
    · exact .inl h0
  · have h3 := Cd.val7_take_lt l (j + 1) (by omega)
    rw [Cd.val7_take l j x h] at h3
    exact h3
theorem Cd.take_end {l : List Nat} {j : Nat} (hl : Led l j) (hj : j = min l.length 10) : Cd.takeNum l = none := by
  refine Cd.takeNum_none ?_
  have := Cd.lead_eq 10 l j (by omega) (by omega) hl (by omega)
  omega
theorem or_step (j y x : Nat) (hj : j ≤ 9) (hy : y < 128 ^ j) (hx9 : j = 9 → x ≤ 1) :
    bits .or .u64 (y : Int) (IntKind.u64.wrap ((x : Int) % 128 * 2 ^ (7 * j))) = ((y + x % 128 * 128 ^ j : Nat) : Int) := by
  have hp : (2 : Nat) ^ (7 * j) = 128 ^ j := by rw [Nat.pow_mul]
  have hm : x % 128 * 128 ^ j ≤ 18446744073709551615 := by
    by_cases e : j = 9
    · have := hx9 e
      subst e
      rw [show 128 ^ 9 = 9223372036854775808 by decide]
      omega
    · have hp := Cd.pow_128' j (by omega)
      have hm : x % 128 * 128 ^ j ≤ 127 * 72057594037927936 := Nat.mul_le_mul (by omega) hp
      omega
  have hy2 := Cd.pow_128 j hj
  have e1 : (x : Int) % 128 * 2 ^ (7 * j) = ((x % 128 * 128 ^ j : Nat) : Int) := by rw [← hp]; simp
  rw [e1, IntKind.wrap_u64]
  have e2 : ((x % 128 * 128 ^ j : Nat) : Int) % 18446744073709551616 = ((x % 128 * 128 ^ j : Nat) : Int) := by omega
  rw [e2, u64_or_nat _ _ (by omega) (by omega)]
  have := low_or (x % 128) y (7 * j) (by rw [hp]; exact hy)
  rw [hp] at this
  rw [this, Nat.add_comm]
end Go.Proofs.YthfcjlndaajkfaaGreat
