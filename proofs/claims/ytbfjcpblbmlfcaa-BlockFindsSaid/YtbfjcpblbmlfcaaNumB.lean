/- What the document's own TakeNum of layer 2 returns: the number at the beginning of any bytes, for every slice of at most 1,000,000 bytes. -/
import Derived.Test.YtbfjcpblbmlfcaaNumA
namespace Go.Proofs.Ytbfjcpblbmlfcaa
open Go.RowKit
namespace Cd
/-- How many bytes of 128 or more stand at the beginning, at most f. -/
def lead : Nat → List Nat → Nat
  | 0, _ => 0
  | _ + 1, [] => 0
  | f + 1, x :: t => if 128 ≤ x then lead f t + 1 else 0
theorem lead_eq (f : Nat) (l : List Nat) (j : Nat) (hf : j ≤ f) (hl : j ≤ l.length) (ha : ∀ i x, i < j → l[i]? = some x → 128 ≤ x) (hx : j = f ∨ j = l.length ∨ ∃ x, l[j]? = some x ∧ x < 128) : lead f l = j := by
  induction f generalizing l j with
  | zero => show 0 = j; omega
  | succ f ih =>
    cases l with
    | nil => simp at hl; subst hl; rfl
    | cons y t =>
      show (if 128 ≤ y then lead f t + 1 else 0) = j
      cases j with
      | zero =>
        rcases hx with h | h | ⟨x, h1, h2⟩
        · omega
        · simp at h
        · simp at h1; rw [if_neg (by omega)]
      | succ j =>
        have hy := ha 0 y (by omega) rfl
        rw [if_pos hy, ih t j (by omega) (by simpa using hl) (fun i x hi h => ha (i + 1) x (by omega) (by simpa using h))]
        rcases hx with h | h | ⟨x, h1, h2⟩
        · left; omega
        · right; left; simpa using h
        · right; right; exact ⟨x, by simpa using h1, h2⟩
/-- The number of seven bits a byte, the lowest first. -/
def val7 : List Nat → Nat
  | [] => 0
  | x :: t => val7 t * 128 + x % 128
theorem val7_at (L : List Nat) (q x : Nat) (h : L[q]? = some x) : val7 (L.drop q) = val7 (L.drop (q + 1)) * 128 + x % 128 := by
  have hq := (List.getElem?_eq_some_iff.1 h).1
  rw [List.drop_eq_getElem_cons hq]
  have : L[q] = x := (List.getElem?_eq_some_iff.1 h).2
  rw [this]; rfl
theorem val7_drop (L : List Nat) (q : Nat) (hq : q < L.length) : 128 * val7 (L.drop (q + 1)) ≤ val7 L := by
  induction q generalizing L with
  | zero =>
    cases L with
    | nil => simp at hq
    | cons x t => show 128 * val7 t ≤ val7 t * 128 + x % 128; omega
  | succ q ih =>
    cases L with
    | nil => simp at hq
    | cons x t =>
      have := ih t (by simpa using hq)
      show 128 * val7 (t.drop (q + 1)) ≤ val7 t * 128 + x % 128
      omega
/-- The number at the beginning, and what stands behind it. -/
def takeNum (l : List Nat) : Option (Nat × List Nat) :=
  if lead 10 l = l.length ∨ lead 10 l = 10 then none
  else if 18446744073709551616 ≤ val7 (l.take (lead 10 l + 1)) then none
  else if (num (val7 (l.take (lead 10 l + 1)))).length = lead 10 l + 1 then some (val7 (l.take (lead 10 l + 1)), l.drop (lead 10 l + 1)) else none
end Cd
theorem Cd.takeNum_none {l : List Nat} (h : Cd.lead 10 l = l.length ∨ Cd.lead 10 l = 10) : Cd.takeNum l = none := by unfold Cd.takeNum; rw [if_pos h]
theorem Cd.takeNum_led {l : List Nat} {j : Nat} (h : Cd.lead 10 l = j) (h1 : j < l.length) (h2 : j < 10) : Cd.takeNum l =
    if 18446744073709551616 ≤ Cd.val7 (l.take (j + 1)) then none else if (Cd.num (Cd.val7 (l.take (j + 1)))).length = j + 1 then some (Cd.val7 (l.take (j + 1)), l.drop (j + 1)) else none := by
  unfold Cd.takeNum
  rw [h, if_neg (by omega)]
/-- What the second loop knows: the number of the bytes from r on. -/
def Summed (L : List Nat) (r v : Nat) : Prop := v = Cd.val7 (L.drop r) ∧ v < 18446744073709551616
theorem mul_wrap7 (v x : Nat) (h : v ≤ 144115188075855871) (hx : x < 128) : IntKind.u64.wrap (IntKind.u64.wrap ((v : Int) * 128) + (x : Int)) = ((v * 128 + x : Nat) : Int) := by
  rw [IntKind.wrap_u64, IntKind.wrap_u64]; omega
/-- What the first loop knows of its counter. -/
def Led (l : List Nat) (j : Nat) : Prop := ∀ i x, i < j → l[i]? = some x → 128 ≤ x
set_option maxRecDepth 100000 in
theorem rtakenum_any (A : Option Addr) (n cap : Nat) (l : List Nat) (w : World) (hl : Rd w A n l) (hc : n ≤ cap) (hn : n ≤ 1000000) :
    Calls Try.prog 42 #[.slice A n cap] w (GivesTake w (Cd.takeNum l)) := by
  go_enter Try.func42, Try.ntmps42
  go_wp2
  go_loop [5] (fun i => ∃ j : Nat, j ≤ n ∧ j ≤ 10 ∧ i = .int .i64 (j : Int) ∧ Led l j) (fun i => n - (intOf i).toNat)
  case atStart => exact ⟨0, by omega, by omega, rfl, fun i x hi => by omega⟩
  case round =>
    obtain ⟨j, hj, hj10, rfl, hled⟩ := hrel
    have Hled := Lib.hid hled
    clear hled
    by_cases hjn : j < n
    · have hjn' : (j : Int) < (n : Int) := by omega
      by_cases hj9 : j < 10
      · have hj9' : (j : Int) < 10 := by omega
        obtain ⟨b, o, x, rfl, hb, hx, hx256, hcell⟩ := hl.at_ hjn
        have hx2 : (x : Int) < 256 := by omega
        have Hx := Lib.hid hx
        clear hx
        by_cases h128 : 128 ≤ x
        · have h128' : 128 ≤ (x : Int) := by omega
          go_wp2
          go_round
          case rel =>
            refine ⟨j + 1, by omega, by omega, by go_num, fun i y hi hy => ?_⟩
            by_cases e : i = j
            · subst e; rw [Hx.out] at hy; injection hy with hy; omega
            · exact Hled.out i y (by omega) hy
          case measure => simp [intOf]; omega
        · have h128' : ¬ 128 ≤ (x : Int) := by omega
          have hlead : Cd.lead 10 l = j := Cd.lead_eq 10 l j (by omega) (by rw [hl.1]; omega) Hled.out (.inr (.inr ⟨x, Hx.out, by omega⟩))
          have htk := Cd.takeNum_led hlead (by rw [hl.1]; exact hjn) hj9
          have Htk := Lib.hid htk
          have hL : (l.take (j + 1)).length = j + 1 := by rw [List.length_take, hl.1]; omega
          have HL := Lib.hid hL
          have hne1 : ((j : Int) == (n : Int)) = false := by rw [beq_eq_false_iff_ne]; omega
          have hne2 : ((j : Int) == 10) = false := by rw [beq_eq_false_iff_ne]; omega
          clear hlead htk hL
          go_wp2
          clear hne1 hne2
          go_loop [6, 7] (fun v i => ∃ (r y : Nat), r ≤ j + 1 ∧ i = .int .i64 ((r : Int) - 1) ∧ v = .int .u64 (y : Int) ∧ Hid (Summed (l.take (j + 1)) r y)) (fun _ i => (intOf i + 1).toNat)
          case atStart => exact ⟨j + 1, 0, by omega, by go_num, rfl, Lib.hid ⟨by rw [List.drop_of_length_le (Nat.le_of_eq HL.out)]; rfl, by omega⟩⟩
          case round =>
            obtain ⟨r, y, hr, rfl, rfl, hS⟩ := hrel
            by_cases h0 : 0 < r
            · obtain ⟨q, rfl⟩ : ∃ q, r = q + 1 := ⟨r - 1, by omega⟩
              have hi0 : ((q + 1 : Nat) : Int) - 1 = (q : Int) := by omega
              obtain ⟨b', o', z, he, hb', hz, hz256, hcellz⟩ := hl.at_ (k := q) (by omega)
              injection he with he
              injection he with he1 he2
              subst he1 he2
              have hz2 : (z : Int) < 256 := by omega
              have hqn : (q : Int) < (n : Int) := by omega
              have Hz := Lib.hid hz
              clear hz hcell hx2 h128' hjn' hj9'
              by_cases hbig : 144115188075855871 < y
              · have hbig' : 144115188075855871 < (y : Int) := by omega
                go_wp2
                go_ret3
                have hnone : Cd.takeNum l = none := by
                  rw [Htk.out, if_pos]
                  have h1 := Cd.val7_drop (l.take (j + 1)) q (by rw [HL.out]; omega)
                  rw [← hS.out.1] at h1
                  omega
                rw [hnone]
                exact ⟨rfl, Below.refl _ _⟩
              · have hbig' : ¬ 144115188075855871 < (y : Int) := by omega
                go_wp2
                go_round
                case rel =>
                  refine ⟨q, y * 128 + z % 128, by omega, rfl, by go_num, Lib.hid ⟨?_, by omega⟩⟩
                  rw [Cd.val7_at _ q z (by rw [List.getElem?_take, if_pos (by omega)]; exact Hz.out), ← hS.out.1]
                case measure => simp [intOf] <;> omega
            · have hr0 : r = 0 := by omega
              subst hr0
              have hy64 := hS.out.2
              have hyv : Cd.val7 (l.take (j + 1)) = y := by
                have := hS.out.1
                rw [List.drop_zero] at this
                exact this.symm
              have htk2 : Cd.takeNum l = if (Cd.num y).length = j + 1 then some (y, l.drop (j + 1)) else none := by
                rw [Htk.out, hyv, if_neg (by omega)]
              have hnum := rnum_any y hy64 w
              have Htk2 := Lib.hid htk2
              have Hnum := Lib.hid hnum
              have hlen11 := Cd.num_length y
              clear htk2 hnum hy64 hyv hcell hx2 h128' hjn' hj9'
              by_cases hlen : (Cd.num y).length = j + 1
              · have hq : (((Cd.num y).length : Int) != (j : Int) + 1) = false := by rw [bne_eq_false_iff_eq]; omega
                have htk3 := Htk2.out
                rw [if_pos hlen] at htk3
                have Htk3 := Lib.hid htk3
                have hld : (l.drop (j + 1)).length = n - (j + 1) := by rw [List.length_drop, hl.1]
                have Hld := Lib.hid hld
                have Hlen := Lib.hid hlen
                clear htk3 hld hlen
                by_cases hck : j + 1 = cap
                · have hnj : n = j + 1 := by omega
                  subst hck
                  subst hnj
                  have hnil : l.drop (j + 1) = [] := by rw [List.drop_eq_nil_iff, hl.1]; exact Nat.le_refl _
                  have Hnil := Lib.hid hnil
                  clear hnil
                  go_wp2_with (first | (go_at_call 27; refine Hnum.out.mono ?_; rintro e w1 ⟨A1, c1, rfl, ho1, hb1⟩) | (at_builtin; refine wpList_appB rfl (.tmp 58) (.tmp 62) rfl rfl (Own.empty w1) (some ⟨b, o, none⟩) 0 0 [] rfl (Rd.nil _ _) (by omega) (size_alloc_le _ _) ?_; intro A2 c2 w2 hg2; have hz := hg2.fresh; have hb2 := hz.1; have ho2 := hz.2; clear hg2 hz))
                  go_ret3
                  rw [Htk3.out]
                  refine ⟨A2, c2, ?_⟩
                  rw [Hnil.out]
                  exact ⟨rfl, ho2.rd, Nat.zero_le _, below_next hb1 hb2⟩
                · have hrd := drop_rd hl (show j + 1 ≤ n by omega)
                  have hjc : (j : Int) + 1 < (cap : Int) := by omega
                  go_wp2_with (first | (go_at_call 27; refine Hnum.out.mono ?_; rintro e w1 ⟨A1, c1, rfl, ho1, hb1⟩) | (at_builtin; refine wpList_appB rfl (.tmp 58) (.tmp 62) rfl rfl (Own.empty w1) (some ⟨b, o + (j + 1), none⟩) (n - (j + 1)) (cap - (j + 1)) (l.drop (j + 1)) rfl ((hrd.below hb1).alloc _) (by omega) (size_alloc_le _ _) ?_; intro A2 c2 w2 hg2; have hz := hg2.fresh; have hb2 := hz.1; have ho2 := hz.2; clear hg2 hz))
                  go_ret3
                  rw [Htk3.out]
                  refine ⟨A2, c2, ?_⟩
                  rw [Hld.out]
                  exact ⟨rfl, ho2.rd, ho2.cap, below_next hb1 hb2⟩
              · have hq : (((Cd.num y).length : Int) != (j : Int) + 1) = true := by rw [bne_iff_ne]; omega
                have htk3 := Htk2.out
                rw [if_neg hlen] at htk3
                have Htk3 := Lib.hid htk3
                clear htk3 hlen
                go_wp2_with (first | (go_at_call 27; refine Hnum.out.mono ?_; rintro e w1 ⟨A1, c1, rfl, ho1, hb1⟩))
                go_ret3
                rw [Htk3.out]
                exact ⟨rfl, hb1⟩
      · have hj10' : j = 10 := by omega
        subst hj10'
        have hnone := Cd.takeNum_none (l := l) (.inr (Cd.lead_eq 10 l 10 (by omega) (by rw [hl.1]; omega) Hled.out (.inl rfl)))
        have Hnone := Lib.hid hnone
        have hne1 : ((10 : Int) == (n : Int)) = false := by rw [beq_eq_false_iff_ne]; omega
        clear hnone
        go_wp2
        go_ret3
        rw [Hnone.out]
        exact ⟨rfl, Below.refl _ _⟩
    · have hjn2 : j = n := by omega
      subst hjn2
      have hnone := Cd.takeNum_none (l := l) (.inl ((Cd.lead_eq 10 l j (by omega) (by rw [hl.1]; omega) Hled.out (.inr (.inl hl.1.symm))).trans hl.1.symm))
      have Hnone := Lib.hid hnone
      clear hnone
      go_wp2
      go_ret3
      rw [Hnone.out]
      exact ⟨rfl, Below.refl _ _⟩
end Go.Proofs.Ytbfjcpblbmlfcaa
