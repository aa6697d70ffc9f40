/- What package code's own Key and Behind return. -/
import Derived.Test.YtaoiokilnmpniaaCodeKey
import Derived.Test.YtaoiokilnmpniaaBits
namespace Go.Proofs.Ytaoiokilnmpniaa
open Go.RowKit
set_option maxRecDepth 100000 in
theorem key_many (A : Option Addr) (n cap : Nat) (h : 8 < n) (w : World) :
    Calls Try.prog 53 #[.slice A n cap] w fun e w' => e = .returned (.tuple #[.string ⟨#[]⟩, .int .i64 3]) ∧ w = w' := by
  have h' : (8 : Int) < (n : Int) := by omega
  go_enter Try.func53, Try.ntmps53
  go_wp2
  go_ret2
  exact ⟨rfl, rfl⟩
set_option maxRecDepth 100000 in
theorem key_few (A : Option Addr) (n cap : Nat) (l : List ByteArray) (w : World) (hl : RdS w A n l) (h : n ≤ 8) (hs : ∀ p ∈ l, p.size ≤ 100000) :
    Calls Try.prog 53 #[.slice A n cap] w fun e w' => e = .returned (.tuple #[.string (str (Cd.keyOf l)), .int .i64 0]) ∧ Below w.heap.size w w' := by
  have h' : ¬ (8 : Int) < (n : Int) := by omega
  have Hs := Lib.hid hs
  clear hs
  go_enter Try.func53, Try.ntmps53
  go_wp2
  go_loopw [4, 13] (fun v i wr => ∃ (k m c : Nat) (B : Option Addr), k ≤ n ∧ i = .int .i64 (k : Int) ∧ v = .slice B m c ∧ Own wr w.heap.size B m c (Cd.keyOf (l.take k)) ∧ Below w.heap.size w wr) (fun _ i _ => n - (intOf i).toNat)
  case atStart => exact ⟨0, 0, 0, none, by omega, rfl, rfl, Own.none_ w w.heap.size, Below.refl _ _⟩
  case round =>
    obtain ⟨k, m, c, B, hk, rfl, rfl, ho, hb⟩ := hrel
    by_cases hkn : k < n
    · have hkn' : (k : Int) < (n : Int) := by omega
      obtain ⟨b, o, p, rfl, hbl, hp, hcell⟩ := hl.at_ hkn
      have hps := Hs.out p (List.mem_of_getElem? hp)
      have hml : m ≤ 2000000 := by
        have h1 := Cd.keyOf_length (l.take k) 100000 (fun q hq => Hs.out q (List.mem_of_mem_take hq))
        rw [ho.1] at h1
        have h2 : (l.take k).length ≤ 8 := by rw [List.length_take]; omega
        have h3 : (l.take k).length * (2 * 100000 + 2) ≤ 8 * (2 * 100000 + 2) := Nat.mul_le_mul_right _ h2
        omega
      obtain ⟨w1, rfl⟩ : ∃ w1 : World, w1 = wr := ⟨_, rfl⟩
      have hcell1 := (hb.cell (p := ⟨b, o + k, none⟩) hbl).trans hcell
      have hsz := hb.size
      have Ho := Lib.hid ho
      have Hb := Lib.hid hb
      have Hp := Lib.hid hp
      have Hcell := Lib.hid hcell
      clear ho hb hp hcell
      go_wp2
      go_loopw [4, 19] (fun v i wr => ∃ (j m2 c2 : Nat) (B2 : Option Addr), j ≤ p.size ∧ i = .int .i64 (j : Int) ∧ v = .slice B2 m2 c2 ∧ Own wr w.heap.size B2 m2 c2 (Cd.keyOf (l.take k) ++ Cd.esc ((bs p).take j)) ∧ Below w.heap.size w wr ∧ m2 ≤ m + 2 * j) (fun _ i _ => p.size - (intOf i).toNat)
      case atStart => exact ⟨0, m, c, B, by omega, rfl, rfl, by simpa [Cd.esc] using Ho.out, Hb.out, by omega⟩
      case round =>
        obtain ⟨j, m2, c2, B2, hj, rfl, rfl, ho2, hb2, hm2⟩ := hrel
        have hcell2 : wr.cell? ⟨b, o + k, none⟩ = some (.string p) := (hb2.cell (p := ⟨b, o + k, none⟩) hbl).trans Hcell.out
        have hsz2 := hb2.size
        by_cases hjp : j < p.size
        · have hjp' : (j : Int) < (p.size : Int) := by omega
          have hbj := bs_at hjp
          have hx2 : p[j].toNat < 256 := p[j].toNat_lt
          generalize hxe : p[j].toNat = x at hbj hx2
          have hxi : (p[j].toNat : Int) = (x : Int) := by omega
          clear hxe
          have Hbj := Lib.hid hbj
          clear hbj
          have hrn := rd_one wr x hx2
          have hm3 : m2 ≤ 3000000 := by omega
          by_cases h0 : x = 0
          · have hx0 : ((x : Int) == 0) = true := by rw [beq_iff_eq]; omega
            have H0 := Lib.hid h0
            clear h0
            go_wp2_with (first | (at_builtin; refine wpList_appB rfl (.tmp 22) (.tmp 26) rfl rfl (ho2.alloc _) (some ⟨wr.heap.size, 0, none⟩) 1 1 [x] rfl hrn (by omega) (Nat.le_trans hsz2 (size_alloc_le _ _)) ?_; intro B3 c3 w3 hg3; have hb3 := hg3.below (hb2.alloc hsz2 _) (Nat.le_trans hsz2 (size_alloc_le _ _)) (fun g hg => (ho2.blk g hg).1); have hcell3 := (hb3.cell (p := ⟨b, o + k, none⟩) hbl).trans Hcell.out; have ho3 := hg3.own; have hsz3 := hb3.size; have hrn3 := rd_one w3 255 (by omega); clear hg3) | (at_builtin; refine wpList_appB rfl (.tmp 32) (.tmp 33) rfl rfl (ho3.alloc _) (some ⟨w3.heap.size, 0, none⟩) 1 1 [255] rfl hrn3 (by omega) (Nat.le_trans hsz3 (size_alloc_le _ _)) ?_; intro B4 c4 w4 hg4))
            go_roundw
            case rel =>
              refine ⟨j + 1, m2 + 1 + 1, c4, B4, by omega, by go_num, rfl, ?_, hg4.below (hb3.alloc hsz3 _) (Nat.le_trans hsz3 (size_alloc_le _ _)) (fun g hg => (ho3.blk g hg).1), by omega⟩
              have h4 := hg4.own
              rw [H0.out] at h4
              rw [take_snoc Hbj.out, Cd.esc_append, H0.out]
              simpa [Cd.esc] using h4
            case measure => simp [intOf]; omega
          · have hx0 : ((x : Int) == 0) = false := by rw [beq_eq_false_iff_ne]; omega
            go_wp2_with (first | (at_builtin; refine wpList_appB rfl (.tmp 22) (.tmp 26) rfl rfl (ho2.alloc _) (some ⟨wr.heap.size, 0, none⟩) 1 1 [x] rfl hrn (by omega) (Nat.le_trans hsz2 (size_alloc_le _ _)) ?_; intro B3 c3 w3 hg3; have hb3 := hg3.below (hb2.alloc hsz2 _) (Nat.le_trans hsz2 (size_alloc_le _ _)) (fun g hg => (ho2.blk g hg).1); have hcell3 := (hb3.cell (p := ⟨b, o + k, none⟩) hbl).trans Hcell.out; have ho3 := hg3.own; clear hg3))
            go_roundw
            case rel =>
              refine ⟨j + 1, m2 + 1, c3, B3, by omega, by go_num, rfl, ?_, hb3, by omega⟩
              have e : Cd.esc [x] = [x] := by show (if x = 0 then _ else _) = _; rw [if_neg h0]; rfl
              rw [take_snoc Hbj.out, Cd.esc_append, e, ← List.append_assoc]
              exact ho3
            case measure => simp [intOf]; omega
        · have hje : j = p.size := by omega
          subst hje
          rw [List.take_of_length_le (l := bs p) (by rw [bs_length]; exact Nat.le_refl _)] at ho2
          have hrn := rd_new wr [0, 1] (by simp) (0, 0)
          have hm3 : m2 ≤ 3000000 := by omega
          go_wp2_with (first | (at_builtin; refine wpList_appB rfl (.tmp 36) (.tmp 37) rfl rfl (ho2.alloc _) (some ⟨wr.heap.size, 0, none⟩) 2 2 [0, 1] rfl hrn (by omega) (Nat.le_trans hsz2 (size_alloc_le _ _)) ?_; intro B3 c3 w3 hg3))
          go_roundw
          case rel =>
            refine ⟨k + 1, m2 + 2, c3, B3, by omega, by go_num, rfl, ?_, hg3.below (hb2.alloc hsz2 _) (Nat.le_trans hsz2 (size_alloc_le _ _)) (fun g hg => (ho2.blk g hg).1)⟩
            have h3 := hg3.own
            have e : l.take (k + 1) = l.take k ++ [p] := by rw [List.take_add_one, Hp.out]; rfl
            rw [e, Cd.keyOf_append]
            simpa [Cd.keyOf] using h3
          case measure => simp [intOf]; omega
    · have hkn2 : k = n := by omega
      subst hkn2
      rw [List.take_of_length_le (Nat.le_of_eq hl.1)] at ho
      have hcv := run_str (cap := c) ho.rd
      go_wp2
      go_ret2
      exact ⟨rfl, hb⟩
end Go.Proofs.Ytaoiokilnmpniaa
