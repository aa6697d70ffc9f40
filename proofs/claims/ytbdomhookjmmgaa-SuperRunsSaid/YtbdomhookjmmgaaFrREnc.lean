/- The document's Encode. -/
import Derived.Test.YtbdomhookjmmgaaFrLowB
import Derived.Test.YtbdomhookjmmgaaSumB
import Derived.Test.YtbdomhookjmmgaaSuA
namespace Go.Proofs.Ytbdomhookjmmgaa
open Go.RowKit Fr
set_option linter.unusedVariables false
theorem Holds.grown {c : Nat} {w w' : World} {cs : List Value} {row : Option Nat} (k : Holds w c cs) (h : w.grownBy w' row) (hne : some c ≠ row) : Holds w' c cs :=
  ⟨Nat.lt_of_lt_of_le k.1 h.size, fun i v hv => (h.cell_far ⟨c, i, none⟩ k.1 hne).trans (k.2.1 i v hv), fun i => (h.frozen_far ⟨c, i, none⟩ k.1 hne).trans (k.2.2 i)⟩
namespace Fr
/-- What stands ahead of a frame's payload. -/
def top (k f e i n : Nat) : List Nat := [76, k] ++ le 2 n ++ le 4 f ++ le 4 e ++ le 4 i
def body (k f e i : Nat) (p : List Nat) : List Nat := top k f e i p.length ++ p ++ List.replicate (108 - p.length) 0
def frame (k f e i : Nat) (p : List Nat) : List Nat := body k f e i p ++ le 4 (Cr.more 0 (body k f e i p))
theorem top_len (k f e i n : Nat) : (top k f e i n).length = 16 := by simp [top, le_len]
theorem body_len {k f e i : Nat} {p : List Nat} (h : p.length ≤ 108) : (body k f e i p).length = 124 := by simp [body, top_len]; omega
theorem frame_len {k f e i : Nat} {p : List Nat} (h : p.length ≤ 108) : (frame k f e i p).length = 128 := by simp [frame, body_len h, le_len]
theorem top_lt {k f e i n : Nat} (hk : k < 256) : ∀ x ∈ top k f e i n, x < 256 := by
  intro x hx
  simp only [top, List.mem_append, List.mem_cons, List.not_mem_nil, or_false] at hx
  rcases hx with ((((h | h) | h) | h) | h) | h
  · omega
  · omega
  · exact le_lt _ _ x h
  · exact le_lt _ _ x h
  · exact le_lt _ _ x h
  · exact le_lt _ _ x h
theorem body_lt {k f e i : Nat} {p : List Nat} (hk : k < 256) (hp : ∀ x ∈ p, x < 256) : ∀ x ∈ body k f e i p, x < 256 := by
  intro x hx
  rcases List.mem_append.1 hx with h | h
  · rcases List.mem_append.1 h with h | h
    · exact top_lt hk x h
    · exact hp x h
  · rw [List.eq_of_mem_replicate h]; omega
theorem frame_lt {k f e i : Nat} {p : List Nat} (hk : k < 256) (hp : ∀ x ∈ p, x < 256) : ∀ x ∈ frame k f e i p, x < 256 := by
  intro x hx
  rcases List.mem_append.1 hx with h | h
  · exact body_lt hk hp x h
  · exact le_lt _ _ x h
end Fr
/-- How long a slice is. -/
def lenOf : Value → Nat
  | .slice _ n _ => n
  | _ => 0
/-- Bytes and an error. -/
def GivesEnc (w : World) (l : List Nat) (r : Int) (e : Ending) (w' : World) : Prop :=
  ∃ (A : Option Addr) (c : Nat), e = .returned (.tuple #[.slice A l.length c, .int .i64 r]) ∧ Rd w' A l.length l ∧ l.length ≤ c ∧ Below w.heap.size w w'
set_option maxRecDepth 100000 in
set_option maxHeartbeats 1000000 in
theorem rencode_arg (f e i k : Int) (A : Option Addr) (n c : Nat) (w : World) (h : ¬ (okS f e i = true ∧ okK k = true)) : Calls Try.prog 50 #[.agg #[.int .i64 f, .int .i64 e, .int .i64 i], .int .i64 k, .slice A n c] w (GivesEnc w [] 1) := by
  have hc := fun W => rcheck_any f e i W
  by_cases hs : okS f e i = true
  · rw [if_pos hs] at hc
    have hk : ¬ okK k = true := fun hk => h ⟨hs, hk⟩
    rw [okK_iff] at hk
    have HC := Lib.hid hc
    clear hc h hs
    by_cases h1 : k < 1
    · go_enter Try.func50, Try.ntmps50
      go_wp2_with (go_at_call 76; refine (HC.out _).mono ?_; rintro e v1 ⟨rfl, hb1⟩)
      go_ret2
      exact ⟨none, 0, rfl, Rd.nil _ _, Nat.le_refl _, ((Below.refl _ _).alloc (Nat.le_refl _) _).trans (hb1.mono (by simp))⟩
    · have h2 : 4 < k := by omega
      clear hk
      go_enter Try.func50, Try.ntmps50
      go_wp2_with (go_at_call 76; refine (HC.out _).mono ?_; rintro e v1 ⟨rfl, hb1⟩)
      go_ret2
      exact ⟨none, 0, rfl, Rd.nil _ _, Nat.le_refl _, ((Below.refl _ _).alloc (Nat.le_refl _) _).trans (hb1.mono (by simp))⟩
  · rw [if_neg hs] at hc
    have HC := Lib.hid hc
    clear hc h hs
    go_enter Try.func50, Try.ntmps50
    go_wp2_with (go_at_call 76; refine (HC.out _).mono ?_; rintro e v1 ⟨rfl, hb1⟩)
    go_ret2
    exact ⟨none, 0, rfl, Rd.nil _ _, Nat.le_refl _, ((Below.refl _ _).alloc (Nat.le_refl _) _).trans (hb1.mono (by simp))⟩
set_option maxRecDepth 100000 in
theorem rencode_long (f e i k : Int) (A : Option Addr) (n c : Nat) (w : World) (hs : okS f e i = true) (hk : okK k = true) (hn : 108 < n) (hbig : n ≤ 9223372036854775807) : Calls Try.prog 50 #[.agg #[.int .i64 f, .int .i64 e, .int .i64 i], .int .i64 k, .slice A n c] w (GivesEnc w [] 2) := by
  have hc := fun W => rcheck_any f e i W
  rw [if_pos hs] at hc
  have HC := Lib.hid hc
  obtain ⟨k1, k2⟩ := okK_iff.1 hk
  have k3 : ¬ k < 1 := by omega
  have k4 : ¬ 4 < k := by omega
  have hni : (108 : Int) < (n : Int) := by omega
  clear hc hs hk
  go_enter Try.func50, Try.ntmps50
  go_wp2_with (go_at_call 76; refine (HC.out _).mono ?_; rintro e v1 ⟨rfl, hb1⟩)
  go_ret2
  exact ⟨none, 0, rfl, Rd.nil _ _, Nat.le_refl _, ((Below.refl _ _).alloc (Nat.le_refl _) _).trans (hb1.mono (by simp))⟩
set_option maxRecDepth 100000 in
set_option maxHeartbeats 4000000 in
theorem rencode_ok (f e i k : Nat) (A : Option Addr) (c : Nat) (p : List Nat) (w : World) (hs : okS (f : Int) (e : Int) (i : Int) = true) (hk : okK (k : Int) = true) (hp : Rd w A p.length p) (hn : p.length ≤ 108) : Calls Try.prog 50 #[.agg #[.int .i64 (f : Int), .int .i64 (e : Int), .int .i64 (i : Int)], .int .i64 (k : Int), .slice A p.length c] w (GivesEnc w (frame k f e i p) 0) := by
  have hc := fun W => rcheck_any f e i W
  rw [if_pos hs] at hc
  have HC := Lib.hid hc
  obtain ⟨k1, k2⟩ := okK_iff.1 hk
  obtain ⟨⟨f1, f2⟩, ⟨e1, e2⟩, i1, i2⟩ := okS_iff.1 hs
  have k3 : ¬ (k : Int) < 1 := by omega
  have k4 : ¬ 4 < (k : Int) := by omega
  have k5 : (k : Int) % 256 = (k : Int) := by omega
  have hni : ¬ (108 : Int) < (p.length : Int) := by omega
  have hk0 := Holds.new w #[.int .i64 (f : Int), .int .i64 (e : Int), .int .i64 (i : Int)] 96
  have HK0 := Lib.hid hk0
  have HP := Lib.hid hp
  clear hc hs hk hk0 hp
  go_enter Try.func50, Try.ntmps50
  go_wp2_with (go_at_call 76; refine (HC.out _).mono ?_; rintro e v1 ⟨rfl, hb1⟩)
  have hs1 : w.heap.size + 1 ≤ v1.heap.size := by have := hb1.size; simp at this; omega
  have hB1 : Below (w.heap.size + 1) (w.alloc (.cells #[.int .i64 (f : Int), .int .i64 (e : Int), .int .i64 (i : Int)] 96)) v1 := hb1.mono (by simp)
  have hK1 := HK0.out.below hb1
  have hacc : Own (v1.alloc (.cells #[.int .u8 76, .int .u8 (k : Int)] 5)) (w.heap.size + 1) (some ⟨v1.heap.size, 0, none⟩) 2 2 [76, k] := by
    have := Own.lit (base := w.heap.size + 1) v1 [76, k] (by intro x hx; simp at hx; omega) hs1 (by simp)
    simpa [bv] using this
  have hB := hB1.alloc hs1 (.cells #[.int .u8 76, .int .u8 (k : Int)] 5)
  have hK := hK1.alloc (.cells #[.int .u8 76, .int .u8 (k : Int)] 5)
  clear hb1 hB1 hK1
  refine (low_any p.length 2 _ (by omega) (by omega)).mono ?_
  rintro e u2 ⟨D2, d2, rfl, hO2, hb2⟩
  rw [le_len] at hO2
  have hacc2 := hacc.below hb2
  have hr2 := hO2.rd
  have hB2 := hB.trans (hb2.mono (by have := hB.size; simp at this; simp; omega))
  have hK2 := hK.below hb2
  have hz2 : w.heap.size + 1 ≤ u2.heap.size := by have := hB2.size; simp at this; omega
  have hl2 : 2 + 2 ≤ 100000000 := by omega
  have HAcc := Lib.hid hacc2
  have HB2 := Lib.hid hB2
  have HK2 := Lib.hid hK2
  have hlow2 := le_len 2 p.length
  have HLow2 := Lib.hid hlow2
  clear hacc hB hK hO2 hb2 hB2 hK2 hlow2
  rw [HLow2.out]
  go_wp2_with (first | (at_builtin; refine wpList_appB rfl (.tmp 26) (.tmp 29) rfl rfl hacc2 D2 2 d2 (le 2 p.length) rfl hr2 hl2 hz2 ?_; intro E2 g2 v2 hg2; have hacc := hg2.own; have hB := hg2.below HB2.out hz2 (fun g h => (HAcc.out.blk g h).1); have hK := HK2.out.grown hg2.grew (fun e => by have := (HAcc.out.blk _ e.symm).1; omega); have cf := hK.at_ 0 rfl; have ce := hK.at_ 1 rfl; have ci := hK.at_ 2 rfl; clear hg2 HAcc HB2 HK2 hacc2 hr2))
  refine (low_any f 4 _ (by omega) (by omega)).mono ?_
  rintro e u3 ⟨D3, d3, rfl, hO3, hb3⟩
  rw [le_len] at hO3
  have hacc2 := hacc.below hb3
  have hr3 := hO3.rd
  have hB2 := hB.trans (hb3.mono (by have := hB.size; simp at this; simp; omega))
  have hK2 := hK.below hb3
  have hz3 : w.heap.size + 1 ≤ u3.heap.size := by have := hB2.size; simp at this; omega
  have hl3 : 4 + 4 ≤ 100000000 := by omega
  have HAcc := Lib.hid hacc2
  have HB2 := Lib.hid hB2
  have HK2 := Lib.hid hK2
  have hlow3 := le_len 4 f
  have HLow3 := Lib.hid hlow3
  clear hacc hB hK hO3 hb3 hB2 hK2 hlow3
  rw [HLow3.out]
  go_wp2_with (first | (at_builtin; refine wpList_appB rfl (.tmp 31) (.tmp 34) rfl rfl hacc2 D3 4 d3 (le 4 f) rfl hr3 hl3 hz3 ?_; intro E3 g3 v3 hg3; have hacc := hg3.own; have hB := hg3.below HB2.out hz3 (fun g h => (HAcc.out.blk g h).1); have hK := HK2.out.grown hg3.grew (fun e => by have := (HAcc.out.blk _ e.symm).1; omega); have cf := hK.at_ 0 rfl; have ce := hK.at_ 1 rfl; have ci := hK.at_ 2 rfl; clear hg3 HAcc HB2 HK2 hacc2 hr3))
  refine (low_any e 4 _ (by omega) (by omega)).mono ?_
  rintro e u4 ⟨D4, d4, rfl, hO4, hb4⟩
  rw [le_len] at hO4
  have hacc2 := hacc.below hb4
  have hr4 := hO4.rd
  have hB2 := hB.trans (hb4.mono (by have := hB.size; simp at this; simp; omega))
  have hK2 := hK.below hb4
  have hz4 : w.heap.size + 1 ≤ u4.heap.size := by have := hB2.size; simp at this; omega
  have hl4 : 8 + 4 ≤ 100000000 := by omega
  have HAcc := Lib.hid hacc2
  have HB2 := Lib.hid hB2
  have HK2 := Lib.hid hK2
  have hlow4 := le_len 4 e
  have HLow4 := Lib.hid hlow4
  clear hacc hB hK hO4 hb4 hB2 hK2 hlow4
  rw [HLow4.out]
  go_wp2_with (first | (at_builtin; refine wpList_appB rfl (.tmp 36) (.tmp 39) rfl rfl hacc2 D4 4 d4 (le 4 e) rfl hr4 hl4 hz4 ?_; intro E4 g4 v4 hg4; have hacc := hg4.own; have hB := hg4.below HB2.out hz4 (fun g h => (HAcc.out.blk g h).1); have hK := HK2.out.grown hg4.grew (fun e => by have := (HAcc.out.blk _ e.symm).1; omega); have cf := hK.at_ 0 rfl; have ce := hK.at_ 1 rfl; have ci := hK.at_ 2 rfl; clear hg4 HAcc HB2 HK2 hacc2 hr4))
  refine (low_any i 4 _ (by omega) (by omega)).mono ?_
  rintro e u5 ⟨D5, d5, rfl, hO5, hb5⟩
  rw [le_len] at hO5
  have hacc2 := hacc.below hb5
  have hr5 := hO5.rd
  have hB2 := hB.trans (hb5.mono (by have := hB.size; simp at this; simp; omega))
  have hK2 := hK.below hb5
  have hz5 : w.heap.size + 1 ≤ u5.heap.size := by have := hB2.size; simp at this; omega
  have hl5 : 12 + 4 ≤ 100000000 := by omega
  have HAcc := Lib.hid hacc2
  have HB2 := Lib.hid hB2
  have HK2 := Lib.hid hK2
  have hlow5 := le_len 4 i
  have HLow5 := Lib.hid hlow5
  clear hacc hB hK hO5 hb5 hB2 hK2 hlow5
  rw [HLow5.out]
  go_wp2_with (first | (at_builtin; refine wpList_appB rfl (.tmp 41) (.tmp 44) rfl rfl hacc2 D5 4 d5 (le 4 i) rfl hr5 hl5 hz5 ?_; intro E5 g5 v5 hg5; have hacc := hg5.own; have hB := hg5.below HB2.out hz5 (fun g h => (HAcc.out.blk g h).1); have hK := HK2.out.grown hg5.grew (fun e => by have := (HAcc.out.blk _ e.symm).1; omega); have cf := hK.at_ 0 rfl; have ce := hK.at_ 1 rfl; have ci := hK.at_ 2 rfl; clear hg5 HAcc HB2 HK2 hacc2 hr5) | (at_builtin; have hbw5 : Below w.heap.size w v5 := ((Below.refl w.heap.size w).alloc (Nat.le_refl _) _).trans (hB.mono (by omega)); have hrp := HP.out.below hbw5; have hz6 : w.heap.size + 1 ≤ v5.heap.size := (by have := hB.size; simp at this; omega); have hl6 : 16 + p.length ≤ 100000000 := (by omega); have HAcc := Lib.hid hacc; have HB6 := Lib.hid hB; refine wpList_appB rfl (.tmp 46) (.tmp 47) rfl rfl hacc A p.length c p rfl hrp hl6 hz6 ?_; intro E6 g6 v6 hg6; have hacc := hg6.own; have hB := hg6.below HB6.out hz6 (fun g h => (HAcc.out.blk g h).1); clear hg6 HAcc HB6 hrp hK cf ce ci hbw5))
  have htop : [76, k] ++ le 2 p.length ++ le 4 f ++ le 4 e ++ le 4 i = top k f e i p.length := rfl
  rw [htop] at hacc
  have Hacc := Lib.hid hacc
  have HB := Lib.hid hB
  clear htop hacc hB
  go_loopw [8] (fun v wr => ∃ (j q d : Nat) (B : Option Addr), q = 16 + p.length + j ∧ q ≤ 124 ∧ v = .slice B q d ∧ Own wr (w.heap.size + 1) B q d (top k f e i p.length ++ p ++ List.replicate j 0) ∧ Below (w.heap.size + 1) (w.alloc (.cells #[.int .i64 (f : Int), .int .i64 (e : Int), .int .i64 (i : Int)] 96)) wr) (fun v _ => 124 - lenOf v)
  case atStart => exact ⟨0, 16 + p.length, g6, E6, by omega, by omega, rfl, by simpa using Hacc.out, HB.out⟩
  case round =>
    clear Hacc HB
    obtain ⟨j, q, d, B, hq, hq2, rfl, hO, hb⟩ := hrel
    have hs9 : w.heap.size + 1 ≤ wr.heap.size := by have := hb.size; simp at this; omega
    by_cases hlt : q < 124
    · have hqi : (q : Int) < 124 := by omega
      have hOa := hO.alloc (.cells #[.int .u8 0] 5)
      have hra : Rd (wr.alloc (.cells #[.int .u8 0] 5)) (some ⟨wr.heap.size, 0, none⟩) 1 [0] := by
        have := rd_new wr [0] (by intro x hx; rw [List.mem_singleton] at hx; omega) (0, 0)
        simpa [bv] using this
      have hba : w.heap.size + 1 ≤ (wr.alloc (.cells #[.int .u8 0] 5)).heap.size := by simp; omega
      have hbb := hb.alloc hs9 (.cells #[.int .u8 0] 5)
      have HO := Lib.hid hO
      have hl9 : q + 1 ≤ 100000000 := by omega
      have HQ := Lib.hid hq
      clear hO hq
      go_wp2_with (first | (at_builtin; refine wpList_appB rfl (.tmp 52) (.tmp 53) rfl rfl hOa (some ⟨wr.heap.size, 0, none⟩) 1 1 [0] rfl hra hl9 hba ?_; intro E9 g9 v9 hg9))
      have hO9 := hg9.own
      have hb9 := hg9.below hbb hba (fun g h => (HO.out.blk g h).1)
      rw [List.append_assoc, ← List.replicate_succ'] at hO9
      clear hOa hra hba hbb hg9
      go_roundw
      case rel => exact ⟨j + 1, q + 1, g9, E9, by have := HQ.out; omega, by omega, rfl, hO9, hb9⟩
      case measure => simp [lenOf]; omega
    · have hq3 : q = 124 := by omega
      subst hq3
      have hj : j = 108 - p.length := by omega
      subst hj
      have hbody : top k f e i p.length ++ p ++ List.replicate (108 - p.length) 0 = body k f e i p := rfl
      rw [hbody] at hO
      have hof := rof_any B 124 d (body k f e i p) wr hO.rd (by omega)
      have hml : Cr.more 0 (body k f e i p) < 4294967296 := Cr.more_lt (body_lt (by omega) (fun x hx => HP.out.lt hx)) (by omega)
      have HOf := Lib.hid hof
      have HFrame := Lib.hid (show body k f e i p ++ le 4 (Cr.more 0 (body k f e i p)) = frame k f e i p from rfl)
      have HFlen := Lib.hid (frame_len (k := k) (f := f) (e := e) (i := i) hn)
      have HO := Lib.hid hO
      generalize Cr.more 0 (body k f e i p) = cs at *
      have hlow := low_any cs 4 wr (by omega) (by omega)
      have HLow := Lib.hid hlow
      clear hof hbody hlow hO hq hq2
      go_wp2_with (first | (go_at_call 78; refine HOf.out.mono ?_; rintro e w' ⟨rfl, rfl⟩))
      refine HLow.out.mono ?_
      rintro e u9 ⟨D9, d9, rfl, hO9, hb9⟩
      rw [le_len] at hO9
      have hlow9 := le_len 4 cs
      have HLow9 := Lib.hid hlow9
      have hacc := HO.out.below hb9
      have hr9 := hO9.rd
      have hB9 := hb.trans (hb9.mono hs9)
      have hz9 : w.heap.size + 1 ≤ u9.heap.size := Nat.le_trans hs9 hb9.size
      have hl9 : 124 + 4 ≤ 100000000 := by omega
      have HAcc := Lib.hid hacc
      have HB9 := Lib.hid hB9
      clear hlow9 hO9 hb9 hB9
      rw [HLow9.out]
      go_wp2_with (first | (at_builtin; refine wpList_appB rfl (.tmp 55) (.tmp 59) rfl rfl hacc D9 4 d9 (le 4 cs) rfl hr9 hl9 hz9 ?_; intro E10 g10 v10 hg10; have hfin := hg10.own; have hBf := hg10.below HB9.out hz9 (fun g h => (HAcc.out.blk g h).1); clear hg10 HAcc HB9 hacc hr9))
      go_ret2
      rw [HFrame.out] at hfin
      refine ⟨E10, g10, ?_, ?_, ?_, ((Below.refl w.heap.size w).alloc (Nat.le_refl _) _).trans (hBf.mono (by omega))⟩
      · rw [HFlen.out]; rfl
      · rw [HFlen.out]; exact hfin.rd
      · rw [HFlen.out]; exact hfin.cap
end Go.Proofs.Ytbdomhookjmmgaa
