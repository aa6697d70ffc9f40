/- The document's Row. -/
import Derived.Test.YtpfdacnjikdifaaFgParts
namespace Go.Proofs.Ytpfdacnjikdifaa
open Go.RowKit
set_option linter.unusedVariables false
/-- What Row makes of bytes. -/
def Fg.row (p : List Nat) : Option (List (Nat × List Nat)) := if 108 < p.length then none else Fg.parts p
def GivesParts (w : World) (o : Option (List (Nat × List Nat))) (e : Ending) (w' : World) : Prop :=
  Below w.heap.size w w' ∧ match o with
    | none => e = .returned (.tuple #[.slice none 0 0, .bool false])
    | some K => ∃ (A : Option Addr) (c : Nat), e = .returned (.tuple #[.slice A K.length c, .bool true]) ∧ RdP w' A K.length K
def lenOf (v : Value) : Nat := match v with
  | .slice _ n _ => n
  | _ => 0
theorem run_behind (A : Option Addr) (n c t : Nat) (ht : 2 + t ≤ n) (hc : n ≤ c) (w : World) : (Instr.slice 29 (.slice A n c) (some (.int .i64 (2 + (t : Int)))) none none).run Try.prog w = .ok (.slice (partOf A c (2 + t)) (n - (2 + t)) (c - (2 + t))) w := by
  have := run_from A n c (2 + t) (by omega) hc w
  rw [show ((2 + t : Nat) : Int) = 2 + (t : Int) by omega] at this
  exact this
theorem made_none (z : Value) : madeCells #[z] 0 = #[] := by simp [madeCells]
theorem own_empty (w : World) (base : Nat) (hb : base ≤ w.heap.size) : Own (w.alloc (.cells #[] 5)) base (some ⟨w.heap.size, 0, none⟩) 0 0 [] := by
  have := Own.zeros w base 0 hb (by omega)
  rw [made_none] at this
  exact this
set_option maxRecDepth 100000 in
set_option maxHeartbeats 4000000 in
theorem rrow_any (A : Option Addr) (n c : Nat) (p : List Nat) (w : World) (hr : Rd w A n p) (hc : n ≤ c) :
    Calls Try.prog 24 #[.slice A n c] w (GivesParts w (Fg.row p)) := by
  have hl := hr.1
  by_cases h108 : 108 < n
  · have hni : (108 : Int) < (n : Int) := by omega
    have e : Fg.row p = none := by unfold Fg.row; rw [if_pos (by omega)]
    rw [e]
    clear hr hl e
    go_enter Try.func24, Try.ntmps24
    go_wp2
    go_ret2
    exact ⟨Below.refl _ _, rfl⟩
  · have hni : ¬ (108 : Int) < (n : Int) := by omega
    have e : Fg.row p = Fg.parts p := by unfold Fg.row; rw [if_neg (by omega)]
    rw [e]
    have HR := Lib.hid hr
    clear hr e hl
    go_enter Try.func24, Try.ntmps24
    go_wp2
    go_loopw [0, 4] (fun s0 s4 wr => ∃ (P : Option Addr) (r cc : Nat) (rest : List Nat) (B : Option Addr) (m d : Nat) (K : List (Nat × List Nat)), s0 = .slice P r cc ∧ s4 = .slice B m d ∧ r ≤ cc ∧ m + r ≤ 108 ∧ Rd w P r rest ∧ OwnP wr w.heap.size B m d K ∧ Hid (Fg.parts p = (Fg.parts rest).map (K ++ ·)) ∧ Below w.heap.size w wr) (fun s0 _ _ => lenOf s0)
    case atStart => exact ⟨A, n, c, p, none, 0, 0, [], rfl, rfl, hc, by omega, HR.out, OwnP.none_ _ _, Lib.hid (by cases Fg.parts p <;> simp), Below.refl _ _⟩
    case round =>
      clear HR hc
      obtain ⟨P, r, cc, rest, B, m, d, K, rfl, rfl, hcc, hmr, hrw, hO, heq, hBl⟩ := hrel
      have hrd := hrw.below hBl
      have HRw := Lib.hid hrw
      clear hrw
      have hrl := hrd.1
      by_cases hr0 : r = 0
      · subst hr0
        obtain rfl : rest = [] := List.eq_nil_of_length_eq_zero hrl
        have hres : Fg.parts p = some K := by rw [heq.out, Fg.parts_nil]; simp
        have hKl := hO.1
        have HRes := Lib.hid hres
        have HRd := Lib.hid hO.rd
        have HB := Lib.hid hBl
        clear hrd hO hres hBl heq
        go_wp2_with fail
        go_ret2
        rw [HRes.out]
        exact ⟨HB.out, B, d, by rw [hKl]; rfl, by rw [hKl]; exact HRd.out⟩
      · have hri : (0 : Int) < (r : Int) := by omega
        have hne : rest ≠ [] := by intro e; rw [e] at hrl; simp at hrl; omega
        have HB := Lib.hid hBl
        cases hf : Fg.frag1 rest with
        | none =>
          have hres : Fg.parts p = none := by rw [heq.out, Fg.parts_none hne hf]; rfl
          have HRes := Lib.hid hres
          by_cases h2 : r < 2
          · have h2i : (r : Int) < 2 := by omega
            clear hrd hO hBl heq hres hf hne
            go_wp2_with fail
            go_ret2
            rw [HRes.out]
            exact ⟨HB.out, rfl⟩
          · have h2i : ¬ (r : Int) < 2 := by omega
            obtain ⟨g, o, k, rfl, hg, hk, hk256, hc0⟩ := hrd.at_ (k := 0) (by omega)
            obtain ⟨t, ht, ht256⟩ := byte_at hrd (show 1 < r by omega)
            have hc1 : wr.cell? ⟨g, o + 1, none⟩ = some (.int .u8 (t : Int)) := by
              obtain ⟨b', o', he, _, hcx⟩ := hrd.2.2 (by omega)
              injection he with he; injection he with e1 e2
              subst e1 e2
              exact hcx 1 t ht
            rw [Nat.add_zero] at hc0
            have h1i : (1 : Int) < (r : Int) := by omega
            have hat := Fg.frag1_at hk ht
            rw [hf] at hat
            have hor : k < 1 ∨ (¬ k < 1 ∧ 4 < k) ∨ (¬ k < 1 ∧ ¬ 4 < k ∧ 106 < t) ∨ (¬ k < 1 ∧ ¬ 4 < k ∧ ¬ 106 < t ∧ r - 2 < t) := by
              by_cases hx : 1 ≤ k ∧ k ≤ 4 ∧ t ≤ 106 ∧ t ≤ rest.length - 2
              · rw [if_pos hx] at hat; cases hat
              · omega
            clear hrd hO hBl heq hres hf hne hat hk ht hrl
            rcases hor with h | ⟨h, h'⟩ | ⟨h, h', h''⟩ | ⟨h, h', h'', h3⟩
            · have hi : (k : Int) < 1 := by omega
              go_wp2_with fail
              go_ret2
              rw [HRes.out]
              exact ⟨HB.out, rfl⟩
            · have hi : ¬ (k : Int) < 1 := by omega
              have hi' : (4 : Int) < (k : Int) := by omega
              go_wp2_with fail
              go_ret2
              rw [HRes.out]
              exact ⟨HB.out, rfl⟩
            · have hi : ¬ (k : Int) < 1 := by omega
              have hi' : ¬ (4 : Int) < (k : Int) := by omega
              have hi'' : (106 : Int) < (t : Int) := by omega
              go_wp2_with fail
              go_ret2
              rw [HRes.out]
              exact ⟨HB.out, rfl⟩
            · have hi : ¬ (k : Int) < 1 := by omega
              have hi' : ¬ (4 : Int) < (k : Int) := by omega
              have hi'' : ¬ (106 : Int) < (t : Int) := by omega
              have hi3 : (r : Int) - 2 < (t : Int) := by omega
              go_wp2_with fail
              go_ret2
              rw [HRes.out]
              exact ⟨HB.out, rfl⟩
        | some kb =>
          obtain ⟨k, b⟩ := kb
          obtain ⟨f1, f2, f3, f4⟩ := Fg.frag1_some hf
          have hstep : Fg.parts p = (Fg.parts (rest.drop (2 + b.length))).map ((K ++ [(k, b)]) ++ ·) := by
            rw [heq.out, Fg.parts_step hf, Option.map_map]
            congr 1
            funext x
            simp
          obtain ⟨g, o, k', rfl, hg, hk, hk256, hc0⟩ := hrd.at_ (k := 0) (by omega)
          obtain ⟨t, ht, ht256⟩ := byte_at hrd (show 1 < r by omega)
          have hc1 : wr.cell? ⟨g, o + 1, none⟩ = some (.int .u8 (t : Int)) := by
            obtain ⟨b', o', he, _, hcx⟩ := hrd.2.2 (by omega)
            injection he with he; injection he with e1 e2
            subst e1 e2
            exact hcx 1 t ht
          rw [Nat.add_zero] at hc0
          have hat := Fg.frag1_at hk ht
          rw [hf] at hat
          obtain ⟨hcon, hkb⟩ : (1 ≤ k' ∧ k' ≤ 4 ∧ t ≤ 106 ∧ t ≤ rest.length - 2) ∧ some (k, b) = some (k', (rest.drop 2).take t) := by
            by_cases hx : 1 ≤ k' ∧ k' ≤ 4 ∧ t ≤ 106 ∧ t ≤ rest.length - 2
            · rw [if_pos hx] at hat; exact ⟨hx, hat⟩
            · rw [if_neg hx] at hat; cases hat
          injection hkb with hkb
          injection hkb with e1 e2
          subst e1
          have hbl : b.length = t := by rw [e2, List.length_take, List.length_drop]; omega
          have hrb : Rd wr (partOf (some ⟨g, o, none⟩) cc 2) t b := by
            have := rd_cut (f := 2) (t := 2 + t) hrd (by omega) (by omega) hcc
            rw [show 2 + t - 2 = t by omega, ← e2] at this
            exact this
          have hrr : Rd w (partOf (some ⟨g, o, none⟩) cc (2 + t)) (r - (2 + t)) (rest.drop (2 + t)) := rd_from HRw.out (by omega) hcc
          rw [hbl] at hstep
          have h2i : ¬ (r : Int) < 2 := by omega
          have h1i : (1 : Int) < (r : Int) := by omega
          have hi : ¬ (k : Int) < 1 := by omega
          have hi' : ¬ (4 : Int) < (k : Int) := by omega
          have hi'' : ¬ (106 : Int) < (t : Int) := by omega
          have hi3 : ¬ (r : Int) - 2 < (t : Int) := by omega
          have htr : 2 + t ≤ r := by omega
          have hsl := fun W => run_two (some ⟨g, o, none⟩) r cc t htr hcc W
          have hsl2 := fun W => run_behind (some ⟨g, o, none⟩) r cc t htr hcc W
          have hw2 : IntKind.i64.wrap (2 + (t : Int)) = 2 + (t : Int) := by rw [IntKind.wrap_i64]; omega
          have HEq := Lib.hid hstep
          have HO := Lib.hid hO
          have HBlen := Lib.hid hbl
          have HRb := Lib.hid hrb
          have HRr := Lib.hid hrr
          clear heq hstep hat e2 hf hne hk ht hrl hrd hO hBl f1 f2 f3 f4 hbl hrb hrr
          go_upto_region 8 with fail
          obtain ⟨hKl, bs, hoc, hit⟩ := HO.out
          have hblk := HO.out.blk
          have c0d : wr.drew.cell? ⟨g, o, none⟩ = some (.int .u8 (k : Int)) := hc0
          have hbe : Below wr.heap.size wr ((wr.alloc (.cells #[] 5)).drew) := ((Below.refl _ _).alloc (Nat.le_refl _) _).drew
          have c01 := (hbe.cell (p := ⟨g, o, none⟩) hg).trans hc0
          have hown1 : Own ((wr.alloc (.cells #[] 5)).drew) wr.heap.size (some ⟨wr.heap.size, 0, none⟩) 0 0 [] := own_empty wr wr.heap.size (Nat.le_refl _)
          have c01b : (wr.alloc (.cells #[] 5)).cell? ⟨g, o, none⟩ = some (.int .u8 (k : Int)) := (((Below.refl wr.heap.size wr).alloc (Nat.le_refl _) (.cells #[] 5)).cell (p := ⟨g, o, none⟩) hg).trans hc0
          have hrb1 := HRb.out.below hbe
          have hl9 : 0 + t ≤ 100000000 := by omega
          have hwk : IntKind.i64.wrap (k : Int) = (k : Int) := by rw [IntKind.wrap_i64]; omega
          have hba1 : wr.heap.size ≤ ((wr.alloc (.cells #[] 5)).drew).heap.size := hbe.size
          have hblw := HB.out.size
          have hm1 : m + 1 ≤ 1000000 := by omega
          have HIt := Lib.hid hit
          have HOc := Lib.hid hoc
          have HBlk := Lib.hid hblk
          have HBe := Lib.hid hbe
          clear hit hoc hblk hbe hc1
          go_region_law ((first | (refine step_appB (by rfl) 58 rfl (.tmp 53) (.tmp 57) rfl rfl hown1 (partOf (some ⟨g, o, none⟩) cc 2) t (cc - 2) b rfl hrb1 hl9 hba1 ?_; intro A3 c3 v3 hg3; have hb3 := hg3.below HBe.out hba1 (fun g' e => (hown1.blk g' e).1); have c03 := (hb3.cell (p := ⟨g, o, none⟩) hg).trans hc0; have hown3 := hg3.own; rw [List.nil_append, Nat.zero_add] at hown3; have hra := rdc_new 2 v3 63 [.int .i64 (k : Int), .slice A3 t c3] 1 rfl (0, 0); have hone : ∀ u ∈ [Value.int .i64 (k : Int), Value.slice A3 t c3], u.oneCell' = true := (by intro u hu; simp at hu; rcases hu with rfl | rfl <;> rfl); have hb4 := hb3.alloc hb3.size (.cells #[.int .i64 (k : Int), .slice A3 t c3] 63); have c04 := (hb4.cell (p := ⟨g, o, none⟩) hg).trans hc0; have hoc4 := HOc.out.below hb4; have hba4 : w.heap.size ≤ (v3.alloc (.cells #[.int .i64 (k : Int), .slice A3 t c3] 63)).heap.size := Nat.le_trans hblw hb4.size; have HB4 := Lib.hid hb4; have HOwn3 := Lib.hid hown3; have HB3 := Lib.hid hb3; clear hb4 hown3 hb3 hg3) | (refine step_appC manyQ (by rfl) 61 rfl (.tmp 48) (.tmp 60) rfl rfl hoc4 ⟨v3.heap.size, 0, none⟩ 1 1 [.int .i64 (k : Int), .slice A3 t c3] hone rfl hra hm1 hba4 ?_; intro A5 c5 v5 hg5; have HG5 := Lib.hid hg5; clear hg5)))
          all_goals
            go_wp2_with fail
            go_roundw
            case rel =>
              have hb3s := HB3.out.size
              have hitem : Item (v3.alloc (.cells #[.int .i64 (k : Int), .slice A3 t c3] 63)) (fun b => some b ≠ (Value.slice B m d).ownBlock) (.slice A3 t c3) b := by
                have h3 := HOwn3.out.below ((Below.refl v3.heap.size v3).alloc (Nat.le_refl _) (.cells #[.int .i64 (k : Int), .slice A3 t c3] 63))
                have h3b := HOwn3.out.blk
                refine ⟨A3, c3, by rw [HBlen.out], by rw [HBlen.out]; exact h3.rd, by rw [HBlen.out]; exact h3.cap, by rw [HBlen.out]; omega, fun b' o' e hl e2 => ?_⟩
                subst e
                have h1 := (h3b b' rfl).1
                have h2 := (HBlk.out b' e2.symm).2
                omega
              exact ⟨partOf (some ⟨g, o, none⟩) cc (2 + t), r - (2 + t), cc - (2 + t), rest.drop (2 + t), A5, m + 1, c5, K ++ [(k, b)], rfl, rfl, by omega, by omega, HRr.out, OwnP.snoc hKl (HIt.out.below HB4.out) hitem HG5.out, HEq, HG5.out.below (HB.out.trans (HB4.out.mono hblw)) hba4 (fun g e => (HBlk.out g e).1)⟩
            case measure => simp [lenOf]; omega
end Go.Proofs.Ytpfdacnjikdifaa
