/- Is of any bytes, the program's and the document's. -/
import Derived.Test.YtakocojbpdpflaaFrAny
namespace Go.Proofs.Ytakocojbpdpflaa
open Go.RowKit Fr
set_option linter.unusedVariables false
set_option maxRecDepth 100000 in
set_option maxHeartbeats 4000000 in
theorem is_no (f e i z : Int) (A : Option Addr) (n c : Nat) (l : List Nat) (w : World) (h : Rd w A n l) (hc : n ≤ c) (hbig : n ≤ 9223372036854775807) (hl : isF l = false) :
    Calls Try.prog 59 #[.slice A n c, .agg #[.int .i64 f, .int .i64 e, .int .i64 i], .int .i64 z] w fun x w' => x = .returned (.bool false) ∧ Below w.heap.size w w' := by
  have hop := fun (v : World) (hv : Below w.heap.size w v) => open_no A n c l v (h.below hv) hc hbig hl
  unfold GivesOpen at hop
  have HO := Lib.hid hop
  clear hop h hl
  have hB0 : Below w.heap.size w (w.alloc (.cells #[.int .i64 f, .int .i64 e, .int .i64 i] 56)) := (Below.refl _ _).alloc (Nat.le_refl _) _
  have k0 := Holds.new w #[.int .i64 f, .int .i64 e, .int .i64 i] 56
  go_enter Try.func59, Try.ntmps59
  go_wp2_with fail
  refine (HO.out _ hB0).mono ?_
  rintro x v1 ⟨rfl, hb1⟩
  have k1 := k0.below hb1
  have hx1 := below_next hB0 hb1
  have hlt := k1.1
  have c0 := k1.at_ 0 rfl
  have c1 := k1.at_ 1 rfl
  have c2 := k1.at_ 2 rfl
  clear k0 hb1
  go_wp2_with fail
  go_ret
  exact ⟨rfl, hx1.alloc hx1.size _⟩
set_option maxRecDepth 100000 in
set_option maxHeartbeats 4000000 in
theorem is_yes (f e i z : Int) (A : Option Addr) (n c : Nat) (l : List Nat) (w : World) (h : Rd w A n l) (hc : n ≤ c) (hbig : n ≤ 9223372036854775807) (hl : isF l = true) :
    Calls Try.prog 59 #[.slice A n c, .agg #[.int .i64 f, .int .i64 e, .int .i64 i], .int .i64 z] w fun x w' => x = .returned (.bool (isB l f e i z)) ∧ Below w.heap.size w w' := by
  have hop := fun (v : World) (hv : Below w.heap.size w v) => open_any A n c l v (h.below hv) hc hl
  unfold GivesOpen at hop
  have HO := Lib.hid hop
  have HL := Lib.hid hl
  clear hop h hl
  have hB0 : Below w.heap.size w (w.alloc (.cells #[.int .i64 f, .int .i64 e, .int .i64 i] 56)) := (Below.refl _ _).alloc (Nat.le_refl _) _
  have k0 := Holds.new w #[.int .i64 f, .int .i64 e, .int .i64 i] 56
  by_cases hk : (F l 1 1 : Int) = z
  · have hkb : ((F l 1 1 : Int) == z) = true := by rw [hk]; simp
    have Hkx := Lib.hid hk
    by_cases hf : (F l 4 4 : Int) = f
    · have hfb : ((F l 4 4 : Int) == f) = true := by rw [hf]; simp
      have Hfx := Lib.hid hf
      by_cases hi : (F l 12 4 : Int) = i
      · have hib : ((F l 12 4 : Int) == i) = true := by rw [hi]; simp
        have Hix := Lib.hid hi
        by_cases he : e ≤ (F l 8 4 : Int)
        · have heb : decide (e ≤ (F l 8 4 : Int)) = true := decide_eq_true he
          have hres := isB_yes HL.out hk hf hi he
          rw [hres]
          clear hres hk hf hi
          go_enter Try.func59, Try.ntmps59
          go_wp2_with fail
          refine (HO.out _ hB0).mono ?_
          rintro x v1 ⟨rfl, hb1⟩
          have k1 := k0.below hb1
          have hx1 := below_next hB0 hb1
          have hlt := k1.1
          have c0 := k1.at_ 0 rfl
          have c1 := k1.at_ 1 rfl
          have c2 := k1.at_ 2 rfl
          clear k0 hb1
          go_wp2_with fail
          go_ret
          exact ⟨rfl, hx1.alloc hx1.size _⟩
        · rw [isB_e he]
          have heb : decide (e ≤ (F l 8 4 : Int)) = false := decide_eq_false he
          clear hk hf hi
          go_enter Try.func59, Try.ntmps59
          go_wp2_with fail
          refine (HO.out _ hB0).mono ?_
          rintro x v1 ⟨rfl, hb1⟩
          have k1 := k0.below hb1
          have hx1 := below_next hB0 hb1
          have hlt := k1.1
          have c0 := k1.at_ 0 rfl
          have c1 := k1.at_ 1 rfl
          have c2 := k1.at_ 2 rfl
          clear k0 hb1
          go_wp2_with fail
          go_ret
          exact ⟨rfl, hx1.alloc hx1.size _⟩
      · rw [isB_i hi]
        have hib : ((F l 12 4 : Int) == i) = false := by rw [beq_eq_false_iff_ne]; exact hi
        clear hk hf hi
        go_enter Try.func59, Try.ntmps59
        go_wp2_with fail
        refine (HO.out _ hB0).mono ?_
        rintro x v1 ⟨rfl, hb1⟩
        have k1 := k0.below hb1
        have hx1 := below_next hB0 hb1
        have hlt := k1.1
        have c0 := k1.at_ 0 rfl
        have c1 := k1.at_ 1 rfl
        have c2 := k1.at_ 2 rfl
        clear k0 hb1
        go_wp2_with fail
        go_ret
        exact ⟨rfl, hx1.alloc hx1.size _⟩
    · rw [isB_f hf]
      have hfb : ((F l 4 4 : Int) == f) = false := by rw [beq_eq_false_iff_ne]; exact hf
      clear hk hf
      go_enter Try.func59, Try.ntmps59
      go_wp2_with fail
      refine (HO.out _ hB0).mono ?_
      rintro x v1 ⟨rfl, hb1⟩
      have k1 := k0.below hb1
      have hx1 := below_next hB0 hb1
      have hlt := k1.1
      have c0 := k1.at_ 0 rfl
      have c1 := k1.at_ 1 rfl
      have c2 := k1.at_ 2 rfl
      clear k0 hb1
      go_wp2_with fail
      go_ret
      exact ⟨rfl, hx1.alloc hx1.size _⟩
  · rw [isB_k hk]
    have hkb : ((F l 1 1 : Int) == z) = false := by rw [beq_eq_false_iff_ne]; exact hk
    clear hk
    go_enter Try.func59, Try.ntmps59
    go_wp2_with fail
    refine (HO.out _ hB0).mono ?_
    rintro x v1 ⟨rfl, hb1⟩
    have k1 := k0.below hb1
    have hx1 := below_next hB0 hb1
    have hlt := k1.1
    have c0 := k1.at_ 0 rfl
    have c1 := k1.at_ 1 rfl
    have c2 := k1.at_ 2 rfl
    clear k0 hb1
    go_wp2_with fail
    go_ret
    exact ⟨rfl, hx1.alloc hx1.size _⟩
set_option maxRecDepth 100000 in
set_option maxHeartbeats 4000000 in
theorem ris_no (f e i z : Int) (A : Option Addr) (n c : Nat) (l : List Nat) (w : World) (h : Rd w A n l) (hc : n ≤ c) (hbig : n ≤ 9223372036854775807) (hl : isF l = false) :
    Calls Try.prog 24 #[.slice A n c, .agg #[.int .i64 f, .int .i64 e, .int .i64 i], .int .i64 z] w fun x w' => x = .returned (.bool false) ∧ Below w.heap.size w w' := by
  have hop := fun (v : World) (hv : Below w.heap.size w v) => rdecode_no A n c l v (h.below hv) hc hbig hl
  unfold GivesDec at hop
  have HO := Lib.hid hop
  clear hop h hl
  have hB0 : Below w.heap.size w (w.alloc (.cells #[.int .i64 f, .int .i64 e, .int .i64 i] 56)) := (Below.refl _ _).alloc (Nat.le_refl _) _
  have k0 := Holds.new w #[.int .i64 f, .int .i64 e, .int .i64 i] 56
  go_enter Try.func24, Try.ntmps24
  go_wp2_with fail
  refine (HO.out _ hB0).mono ?_
  rintro x v1 ⟨P, d, rfl, _, hb1⟩
  have k1 := k0.below hb1
  have hx1 := below_next hB0 hb1
  have hlt := k1.1
  have c0 := k1.at_ 0 rfl
  have c1 := k1.at_ 1 rfl
  have c2 := k1.at_ 2 rfl
  clear k0 hb1
  go_wp2_with fail
  go_ret
  exact ⟨rfl, hx1.alloc hx1.size _⟩
set_option maxRecDepth 100000 in
set_option maxHeartbeats 4000000 in
theorem ris_yes (f e i z : Int) (A : Option Addr) (n c : Nat) (l : List Nat) (w : World) (h : Rd w A n l) (hc : n ≤ c) (hbig : n ≤ 9223372036854775807) (hl : isF l = true) :
    Calls Try.prog 24 #[.slice A n c, .agg #[.int .i64 f, .int .i64 e, .int .i64 i], .int .i64 z] w fun x w' => x = .returned (.bool (isB l f e i z)) ∧ Below w.heap.size w w' := by
  have hop := fun (v : World) (hv : Below w.heap.size w v) => rdecode_yes A n c l v (h.below hv) hc hl
  unfold GivesDec at hop
  have HO := Lib.hid hop
  have HL := Lib.hid hl
  clear hop h hl
  have hB0 : Below w.heap.size w (w.alloc (.cells #[.int .i64 f, .int .i64 e, .int .i64 i] 56)) := (Below.refl _ _).alloc (Nat.le_refl _) _
  have k0 := Holds.new w #[.int .i64 f, .int .i64 e, .int .i64 i] 56
  by_cases hf : (F l 4 4 : Int) = f
  · have hfb : ((F l 4 4 : Int) == f) = true := by rw [hf]; simp
    have Hfx := Lib.hid hf
    by_cases hi : (F l 12 4 : Int) = i
    · have hib : ((F l 12 4 : Int) == i) = true := by rw [hi]; simp
      have Hix := Lib.hid hi
      by_cases he : e ≤ (F l 8 4 : Int)
      · have heb : decide (e ≤ (F l 8 4 : Int)) = true := decide_eq_true he
        by_cases hk : (F l 1 1 : Int) = z
        · have hkb : ((F l 1 1 : Int) == z) = true := by rw [hk]; simp
          have Hkx := Lib.hid hk
          have hres := isB_yes HL.out hk hf hi he
          rw [hres]
          clear hres hk hf hi
          go_enter Try.func24, Try.ntmps24
          go_wp2_with fail
          refine (HO.out _ hB0).mono ?_
          rintro x v1 ⟨P, d, rfl, _, hb1⟩
          have k1 := k0.below hb1
          have hx1 := below_next hB0 hb1
          have hlt := k1.1
          have c0 := k1.at_ 0 rfl
          have c1 := k1.at_ 1 rfl
          have c2 := k1.at_ 2 rfl
          clear k0 hb1
          go_wp2_with fail
          go_ret
          exact ⟨rfl, hx1.alloc hx1.size _⟩
        · rw [isB_k hk]
          have hkb : ((F l 1 1 : Int) == z) = false := by rw [beq_eq_false_iff_ne]; exact hk
          clear hf hi hk
          go_enter Try.func24, Try.ntmps24
          go_wp2_with fail
          refine (HO.out _ hB0).mono ?_
          rintro x v1 ⟨P, d, rfl, _, hb1⟩
          have k1 := k0.below hb1
          have hx1 := below_next hB0 hb1
          have hlt := k1.1
          have c0 := k1.at_ 0 rfl
          have c1 := k1.at_ 1 rfl
          have c2 := k1.at_ 2 rfl
          clear k0 hb1
          go_wp2_with fail
          go_ret
          exact ⟨rfl, hx1.alloc hx1.size _⟩
      · rw [isB_e he]
        have heb : decide (e ≤ (F l 8 4 : Int)) = false := decide_eq_false he
        clear hf hi
        go_enter Try.func24, Try.ntmps24
        go_wp2_with fail
        refine (HO.out _ hB0).mono ?_
        rintro x v1 ⟨P, d, rfl, _, hb1⟩
        have k1 := k0.below hb1
        have hx1 := below_next hB0 hb1
        have hlt := k1.1
        have c0 := k1.at_ 0 rfl
        have c1 := k1.at_ 1 rfl
        have c2 := k1.at_ 2 rfl
        clear k0 hb1
        go_wp2_with fail
        go_ret
        exact ⟨rfl, hx1.alloc hx1.size _⟩
    · rw [isB_i hi]
      have hib : ((F l 12 4 : Int) == i) = false := by rw [beq_eq_false_iff_ne]; exact hi
      clear hf hi
      go_enter Try.func24, Try.ntmps24
      go_wp2_with fail
      refine (HO.out _ hB0).mono ?_
      rintro x v1 ⟨P, d, rfl, _, hb1⟩
      have k1 := k0.below hb1
      have hx1 := below_next hB0 hb1
      have hlt := k1.1
      have c0 := k1.at_ 0 rfl
      have c1 := k1.at_ 1 rfl
      have c2 := k1.at_ 2 rfl
      clear k0 hb1
      go_wp2_with fail
      go_ret
      exact ⟨rfl, hx1.alloc hx1.size _⟩
  · rw [isB_f hf]
    have hfb : ((F l 4 4 : Int) == f) = false := by rw [beq_eq_false_iff_ne]; exact hf
    clear hf
    go_enter Try.func24, Try.ntmps24
    go_wp2_with fail
    refine (HO.out _ hB0).mono ?_
    rintro x v1 ⟨P, d, rfl, _, hb1⟩
    have k1 := k0.below hb1
    have hx1 := below_next hB0 hb1
    have hlt := k1.1
    have c0 := k1.at_ 0 rfl
    have c1 := k1.at_ 1 rfl
    have c2 := k1.at_ 2 rfl
    clear k0 hb1
    go_wp2_with fail
    go_ret
    exact ⟨rfl, hx1.alloc hx1.size _⟩
end Go.Proofs.Ytakocojbpdpflaa
