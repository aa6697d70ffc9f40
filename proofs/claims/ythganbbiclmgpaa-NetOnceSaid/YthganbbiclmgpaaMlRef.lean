/- The document's Send, At, Take and Twin. -/
import Derived.Test.YthganbbiclmgpaaMlAwake
namespace Go.Proofs.Ythganbbiclmgpaa
open Go.RowKit
section
variable {s : Nat} {w w' : World} {base n cap : Nat} {A : Option Addr} {vs : List Value} {S E : TypeId} {z : Value} {bytes : Nat}
set_option maxRecDepth 100000 in
theorem run_appN (O : Many s S E z bytes) (hown : OwnC s w base E A n cap vs) (B : Option Addr) (m c : Nat) (news : List Value) (h1 : ∀ u ∈ news, u.oneCell' = true) (hr : RdC s w B m news) (hlen : n + m ≤ 1000000) (hbase : base ≤ w.heap.size) (ty : TypeId) :
    ∃ A' cap' w', (Builtin.append_ #[S, S] ty #[.slice A n cap, .slice B m c]).run Try.prog w = .ok (.slice A' (n + m) cap') w' ∧ GrewC s w w' base E A A' n cap (n + m) cap' (vs ++ news) := by
  cases B with
  | some ad => exact run_appC O hown ad m c news h1 hr hlen hbase ty
  | none =>
    obtain ⟨i0, hi, hz0, hz1, hz2⟩ := info_parts O.info
    have hm : m = 0 := by
      rcases Nat.eq_zero_or_pos m with h0 | h0
      · exact h0
      · obtain ⟨b, o, he, _⟩ := hr.2 h0
        cases he
    subst hm
    have h0 : news = [] := List.eq_nil_of_length_eq_zero (by rw [hr.1]; simp)
    subst h0
    have hrun : (Builtin.append_ #[S, S] ty #[.slice A n cap, .slice none 0 c]).run Try.prog w = .ok (.slice A n cap) w := by
      rcases hown.2 with ⟨hv, hn0⟩ | ⟨g, c', cur, hv, _, _, hnc, _⟩
      · rw [hv]
        simp [Builtin.append_, run_underlying O.under, sizeOf, typeInfo, hi, Builtin.lenOf, Builtin.firstCells]
      · rw [hv]
        simp [Builtin.append_, run_underlying O.under, sizeOf, typeInfo, hi, Builtin.lenOf, Builtin.firstCells, hnc, storeCells]
    exact ⟨A, cap, w, hrun, ⟨by simpa using hown, World.grownBy.refl w _, .inl rfl⟩⟩
theorem step_appN (O : Many s S E z bytes) {ops : Array Oper} {o : Oper} {a : Act} {K : Act → World → Prop} {Q : Exit → Act → World → Prop} {F : Prop} (hw : Region.wanted o (yielded ops a.tmps) = true) (d : Nat) (hd : o.dst = some d) (s1 x : Operand)
    (ho : o.op = .call { callee := .builtin .append, args := #[s1, x], argTypes := #[S, S] })
    (hs : a.eval s1 = .slice A n cap) (hown : OwnC s w base E A n cap vs) (B : Option Addr) (m c : Nat) (news : List Value) (h1 : ∀ u ∈ news, u.oneCell' = true) (hx : a.eval x = .slice B m c) (hr : RdC s w B m news) (hlen : n + m ≤ 1000000) (hbase : base ≤ w.heap.size)
    (h : ∀ A' cap' w', GrewC s w w' base E A A' n cap (n + m) cap' (vs ++ news) → K (a.put (some d) (.slice A' (n + m) cap')) w') :
    if Region.wanted o (yielded ops a.tmps) = true then Oper.wp Try.prog o a w K Q else F := by
  rw [if_pos hw]
  obtain ⟨A', cap', w', hrun, hg⟩ := run_appN O hown B m c news h1 hr hlen hbase o.type
  unfold Oper.wp execOp
  simp only [ho, resolve, invoke, builtin, Sem.run_bind, Sem.run_pure, Result.andThen_ok, List.map_toArray, List.map_cons, List.map_nil, hs, hx, hrun]
  have h2 := h A' cap' w' hg
  rw [← hd] at h2
  exact h2
/-- A row of no element. -/
theorem OwnC.empty (s : Nat) (w : World) (E : TypeId) (base : Nat) (hb : base ≤ w.heap.size) : OwnC s (w.alloc (.cells #[] E)) base E (some ⟨w.heap.size, 0, none⟩) 0 0 [] := by
  have h := World.ownsRow_lit (base := base) (e := E) (size := s) w #[] 0 hb (by simp only [maxLen]; omega) (by simp)
  exact ⟨by simp, h.2⟩
end
theorem Ml.flat_one (l : List Ml.M) : ∀ u ∈ Ml.flat l, u.oneCell' = true := by
  intro u hu
  unfold Ml.flat at hu
  obtain ⟨x, _, hx⟩ := List.mem_flatMap.1 hu
  exact Ml.cells_one x u hx
/-- A list of mails in fresh memory, or the one that was there. -/
def GivesRef (w : World) (A : Option Addr) (cap : Nat) (l l' : List Ml.M) (vs : List Value) (e : Ending) (w' : World) : Prop :=
  ∃ A' cap', e = .returned (.tuple (#[.slice A' l'.length cap'] ++ vs.toArray)) ∧ RdM w' A' l'.length l' ∧ l'.length ≤ cap' ∧ Below w.heap.size w w' ∧ ((A' = A ∧ cap' = cap ∧ l' = l) ∨ ∀ b o, A' = some ⟨b, o, none⟩ → w.heap.size ≤ b)
theorem first_app {w1 wx v3 : World} {B n c3 : Nat} {A3 : Option Addr} {vs : List Value} (hb : Below w1.heap.size w1 wx) (hs : w1.heap.size ≤ B) (hg : GrewC 3 wx v3 w1.heap.size 28 (some ⟨B, 0, none⟩) A3 0 0 (0 + n) c3 ([] ++ vs)) :
    Below w1.heap.size w1 v3 ∧ OwnC 3 v3 w1.heap.size 28 A3 n c3 vs ∧ wx.heap.size ≤ v3.heap.size := by
  have h := hg.own
  rw [List.nil_append, Nat.zero_add] at h
  exact ⟨hb.grown hg.grew hb.size (fun g e => by injection e with e; have e : B = g := e; omega), h, hg.grew.size⟩
theorem next_app {w1 wx v5 : World} {n c4 c5 m : Nat} {A4 A5 : Option Addr} {vs us : List Value} (hb : Below w1.heap.size w1 wx) (ho : OwnC 3 wx w1.heap.size 28 A4 n c4 vs) (hg : GrewC 3 wx v5 w1.heap.size 28 A4 A5 n c4 (n + m) c5 (vs ++ us)) :
    Below w1.heap.size w1 v5 ∧ OwnC 3 v5 w1.heap.size 28 A5 (n + m) c5 (vs ++ us) :=
  ⟨hb.grown hg.grew hb.size (fun g e => (ho.blk g e).1), hg.own⟩
theorem side_row {wx v3 : World} {B q : Nat} {A3 : Option Addr} {n c3 : Nat} {vs us : List Value} {base : Nat} (hr : RdC 3 wx (some ⟨q, 0, none⟩) 1 us) (hne : B ≠ q) (hg : GrewC 3 wx v3 base 28 (some ⟨B, 0, none⟩) A3 0 0 n c3 vs) : RdC 3 v3 (some ⟨q, 0, none⟩) 1 us :=
  hr.grown hg.grew (fun _ g o e h => by
    injection e with e
    injection e with e
    injection h with h
    have h : B = g := h
    omega)
theorem ref_done {w w1 v5 : World} {A A5 : Option Addr} {cap c5 : Nat} {l : List Ml.M} {m : Ml.M} {x : Value} (h0 : Below w.heap.size w w1) (hb : Below w1.heap.size w1 v5) (ho : OwnC 3 v5 w1.heap.size 28 A5 (l.length + 1) c5 (Ml.flat l ++ Ml.cells m)) : GivesRef w A cap l (l ++ [m]) [x] (.returned (.tuple #[.slice A5 (l.length + 1) c5, x])) v5 := by
  have hlen : (l ++ [m]).length = l.length + 1 := by simp
  have hfl : Ml.flat (l ++ [m]) = Ml.flat l ++ Ml.cells m := by rw [Ml.flat_append]; simp [Ml.flat]
  refine ⟨A5, c5, by rw [hlen]; rfl, ⟨rfl, by rw [hlen, hfl]; exact ho.rd⟩, by rw [hlen]; exact ho.fits, below_next h0 hb, .inr fun b o e => ?_⟩
  obtain ⟨g, h1, h2, _⟩ := ho.form (by omega)
  rw [h1] at e
  injection e with e
  injection e with e
  have := h0.size
  omega
set_option maxRecDepth 100000 in
set_option maxHeartbeats 4000000 in
theorem rsend_any (A : Option Addr) (cap : Nat) (l : List Ml.M) (m : Ml.M) (w : World) (h : RdM w A l.length l) (hc : l.length ≤ cap) (hl : l.length ≤ 1000) :
    Calls Try.prog 11 #[.slice A l.length cap, .agg (Ml.cells m).toArray] w (GivesRef w A cap l (Ml.sendL l m) [.int .i64 (Ml.sendE l m)]) := by
  obtain ⟨f, t, s⟩ := m
  have hb0 : Below w.heap.size w (w.alloc (.cells #[Value.int .i64 f, .int .i64 t, .string s] 28)) := (Below.refl _ _).alloc (Nat.le_refl _) _
  have HB0 := Lib.hid hb0
  have Hbx := Lib.hid (Holds.new w #[Value.int .i64 f, .int .i64 t, .string s] 28)
  have HR := Lib.hid (h.below hb0)
  have Hs : Hid (Ml.sendE l ⟨f, t, s⟩ = if Ml.ok ⟨f, t, s⟩ then (if 256 ≤ l.length then 3 else 0) else 260) := Lib.hid rfl
  have HL : Hid (Ml.sendL l ⟨f, t, s⟩ = if Ml.ok ⟨f, t, s⟩ && decide (l.length < 256) then l ++ [⟨f, t, s⟩] else l) := Lib.hid rfl
  have Hc := Lib.hid hc
  clear h hb0 hc
  show Calls _ _ #[.slice A l.length cap, .agg #[.int .i64 f, .int .i64 t, .string s]] _ _
  by_cases hok : 0 ≤ f ∧ f ≤ 15 ∧ 0 ≤ t ∧ t ≤ 15 ∧ f ≠ t ∧ s.size ≤ 4096
  · have ho : Ml.ok ⟨f, t, s⟩ = true := decide_eq_true hok
    obtain ⟨k1, k2, k3, k4, k5, k6⟩ := hok
    have g1 : ¬ f < 0 := by omega
    have g2 : ¬ 15 < f := by omega
    have g3 : ¬ t < 0 := by omega
    have g4 : ¬ 15 < t := by omega
    have g5 : (f == t) = false := by simp [k5]
    have g6 : ¬ (4096 : Int) < (s.size : Int) := by omega
    by_cases h256 : 256 ≤ l.length
    · have h256i : (256 : Int) ≤ (l.length : Int) := by omega
      have E1 := Hs.out
      have E2 := HL.out
      rw [ho, if_pos h256] at E1
      rw [ho, decide_eq_false (by omega)] at E2
      simp only [if_true, Bool.and_false, Bool.false_eq_true, if_false] at E1 E2
      have HE := Lib.hid (And.intro E1 E2)
      clear E1 E2 ho
      go_enter Try.func11, Try.ntmps11
      go_wp2_with fail
      generalize (w.alloc (.cells #[Value.int .i64 f, .int .i64 t, .string s] 28)) = w1 at *
      obtain ⟨b0, b1, b2⟩ := results3 Hbx.out
      go_wp2
      refine ⟨rfl, .tuple #[.slice A l.length cap, .int .i64 3], by simp [results, Try.results11, go_sem], ?_⟩
      rw [HE.out.1, HE.out.2]
      exact ⟨A, cap, rfl, HR.out, Hc.out, HB0.out, .inl ⟨rfl, rfl, rfl⟩⟩
    · have h256i : ¬ (256 : Int) ≤ (l.length : Int) := by omega
      have E1 := Hs.out
      have E2 := HL.out
      rw [ho, if_neg h256] at E1
      rw [ho, decide_eq_true (by omega)] at E2
      simp only [if_true, Bool.and_true] at E1 E2
      have HE := Lib.hid (And.intro E1 E2)
      clear E1 E2 ho
      go_enter Try.func11, Try.ntmps11
      go_wp2_with fail
      generalize (w.alloc (.cells #[Value.int .i64 f, .int .i64 t, .string s] 28)) = w1 at *
      obtain ⟨b0, b1, b2⟩ := results3 Hbx.out
      go_upto_region 5 with fail
      clear b0 b1 b2
      have eA : (w1.alloc (.cells #[] 28)).heap.size = w1.heap.size + 1 := by simp
      have eX : (w1.alloc (.cells #[.int .i64 f, .int .i64 t, .string s] 28)).heap.size = w1.heap.size + 1 := by simp
      have BL1 := (((Below.refl w1.heap.size w1).alloc (Nat.le_refl _) (.cells #[] 28))).drew
      have BL2 := (((Below.refl w1.heap.size w1).alloc (Nat.le_refl _) (.cells #[] 28)).alloc (by omega) (.cells #[.int .i64 f, .int .i64 t, .string s] 28)).drew
      have BL3 := (((Below.refl w1.heap.size w1).alloc (Nat.le_refl _) (.cells #[.int .i64 f, .int .i64 t, .string s] 28)).alloc (by omega) (.cells #[] 28)).drew
      have OC1 : OwnC 3 (w1.alloc (.cells #[] 28)).drew w1.heap.size 28 (some ⟨w1.heap.size, 0, none⟩) 0 0 [] := OwnC.empty 3 w1 _ _ (Nat.le_refl _)
      have OC2 : OwnC 3 ((w1.alloc (.cells #[] 28)).alloc (.cells #[.int .i64 f, .int .i64 t, .string s] 28)).drew w1.heap.size 28 (some ⟨w1.heap.size, 0, none⟩) 0 0 [] := OwnC.alloc OC1 _
      have OC3 : OwnC 3 ((w1.alloc (.cells #[.int .i64 f, .int .i64 t, .string s] 28)).alloc (.cells #[] 28)).drew w1.heap.size 28 (some ⟨w1.heap.size + 1, 0, none⟩) 0 0 [] := by
        have h := OwnC.empty 3 (w1.alloc (.cells #[.int .i64 f, .int .i64 t, .string s] 28)) 28 w1.heap.size (by omega)
        rw [eX] at h
        exact h
      have RL1 := HR.out.2.below BL1
      have RL2 := HR.out.2.below BL2
      have RL3 := HR.out.2.below BL3
      have XR2 : RdC 3 ((w1.alloc (.cells #[] 28)).alloc (.cells #[.int .i64 f, .int .i64 t, .string s] 28)).drew (some ⟨w1.heap.size + 1, 0, none⟩) 1 (Ml.cells ⟨f, t, s⟩) := by
        have h := rdc_new 3 (w1.alloc (.cells #[] 28)) 28 (Ml.cells ⟨f, t, s⟩) 1 rfl (0, 0)
        rw [eA] at h
        exact h
      have XR3 : RdC 3 ((w1.alloc (.cells #[.int .i64 f, .int .i64 t, .string s] 28)).alloc (.cells #[] 28)).drew (some ⟨w1.heap.size, 0, none⟩) 1 (Ml.cells ⟨f, t, s⟩) := by
        have h := (rdc_new 3 w1 28 (Ml.cells ⟨f, t, s⟩) 1 rfl (0, 0)).below ((Below.refl _ _).alloc (Nat.le_refl _) (.cells #[] 28))
        exact h
      obtain ⟨d0, d1, d2⟩ := results3 (Hbx.out.below (Below.refl w1.heap.size w1).drew)
      obtain ⟨a0, a1, a2⟩ := results3 (Hbx.out.below BL1)
      have hl1 : 0 + l.length ≤ 1000000 := by omega
      have hl2 : l.length + 1 ≤ 1000000 := by omega
      have hq1 : w1.heap.size ≠ w1.heap.size + 1 := by omega
      have hq2 : w1.heap.size + 1 ≠ w1.heap.size := by omega
      have hle : w1.heap.size ≤ w1.heap.size + 1 := by omega
      clear eA eX
      go_region_law ((first
        | (refine step_appN manyM (by rfl) 44 rfl (.tmp 42) (.tmp 43) rfl rfl OC1 A l.length cap (Ml.flat l) (Ml.flat_one l) rfl RL1 hl1 BL1.size ?_; intro A3 c3 v3 hg3; obtain ⟨T1, T2, T3⟩ := first_app BL1 (Nat.le_refl _) hg3; obtain ⟨y0, y1, y2⟩ := results3 (Hbx.out.below T1); have O4 := T2.alloc (.cells #[.int .i64 f, .int .i64 t, .string s] 28); have X4 := rdc_new 3 v3 28 (Ml.cells ⟨f, t, s⟩) 1 rfl (0, 0); have S4 := T1.alloc T1.size (.cells #[.int .i64 f, .int .i64 t, .string s] 28); clear hg3)
        | (refine step_appN manyM (by rfl) 44 rfl (.tmp 42) (.tmp 43) rfl rfl OC2 A l.length cap (Ml.flat l) (Ml.flat_one l) rfl RL2 hl1 BL2.size ?_; intro A3 c3 v3 hg3; obtain ⟨T1, T2, T3⟩ := first_app BL2 (Nat.le_refl _) hg3; have X5 := side_row XR2 hq1 hg3; clear hg3)
        | (refine step_appN manyM (by rfl) 44 rfl (.tmp 42) (.tmp 43) rfl rfl OC3 A l.length cap (Ml.flat l) (Ml.flat_one l) rfl RL3 hl1 BL3.size ?_; intro A3 c3 v3 hg3; obtain ⟨T1, T2, T3⟩ := first_app BL3 hle hg3; have X5 := side_row XR3 hq2 hg3; clear hg3)
        | (refine step_appN manyM (by rfl) 47 rfl (.tmp 44) (.tmp 46) rfl rfl O4 (some ⟨v3.heap.size, 0, none⟩) 1 1 (Ml.cells ⟨f, t, s⟩) (Ml.cells_one _) rfl X4 hl2 S4.size ?_; intro A5 c5 v5 hg5; have HF := Lib.hid (next_app S4 O4 hg5); clear hg5)
        | (refine step_appN manyM (by rfl) 47 rfl (.tmp 44) (.tmp 46) rfl rfl T2 (some ⟨w1.heap.size + 1, 0, none⟩) 1 1 (Ml.cells ⟨f, t, s⟩) (Ml.cells_one _) rfl X5 hl2 T1.size ?_; intro A5 c5 v5 hg5; have HF := Lib.hid (next_app T1 T2 hg5); clear hg5)
        | (refine step_appN manyM (by rfl) 47 rfl (.tmp 44) (.tmp 46) rfl rfl T2 (some ⟨w1.heap.size, 0, none⟩) 1 1 (Ml.cells ⟨f, t, s⟩) (Ml.cells_one _) rfl X5 hl2 T1.size ?_; intro A5 c5 v5 hg5; have HF := Lib.hid (next_app T1 T2 hg5); clear hg5)))
      all_goals
        go_wp2
        refine ⟨rfl, .tuple #[.slice A5 (l.length + 1) c5, .int .i64 0], by simp [results, Try.results11, go_sem], ?_⟩
        rw [HE.out.1, HE.out.2]
        exact ref_done HB0.out HF.out.1 HF.out.2
  · have ho : Ml.ok ⟨f, t, s⟩ = false := decide_eq_false hok
    have E1 := Hs.out
    have E2 := HL.out
    rw [ho] at E1 E2
    simp only [Bool.false_eq_true, if_false, Bool.false_and] at E1 E2
    have HE := Lib.hid (And.intro E1 E2)
    clear E1 E2 ho
    have key : f < 0 ∨ (¬ f < 0 ∧ 15 < f) ∨ (¬ f < 0 ∧ ¬ 15 < f ∧ t < 0) ∨ (¬ f < 0 ∧ ¬ 15 < f ∧ ¬ t < 0 ∧ 15 < t) ∨ (¬ f < 0 ∧ ¬ 15 < f ∧ ¬ t < 0 ∧ ¬ 15 < t ∧ (f == t) = true) ∨ (¬ f < 0 ∧ ¬ 15 < f ∧ ¬ t < 0 ∧ ¬ 15 < t ∧ (f == t) = false ∧ (4096 : Int) < (s.size : Int)) := by
      by_cases q1 : f < 0
      · exact .inl q1
      by_cases q2 : 15 < f
      · exact .inr (.inl ⟨q1, q2⟩)
      by_cases q3 : t < 0
      · exact .inr (.inr (.inl ⟨q1, q2, q3⟩))
      by_cases q4 : 15 < t
      · exact .inr (.inr (.inr (.inl ⟨q1, q2, q3, q4⟩)))
      by_cases e : f = t
      · exact .inr (.inr (.inr (.inr (.inl ⟨q1, q2, q3, q4, by simp [e]⟩))))
      · exact .inr (.inr (.inr (.inr (.inr ⟨q1, q2, q3, q4, by simp [e], by omega⟩))))
    clear hok
    rcases key with k1 | ⟨k1, k2⟩ | ⟨k1, k2, k3⟩ | ⟨k1, k2, k3, k4⟩ | ⟨k1, k2, k3, k4, k5⟩ | ⟨k1, k2, k3, k4, k5, k6⟩
    all_goals
      go_enter Try.func11, Try.ntmps11
      go_wp2_with fail
      generalize (w.alloc (.cells #[Value.int .i64 f, .int .i64 t, .string s] 28)) = w1 at *
      obtain ⟨b0, b1, b2⟩ := results3 Hbx.out
      go_wp2
      refine ⟨rfl, .tuple #[.slice A l.length cap, .int .i64 260], by simp [results, Try.results11, go_sem], ?_⟩
      rw [HE.out.1, HE.out.2]
      exact ⟨A, cap, rfl, HR.out, Hc.out, HB0.out, .inl ⟨rfl, rfl, rfl⟩⟩
end Go.Proofs.Ythganbbiclmgpaa
