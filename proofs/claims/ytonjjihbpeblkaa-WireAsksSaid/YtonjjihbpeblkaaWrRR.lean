/- What package wire's ReadReply returns. -/
import Derived.Test.YtonjjihbpeblkaaWrRead
namespace Go.Proofs.Ytonjjihbpeblkaa
open Go.RowKit
namespace Wr
/-- A reply out of five values. -/
def Rp.of : List Value → Rp
  | [.int _ e, .int _ n, .int _ q, .int _ f, .int _ h] => ⟨e, n, q, f, h⟩
  | _ => ⟨0, 0, 0, 0, 0⟩
/-- The reply of any bytes. -/
def repRead (l : List Nat) : Option Rp :=
  match all [false, false, false, false, false] l with
  | none => none
  | some vs => if (Rp.of vs).e ≠ 0 ∧ Rp.of vs ≠ Rp.bare (Rp.of vs).e then none else some (Rp.of vs)
theorem five_of {l : List Nat} {vs : List Value} (h : all [false, false, false, false, false] l = some vs) (hl : vs.length = 5) : ∃ e n q f h : Int, vs = [.int .i64 e, .int .i64 n, .int .i64 q, .int .i64 f, .int .i64 h] := by
  obtain ⟨a, b, c, d, e, rfl⟩ := len5 hl
  have ht := taken_fits (all_taken h).2
  obtain ⟨x0, rfl, _⟩ := ht 0 false _ rfl rfl
  obtain ⟨x1, rfl, _⟩ := ht 1 false _ rfl rfl
  obtain ⟨x2, rfl, _⟩ := ht 2 false _ rfl rfl
  obtain ⟨x3, rfl, _⟩ := ht 3 false _ rfl rfl
  obtain ⟨x4, rfl, _⟩ := ht 4 false _ rfl rfl
  exact ⟨x0, x1, x2, x3, x4, rfl⟩
end Wr
/-- A block and two variables, made. -/
theorem three_box (w : World) (xs : List Value) (x y : Value) (t t2 t3 : TypeId) : Holds (((w.alloc (.cells xs.toArray t)).alloc (.cells #[x] t2)).alloc (.cells #[y] t3)) w.heap.size xs ∧ Holds (((w.alloc (.cells xs.toArray t)).alloc (.cells #[x] t2)).alloc (.cells #[y] t3)) (w.heap.size + 1) [x] ∧
    Holds (((w.alloc (.cells xs.toArray t)).alloc (.cells #[x] t2)).alloc (.cells #[y] t3)) (w.heap.size + 1 + 1) [y] ∧ Below w.heap.size w (((w.alloc (.cells xs.toArray t)).alloc (.cells #[x] t2)).alloc (.cells #[y] t3)) ∧ (((w.alloc (.cells xs.toArray t)).alloc (.cells #[x] t2)).alloc (.cells #[y] t3)).heap.size = w.heap.size + 3 := by
  obtain ⟨k0, k1, hb, hs⟩ := one_box w xs x t t2
  have k2 := Holds.new ((w.alloc (.cells xs.toArray t)).alloc (.cells #[x] t2)) #[y] t3
  rw [hs] at k2
  exact ⟨k0.alloc _, k1.alloc _, k2, hb.alloc (by omega) _, by simp⟩
set_option maxRecDepth 100000 in
set_option maxHeartbeats 8000000 in
theorem wreadreply_any (A : Option Addr) (n c : Nat) (l : List Nat) (w : World) (hl : Rd w A n l) (hc : n ≤ c) (hn : n ≤ 1000000) :
    Calls Try.prog 17 #[.slice A n c] w (GivesRd w (Wr.Rp.bare 0).cells ((Wr.repRead l).map Wr.Rp.cells)) := by
  have hmf : ∀ (fn : Fn) (first cap : Array Value) (w : World), (Instr.makeFunc fn first cap).run Try.prog w = .ok (.func fn first cap) w := fun _ _ _ _ => rfl
  obtain ⟨k0, k1, k2, hb, hsz⟩ := three_box w [.int .i64 0, .int .i64 0, .int .i64 0, .int .i64 0, .int .i64 0] (.int .i64 0) (.int .i64 0) 36 28 3
  have hl1 := hl.below hb
  have hA := Lib.hid (fun (h : 0 < n) => hl.2.2 h)
  have HL1 := Lib.hid hl1
  have K0 := Lib.hid k0
  have K1 := Lib.hid k1
  have K2 := Lib.hid k2
  have Hb := Lib.hid hb
  have Hsz := Lib.hid hsz
  have hrp := Lib.hid (fun wx => reply_any (w.heap.size + 1 + 1) w.heap.size wx)
  clear k0 k1 k2 hb hsz hl1 hl
  go_enter_defers Try.func17, Try.ntmps17
  go_wp2_with fail
  generalize ((w.alloc (.cells #[Value.int .i64 0, .int .i64 0, .int .i64 0, .int .i64 0, .int .i64 0] 36)).alloc (.cells #[.int .i64 0] 28)).alloc (.cells #[.int .i64 0] 3) = w1 at *
  have hs1 : w1.heap.size = w.heap.size + 3 := Hsz.out
  refine (hrp.out _).mono ?_
  rintro e v3 ⟨A3, c3, rfl, hA3, hb3, hAb3⟩
  have i0 := K0.out.below hb3
  have i1 := K1.out.below hb3
  have i2 := K2.out.below hb3
  have hs3 := hb3.size
  have hfs : ∀ f ∈ Wr.told (w.heap.size + 1 + 1) w.heap.size, (f.1.block = w.heap.size ∨ f.1.block = w.heap.size + 1 + 1) ∧ (∃ v, v3.cell? f.1 = some v) ∧ v3.frozen? f.1 = false := fun f hf => by
    unfold Wr.told at hf
    simp only [List.mem_cons, List.not_mem_nil, or_false] at hf
    rcases hf with rfl | rfl | rfl | rfl | rfl
    · exact ⟨.inr rfl, ⟨_, i2.at_ 0 rfl⟩, i2.2.2 0⟩
    · exact ⟨.inl rfl, ⟨_, i0.at_ 1 rfl⟩, i0.2.2 1⟩
    · exact ⟨.inl rfl, ⟨_, i0.at_ 2 rfl⟩, i0.2.2 2⟩
    · exact ⟨.inl rfl, ⟨_, i0.at_ 3 rfl⟩, i0.2.2 3⟩
    · exact ⟨.inl rfl, ⟨_, i0.at_ 4 rfl⟩, i0.2.2 4⟩
  have hbk : ∀ a ∈ Wr.at_ (Wr.told (w.heap.size + 1 + 1) w.heap.size), a.block = w.heap.size ∨ a.block = w.heap.size + 1 + 1 := fun a ha => by
    obtain ⟨f, hf, rfl⟩ := List.mem_map.1 ha
    exact (hfs f hf).1
  have Hbk := Lib.hid hbk
  have htk := wtake_any A n c l A3 5 c3 (Wr.told (w.heap.size + 1 + 1) w.heap.size) v3 (by omega) rfl hn (told_apart _ _) (HL1.out.below hb3) hc
    (fun h b o e f hf => by
      obtain ⟨b', o', e', hlt, _⟩ := hA.out h
      rw [e] at e'
      injection e' with e'
      injection e' with e1
      rcases (hfs f hf).1 with h1 | h1 <;> omega) hA3 (fun b o e => ⟨(hAb3 b o e).2, fun f hf => by have := (hAb3 b o e).1; rcases (hfs f hf).1 with h1 | h1 <;> omega⟩)
    (fun f hf => ⟨by have a1 := i0.1; have a2 := i2.1; rcases (hfs f hf).1 with h1 | h1 <;> omega, (hfs f hf).2⟩)
  have hkinds : (Wr.told (w.heap.size + 1 + 1) w.heap.size).map Prod.snd = [false, false, false, false, false] := rfl
  rw [hkinds] at htk
  have Htk := Lib.hid htk
  have I0 := Lib.hid i0
  have I1 := Lib.hid i1
  have I2 := Lib.hid i2
  have Hb4 := Lib.hid (Hb.out.trans (hb3.mono (by omega)))
  have e5 : (Wr.told (w.heap.size + 1 + 1) w.heap.size).length = 5 := rfl
  rw [e5]
  clear htk i0 i1 i2 hA3 hAb3 hb3 hkinds hfs hbk e5
  go_wp2_with fail
  refine Htk.out.mono ?_
  rcases hal : Wr.all [false, false, false, false, false] l with _ | vs
  · rintro e v4 ⟨rfl, hu⟩
    have e0 : Wr.repRead l = none := by unfold Wr.repRead; rw [hal]
    obtain ⟨ys, hyl, m0⟩ := kept_holds I0.out hu
    obtain ⟨y0, y1, y2, y3, y4, rfl⟩ := Wr.len5 hyl
    have m1 := I1.out.upd hu (fun a ha => by rcases Hbk.out a ha with h1 | h1 <;> omega)
    have hb5' : Below w.heap.size w v4 := hu.below Hb4.out (fun a ha => by rcases Hbk.out a ha with h1 | h1 <;> omega) (by omega)
    show Leaves _ _ _ _ _ _ _
    refine leaves_cons (f := 39) (args := #[.pointer (some ⟨w.heap.size, 0, none⟩), .pointer (some ⟨w.heap.size + 1, 0, none⟩)]) (by simp) (by simp [go_sem]) ?_
    refine (catch_readreply w.heap.size (w.heap.size + 1) _ _ _ _ _ _ _ m0 m1 (by omega)).mono ?_
    rintro e u' w5 ⟨rfl, rfl, i0, i1, hb6⟩
    have c0 := i0.at_ 0 rfl
    have c1 := i0.at_ 1 rfl
    have c2 := i0.at_ 2 rfl
    have c3 := i0.at_ 3 rfl
    have c4 := i0.at_ 4 rfl
    have c9 := i1.at_ 0 rfl
    simp only [settle, Wr.panned]
    refine ⟨.tuple #[.agg #[.int .i64 0, .int .i64 0, .int .i64 0, .int .i64 0, .int .i64 0], .int .i64 220], ?_, ?_⟩
    · simp [results, Try.results17, go_sem, c0, c1, c2, c3, c4, c9]
    · rw [e0]
      exact ⟨rfl, hb5'.trans (hb6 _ (Nat.le_refl _) (by omega))⟩
  · rintro e v4 ⟨rfl, hu, hvl, hvs⟩
    obtain ⟨x, n2, q, f, h, rfl⟩ := Wr.five_of hal hvl
    have m0 : Holds v4 w.heap.size [.int .i64 0, .int .i64 n2, .int .i64 q, .int .i64 f, .int .i64 h] := by
      refine ⟨Nat.lt_of_lt_of_le I0.out.1 hu.size, fun j y hj => ?_, fun i => (hu.frozen ⟨w.heap.size, i, none⟩ I0.out.1).trans (I0.out.2.2 i)⟩
      match j, hj with
      | 0, hj =>
        injection hj with hj
        subst hj
        exact (hu.cell ⟨w.heap.size, 0, none⟩ I0.out.1 (by unfold Wr.at_ Wr.told; simp)).trans (I0.out.at_ 0 rfl)
      | 1, hj => injection hj with hj; subst hj; exact hvs 1 _ _ rfl rfl
      | 2, hj => injection hj with hj; subst hj; exact hvs 2 _ _ rfl rfl
      | 3, hj => injection hj with hj; subst hj; exact hvs 3 _ _ rfl rfl
      | 4, hj => injection hj with hj; subst hj; exact hvs 4 _ _ rfl rfl
      | j + 5, hj => cases hj
    have m1 := I1.out.upd hu (fun a ha => by rcases Hbk.out a ha with h1 | h1 <;> omega)
    have t0 : v4.cell? ⟨w.heap.size + 1 + 1, 0, none⟩ = some (.int .i64 x) := hvs 0 _ _ rfl rfl
    have hb5' : Below w.heap.size w v4 := hu.below Hb4.out (fun a ha => by rcases Hbk.out a ha with h1 | h1 <;> omega) (by omega)
    have hne := ne_Rp ⟨0, n2, q, f, h⟩ (Wr.Rp.bare 0)
    have hiff : (⟨0, n2, q, f, h⟩ : Wr.Rp) ≠ Wr.Rp.bare 0 ↔ (⟨x, n2, q, f, h⟩ : Wr.Rp) ≠ Wr.Rp.bare x := by unfold Wr.Rp.bare; simp
    have d0 := m0.at_ 0 rfl
    have d1 := m0.at_ 1 rfl
    have d2 := m0.at_ 2 rfl
    have d3 := m0.at_ 3 rfl
    have d4 := m0.at_ 4 rfl
    by_cases hbad : x ≠ 0 ∧ (⟨x, n2, q, f, h⟩ : Wr.Rp) ≠ Wr.Rp.bare x
    · have e0 : Wr.repRead l = none := by unfold Wr.repRead; rw [hal]; exact if_pos hbad
      have E0 := Lib.hid e0
      rw [decide_eq_true (hiff.2 hbad.2)] at hne
      simp only [Wr.Rp.cells, Wr.Rp.bare] at hne
      have hx0 : ¬ x = 0 := hbad.1
      have M0 := Lib.hid m0
      have M1 := Lib.hid m1
      have Hb5 := Lib.hid hb5'
      clear hbad hiff m0 m1 hb5' hu hvs hal e0
      go_wp2
      have e0 := E0.out
      refine leaves_cons (f := 39) (args := #[.pointer (some ⟨w.heap.size, 0, none⟩), .pointer (some ⟨w.heap.size + 1, 0, none⟩)]) (by simp) (by simp [go_sem]) ?_
      refine (catch_readreply w.heap.size (w.heap.size + 1) _ _ _ _ _ _ _ M0.out M1.out (by omega)).mono ?_
      rintro e u' w5 ⟨rfl, rfl, i0, i1, hb6⟩
      have c0 := i0.at_ 0 rfl
      have c1 := i0.at_ 1 rfl
      have c2 := i0.at_ 2 rfl
      have c3 := i0.at_ 3 rfl
      have c4 := i0.at_ 4 rfl
      have c9 := i1.at_ 0 rfl
      simp only [settle, Wr.panned]
      refine ⟨.tuple #[.agg #[.int .i64 0, .int .i64 0, .int .i64 0, .int .i64 0, .int .i64 0], .int .i64 220], ?_, ?_⟩
      · simp [results, Try.results17, go_sem, c0, c1, c2, c3, c4, c9]
      · rw [e0]
        exact ⟨rfl, Hb5.out.trans (hb6 _ (Nat.le_refl _) (by omega))⟩
    · have e0 : Wr.repRead l = some ⟨x, n2, q, f, h⟩ := by unfold Wr.repRead; rw [hal]; exact if_neg hbad
      have E0 := Lib.hid e0
      have hgo : x = 0 ∨ (¬ x = 0 ∧ decide ((⟨0, n2, q, f, h⟩ : Wr.Rp) ≠ Wr.Rp.bare 0) = false) := by
        by_cases h0 : x = 0
        · exact .inl h0
        · exact .inr ⟨h0, decide_eq_false (fun e => hbad ⟨h0, hiff.1 e⟩)⟩
      have f0 := m0.2.2 0
      have f1 := m0.2.2 1
      have f2 := m0.2.2 2
      have f3 := m0.2.2 3
      have f4 := m0.2.2 4
      have d9 := m1.at_ 0 rfl
      have f9 := m1.2.2 0
      have n0 := m0.set 0 (.int .i64 x) (by simp)
      have n1 := m1.other (b := w.heap.size) (i := 0) (v := .int .i64 x) (by omega)
      have nb := below_set hb5' ⟨w.heap.size, 0, none⟩ (.int .i64 x) (Nat.le_refl _)
      have fin : Holds (((((((v4.setCell ⟨w.heap.size, 0, none⟩ (.int .i64 x)).setCell ⟨w.heap.size, 0, none⟩ (.int .i64 x)).setCell ⟨w.heap.size, 1, none⟩ (.int .i64 n2)).setCell ⟨w.heap.size, 2, none⟩ (.int .i64 q)).setCell ⟨w.heap.size, 3, none⟩ (.int .i64 f)).setCell ⟨w.heap.size, 4, none⟩ (.int .i64 h)).setCell ⟨w.heap.size + 1, 0, none⟩ (.int .i64 0)) w.heap.size [.int .i64 x, .int .i64 n2, .int .i64 q, .int .i64 f, .int .i64 h] ∧ Holds (((((((v4.setCell ⟨w.heap.size, 0, none⟩ (.int .i64 x)).setCell ⟨w.heap.size, 0, none⟩ (.int .i64 x)).setCell ⟨w.heap.size, 1, none⟩ (.int .i64 n2)).setCell ⟨w.heap.size, 2, none⟩ (.int .i64 q)).setCell ⟨w.heap.size, 3, none⟩ (.int .i64 f)).setCell ⟨w.heap.size, 4, none⟩ (.int .i64 h)).setCell ⟨w.heap.size + 1, 0, none⟩ (.int .i64 0)) (w.heap.size + 1) [.int .i64 0] ∧ Below w.heap.size w (((((((v4.setCell ⟨w.heap.size, 0, none⟩ (.int .i64 x)).setCell ⟨w.heap.size, 0, none⟩ (.int .i64 x)).setCell ⟨w.heap.size, 1, none⟩ (.int .i64 n2)).setCell ⟨w.heap.size, 2, none⟩ (.int .i64 q)).setCell ⟨w.heap.size, 3, none⟩ (.int .i64 f)).setCell ⟨w.heap.size, 4, none⟩ (.int .i64 h)).setCell ⟨w.heap.size + 1, 0, none⟩ (.int .i64 0)) :=
        ⟨Holds.other (((((n0.set 0 (.int .i64 x) (by simp)).set 1 (.int .i64 n2) (by simp)).set 2 (.int .i64 q) (by simp)).set 3 (.int .i64 f) (by simp)).set 4 (.int .i64 h) (by simp)) (by omega), Holds.set (((((n1.other (b := w.heap.size) (i := 0) (v := .int .i64 x) (by omega)).other (b := w.heap.size) (i := 1) (v := .int .i64 n2) (by omega)).other (b := w.heap.size) (i := 2) (v := .int .i64 q) (by omega)).other (b := w.heap.size) (i := 3) (v := .int .i64 f) (by omega)).other (b := w.heap.size) (i := 4) (v := .int .i64 h) (by omega)) 0 (.int .i64 0) (by simp), below_set (below_set (below_set (below_set (below_set (below_set (nb) ⟨w.heap.size, 0, none⟩ (.int .i64 x) (Nat.le_refl _)) ⟨w.heap.size, 1, none⟩ (.int .i64 n2) (Nat.le_refl _)) ⟨w.heap.size, 2, none⟩ (.int .i64 q) (Nat.le_refl _)) ⟨w.heap.size, 3, none⟩ (.int .i64 f) (Nat.le_refl _)) ⟨w.heap.size, 4, none⟩ (.int .i64 h) (Nat.le_refl _)) _ _ (by show w.heap.size ≤ w.heap.size + 1; omega)⟩
      have Fin := Lib.hid fin
      clear fin e0 m0 m1 n0 n1 nb hb5' hu hvs hal hiff hbad
      rcases hgo with rfl | ⟨h0, hd⟩
      · clear hne
        go_wp2
        obtain ⟨i0, i1, hb6⟩ := Fin.out
        refine leaves_cons (f := 39) (args := #[.pointer (some ⟨w.heap.size, 0, none⟩), .pointer (some ⟨w.heap.size + 1, 0, none⟩)]) (by simp) (by simp [go_sem]) ?_
        refine (idle_readreply _ _ _).mono ?_
        rintro e u' w5 ⟨rfl, rfl, rfl⟩
        have c0 := i0.at_ 0 rfl
        have c1 := i0.at_ 1 rfl
        have c2 := i0.at_ 2 rfl
        have c3 := i0.at_ 3 rfl
        have c4 := i0.at_ 4 rfl
        have c9 := i1.at_ 0 rfl
        simp only [settle]
        refine ⟨.tuple #[.agg #[.int .i64 0, .int .i64 n2, .int .i64 q, .int .i64 f, .int .i64 h], .int .i64 0], ?_, ?_⟩
        · simp [results, Try.results17, go_sem, c0, c1, c2, c3, c4, c9]
        · rw [E0.out]
          exact ⟨rfl, hb6⟩
      · rw [hd] at hne
        simp only [Wr.Rp.cells, Wr.Rp.bare] at hne
        clear hd
        go_wp2
        obtain ⟨i0, i1, hb6⟩ := Fin.out
        refine leaves_cons (f := 39) (args := #[.pointer (some ⟨w.heap.size, 0, none⟩), .pointer (some ⟨w.heap.size + 1, 0, none⟩)]) (by simp) (by simp [go_sem]) ?_
        refine (idle_readreply _ _ _).mono ?_
        rintro e u' w5 ⟨rfl, rfl, rfl⟩
        have c0 := i0.at_ 0 rfl
        have c1 := i0.at_ 1 rfl
        have c2 := i0.at_ 2 rfl
        have c3 := i0.at_ 3 rfl
        have c4 := i0.at_ 4 rfl
        have c9 := i1.at_ 0 rfl
        simp only [settle]
        refine ⟨.tuple #[.agg #[.int .i64 x, .int .i64 n2, .int .i64 q, .int .i64 f, .int .i64 h], .int .i64 0], ?_, ?_⟩
        · simp [results, Try.results17, go_sem, c0, c1, c2, c3, c4, c9]
        · rw [E0.out]
          exact ⟨rfl, hb6⟩
end Go.Proofs.Ytonjjihbpeblkaa
