/- What frame's Decode returns for bytes that are a frame. -/
import Derived.Test.YtbdomhookjmmgaaFrOpen
import Derived.Test.YtbdomhookjmmgaaFrLowB
import Derived.Deep.RegionHeldLaw
namespace Go.Proofs.Ytbdomhookjmmgaa
open Go.RowKit Fr
set_option linter.unusedVariables false
theorem step_appB {w : World} {base n cap : Nat} {A : Option Addr} {l : List Nat} {ops : Array Oper} {o : Oper} {a : Act} {K : Act → World → Prop} {Q : Exit → Act → World → Prop} {E : Prop} (hw : Region.wanted o (yielded ops a.tmps) = true) (d : Nat) (hd : o.dst = some d) (s x : Operand)
    (ho : o.op = .call { callee := .builtin .append, args := #[s, x], argTypes := #[28, 28] })
    (hs : a.eval s = .slice A n cap) (hown : Own w base A n cap l) (B : Option Addr) (m c : Nat) (news : List Nat) (hx : a.eval x = .slice B m c) (hr : Rd w B m news) (hlen : n + m ≤ 100000000) (hbase : base ≤ w.heap.size)
    (h : ∀ A' cap' w', Grew w w' base A A' n cap (n + m) cap' (l ++ news) → K (a.put (some d) (.slice A' (n + m) cap')) w') :
    if Region.wanted o (yielded ops a.tmps) = true then Oper.wp Try.prog o a w K Q else E := by
  rw [if_pos hw]
  obtain ⟨A', cap', w', hrun, hg⟩ := run_appB hown B m c news hr hlen hbase o.type
  unfold Oper.wp execOp
  simp only [ho, resolve, invoke, builtin, Sem.run_bind, Sem.run_pure, Result.andThen_ok, List.map_toArray, List.map_cons, List.map_nil, hs, hx, hrun]
  have h2 := h A' cap' w' hg
  rw [← hd] at h2
  exact h2
/-- A stamp, a kind and a payload. -/
def GivesDec (w : World) (f e i k : Int) (p : List Nat) (r : Int) (x : Ending) (w' : World) : Prop :=
  ∃ (A : Option Addr) (c : Nat), x = .returned (.tuple #[.agg #[.int .i64 f, .int .i64 e, .int .i64 i], .int .i64 k, .slice A p.length c, .int .i64 r]) ∧ Rd w' A p.length p ∧ Below w.heap.size w w'
set_option maxRecDepth 100000 in
set_option maxHeartbeats 4000000 in
theorem decode_yes (A : Option Addr) (c : Nat) (l : List Nat) (w : World) (h : Rd w A 128 l) (hc : 128 ≤ c) (h76 : F l 0 1 = 76) (hk : okK (F l 1 1 : Int) = true) (hn : F l 2 2 ≤ 108) (hs : okS (F l 4 4 : Int) (F l 8 4 : Int) (F l 12 4 : Int) = true)
    (hz : zerosB ((l.drop (16 + F l 2 2)).take (108 - F l 2 2)) = true) (hsum : F l 124 4 = Cr.more 0 (l.take 124)) :
    Calls Try.prog 53 #[.slice A 128 c] w (GivesDec w (F l 4 4) (F l 8 4) (F l 12 4) (F l 1 1) ((l.drop 16).take (F l 2 2)) 0) := by
  have hop := fun (v : World) (hv : Below w.heap.size w v) => open_yes A c l v (h.below hv) hc h76 hk hn hs hz hsum
  obtain ⟨g, q, rfl, hg, _⟩ := h.2.2 (by omega)
  have HO := Lib.hid hop
  have H := Lib.hid h
  clear hop h h76 hk hs hz hsum
  generalize F l 2 2 = n at *
  generalize F l 4 4 = f at *
  generalize F l 8 4 = e at *
  generalize F l 12 4 = i at *
  generalize F l 1 1 = k at *
  unfold GivesOpen at HO
  have k2 := Holds.new w #[.int .i64 0, .int .i64 0, .int .i64 0] 96
  have hB0 : Below w.heap.size w (w.alloc (.cells #[.int .i64 0, .int .i64 0, .int .i64 0] 96)) := (Below.refl _ _).alloc (Nat.le_refl _) _
  go_enter Try.func53, Try.ntmps53
  go_wp2_with fail
  refine (HO.out _ hB0).mono ?_
  rintro x v1 ⟨rfl, hb1⟩
  have k2b := (k2.below hb1).alloc (.cells #[.int .i64 (f : Int), .int .i64 (e : Int), .int .i64 (i : Int)] 96)
  have hB1 := below_next hB0 (hb1)
  have k6 := Holds.new v1 #[.int .i64 (f : Int), .int .i64 (e : Int), .int .i64 (i : Int)] 96
  have hB2 := hB1.alloc hB1.size (.cells #[.int .i64 (f : Int), .int .i64 (e : Int), .int .i64 (i : Int)] 96)
  have hne : v1.heap.size ≠ w.heap.size := by have := hb1.size; simp at this; omega
  have hsl := fun (v : World) => run_head g q c n hn hc v
  have hw16 : IntKind.i64.wrap (16 + (n : Int)) = 16 + (n : Int) := by rw [IntKind.wrap_i64]; omega
  have hlen : ((l.drop 16).take n).length = n := by rw [List.length_take, List.length_drop, H.out.1]; omega
  clear hb1 hB1 hB0 k2
  go_upto_region 4 with fail
  generalize (v1.alloc (.cells #[.int .i64 (f : Int), .int .i64 (e : Int), .int .i64 (i : Int)] 96)) = W at *
  have c0 := k6.at_ 0 rfl
  have c1 := k6.at_ 1 rfl
  have c2 := k6.at_ 2 rfl
  have z0 := k2b.at_ 0 rfl
  have z1 := k2b.at_ 1 rfl
  have z2 := k2b.at_ 2 rfl
  have f0 := k2b.2.2 0
  have f1 := k2b.2.2 1
  have f2 := k2b.2.2 2
  have hrp : Rd W (some ⟨g, q + 16, none⟩) n ((l.drop 16).take n) := rd_part (H.out.below hB2) (by omega)
  have hon : Own W W.heap.size none 0 0 [] := Own.none_ _ _
  have hl9 : 0 + n ≤ 100000000 := by omega
  have HL := Lib.hid hlen
  have hkeep : ∀ A3 c3 v3, Grew W.drew v3 W.heap.size none A3 0 0 (0 + n) c3 ([] ++ (l.drop 16).take n) → Below W.heap.size W v3 ∧ Holds v3 v1.heap.size [.int .i64 (f : Int), .int .i64 (e : Int), .int .i64 (i : Int)] ∧ Holds v3 w.heap.size [.int .i64 0, .int .i64 0, .int .i64 0] := by
    intro A3 c3 v3 hg
    have hb := hg.below (Below.refl W.heap.size W).drew (Nat.le_refl _) (fun r hr => by cases hr)
    exact ⟨hb, k6.below hb, k2b.below hb⟩
  have HKp := Lib.hid hkeep
  clear hlen hkeep
  go_region_held3 (fun w' => w'.cell? ⟨v1.heap.size, 0, none⟩ = some (.int .i64 (f : Int)) ∧ w'.cell? ⟨v1.heap.size, 1, none⟩ = some (.int .i64 (e : Int)) ∧ w'.cell? ⟨v1.heap.size, 2, none⟩ = some (.int .i64 (i : Int))) (first | go_keep | exact ⟨(HKp.out _ _ _ hg3).2.1.at_ 0 rfl, (HKp.out _ _ _ hg3).2.1.at_ 1 rfl, (HKp.out _ _ _ hg3).2.1.at_ 2 rfl⟩ | exact ⟨((HKp.out _ _ _ hg3).2.1.other3 hne).at_ 0 rfl, ((HKp.out _ _ _ hg3).2.1.other3 hne).at_ 1 rfl, ((HKp.out _ _ _ hg3).2.1.other3 hne).at_ 2 rfl⟩) (first | (refine step_appB (by rfl) 26 rfl (.const (.slice none 0 0)) (.tmp 25) rfl rfl (Own.drew hon) (some ⟨g, q + 16, none⟩) n (c - 16) ((l.drop 16).take n) rfl (Rd.drew hrp) hl9 (Nat.le_refl _) ?_; intro A3 c3 v3 hg3; have hkz := (HKp.out _ _ _ hg3).2.2; have z30 := hkz.at_ 0 rfl; have z31 := hkz.at_ 1 rfl; have z32 := hkz.at_ 2 rfl; have f30 := hkz.2.2 0; have f31 := hkz.2.2 1; have f32 := hkz.2.2 2))
  have z3 := hkz.set3 (.int .i64 (f : Int)) (.int .i64 (e : Int)) (.int .i64 (i : Int))
  have R0 := Lib.hid (z3.at_ 0 rfl)
  have R1 := Lib.hid (z3.at_ 1 rfl)
  have R2 := Lib.hid (z3.at_ 2 rfl)
  have hb3 := (HKp.out _ _ _ hg3).1
  have hown := hg3.own
  rw [Nat.zero_add, List.nil_append] at hown
  have hBf : Below w.heap.size w (((v3.setCell ⟨w.heap.size, 0, none⟩ (.int .i64 (f : Int))).setCell ⟨w.heap.size, 1, none⟩ (.int .i64 (e : Int))).setCell ⟨w.heap.size, 2, none⟩ (.int .i64 (i : Int))) := (((hB2.trans (hb3.mono hB2.size)).setCell (by simp) _).setCell (by simp) _).setCell (by simp) _
  have hwW : w.heap.size < W.heap.size := k2b.1
  have hrf : Rd (((v3.setCell ⟨w.heap.size, 0, none⟩ (.int .i64 (f : Int))).setCell ⟨w.heap.size, 1, none⟩ (.int .i64 (e : Int))).setCell ⟨w.heap.size, 2, none⟩ (.int .i64 (i : Int))) A3 n ((l.drop 16).take n) := (own_far (own_far (own_far hown hwW _) hwW _) hwW _).rd
  have HBf := Lib.hid hBf
  have HRf := Lib.hid hrf
  have HO9 := Lib.hid hown
  clear z3 hkz hb3 hown hBf hrf hg3 z30 z31 z32 f30 f31 f32
  go_wp2_with fail
  refine bodyPost_ret (v := .tuple #[.agg #[.int .i64 (f : Int), .int .i64 (e : Int), .int .i64 (i : Int)], .int .i64 (k : Int), .slice A3 n c3, .int .i64 0]) (by simp [results, Try.results53, go_sem, R0.out, R1.out, R2.out]) rfl ?_
  refine ⟨A3, c3, ?_, ?_, HBf.out⟩
  · rw [HL.out]
  · rw [HL.out]; exact HRf.out
end Go.Proofs.Ytbdomhookjmmgaa
