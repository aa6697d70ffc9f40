/- From the least Low to the greatest High of some tables: two texts, whichever; how many jobs there are at most, of tables of level 0. -/
import Derived.Test.YtpompjihmcmmaaaPkThose
import Derived.BigQuiet
namespace Go.Proofs.Ytpompjihmcmmaaa
open Go.RowKit
set_option maxRecDepth 100000 in
set_option maxHeartbeats 8000000 in
theorem span_any (A : Option Addr) (n c : Nat) (l : List Pk.Tb) (w : World) (hr : RdC 9 w A n (Pk.flat l)) (hl : l.length = n) (h0 : 0 < n) (hn : n ≤ 100000) :
    Calls Try.prog 38 #[.slice A n c] w fun e w' => (∃ lo hi : ByteArray, e = .returned (.tuple #[.string lo, .string hi])) ∧ Below w.heap.size w w' := by
  have HR := Lib.hid hr
  have HL := Lib.hid hl
  obtain ⟨g, o, rfl, hgl, hcell⟩ := hr.2 h0
  have HC := Lib.hid (show ∀ (k : Nat) (x : Pk.Tb), l[k]? = some x → ∀ (W : World), Below w.heap.size w W → ∀ j u, x.cells[j]? = some u → W.cell? ⟨g, o + (k * 9 + j), none⟩ = some u from fun k x hx W hW j u hu => (hW.cell hgl).trans (hcell _ u (Pk.flatMap_at (f := Pk.Tb.cells) (s := 9) (fun _ => rfl) hx hu)))
  clear hr hl hcell hgl
  obtain ⟨x0, hx0⟩ : ∃ x, l[0]? = some x := ⟨_, List.getElem?_eq_getElem (by rw [HL.out]; exact h0)⟩
  obtain ⟨id, ep, P, pn, pc, sz, lv, ct, lo, hi, tp⟩ := x0
  have z4 : w.cell? ⟨g, o + 6, none⟩ = some (.string lo) := by have h := HC.out 0 _ hx0 w (Below.refl _ _) 6 _ rfl; simpa using h
  have z5 : w.cell? ⟨g, o + 7, none⟩ = some (.string hi) := by have h := HC.out 0 _ hx0 w (Below.refl _ _) 7 _ rfl; simpa using h
  clear hx0
  have hn0 : (0 : Int) < (n : Int) := by omega
  go_enter Try.func38, Try.ntmps38
  go_wp2_with fail
  go_big_quiet (fail)
  go_wp2
  clear z4 z5
  go_loopw [4, 5, 18] (fun s4 s5 ii wr => ∃ (k : Nat) (a b : ByteArray), k ≤ n ∧ s4 = .string a ∧ s5 = .string b ∧ ii = .int .i64 (k : Int) ∧ Hid (Below w.heap.size w wr)) (fun _ _ ii _ => n - (intOf ii).toNat)
  case atStart => exact ⟨0, lo, hi, by omega, rfl, rfl, rfl, Lib.hid (below_drewN (Below.refl _ _) _)⟩
  case round =>
    obtain ⟨k, a, b, hk, rfl, rfl, rfl, HB⟩ := hrel
    by_cases hkn : k < n
    · have hki : (k : Int) < (n : Int) := by omega
      obtain ⟨x, hx⟩ : ∃ x, l[k]? = some x := ⟨_, List.getElem?_eq_getElem (by rw [HL.out]; exact hkn)⟩
      have hc9 := HC.out k x hx wr HB.out
      clear hx
      obtain ⟨id, ep, P, pn, pc, sz, lv, ct, lo, hi, tp⟩ := x
      have q0 : wr.cell? ⟨g, o + k * 9, none⟩ = some (.int .i64 id) := hc9 0 _ rfl
      have q1 : wr.cell? ⟨g, o + k * 9 + 1, none⟩ = some (.int .i64 ep) := hc9 1 _ rfl
      have q2 : wr.cell? ⟨g, o + k * 9 + 2, none⟩ = some (.slice P pn pc) := hc9 2 _ rfl
      have q3 : wr.cell? ⟨g, o + k * 9 + 3, none⟩ = some (.int .i64 sz) := hc9 3 _ rfl
      have q4 : wr.cell? ⟨g, o + k * 9 + 4, none⟩ = some (.int .i64 lv) := hc9 4 _ rfl
      have q5 : wr.cell? ⟨g, o + k * 9 + 5, none⟩ = some (.int .i64 ct) := hc9 5 _ rfl
      have q6 : wr.cell? ⟨g, o + k * 9 + 6, none⟩ = some (.string lo) := hc9 6 _ rfl
      have q7 : wr.cell? ⟨g, o + k * 9 + 7, none⟩ = some (.string hi) := hc9 7 _ rfl
      have q8 : wr.cell? ⟨g, o + k * 9 + 8, none⟩ = some (.int .i64 tp) := hc9 8 _ rfl
      clear hc9
      have HBa := Lib.hid (HB.out.alloc HB.out.size (.cells #[.int .i64 id, .int .i64 ep, .slice P pn pc, .int .i64 sz, .int .i64 lv, .int .i64 ct, .string lo, .string hi, .int .i64 tp] 58))
      have r1 : ∀ (ts : Array TypeId) (t : TypeId) (W : World), (Builtin.min_ ts t #[.string a, .string lo]).run Try.prog W = .ok (.string (if (Op.bytesLess a.toList lo.toList || a.toList == lo.toList) then a else lo)) W := fun _ _ _ => by
        cases h1 : Op.bytesLess a.toList lo.toList <;> cases h2 : (a.toList == lo.toList) <;> simp [Builtin.min_, Builtin.min2, Op.stringOp, asBool, go_sem, h1, h2]
      have r2 : ∀ (ts : Array TypeId) (t : TypeId) (W : World), (Builtin.max_ ts t #[.string b, .string hi]).run Try.prog W = .ok (.string (if !Op.bytesLess b.toList hi.toList then b else hi)) W := fun _ _ _ => by
        cases h1 : Op.bytesLess b.toList hi.toList <;> simp [Builtin.max_, Builtin.max2, Op.stringOp, asBool, go_sem, h1]
      generalize (if (Op.bytesLess a.toList lo.toList || a.toList == lo.toList) then a else lo) = a2 at r1
      generalize (if !Op.bytesLess b.toList hi.toList then b else hi) = b2 at r2
      go_wp2_with fail
      go_region
      go_wp2
      go_roundw
      case rel => exact ⟨k + 1, a2, b2, by omega, rfl, rfl, by go_num, Lib.hid HBa.out.drew⟩
      case measure => simp [intOf]; omega
    · have hke : k = n := by omega
      subst hke
      go_wp2
      go_ret2
      exact ⟨⟨a, b, rfl⟩, HB.out⟩
set_option maxRecDepth 100000 in
set_option maxHeartbeats 8000000 in
/-- Tables of level 0 with two entries each. -/
theorem bound_any (a b : Int) (L : Option Addr) (ln lc : Nat) (A : Option Addr) (n c : Nat) (l : List Pk.Tb) (w : World) (hr : RdTb w A n l) (hn : n ≤ 1000) (h0 : ∀ x ∈ l, x.lv = 0 ∧ x.ct = 2) :
    Calls Try.prog 16 #[.agg (Pk.ver a b L ln lc A n c)] w fun e w' => e = .returned (.int .i64 (1 + 6 * (n : Int))) ∧ Below w.heap.size w w' := by
  have HR := Lib.hid hr
  have HL := Lib.hid hr.1
  have H0 := Lib.hid h0
  clear hr h0
  have HZ := Lib.hid (Holds.new w #[.int .i64 a, .int .i64 b, .slice L ln lc, .slice A n c] 25)
  have HB0 := Lib.hid (show Below w.heap.size w (w.alloc (.cells #[.int .i64 a, .int .i64 b, .slice L ln lc, .slice A n c] 25)) from (Below.refl _ _).alloc (Nat.le_refl _) _)
  show Calls _ _ #[.agg #[.int .i64 a, .int .i64 b, .slice L ln lc, .slice A n c]] _ _
  go_enter Try.func16, Try.ntmps16
  go_wp2
  generalize (w.alloc (.cells #[.int .i64 a, .int .i64 b, .slice L ln lc, .slice A n c] 25)) = u at *
  have z3 := HZ.out.at_ 3 rfl
  go_loopw [3, 9] (fun s ii wr => ∃ (k : Nat), k ≤ n ∧ ii = .int .i64 (k : Int) ∧ s = .int .i64 (1 + 6 * (k : Int)) ∧ Hid (Below w.heap.size w wr)) (fun _ ii _ => n - (intOf ii).toNat)
  case atStart => exact ⟨0, by omega, rfl, rfl, HB0⟩
  case round =>
    obtain ⟨k, hk, rfl, rfl, HB⟩ := hrel
    by_cases hkn : k < n
    · have hki : (k : Int) < (n : Int) := by omega
      obtain ⟨x, hx⟩ : ∃ x, l[k]? = some x := ⟨_, List.getElem?_eq_getElem (by rw [HL.out]; exact hkn)⟩
      obtain ⟨g, o, rfl, hgl, h9⟩ := HR.out.nine hx
      obtain ⟨hl0, hc0⟩ := H0.out x (List.mem_of_getElem? hx)
      obtain ⟨q0, q1, q2, q3, q4, q5, q6, q7, q8⟩ := h9 wr HB.out
      clear hx h9 hgl
      obtain ⟨id, ep, P, pn, pc, sz, lv, ct, lo, hi, tp⟩ := x
      dsimp only at q0 q1 q2 q3 q4 q5 q6 q7 q8 hl0 hc0
      subst hl0 hc0
      have HBa := Lib.hid (HB.out.alloc HB.out.size (.cells #[.int .i64 id, .int .i64 ep, .slice P pn pc, .int .i64 sz, .int .i64 0, .int .i64 2, .string lo, .string hi, .int .i64 tp] 51))
      have m1 : ¬ (1099511627776 : Int) ≤ 1 + 6 * (k : Int) + 6 := by omega
      have m2 : ¬ (1099511627776 : Int) < 1 + 6 * (k : Int) + 6 := by omega
      go_wp2
      go_roundw
      case rel => exact ⟨k + 1, by omega, by go_num, by go_num, HBa⟩
      case measure => simp [intOf]; omega
    · have hke : k = n := by omega
      subst hke
      go_wp2
      go_ret
      exact ⟨rfl, HB.out⟩
end Go.Proofs.Ytpompjihmcmmaaa
