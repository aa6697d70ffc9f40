/- Does a table meet a range; the tables of a version of which a question is answered by yes. -/
import Derived.Test.YtpompjihmcmmaaaPkRFull
namespace Go.Proofs.Ytpompjihmcmmaaa
open Go.RowKit
theorem manyTb : Many 9 56 58 (.agg #[.int .i64 0, .int .i64 0, .slice none 0 0, .int .i64 0, .int .i64 0, .int .i64 0, .string ⟨#[]⟩, .string ⟨#[]⟩, .int .i64 0]) 104 := ⟨by kernel_rfl, Try.underlying56, by kernel_rfl, by decide, by decide⟩
theorem manyAT : Many 9 23 51 (.agg #[.int .i64 0, .int .i64 0, .slice none 0 0, .int .i64 0, .int .i64 0, .int .i64 0, .string ⟨#[]⟩, .string ⟨#[]⟩, .int .i64 0]) 104 := ⟨by kernel_rfl, Try.underlying23, by kernel_rfl, by decide, by decide⟩
/-- Tables in a row of the call's own. -/
def GivesTbs (w : World) (l : List Pk.Tb) (e : Ending) (w' : World) : Prop :=
  ∃ B c, e = .returned (.slice B l.length c) ∧ OwnC 9 w' w.heap.size 58 B l.length c (Pk.flat l) ∧ Below w.heap.size w w'
theorem Pk.filter_snoc {l : List Pk.Tb} {k : Nat} {x : Pk.Tb} (f : Pk.Tb → Bool) (h : l[k]? = some x) : (l.take (k + 1)).filter f = (l.take k).filter f ++ (if f x then [x] else []) := by
  rw [List.take_add_one, h, List.filter_append]
  by_cases e : f x = true
  · simp [e]
  · simp [e]
set_option maxRecDepth 100000 in
set_option maxHeartbeats 4000000 in
theorem meets_any (x : Pk.Tb) (low high : ByteArray) (w : World) :
    Calls Try.prog 25 #[.agg x.cells.toArray, .string low, .string high] w fun e w' => e = .returned (.bool (Pk.meets x low high)) ∧ Below w.heap.size w w' := by
  obtain ⟨id, ep, P, pn, pc, sz, lv, ct, lo, hi, tp⟩ := x
  show Calls _ _ #[.agg #[.int .i64 id, .int .i64 ep, .slice P pn pc, .int .i64 sz, .int .i64 lv, .int .i64 ct, .string lo, .string hi, .int .i64 tp], .string low, .string high] _ _
  have HB := Lib.hid (show Below w.heap.size w (w.alloc (.cells #[.int .i64 id, .int .i64 ep, .slice P pn pc, .int .i64 sz, .int .i64 lv, .int .i64 ct, .string lo, .string hi, .int .i64 tp] 58)) from (Below.refl _ _).alloc (Nat.le_refl _) _)
  generalize hans : Pk.meets ⟨id, ep, P, pn, pc, sz, lv, ct, lo, hi, tp⟩ low high = ans
  have hans : (!Pk.lt hi low && !Pk.lt high lo) = ans := hans
  unfold Pk.lt at hans
  cases g0 : Op.bytesLess hi.toList low.toList with
  | true =>
    have HF := Lib.hid (show false = ans by rw [← hans, g0]; rfl)
    clear hans
    go_enter Try.func25, Try.ntmps25
    go_wp2
    go_ret
    exact ⟨by rw [← HF.out]; rfl, HB.out⟩
  | false =>
    cases g1 : Op.bytesLess high.toList lo.toList with
    | true =>
      have HF := Lib.hid (show false = ans by rw [← hans, g0, g1]; rfl)
      clear hans
      go_enter Try.func25, Try.ntmps25
      go_wp2
      go_ret
      exact ⟨by rw [← HF.out]; rfl, HB.out⟩
    | false =>
      have HF := Lib.hid (show true = ans by rw [← hans, g0, g1]; rfl)
      clear hans
      go_enter Try.func25, Try.ntmps25
      go_wp2
      go_ret
      exact ⟨by rw [← HF.out]; rfl, HB.out⟩
set_option maxRecDepth 100000 in
set_option maxHeartbeats 4000000 in
theorem those_any (F : FuncId) (cF : Array Value) (f : Pk.Tb → Bool) (a b : Int) (L : Option Addr) (ln lc : Nat) (A : Option Addr) (n c : Nat) (l : List Pk.Tb) (w : World) (hr : RdTb w A n l) (hn : n ≤ 100000)
    (hF : ∀ (x : Pk.Tb) (wx : World), x ∈ l → Below w.heap.size w wx → Calls Try.prog F (#[.agg x.cells.toArray] ++ cF) wx fun e w' => e = .returned (.bool (f x)) ∧ Below wx.heap.size wx w')
    (hcF : ∀ (args : Array Value) (wx : World), (callFunc F args).run Try.prog wx = .ok (.enter F args) wx) :
    Calls Try.prog 23 #[.agg (Pk.ver a b L ln lc A n c), .func (.func F) #[] cF] w (GivesTbs w (l.filter f)) := by
  have HR := Lib.hid hr
  have HL := Lib.hid hr.1
  have HF := Lib.hid hF
  clear hr hF
  have HZ := Lib.hid (Holds.new w #[.int .i64 a, .int .i64 b, .slice L ln lc, .slice A n c] 25)
  have HB0 := Lib.hid (show Below w.heap.size w (w.alloc (.cells #[.int .i64 a, .int .i64 b, .slice L ln lc, .slice A n c] 25)) from (Below.refl _ _).alloc (Nat.le_refl _) _)
  show Calls _ _ #[.agg #[.int .i64 a, .int .i64 b, .slice L ln lc, .slice A n c], .func (.func F) #[] cF] _ _
  go_enter Try.func23, Try.ntmps23
  go_wp2
  generalize (w.alloc (.cells #[.int .i64 a, .int .i64 b, .slice L ln lc, .slice A n c] 25)) = u at *
  have z3 := HZ.out.at_ 3 rfl
  go_loopw [5, 11] (fun s ii wr => ∃ (k : Nat) (B : Option Addr) (m d : Nat), k ≤ n ∧ m ≤ k ∧ ii = .int .i64 (k : Int) ∧ s = .slice B m d ∧ Hid (m = ((l.take k).filter f).length) ∧ Hid (OwnC 9 wr w.heap.size 58 B m d (Pk.flat ((l.take k).filter f))) ∧ Hid (Below w.heap.size w wr)) (fun _ ii _ => n - (intOf ii).toNat)
  case atStart => exact ⟨0, none, 0, 0, by omega, by omega, rfl, rfl, Lib.hid rfl, Lib.hid (OwnC.none_ _ _ _ _), HB0⟩
  case round =>
    obtain ⟨k, B, m, d, hk, hm, rfl, rfl, HM, HO, HB⟩ := hrel
    by_cases hkn : k < n
    · have hki : (k : Int) < (n : Int) := by omega
      obtain ⟨x, hx⟩ : ∃ x, l[k]? = some x := ⟨_, List.getElem?_eq_getElem (by rw [HL.out]; exact hkn)⟩
      obtain ⟨g, o, rfl, hgl, h9⟩ := HR.out.nine hx
      obtain ⟨q0, q1, q2, q3, q4, q5, q6, q7, q8⟩ := h9 wr HB.out
      have HS := Lib.hid (Pk.filter_snoc f hx)
      have HCl := Lib.hid (fun (wx : World) (hb : Below w.heap.size w wx) => HF.out x wx (List.mem_of_getElem? hx) hb)
      clear hx h9 hgl
      have HXc := Lib.hid (Pk.cells_one x)
      generalize hfx : f x = fx at *
      obtain ⟨id, ep, P, pn, pc, sz, lv, ct, lo, hi, tp⟩ := x
      dsimp only at q0 q1 q2 q3 q4 q5 q6 q7 q8
      replace HCl : Hid (∀ (wx : World), Below w.heap.size w wx → Calls Try.prog F (#[.agg #[.int .i64 id, .int .i64 ep, .slice P pn pc, .int .i64 sz, .int .i64 lv, .int .i64 ct, .string lo, .string hi, .int .i64 tp]] ++ cF) wx fun e w' => e = .returned (.bool fx) ∧ Below wx.heap.size wx w') := HCl
      have HMa := Lib.hid (HO.out.alloc (.cells #[.int .i64 id, .int .i64 ep, .slice P pn pc, .int .i64 sz, .int .i64 lv, .int .i64 ct, .string lo, .string hi, .int .i64 tp] 51))
      have HBa := Lib.hid (HB.out.alloc HB.out.size (.cells #[.int .i64 id, .int .i64 ep, .slice P pn pc, .int .i64 sz, .int .i64 lv, .int .i64 ct, .string lo, .string hi, .int .i64 tp] 51))
      have HZa := Lib.hid (Holds.new wr #[.int .i64 id, .int .i64 ep, .slice P pn pc, .int .i64 sz, .int .i64 lv, .int .i64 ct, .string lo, .string hi, .int .i64 tp] 51)
      go_wp2_with fail
      refine (HCl.out _ HBa.out).mono ?_
      rintro e w3 ⟨rfl, hb3⟩
      have HB3 := Lib.hid (below_next HBa.out hb3)
      have HO3 := Lib.hid (HMa.out.below hb3)
      have HZ3 := Lib.hid (HZa.out.below hb3)
      clear hb3 q0 q1 q2 q3 q4 q5 q6 q7 q8 HO HMa HBa HZa HCl
      cases fx with
      | true =>
        have q0 := HZ3.out.at_ 0 rfl
        have q1 := HZ3.out.at_ 1 rfl
        have q2 := HZ3.out.at_ 2 rfl
        have q3 := HZ3.out.at_ 3 rfl
        have q4 := HZ3.out.at_ 4 rfl
        have q5 := HZ3.out.at_ 5 rfl
        have q6 := HZ3.out.at_ 6 rfl
        have q7 := HZ3.out.at_ 7 rfl
        have q8 := HZ3.out.at_ 8 rfl
        have hal : w.heap.size ≤ (w3.alloc (.cells #[.int .i64 id, .int .i64 ep, .slice P pn pc, .int .i64 sz, .int .i64 lv, .int .i64 ct, .string lo, .string hi, .int .i64 tp] 58)).heap.size := by have := HB3.out.size; simp; omega
        have HRc := Lib.hid (rdc_new 9 w3 58 (Pk.Tb.cells ⟨id, ep, P, pn, pc, sz, lv, ct, lo, hi, tp⟩) 1 rfl (0, 0))
        go_wp2_with (at_builtin; refine wpList_appC manyTb rfl (.tmp 18) (.tmp 20) rfl rfl (HO3.out.alloc _) ⟨w3.heap.size, 0, none⟩ 1 1 (Pk.Tb.cells ⟨id, ep, P, pn, pc, sz, lv, ct, lo, hi, tp⟩) HXc.out rfl HRc.out (by omega) hal ?_; intro B6 cap6 w6 hg6)
        have HFn := Lib.hid (show OwnC 9 w6 w.heap.size 58 B6 (m + 1) cap6 (Pk.flat ((l.take (k + 1)).filter f)) ∧ m + 1 = ((l.take (k + 1)).filter f).length ∧ Below w.heap.size w w6 by
          refine ⟨by rw [HS.out, if_pos trivial, Pk.flat_append]; exact hg6.own, by rw [HS.out, if_pos trivial, List.length_append, ← HM.out]; rfl, ?_⟩
          exact hg6.below (HB3.out.alloc HB3.out.size _) hal fun g hg => (HO3.out.blk g hg).1)
        clear hg6
        go_roundw
        case rel => exact ⟨k + 1, B6, m + 1, cap6, by omega, by omega, by go_num, rfl, Lib.hid HFn.out.2.1, Lib.hid HFn.out.1, Lib.hid HFn.out.2.2⟩
        case measure => simp [intOf]; omega
      | false =>
        go_wp2
        go_roundw
        case rel => exact ⟨k + 1, B, m, d, by omega, by omega, by go_num, rfl, Lib.hid (by rw [HS.out, if_neg (by decide), List.append_nil]; exact HM.out), Lib.hid (by rw [HS.out, if_neg (by decide), List.append_nil]; exact HO3.out), HB3⟩
        case measure => simp [intOf]; omega
    · have hke : k = n := by omega
      subst hke
      have HFn := Lib.hid (show GivesTbs w (l.filter f) (.returned (.slice B m d)) wr by
        have hO := HO.out
        have hM := HM.out
        rw [List.take_of_length_le (Nat.le_of_eq HL.out)] at hO hM
        subst hM
        exact ⟨B, d, rfl, hO, HB.out⟩)
      clear HO HM
      go_wp2
      go_ret
      exact HFn.out
end Go.Proofs.Ytpompjihmcmmaaa
