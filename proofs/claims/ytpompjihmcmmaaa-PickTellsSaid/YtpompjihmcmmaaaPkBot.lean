/- Is a job at the bottom? Where all tables are of level 0. -/
import Derived.Test.YtpompjihmcmmaaaPkCn
import Derived.Test.YtpompjihmcmmaaaPkCat
import Derived.Test.YtpompjihmcmmaaaPkSpan
import Derived.Test.YtpompjihmcmmaaaPkOver
import Derived.Deep.DeepCutAuto
import Derived.Deep.CutBlock
namespace Go.Proofs.Ytpompjihmcmmaaa
open Go.RowKit
theorem turned_own {s : Nat} {w w' : World} {b base n cap : Nat} {E : TypeId} {A : Option Addr} {vs : List Value} (h : w.mapTurned w' b) (ho : OwnC s w base E A n cap vs) (hb : b < base) : OwnC s w' base E A n cap vs := by
  obtain ⟨es, ck, es', ck', _, rfl⟩ := h
  refine ho.grown (row := some b) ⟨rfl, rfl, rfl, by simp [Go.ChangeMaps.setBlock], fun k hk hne => setBlock_other (fun e => hne (by rw [e]))⟩ (.inr fun g' hg' e => ?_)
  injection hg' with hg'
  have := (ho.blk _ e).1
  omega
set_option maxRecDepth 100000 in
set_option maxHeartbeats 8000000 in
theorem bottom_any (a b : Int) (L : Option Addr) (ln lc : Nat) (A : Option Addr) (n c : Nat) (l : List Pk.Tb) (I O : Option Addr) (ni ci no co : Nat) (li lo : List Int) (w : World) (hr : RdTb w A n l) (hn : n ≤ 1000) (h0 : ∀ x ∈ l, x.lv = 0)
    (hi : RdI w I ni li) (ho : RdI w O no lo) (hni : ni ≤ 1000) (hno : no ≤ 1000) (hq : ∀ q ∈ li ++ lo, Q64 q) :
    Calls Try.prog 28 #[.agg (Pk.ver a b L ln lc A n c), .agg #[.int .i64 0, .slice I ni ci, .slice O no co]] w fun e w' => e = .returned (.bool true) ∧ Below w.heap.size w w' := by
  have HR := Lib.hid hr
  have H0 := Lib.hid h0
  have HI := Lib.hid hi
  have HO := Lib.hid ho
  have HQ := Lib.hid hq
  have HNl := Lib.hid (show (li ++ lo).length = ni + no by rw [List.length_append, hi.1, ho.1])
  clear hr h0 hi ho hq
  have HV := Lib.hid (((Holds.new w #[.int .i64 a, .int .i64 b, .slice L ln lc, .slice A n c] 25).alloc (.cells #[.int .i64 0, .slice I ni ci, .slice O no co] 39)).alloc (.map #[] 0) |>.alloc (.cells #[.map (some (w.heap.size + 1 + 1))] 78))
  have HJ := Lib.hid ((Holds.new (w.alloc (.cells #[.int .i64 a, .int .i64 b, .slice L ln lc, .slice A n c] 25)) #[.int .i64 0, .slice I ni ci, .slice O no co] 39).alloc (.map #[] 0) |>.alloc (.cells #[.map (some (w.heap.size + 1 + 1))] 78))
  have HM := Lib.hid ((Cn.new ((w.alloc (.cells #[.int .i64 a, .int .i64 b, .slice L ln lc, .slice A n c] 25)).alloc (.cells #[.int .i64 0, .slice I ni ci, .slice O no co] 39))).below ((Below.refl _ _).alloc (Nat.le_refl _) (.cells #[.map (some (w.heap.size + 1 + 1))] 78)))
  have HP := Lib.hid (Holds.new (((w.alloc (.cells #[.int .i64 a, .int .i64 b, .slice L ln lc, .slice A n c] 25)).alloc (.cells #[.int .i64 0, .slice I ni ci, .slice O no co] 39)).alloc (.map #[] 0)) #[.map (some (w.heap.size + 1 + 1))] 78)
  simp only [World.size_alloc] at HJ HM HP
  have HB0 := Lib.hid (show Below w.heap.size w ((((w.alloc (.cells #[.int .i64 a, .int .i64 b, .slice L ln lc, .slice A n c] 25)).alloc (.cells #[.int .i64 0, .slice I ni ci, .slice O no co] 39)).alloc (.map #[] 0)).alloc (.cells #[.map (some (w.heap.size + 1 + 1))] 78)) from ((((Below.refl _ _).alloc (Nat.le_refl _) _).alloc (by simp) _).alloc (by simp; omega) _).alloc (by simp; omega) _)
  have HSz := Lib.hid (show ((((w.alloc (.cells #[.int .i64 a, .int .i64 b, .slice L ln lc, .slice A n c] 25)).alloc (.cells #[.int .i64 0, .slice I ni ci, .slice O no co] 39)).alloc (.map #[] 0)).alloc (.cells #[.map (some (w.heap.size + 1 + 1))] 78)).heap.size = w.heap.size + 1 + 1 + 1 + 1 by simp)
  show Calls _ _ #[.agg #[.int .i64 a, .int .i64 b, .slice L ln lc, .slice A n c], .agg #[.int .i64 0, .slice I ni ci, .slice O no co]] _ _
  go_enter Try.func28, Try.ntmps28
  have hmf : ∀ (fn : Fn) (first cap : Array Value) (w : World), (Instr.makeFunc fn first cap).run Try.prog w = .ok (.func fn first cap) w := fun _ _ _ _ => rfl
  have hmm := @run_makeMap Try.prog
  go_upto_region 2 with fail
  generalize ((((w.alloc (.cells #[.int .i64 a, .int .i64 b, .slice L ln lc, .slice A n c] 25)).alloc (.cells #[.int .i64 0, .slice I ni ci, .slice O no co] 39)).alloc (.map #[] 0)).alloc (.cells #[.map (some (w.heap.size + 1 + 1))] 78)) = u at *
  replace HV : Hid (Holds u w.heap.size [.int .i64 a, .int .i64 b, .slice L ln lc, .slice A n c]) := HV
  replace HJ : Hid (Holds u (w.heap.size + 1) [.int .i64 0, .slice I ni ci, .slice O no co]) := HJ
  replace HM : Hid (Cn u (w.heap.size + 1 + 1) 0 (fun _ => 0)) := HM
  replace HP : Hid (Holds u (w.heap.size + 1 + 1 + 1) [.map (some (w.heap.size + 1 + 1))]) := HP
  generalize hbm : w.heap.size + 1 + 1 = bm at *
  generalize hb3 : bm + 1 = b3 at *
  have hb3a : w.heap.size + 1 < bm ∧ bm < b3 ∧ b3 < u.heap.size ∧ bm < u.heap.size := by have := HSz.out; omega
  clear hbm hb3 HSz
  have y1 := HJ.out.at_ 1 rfl
  have y2 := HJ.out.at_ 2 rfl
  have HRw := Lib.hid (show Holds (u.alloc (.cells #[.slice I ni ci, .slice O no co] 29)) u.heap.size [.slice I ni ci, .slice O no co] from Holds.new u #[.slice I ni ci, .slice O no co] 29)
  have HB1 := Lib.hid (show Below u.heap.size u (u.alloc (.cells #[.slice I ni ci, .slice O no co] 29)) from (Below.refl _ _).alloc (Nat.le_refl _) _)
  go_wp2_with fail
  generalize (u.alloc (.cells #[.slice I ni ci, .slice O no co] 29)) = u1 at *
  clear y1 y2
  refine (cat_any u.heap.size I O ni no ci co li lo u1 (HRw.out.at_ 0 rfl) (HRw.out.at_ 1 rfl) HRw.out.1 (HI.out.below (below_next HB0.out HB1.out)) (HO.out.below (below_next HB0.out HB1.out)) (by omega) (by omega)).mono ?_
  rintro e w3 ⟨D, dc, rfl, hD, hb3'⟩
  generalize hids : li ++ lo = ids at *
  clear hids
  rw [HNl.out] at hD ⊢
  generalize hN : ni + no = N at *
  have hNN : N ≤ 2000 := by omega
  clear hN
  have HD := Lib.hid hD
  have HBc := Lib.hid (below_next HB1.out hb3')
  have HBw := Lib.hid (below_next HB0.out HBc.out)
  have HV3 := Lib.hid (HV.out.below HBc.out)
  have HJ3 := Lib.hid (HJ.out.below HBc.out)
  have HM3 := Lib.hid (HM.out.below HBc.out)
  have HP3 := Lib.hid (HP.out.below HBc.out)
  have hu1 : bm < u1.heap.size ∧ b3 < u1.heap.size := by have := HB1.out.size; omega
  clear hD hb3' HV HJ HM HP HBc HB1 HB0 HRw HI HO
  go_wp2
  go_loopw [20] (fun ii wr => ∃ (k : Nat) (f : Int → Int), k ≤ N ∧ ii = .int .i64 (k : Int) ∧ Hid (Cn wr bm k f) ∧ Hid (∀ q, 0 ≤ f q ∧ f q ≤ (k : Int)) ∧ Hid (OwnC 1 wr u1.heap.size 3 D N dc (Pk.iv ids)) ∧ Hid (Holds wr w.heap.size [.int .i64 a, .int .i64 b, .slice L ln lc, .slice A n c]) ∧ Hid (Holds wr (w.heap.size + 1) [.int .i64 0, .slice I ni ci, .slice O no co]) ∧ Hid (Holds wr b3 [.map (some bm)]) ∧ Hid (Below w.heap.size w wr)) (fun ii _ => N - (intOf ii).toNat)
  case atStart => exact ⟨0, fun _ => 0, by omega, rfl, HM3, Lib.hid (fun _ => by simp), HD, HV3, HJ3, HP3, HBw⟩
  case round =>
    obtain ⟨k, f, hk, rfl, HM4, HF4, HD4, HV4, HJ4, HP4, HB4⟩ := hrel
    clear HD HV3 HJ3 HM3 HP3 HBw
    have p0 := HP4.out.at_ 0 rfl
    by_cases hkn : k < N
    · have hki : (k : Int) < (N : Int) := by omega
      obtain ⟨x, hx⟩ : ∃ x, ids[k]? = some x := ⟨_, List.getElem?_eq_getElem (by rw [HNl.out]; exact hkn)⟩
      have HRi := Lib.hid HD4.out.ints
      obtain ⟨g, o, rfl, _, hc⟩ := HRi.out.at_ hx
      have hcx := hc wr (Below.refl _ _)
      have hQx := HQ.out x (List.mem_of_getElem? hx)
      have hlk := HM4.out.look hQx
      obtain ⟨hf1, hf2⟩ := HF4.out x
      have hQv : Q64 (f x + 1) := ⟨by omega, by omega⟩
      obtain ⟨w5, hst, hM5, ht5⟩ := HM4.out.store (by omega) hQx hQv
      have HM5 := Lib.hid hM5
      have HF5 := Lib.hid (show ∀ q, 0 ≤ (fun y => if y = x then f x + 1 else f y) q ∧ (fun y => if y = x then f x + 1 else f y) q ≤ ((k + 1 : Nat) : Int) from fun q => by
        dsimp only
        have h := HF4.out q
        split <;> omega)
      have HD5 := Lib.hid (turned_own ht5 HD4.out hu1.1)
      have HV5 := Lib.hid (turned_holds ht5 HV4.out (by omega))
      have HJ5 := Lib.hid (turned_holds ht5 HJ4.out (by omega))
      have HP5 := Lib.hid (turned_holds ht5 HP4.out (by omega))
      have HB5 := Lib.hid (turned_below ht5 HB4.out (by omega))
      clear hM5 ht5 hc hx hQx HM4 HF4 HD4 HV4 HJ4 HP4 HB4 HRi
      generalize hfx : f x = fx at *
      have hfa : fx + 1 ≤ 9223372036854775807 := by omega
      have hfb : -9223372036854775808 ≤ fx + 1 := by omega
      clear hQv
      go_wp2
      go_roundw
      case rel => exact ⟨k + 1, _, by omega, by go_num, HM5, HF5, HD5, HV5, HJ5, HP5, HB5⟩
      case measure => simp [intOf]; omega
    · have hke : ¬ (k : Int) < (N : Int) := by omega
      have v0 := HV4.out.at_ 0 rfl
      have v1 := HV4.out.at_ 1 rfl
      have v2 := HV4.out.at_ 2 rfl
      have v3 := HV4.out.at_ 3 rfl
      have HT := Lib.hid (those_any 41 #[.pointer (some ⟨b3, 0, none⟩)] (fun x => decide (0 < f x.id)) a b L ln lc A n c l wr (HR.out.below HB4.out) (by omega) (fun x wx hx hb => named_any x b3 bm k f wx ((HP4.out.below hb).at_ 0 rfl) (HP4.out.below hb).1 (HM4.out.below hb) (HR.out.2.2 x hx)) (fun _ _ => rfl))
      have HLj := Lib.hid (Pk.filter_len l (fun x => decide (0 < f x.id)) n HR.out.1)
      have HLm := Lib.hid (fun x (hx : x ∈ l.filter (fun x => decide (0 < f x.id))) => (List.mem_filter.1 hx).1)
      generalize l.filter (fun x => decide (0 < f x.id)) = lj at *
      clear hkn p0
      go_wp2_with fail
      refine HT.out.mono ?_
      rintro e w6 ⟨E6, e6, rfl, hO6, hb6⟩
      have HO6 := Lib.hid hO6.rd
      have HB6 := Lib.hid (below_next HB4.out hb6)
      have HV6 := Lib.hid (HV4.out.below hb6)
      have HJ6 := Lib.hid (HJ4.out.below hb6)
      clear hO6 hb6 v0 v1 v2 v3 HT HM4 HF4 HD4 HV4 HJ4 HP4 HB4
      generalize hm : lj.length = m at *
      by_cases hm0 : m = 0
      · subst hm0
        go_wp2
        go_ret
        exact ⟨rfl, HB6.out⟩
      · have e0 : ((m : Int) == 0) = false := beq_eq_false_iff_ne.2 (by omega)
        have hmp : 0 < m := by omega
        have HLm2 := Lib.hid (show m ≤ n from HLj.out)
        have HSp := Lib.hid (span_any E6 m e6 lj w6 HO6.out hm hmp (by have := HLm2.out; omega))
        clear hm0
        go_wp2_with fail
        refine HSp.out.mono ?_
        rintro e w7 ⟨⟨lo7, hi7, rfl⟩, hb7⟩
        have HB7 := Lib.hid (below_next HB6.out hb7)
        have HV7 := Lib.hid (HV6.out.below hb7)
        have HJ7 := Lib.hid (HJ6.out.below hb7)
        have hal : Below w7.heap.size w7 ((w7.alloc (.cells #[.string lo7] 9)).alloc (.cells #[.string hi7] 9)) := ((Below.refl _ _).alloc (Nat.le_refl _) _).alloc (by simp) _
        have HV8 := Lib.hid (HV7.out.below hal)
        have HJ8 := Lib.hid (HJ7.out.below hal)
        have HB8 := Lib.hid (below_next HB7.out hal)
        clear hb7 hal HSp HO6 HB6 HV6 HJ6
        have v0 := HV8.out.at_ 0 rfl
        have v1 := HV8.out.at_ 1 rfl
        have v2 := HV8.out.at_ 2 rfl
        have v3 := HV8.out.at_ 3 rfl
        go_upto_region 11 with fail
        generalize ((w7.alloc (.cells #[.string lo7] 9)).alloc (.cells #[.string hi7] 9)) = w8 at *
        have HT2 := Lib.hid (fun (b2 b4 : Nat) => those_any 42 #[.pointer (some ⟨w.heap.size + 1, 0, none⟩), .pointer (some ⟨b2, 0, none⟩), .pointer (some ⟨b4, 0, none⟩)] (fun _ => false) a b L ln lc A n c l w8 (HR.out.below HB8.out) (by omega) (fun x wx hx hb => behind_any x _ _ _ wx ((HJ8.out.below hb).at_ 0 rfl) (HJ8.out.below hb).1 (H0.out x hx)) (fun _ _ => rfl))
        have HEm := Lib.hid (show l.filter (fun _ => false) = [] by simp)
        rw [HEm.out] at HT2
        go_wp2_with fail
        refine (HT2.out _ _).mono ?_
        rintro e w9 ⟨E9, e9, rfl, _, hb9⟩
        have HB9 := Lib.hid (below_next HB8.out hb9)
        clear hb9 v0 v1 v2 v3
        go_wp2
        go_ret
        exact ⟨rfl, HB9.out⟩
end Go.Proofs.Ytpompjihmcmmaaa
