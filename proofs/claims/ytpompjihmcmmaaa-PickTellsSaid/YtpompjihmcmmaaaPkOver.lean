/- Which tables of a level meet a range: package pick's Overlap. -/
import Derived.Test.YtpompjihmcmmaaaPkIds
import Derived.Test.YtpompjihmcmmaaaPkIns
namespace Go.Proofs.Ytpompjihmcmmaaa
open Go.RowKit
namespace Pk
def hit (level : Int) (low high : ByteArray) (x : Tb) : Bool := decide (x.lv = level) && meets x low high
/-- The numbers of the tables of a level that meet a range. -/
def over (l : List Tb) (level : Int) (low high : ByteArray) : List Int := insAll (idl (l.filter (hit level low high)))
theorem filter_len (l : List Tb) (f : Tb → Bool) (n : Nat) (h : l.length = n) : (l.filter f).length ≤ n := h ▸ List.length_filter_le _ _
end Pk
set_option maxRecDepth 100000 in
set_option maxHeartbeats 4000000 in
theorem over1_any (x : Pk.Tb) (level : Int) (low high : ByteArray) (b1 b2 b3 : Nat) (w : World) (h1 : w.cell? ⟨b1, 0, none⟩ = some (.int .i64 level)) (h2 : w.cell? ⟨b2, 0, none⟩ = some (.string low)) (h3 : w.cell? ⟨b3, 0, none⟩ = some (.string high)) (l1 : b1 < w.heap.size) (l2 : b2 < w.heap.size) (l3 : b3 < w.heap.size) :
    Calls Try.prog 24 #[.agg x.cells.toArray, .pointer (some ⟨b1, 0, none⟩), .pointer (some ⟨b2, 0, none⟩), .pointer (some ⟨b3, 0, none⟩)] w fun e w' => e = .returned (.bool (Pk.hit level low high x)) ∧ Below w.heap.size w w' := by
  have HMt := Lib.hid (fun (u : World) => meets_any x low high u)
  unfold Pk.hit
  generalize hm : Pk.meets x low high = mt at *
  clear hm
  obtain ⟨id, ep, P, pn, pc, sz, lv, ct, lo, hi, tp⟩ := x
  dsimp only
  replace HMt : Hid (∀ (u : World), Calls Try.prog 25 #[.agg #[.int .i64 id, .int .i64 ep, .slice P pn pc, .int .i64 sz, .int .i64 lv, .int .i64 ct, .string lo, .string hi, .int .i64 tp], .string low, .string high] u fun e w' => e = .returned (.bool mt) ∧ Below u.heap.size u w') := HMt
  show Calls _ _ #[.agg #[.int .i64 id, .int .i64 ep, .slice P pn pc, .int .i64 sz, .int .i64 lv, .int .i64 ct, .string lo, .string hi, .int .i64 tp], .pointer (some ⟨b1, 0, none⟩), .pointer (some ⟨b2, 0, none⟩), .pointer (some ⟨b3, 0, none⟩)] _ _
  have HB := Lib.hid (show Below w.heap.size w (w.alloc (.cells #[.int .i64 id, .int .i64 ep, .slice P pn pc, .int .i64 sz, .int .i64 lv, .int .i64 ct, .string lo, .string hi, .int .i64 tp] 58)) from (Below.refl _ _).alloc (Nat.le_refl _) _)
  have c1 : (w.alloc (.cells #[.int .i64 id, .int .i64 ep, .slice P pn pc, .int .i64 sz, .int .i64 lv, .int .i64 ct, .string lo, .string hi, .int .i64 tp] 58)).cell? ⟨b1, 0, none⟩ = some (.int .i64 level) := (HB.out.cell l1).trans h1
  have c2 : (w.alloc (.cells #[.int .i64 id, .int .i64 ep, .slice P pn pc, .int .i64 sz, .int .i64 lv, .int .i64 ct, .string lo, .string hi, .int .i64 tp] 58)).cell? ⟨b2, 0, none⟩ = some (.string low) := (HB.out.cell l2).trans h2
  have c3 : (w.alloc (.cells #[.int .i64 id, .int .i64 ep, .slice P pn pc, .int .i64 sz, .int .i64 lv, .int .i64 ct, .string lo, .string hi, .int .i64 tp] 58)).cell? ⟨b3, 0, none⟩ = some (.string high) := (HB.out.cell l3).trans h3
  clear h1 h2 h3 l1 l2 l3
  by_cases hv : lv = level
  · subst hv
    have e0 : (lv == lv) = true := by simp
    have HF := Lib.hid (show (decide (lv = lv) && mt) = mt by simp)
    rw [HF.out]
    go_enter Try.func24, Try.ntmps24
    go_wp2_with fail
    refine (HMt.out _).mono ?_
    rintro e w3 ⟨rfl, hb3⟩
    have HB3 := Lib.hid (below_next HB.out hb3)
    clear hb3
    go_wp2
    go_ret
    exact ⟨rfl, HB3.out⟩
  · have e0 : (lv == level) = false := beq_eq_false_iff_ne.2 hv
    have HF := Lib.hid (show (decide (lv = level) && mt) = false by simp [hv])
    rw [HF.out]
    go_enter Try.func24, Try.ntmps24
    go_wp2
    go_ret
    exact ⟨rfl, HB.out⟩
set_option maxRecDepth 100000 in
set_option maxHeartbeats 4000000 in
theorem overlap_any (a b : Int) (L : Option Addr) (ln lc : Nat) (A : Option Addr) (n c : Nat) (l : List Pk.Tb) (level : Int) (low high : ByteArray) (w : World) (hr : RdTb w A n l) (hn : n ≤ 100000) :
    Calls Try.prog 12 #[.agg (Pk.ver a b L ln lc A n c), .int .i64 level, .string low, .string high] w (GivesIdsO w (Pk.over l level low high)) := by
  have HFl := Lib.hid (Pk.filter_len l (Pk.hit level low high) n hr.1)
  have HB0 := Lib.hid (show Below w.heap.size w ((((w.alloc (.cells #[.int .i64 a, .int .i64 b, .slice L ln lc, .slice A n c] 25)).alloc (.cells #[.int .i64 level] 3)).alloc (.cells #[.string low] 9)).alloc (.cells #[.string high] 9)) from
    ((((Below.refl _ _).alloc (Nat.le_refl _) _).alloc (by simp) _).alloc (by simp; omega) _).alloc (by simp; omega) _)
  have H1 := Lib.hid ((((Holds.new (w.alloc (.cells #[.int .i64 a, .int .i64 b, .slice L ln lc, .slice A n c] 25)) #[.int .i64 level] 3).alloc (.cells #[.string low] 9)).alloc (.cells #[.string high] 9)))
  have H2 := Lib.hid ((Holds.new ((w.alloc (.cells #[.int .i64 a, .int .i64 b, .slice L ln lc, .slice A n c] 25)).alloc (.cells #[.int .i64 level] 3)) #[.string low] 9).alloc (.cells #[.string high] 9))
  have H3 := Lib.hid (Holds.new (((w.alloc (.cells #[.int .i64 a, .int .i64 b, .slice L ln lc, .slice A n c] 25)).alloc (.cells #[.int .i64 level] 3)).alloc (.cells #[.string low] 9)) #[.string high] 9)
  have H0 := Lib.hid (((((Holds.new w #[.int .i64 a, .int .i64 b, .slice L ln lc, .slice A n c] 25).alloc (.cells #[.int .i64 level] 3)).alloc (.cells #[.string low] 9)).alloc (.cells #[.string high] 9)))
  simp only [World.size_alloc] at H1 H2 H3
  have HCT := Lib.hid (fun (cF : Array Value) (u : World) (hb : Below w.heap.size w u) hF => those_any 24 cF (Pk.hit level low high) a b L ln lc A n c l u (hr.below hb) hn hF (fun _ _ => rfl))
  clear hr
  show Calls _ _ #[.agg #[.int .i64 a, .int .i64 b, .slice L ln lc, .slice A n c], .int .i64 level, .string low, .string high] _ _
  unfold Pk.over
  generalize hlf : l.filter (Pk.hit level low high) = lf at *
  clear hlf
  go_enter Try.func12, Try.ntmps12
  have hmf : ∀ (fn : Fn) (first cap : Array Value) (w : World), (Instr.makeFunc fn first cap).run Try.prog w = .ok (.func fn first cap) w := fun _ _ _ _ => rfl
  go_wp2_with fail
  generalize ((((w.alloc (.cells #[.int .i64 a, .int .i64 b, .slice L ln lc, .slice A n c] 25)).alloc (.cells #[.int .i64 level] 3)).alloc (.cells #[.string low] 9)).alloc (.cells #[.string high] 9)) = u at *
  refine (HCT.out #[.pointer (some ⟨w.heap.size + 1, 0, none⟩), .pointer (some ⟨w.heap.size + 2, 0, none⟩), .pointer (some ⟨w.heap.size + 3, 0, none⟩)] u HB0.out (fun x wx _ hb => over1_any x level low high _ _ _ wx ((H1.out.below hb).at_ 0 rfl) ((H2.out.below hb).at_ 0 rfl) ((H3.out.below hb).at_ 0 rfl) (H1.out.below hb).1 (H2.out.below hb).1 (H3.out.below hb).1)).mono ?_
  rintro e w3 ⟨B, d, rfl, hO, hb3⟩
  have HB3 := Lib.hid (below_next HB0.out hb3)
  have HI := Lib.hid (ids_any B lf.length d lf w3 hO.rd rfl (by have := HFl.out; omega))
  clear hO hb3
  go_wp2_with fail
  refine HI.out.mono ?_
  rintro e w4 ⟨C, f, rfl, hf, hri, hb4, ho4⟩
  have HFn := Lib.hid (show GivesIdsO w (Pk.insAll (Pk.idl lf)) (.returned (.slice C (Pk.insAll (Pk.idl lf)).length f)) w4 from ⟨C, f, rfl, hf, hri, below_next HB3.out hb4, fun h => by
    obtain ⟨g, e, h1⟩ := ho4 h
    exact ⟨g, e, Nat.le_trans HB3.out.size h1⟩⟩)
  clear hri hb4 ho4
  go_wp2
  go_ret
  exact HFn.out
set_option maxRecDepth 100000 in
set_option maxHeartbeats 4000000 in
theorem roverlap_any (a b : Int) (L : Option Addr) (ln lc : Nat) (A : Option Addr) (n c : Nat) (l : List Pk.Tb) (level : Int) (low high : ByteArray) (w : World) (hr : RdTb w A n l) (hn : n ≤ 100000) :
    Calls Try.prog 13 #[.agg (Pk.ver a b L ln lc A n c), .int .i64 level, .string low, .string high] w (GivesIds w (Pk.over l level low high)) := by
  have HR := Lib.hid hr
  have HL := Lib.hid hr.1
  clear hr
  have HZ := Lib.hid (Holds.new w #[.int .i64 a, .int .i64 b, .slice L ln lc, .slice A n c] 25)
  have HB0 := Lib.hid (show Below w.heap.size w (w.alloc (.cells #[.int .i64 a, .int .i64 b, .slice L ln lc, .slice A n c] 25)) from (Below.refl _ _).alloc (Nat.le_refl _) _)
  show Calls _ _ #[.agg #[.int .i64 a, .int .i64 b, .slice L ln lc, .slice A n c], .int .i64 level, .string low, .string high] _ _
  go_enter Try.func13, Try.ntmps13
  go_wp2
  generalize (w.alloc (.cells #[.int .i64 a, .int .i64 b, .slice L ln lc, .slice A n c] 25)) = u at *
  go_loopw [9, 10] (fun s ii wr => ∃ (k : Nat) (B : Option Addr) (m d : Nat), k ≤ n ∧ m ≤ k ∧ m ≤ d ∧ ii = .int .i64 (k : Int) ∧ s = .slice B m d ∧ Hid (m = ((l.take k).filter (Pk.hit level low high)).length) ∧ Hid (RdI wr B m (Pk.over (l.take k) level low high)) ∧ Hid (Below u.heap.size u wr)) (fun _ ii _ => n - (intOf ii).toNat)
  case atStart => exact ⟨0, none, 0, 0, by omega, by omega, by omega, rfl, rfl, Lib.hid rfl, Lib.hid ⟨rfl, RdC.nil _ _ _⟩, Lib.hid (Below.refl _ _)⟩
  case round =>
    obtain ⟨k, B, m, d, hk, hm, hd, rfl, rfl, HM, HO, HB⟩ := hrel
    have HBw := Lib.hid (below_next HB0.out HB.out)
    have z3 := (HZ.out.below HB.out).at_ 3 rfl
    by_cases hkn : k < n
    · have hki : (k : Int) < (n : Int) := by omega
      obtain ⟨x, hx⟩ : ∃ x, l[k]? = some x := ⟨_, List.getElem?_eq_getElem (by rw [HL.out]; exact hkn)⟩
      obtain ⟨g, o, rfl, hgl, h9⟩ := HR.out.nine hx
      obtain ⟨q0, q1, q2, q3, q4, q5, q6, q7, q8⟩ := h9 wr HBw.out
      have HS := Lib.hid (Pk.filter_snoc (Pk.hit level low high) hx)
      clear hx h9 hgl
      have HH := Lib.hid (show Pk.hit level low high x = (decide (x.lv = level) && (!Pk.lt x.hi low && !Pk.lt high x.lo)) from rfl)
      generalize hfx : Pk.hit level low high x = fx at *
      obtain ⟨id, ep, P, pn, pc, sz, lv, ct, lo, hi, tp⟩ := x
      dsimp only at q0 q1 q2 q3 q4 q5 q6 q7 q8 HH
      have HMa := Lib.hid (HO.out.below ((Below.refl wr.heap.size wr).alloc (Nat.le_refl _) (.cells #[.int .i64 id, .int .i64 ep, .slice P pn pc, .int .i64 sz, .int .i64 lv, .int .i64 ct, .string lo, .string hi, .int .i64 tp] 51)))
      have HBa := Lib.hid (HB.out.alloc HB.out.size (.cells #[.int .i64 id, .int .i64 ep, .slice P pn pc, .int .i64 sz, .int .i64 lv, .int .i64 ct, .string lo, .string hi, .int .i64 tp] 51))
      have HIn := Lib.hid (rins_any B m d _ id _ HMa.out (by omega) hd)
      clear hfx
      have l1 := Pk.le_eq lo high
      have l2 := Pk.le_eq low hi
      by_cases hv : lv = level
      · subst hv
        have e0 : (lv == lv) = true := by simp
        generalize g1 : Pk.lt high lo = t1 at *
        generalize g2 : Pk.lt hi low = t2 at *
        clear g1 g2
        cases t1 with
        | true =>
          have l1 : (Op.bytesLess lo.toList high.toList || lo.toList == high.toList) = false := l1
          have hf : fx = false := by rw [HH.out]; simp
          subst hf
          go_wp2
          go_roundw
          case rel => exact ⟨k + 1, B, m, d, by omega, by omega, hd, by go_num, rfl, Lib.hid (by rw [HS.out, if_neg (by decide), List.append_nil]; exact HM.out), Lib.hid (by unfold Pk.over; rw [HS.out, if_neg (by decide), List.append_nil]; exact HMa.out), HBa⟩
          case measure => simp [intOf]; omega
        | false =>
          have l1 : (Op.bytesLess lo.toList high.toList || lo.toList == high.toList) = true := l1
          cases t2 with
          | true =>
            have l2 : (Op.bytesLess low.toList hi.toList || low.toList == hi.toList) = false := l2
            have hf : fx = false := by rw [HH.out]; simp
            subst hf
            go_wp2
            go_roundw
            case rel => exact ⟨k + 1, B, m, d, by omega, by omega, hd, by go_num, rfl, Lib.hid (by rw [HS.out, if_neg (by decide), List.append_nil]; exact HM.out), Lib.hid (by unfold Pk.over; rw [HS.out, if_neg (by decide), List.append_nil]; exact HMa.out), HBa⟩
            case measure => simp [intOf]; omega
          | false =>
            have l2 : (Op.bytesLess low.toList hi.toList || low.toList == hi.toList) = true := l2
            have hf : fx = true := by rw [HH.out]; simp
            subst hf
            have HSn := Lib.hid (show Pk.over (l.take (k + 1)) lv low high = Pk.ins (Pk.over (l.take k) lv low high) id by
              unfold Pk.over
              rw [HS.out, if_pos (by trivial)]
              show Pk.insAll (Pk.idl _) = _
              unfold Pk.idl
              rw [List.map_append]
              exact Pk.insAll_snoc _ _)
            have HLn := Lib.hid (show (Pk.ins (Pk.over (l.take k) lv low high) id).length = m + 1 by rw [Pk.ins_len, HO.out.1])
            go_wp2_with fail
            refine HIn.out.mono ?_
            rintro e w3 ⟨C, f, rfl, hO3, hb3⟩
            rw [HLn.out] at hO3 ⊢
            have HO3 := Lib.hid hO3.ints
            have HD3 := Lib.hid hO3.fits
            have HB3 := Lib.hid (below_next HBa.out hb3)
            clear hO3 hb3
            go_wp2
            go_roundw
            case rel => exact ⟨k + 1, C, m + 1, f, by omega, by omega, HD3.out, by go_num, rfl, Lib.hid (by rw [HS.out, if_pos (by trivial), List.length_append, ← HM.out]; rfl), Lib.hid (by rw [HSn.out]; exact HO3.out), HB3⟩
            case measure => simp [intOf]; omega
      · have e0 : (lv == level) = false := beq_eq_false_iff_ne.2 hv
        have hf : fx = false := by rw [HH.out]; simp [hv]
        subst hf
        go_wp2
        go_roundw
        case rel => exact ⟨k + 1, B, m, d, by omega, by omega, hd, by go_num, rfl, Lib.hid (by rw [HS.out, if_neg (by decide), List.append_nil]; exact HM.out), Lib.hid (by unfold Pk.over; rw [HS.out, if_neg (by decide), List.append_nil]; exact HMa.out), HBa⟩
        case measure => simp [intOf]; omega
    · have hke : k = n := by omega
      subst hke
      have HFn := Lib.hid (show GivesIds w (Pk.over l level low high) (.returned (.slice B m d)) wr by
        have hO := HO.out
        rw [List.take_of_length_le (Nat.le_of_eq HL.out)] at hO
        unfold GivesIds
        rw [hO.1]
        exact ⟨B, d, rfl, hd, hO, HBw.out⟩)
      clear HO HM
      go_wp2
      go_ret
      exact HFn.out
end Go.Proofs.Ytpompjihmcmmaaa
