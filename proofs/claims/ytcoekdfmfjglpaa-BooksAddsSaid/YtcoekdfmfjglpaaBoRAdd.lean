/- Totals, into which a line is put: the document's Add. -/
import Derived.Test.YtcoekdfmfjglpaaBoApp
import Derived.Test.YtcoekdfmfjglpaaBoRTot
import Derived.Deep.DeepCutAuto
import Derived.Deep.CutBlock
namespace Go.Proofs.Ytcoekdfmfjglpaa
open Go.RowKit
namespace Bo
/-- What stands behind a key's place. -/
def rest (T : List Tt) (s : ByteArray) (k : Nat) : List Tt := match T[k]? with | some y => if y.key = s then T.drop (k + 1) else T.drop k | none => T.drop k
theorem ins_at {T : List Tt} {x : Tt} {k : Nat} (hk : k ≤ T.length) (hp : ∀ y ∈ T.take k, ahead y.key x.key = true) (hq : ∀ y, T[k]? = some y → ahead y.key x.key = false) : ins T x = T.take k ++ x :: rest T x.key k := by
  induction k generalizing T with
  | zero =>
    cases T with
    | nil => rfl
    | cons y ys =>
      have h := hq y rfl
      unfold ins rest
      rw [if_neg (by rw [h]; decide)]
      show _ = [] ++ x :: (if y.key = x.key then (y :: ys).drop 1 else (y :: ys).drop 0)
      split <;> rfl
  | succ k ih =>
    cases T with
    | nil => simp at hk
    | cons y ys =>
      unfold ins
      rw [if_pos (hp y (by simp)), ih (by simpa using hk) (fun z hz => hp z (by simp [hz])) (fun z hz => hq z (by simpa using hz))]
      rfl
theorem rest_yes {T : List Tt} {s : ByteArray} {k : Nat} {y : Tt} (h : T[k]? = some y) (hy : y.key = s) : rest T s k = T.drop (k + 1) := by
  unfold rest; rw [h]; dsimp only; rw [if_pos hy]
theorem rest_no {T : List Tt} {s : ByteArray} {k : Nat} {y : Tt} (h : T[k]? = some y) (hy : y.key ≠ s) : rest T s k = T.drop k := by
  unfold rest; rw [h]; dsimp only; rw [if_neg hy]
theorem rest_none {T : List Tt} {s : ByteArray} {k : Nat} (h : T.length = k) : rest T s k = T.drop k := by
  unfold rest; rw [List.getElem?_eq_none (by omega)]
theorem get_at {T : List Tt} {s : ByteArray} {k : Nat} {y : Tt} (hs : Srt T) (h : T[k]? = some y) (hy : y.key = s) : get T s = y := by
  rw [← hy]; exact get_mem hs (List.mem_of_getElem? h)
theorem get_off {T : List Tt} {s : ByteArray} {k : Nat} (hs : Srt T) (hp : ∀ y ∈ T.take k, ahead y.key s = true) (hq : ∀ y, T[k]? = some y → ahead y.key s = false ∧ y.key ≠ s) : get T s = ⟨s, 0, 0, 0⟩ := by
  refine get_none fun z hz e => ?_
  obtain ⟨j, hj, he⟩ := List.getElem_of_mem hz
  rcases Nat.lt_trichotomy j k with h | h | h
  · exact ahead_ne (hp z (by rw [List.mem_take_iff_getElem]; exact ⟨j, by omega, he⟩)) e
  · subst h
    exact (hq z (by rw [List.getElem?_eq_getElem hj, he])).2 e
  · have hk : k < T.length := by omega
    obtain ⟨h1, h2⟩ := hq T[k] (List.getElem?_eq_getElem hk)
    have h3 := List.pairwise_iff_getElem.1 hs k j hk hj h
    rw [he, e] at h3
    rw [h1] at h3
    cases h3
end Bo
def GivesRAdd (w : World) (T : List Bo.Tt) (l : Bo.Ln) (e : Ending) (w' : World) : Prop :=
  ∃ B c, e = .returned (.tuple #[.slice B (Bo.addT T l).length c, .int .i64 (Bo.addC T l)]) ∧ RdT w' B (Bo.addT T l).length (Bo.addT T l) ∧ Below w.heap.size w w'
theorem rdt_nil (w : World) : RdT w none 0 [] := ⟨rfl, RdC.nil _ _ _, fun _ hx => nomatch hx⟩
theorem GivesRAdd.no {w w' : World} {T : List Bo.Tt} {l : Bo.Ln} (c : Int) (h : Bo.addC T l = c) (hc : c ≠ 0) (hb : Below w.heap.size w w') : GivesRAdd w T l (.returned (.tuple #[.slice none 0 0, .int .i64 c])) w' := by
  have he : Bo.addT T l = [] := by unfold Bo.addT; rw [if_neg (by rw [h]; exact hc)]
  unfold GivesRAdd
  rw [he, h]
  exact ⟨none, 0, rfl, rdt_nil _, hb⟩
theorem cells4 {w : World} {b : Nat} {x0 x1 x2 x3 : Value} (h : Holds w b [x0, x1, x2, x3]) : w.cell? ⟨b, 0, none⟩ = some x0 ∧ w.cell? ⟨b, 1, none⟩ = some x1 ∧ w.cell? ⟨b, 2, none⟩ = some x2 ∧ w.cell? ⟨b, 3, none⟩ = some x3 := ⟨h.at_ 0 rfl, h.at_ 1 rfl, h.at_ 2 rfl, h.at_ 3 rfl⟩
theorem radd_done {w w7 v : World} {T rs : List Bo.Tt} {X : Bo.Ln} {k m8 c7 : Nat} {A7 : Option Addr} {y : Bo.Tt} (ht : Bo.addT T X = T.take k ++ y :: rs) (hc : Bo.addC T X = 0) (hl : rs.length = m8) (hk : (T.take k).length = k ∧ ∀ x ∈ T.take k ++ y :: rs, x.key.size ≤ 9223372036854775807) (hb : Below w.heap.size w w7) (hb7 : Below w7.heap.size w7 v)
    (ho : OwnC 4 v w7.heap.size 46 A7 (k + 1 + m8) c7 ((Bo.tflat (T.take k) ++ y.cells) ++ Bo.tflat rs)) : GivesRAdd w T X (.returned (.tuple #[.slice A7 (k + 1 + m8) c7, .int .i64 0])) v := by
  have hlen : (T.take k ++ y :: rs).length = k + 1 + m8 := by rw [List.length_append, hk.1, List.length_cons, hl]; omega
  have hfl : Bo.tflat (T.take k ++ y :: rs) = (Bo.tflat (T.take k) ++ y.cells) ++ Bo.tflat rs := by rw [Bo.tflat_append, List.append_assoc]; rfl
  unfold GivesRAdd
  rw [ht, hc, hlen]
  exact ⟨A7, c7, rfl, ⟨hlen, by rw [hfl]; exact ho.rd, hk.2⟩, below_next hb hb7⟩
set_option maxRecDepth 100000 in
set_option maxHeartbeats 8000000 in
theorem radd_any (A : Option Addr) (n c : Nat) (T : List Bo.Tt) (x : Bo.Ln) (w : World) (hr : RdT w A n T) (hn : n ≤ 1000) (hc : n ≤ c) (hks : x.key.size ≤ 9223372036854775807) :
    Calls Try.prog 10 #[.slice A n c, .agg x.cells.toArray] w (GivesRAdd w T x) := by
  have HR := Lib.hid hr
  have HL := Lib.hid hr.1
  have HX := Lib.hid hks
  clear hr hks
  generalize hX : x = X at HX
  obtain ⟨kind, key, nn⟩ := x
  have HXc := Lib.hid (show X.cells = [.int .i64 kind, .string key, .int .i64 nn] by rw [← hX]; rfl)
  have HXk := Lib.hid (show X.key = key by rw [← hX])
  rw [HXc.out]
  clear hX
  have HBa := Lib.hid (show Below w.heap.size w (w.alloc (.cells #[Value.int .i64 kind, .string key, .int .i64 nn] 25)) from (Below.refl _ _).alloc (Nat.le_refl _) _)
  have HLa := Lib.hid (Holds.new w #[Value.int .i64 kind, .string key, .int .i64 nn] 25)
  have hCk := aretot_any A n c T (w.alloc (.cells #[Value.int .i64 kind, .string key, .int .i64 nn] 25)) (HR.out.below HBa.out) (by omega)
  have HCl := Lib.hid (fun (u : World) => isl_any X u HX.out)
  rw [HXc.out] at HCl
  cases ht : Bo.okT none T with
  | false =>
    rw [ht] at hCk
    have HA := Lib.hid (show Bo.addC T X = 230 by unfold Bo.addC; rw [ht]; rfl)
    have HCk := Lib.hid hCk
    clear hCk ht
    show Calls _ _ #[.slice A n c, .agg #[.int .i64 kind, .string key, .int .i64 nn]] _ _
    go_enter Try.func10, Try.ntmps10
    go_wp2_with fail
    refine HCk.out.mono ?_
    rintro e w1 ⟨rfl, hb1⟩
    have HB1 := Lib.hid (below_next HBa.out hb1)
    clear hb1
    go_wp2
    go_ret2
    exact GivesRAdd.no 230 HA.out (by decide) HB1.out
  | true =>
  rw [ht] at hCk
  have HT := Lib.hid (Bo.okT_iff.1 ht)
  have HCk := Lib.hid hCk
  clear hCk
  cases hl : Bo.okL X with
  | false =>
    rw [hl] at HCl
    have HA := Lib.hid (show Bo.addC T X = 230 by unfold Bo.addC; rw [ht, hl]; rfl)
    clear hl ht
    show Calls _ _ #[.slice A n c, .agg #[.int .i64 kind, .string key, .int .i64 nn]] _ _
    go_enter Try.func10, Try.ntmps10
    go_wp2_with fail
    refine HCk.out.mono ?_
    rintro e w1 ⟨rfl, hb1⟩
    have HB1 := Lib.hid (below_next HBa.out hb1)
    have HL1 := Lib.hid (HLa.out.below hb1)
    clear hb1
    have c0 := HL1.out.at_ 0 rfl
    have c1 := HL1.out.at_ 1 rfl
    have c2 := HL1.out.at_ 2 rfl
    go_wp2_with fail
    refine (HCl.out _).mono ?_
    rintro e w2 ⟨rfl, hb2⟩
    have HB2 := Lib.hid (below_next HB1.out hb2)
    clear hb2 c0 c1 c2
    go_wp2
    go_ret2
    exact GivesRAdd.no 230 HA.out (by decide) HB2.out
  | true =>
  rw [hl] at HCl
  have HOk := Lib.hid hl
  have HA := Lib.hid (show Bo.addC T X = Bo.code T X by unfold Bo.addC; rw [ht, hl]; rfl)
  clear hl ht
  show Calls _ _ #[.slice A n c, .agg #[.int .i64 kind, .string key, .int .i64 nn]] _ _
  go_enter Try.func10, Try.ntmps10
  go_wp2_with fail
  refine HCk.out.mono ?_
  rintro e w1 ⟨rfl, hb1⟩
  have HB1 := Lib.hid (below_next HBa.out hb1)
  have HL1 := Lib.hid (HLa.out.below hb1)
  clear hb1
  have c0 := HL1.out.at_ 0 rfl
  have c1 := HL1.out.at_ 1 rfl
  have c2 := HL1.out.at_ 2 rfl
  go_wp2_with fail
  refine (HCl.out _).mono ?_
  rintro e w2 ⟨rfl, hb2⟩
  have HB2 := Lib.hid (below_next HB1.out hb2)
  have HL2 := Lib.hid (HL1.out.below hb2)
  clear hb2 c0 c1 c2 HB1 HL1 HCl HCk HLa HBa
  go_upto_block 0 with fail
  go_cut [6] from 17 to 33 (fun s6 W => ∃ (k : Nat), k ≤ n ∧ s6 = .int .i64 (k : Int) ∧ Hid (∀ y ∈ T.take k, Bo.ahead y.key key = true) ∧ Hid (∀ y, T[k]? = some y → Bo.ahead y.key key = false) ∧ Hid (Below w2.heap.size w2 W))
  case first =>
    go_wp2_with fail
    go_loopw [6] (fun ii wr => ∃ (k : Nat), k ≤ n ∧ ii = .int .i64 (k : Int) ∧ Hid (∀ y ∈ T.take k, Bo.ahead y.key key = true) ∧ Hid (Below w2.heap.size w2 wr)) (fun ii _ => n - (intOf ii).toNat)
    case atStart => exact ⟨0, by omega, rfl, Lib.hid (fun y hy => nomatch hy), Lib.hid (Below.refl _ _)⟩
    case round =>
      obtain ⟨k, hk, rfl, HP, HB⟩ := hrel
      have HBw := Lib.hid (below_next HB2.out HB.out)
      have l1 := (HL2.out.below HB.out).at_ 1 rfl
      by_cases hlt : k < n
      · have hki : (k : Int) < (n : Int) := by omega
        have dki : decide ((k : Int) < (n : Int)) = true := decide_eq_true hki
        obtain ⟨y, hy⟩ : ∃ y, T[k]? = some y := ⟨_, List.getElem?_eq_getElem (by rw [HL.out]; exact hlt)⟩
        obtain ⟨b, o, rfl, hbl, hcell⟩ := HR.out.at_ hy
        have e0 : wr.cell? ⟨b, o + k * 4, none⟩ = some (.string y.key) := (HBw.out.cell hbl).trans (hcell 0 _ rfl)
        have HY := Lib.hid hy
        clear hcell hbl hy
        cases ha : Bo.ahead y.key key with
        | true =>
          have hb : Op.bytesLess y.key.toList key.toList = true := ha
          have HPn := Lib.hid (show ∀ z ∈ T.take (k + 1), Bo.ahead z.key key = true by
            intro z hz
            rw [List.take_add_one, HY.out] at hz
            rcases List.mem_append.1 hz with hz | hz
            · exact HP.out z hz
            · rcases List.mem_singleton.1 hz with rfl
              exact ha)
          clear ha
          go_wp2_with fail
          go_big_quiet (fail)
          go_wp2
          go_roundw
          case rel => exact ⟨k + 1, by omega, by go_num, HPn, Lib.hid (below_drewN HB.out _)⟩
          case measure => simp [intOf]; omega
        | false =>
          have hb : Op.bytesLess y.key.toList key.toList = false := ha
          have HSt := Lib.hid (show ∀ z, T[k]? = some z → Bo.ahead z.key key = false by
            intro z hz
            rw [HY.out] at hz
            injection hz with hz
            rw [← hz]; exact ha)
          clear ha
          go_wp2_with fail
          go_big_quiet (fail)
          go_wp2
          go_meet
          case rel => exact ⟨k, hk, rfl, HP, HSt, Lib.hid (below_drewN HB.out _)⟩
      · have hke : k = n := by omega
        obtain rfl : n = k := hke.symm
        have hnk : ¬ (n : Int) < (n : Int) := by omega
        have dki : decide ((n : Int) < (n : Int)) = false := decide_eq_false hnk
        have HSt := Lib.hid (show ∀ z, T[n]? = some z → Bo.ahead z.key key = false by
          intro z hz
          rw [List.getElem?_eq_none (by rw [HL.out]; exact Nat.le_refl _)] at hz
          cases hz)
        clear hlt
        go_wp2_with fail
        go_big_quiet (fail)
        go_wp2
        go_meet
        case rel => exact ⟨n, hk, rfl, HP, HSt, Lib.hid (below_drewN HB.out _)⟩
  case rest =>
    obtain ⟨k, hk, rfl, HP, HSt, HB⟩ := hcut
    have l1 := (HL2.out.below HB.out).at_ 1 rfl
    have l1' : ∀ o, (wc.alloc o).cell? ⟨w.heap.size, 1, none⟩ = some (.string key) := fun o => ((HL2.out.below HB.out).alloc o).at_ 1 rfl
    have hfr : ∀ W, (Instr.slice 22 (.slice A n c) (some (.int .i64 (k : Int))) none none).run Try.prog W = .ok (.slice (behindT A c k) (n - k) (c - k)) W := fun W => run_fromT A n c k hk hc W
    have HRs := Lib.hid ((HR.out.from_ hk hc).below HB2.out)
    have hcc : n - k ≤ c - k := by omega
    have HM := Lib.hid (show n - k = T.length - k by rw [HL.out])
    go_wp2_with fail
    go_region
    have HZ : Hid (Holds (wc.alloc (.cells #[Value.string key, .int .i64 0, .int .i64 0, .int .i64 0] 46)).drew wc.heap.size [.string key, .int .i64 0, .int .i64 0, .int .i64 0]) := Lib.hid (Holds.new wc #[Value.string key, .int .i64 0, .int .i64 0, .int .i64 0] 46)
    have HB3 : Hid (Below w2.heap.size w2 (wc.alloc (.cells #[Value.string key, .int .i64 0, .int .i64 0, .int .i64 0] 46)).drew) := Lib.hid ((HB.out.alloc HB.out.size _).drew)
    have hbc : Below wc.heap.size wc (wc.alloc (.cells #[Value.string key, .int .i64 0, .int .i64 0, .int .i64 0] 46)).drew := ((Below.refl _ _).alloc (Nat.le_refl _) _).drew
    have HLn := Lib.hid ((HL2.out.below HB.out).below hbc)
    have HS2 := Lib.hid (Nat.lt_of_lt_of_le HL2.out.1 HB.out.size)
    have HSB := Lib.hid HB.out.size
    clear l1 l1' hfr hbc
    generalize (wc.alloc (.cells #[Value.string key, .int .i64 0, .int .i64 0, .int .i64 0] 46)).drew = w4 at *
    generalize hbx : wc.heap.size = bx at *
    clear hbx HB
    generalize behindT A c k = R at *
    generalize hm : n - k = m at *
    generalize c - k = rc at *
    go_upto_region 7 with fail
    go_cut [50] from 39 to 51 (fun s50 W => ∃ t : Bool, s50 = .bool t ∧ Hid (t = true → ∃ y, T[k]? = some y ∧ y.key = key) ∧ Hid (t = false → Bo.rest T key k = T.drop k ∧ Bo.get T key = ⟨key, 0, 0, 0⟩) ∧ Hid (Below w4.heap.size w4 W))
    case first =>
      by_cases hm0 : m = 0
      · have hmi : decide ((0 : Int) < (m : Int)) = false := decide_eq_false (by omega)
        have hmn : ¬ (0 : Int) < (m : Int) := by omega
        have hmd : decide (0 < m) = false := decide_eq_false (by omega)
        have hk2 : T[k]? = none := List.getElem?_eq_none (by have := HL.out; omega)
        have HE := Lib.hid (show Bo.rest T key k = T.drop k ∧ Bo.get T key = ⟨key, 0, 0, 0⟩ from ⟨Bo.rest_none (by have := HL.out; omega), Bo.get_off HT.out.1 HP.out (fun y hy => by rw [hk2] at hy; cases hy)⟩)
        clear hm0 hk2
        go_wp2_with fail
        go_big_quiet (fail)
        go_wp2
        go_meet
        case rel => exact ⟨false, rfl, Lib.hid (fun h => nomatch h), Lib.hid (fun _ => HE.out), Lib.hid (below_drewN (Below.refl _ _) _)⟩
      · have hmi : decide ((0 : Int) < (m : Int)) = true := decide_eq_true (by omega)
        have hmn : (0 : Int) < (m : Int) := by omega
        have hmd : decide (0 < m) = true := decide_eq_true (by omega)
        have hmp : 0 < m := by omega
        obtain ⟨y, hy⟩ : ∃ y, T[k]? = some y := ⟨_, List.getElem?_eq_getElem (by have := HL.out; omega)⟩
        have hy2 : (T.drop k)[0]? = some y := by rw [List.getElem?_drop, Nat.add_zero]; exact hy
        obtain ⟨b, o, rfl, hbl, hcell⟩ := (HRs.out.below HB3.out).at_ hy2
        have e0 : w4.cell? ⟨b, o, none⟩ = some (.string y.key) := by have h := hcell 0 _ rfl; simpa using h
        have HY := Lib.hid hy
        have l1 := HLn.out.at_ 1 rfl
        clear hcell hbl hy hy2
        by_cases hke : y.key = key
        · have g0 : (y.key.toList == key.toList) = true := by rw [hke]; exact Bo.byt_same key
          have HE := Lib.hid hke
          clear hke
          go_wp2_with fail
          go_big_quiet (fail)
          go_wp2
          go_meet
          case rel => exact ⟨true, rfl, Lib.hid (fun _ => ⟨y, HY.out, HE.out⟩), Lib.hid (fun h => nomatch h), Lib.hid (below_drewN (Below.refl _ _) _)⟩
        · have g0 : (y.key.toList == key.toList) = false := Bo.byt_other hke
          have HE := Lib.hid (show Bo.rest T key k = T.drop k ∧ Bo.get T key = ⟨key, 0, 0, 0⟩ from ⟨Bo.rest_no HY.out hke, Bo.get_off HT.out.1 HP.out (fun z hz => by rw [HY.out] at hz; injection hz with hz; subst hz; exact ⟨HSt.out y HY.out, hke⟩)⟩)
          clear hke
          go_wp2_with fail
          go_big_quiet (fail)
          go_wp2
          go_meet
          case rel => exact ⟨false, rfl, Lib.hid (fun h => nomatch h), Lib.hid (fun _ => HE.out), Lib.hid (below_drewN (Below.refl _ _) _)⟩
    case rest =>
      obtain ⟨t, rfl, Ht, Hf, HB5⟩ := hcut
      have HZ5 := Lib.hid (HZ.out.below HB5.out)
      have HR5 := HRs
      have HL5 := Lib.hid (HLn.out.below HB5.out)
      have HBB5 := Lib.hid (HB3.out.trans (HB5.out.mono HB3.out.size))
      go_upto_if 50 with fail
      go_cut [8] from 51 to 56 (fun s8 W => ∃ (R : Option Addr) (m rc : Nat), s8 = .slice R m rc ∧ m ≤ rc ∧ Hid (RdT w2 R m (Bo.rest T key k)) ∧ Hid (Holds W bx (Bo.get T key).cells) ∧ Hid (Holds W w.heap.size [.int .i64 kind, .string key, .int .i64 nn]) ∧ Hid (Below w2.heap.size w2 W))
      case first =>
        cases t with
        | false =>
          have HE := Lib.hid (Hf.out rfl)
          go_wp2
          go_meet
          case rel => exact ⟨_, m, rc, rfl, hcc, Lib.hid (by rw [HE.out.1]; exact HR5.out), Lib.hid (by rw [HE.out.2]; exact HZ5.out), HL5, HBB5⟩
        | true =>
          obtain ⟨y, hy, hke⟩ := Ht.out rfl
          have HE := Lib.hid (show Bo.rest T key k = T.drop (k + 1) ∧ Bo.get T key = y from ⟨Bo.rest_yes hy hke, Bo.get_at HT.out.1 hy hke⟩)
          have hy2 : (T.drop k)[0]? = some y := by rw [List.getElem?_drop, Nat.add_zero]; exact hy
          have hm0 : 1 ≤ m := by have := (List.getElem?_eq_some_iff.1 hy).1; have := HL.out; omega
          have hfr : ∀ W, (Instr.slice 22 (.slice R m rc) (some (.int .i64 1)) none none).run Try.prog W = .ok (.slice (behindT R rc 1) (m - 1) (rc - 1)) W := fun W => run_fromT R m rc 1 hm0 hcc W
          have HR6 := Lib.hid (show RdT w2 (behindT R rc 1) (m - 1) (T.drop (k + 1)) by
            have h := HR5.out.from_ hm0 hcc
            rw [List.drop_drop] at h
            exact h)
          have hmi : (0 : Int) < (m : Int) := by omega
          obtain ⟨b, o, rfl, hbl, hcell⟩ := (HR5.out.below HBB5.out).at_ hy2
          clear hy hy2 hke
          obtain ⟨key3, fr, he, ou⟩ := y
          have e0 : wc.cell? ⟨b, o, none⟩ = some (.string key3) := by have h := hcell 0 _ rfl; simpa using h
          have e1 : wc.cell? ⟨b, o + 1, none⟩ = some (.int .i64 fr) := by have h := hcell 1 _ rfl; simpa using h
          have e2 : wc.cell? ⟨b, o + 2, none⟩ = some (.int .i64 he) := by have h := hcell 2 _ rfl; simpa using h
          have e3 : wc.cell? ⟨b, o + 3, none⟩ = some (.int .i64 ou) := by have h := hcell 3 _ rfl; simpa using h
          clear hcell hbl
          generalize behindT (some ⟨b, o, none⟩) rc 1 = R2 at *
          have z0 := HZ5.out.at_ 0 rfl
          have z1 := HZ5.out.at_ 1 rfl
          have z2 := HZ5.out.at_ 2 rfl
          have z3 := HZ5.out.at_ 3 rfl
          have f0 := HZ5.out.2.2 0
          have f1 := HZ5.out.2.2 1
          have f2 := HZ5.out.2.2 2
          have f3 := HZ5.out.2.2 3
          go_wp2_with fail
          go_region
          go_wp2
          go_meet
          case rel => exact ⟨R2, m - 1, rc - 1, rfl, by omega, Lib.hid (by rw [HE.out.1]; exact HR6.out), Lib.hid (by rw [HE.out.2]; exact (((HZ5.out.set 0 (.string key3) (by simp)).set 1 (.int .i64 fr) (by simp)).set 2 (.int .i64 he) (by simp)).set 3 (.int .i64 ou) (by simp)), Lib.hid ((((HL5.out.other (by have := HS2.out; omega)).other (by have := HS2.out; omega)).other (by have := HS2.out; omega)).other (by have := HS2.out; omega)), Lib.hid ((((HBB5.out.setCell (p := ⟨bx, 0, none⟩) HSB.out _).setCell (p := ⟨bx, 1, none⟩) HSB.out _).setCell (p := ⟨bx, 2, none⟩) HSB.out _).setCell (p := ⟨bx, 3, none⟩) HSB.out _).drew⟩
      case rest =>
        obtain ⟨R8, m8, rc8, rfl, hcc8, HR8, HZ8, HL8, HB8⟩ := hcut
        have hgi := Bo.get_in HT.out.2 key
        have hD := Bo.dn_in HOk.out
        have HPu := Lib.hid (rput_any (Bo.get T key) X wc HOk.out hgi)
        rw [HXc.out] at HPu
        have HC := Lib.hid (show Bo.code T X = Bo.bad (Bo.put (Bo.get T key) X) by unfold Bo.code; rw [HXk.out])
        have HNx := Lib.hid (show Bo.next T X = T.take k ++ Bo.put (Bo.get T key) X :: Bo.rest T key k by
          unfold Bo.next
          rw [HXk.out]
          have h := Bo.ins_at (T := T) (x := Bo.put (Bo.get T key) X) (k := k) (by rw [HL.out]; exact hk) (by rw [Bo.put_key, Bo.get_key]; exact HP.out) (by rw [Bo.put_key, Bo.get_key]; exact HSt.out)
          rw [Bo.put_key, Bo.get_key] at h
          exact h)
        have hF : -1125899906842624 ≤ (Bo.put (Bo.get T key) X).free ∧ (Bo.put (Bo.get T key) X).free ≤ 2251799813685248 := by unfold Bo.InX at hgi; show _ ≤ (Bo.get T key).free + Bo.dF X ∧ (Bo.get T key).free + Bo.dF X ≤ _; omega
        have hH : -1125899906842624 ≤ (Bo.put (Bo.get T key) X).held ∧ (Bo.put (Bo.get T key) X).held ≤ 2251799813685248 := by unfold Bo.InX at hgi; show _ ≤ (Bo.get T key).held + Bo.dH X ∧ (Bo.get T key).held + Bo.dH X ≤ _; omega
        have hkY := Lib.hid (show (Bo.put (Bo.get T key) X).key = key by rw [Bo.put_key, Bo.get_key])
        have HKs := Lib.hid (show key.size ≤ 9223372036854775807 by rw [← HXk.out]; exact HX.out)
        have HRl := Lib.hid (show (Bo.rest T key k).length = m8 from HR8.out.1)
        have HFl := Lib.hid (show (Bo.rest T key k).length ≤ 1000 by have := HL.out; unfold Bo.rest; split; · split <;> (rw [List.length_drop]; omega)
                                                                     · rw [List.length_drop]; omega)
        have HKl : Hid ((T.take k).length = k ∧ ∀ x ∈ T.take k ++ Bo.put (Bo.get T key) X :: Bo.rest T key k, x.key.size ≤ 9223372036854775807) := Lib.hid ⟨by rw [List.length_take]; have := HL.out; omega, by
          intro x hx
          rcases List.mem_append.1 hx with hx | hx
          · exact HR.out.2.2 x (List.mem_of_mem_take hx)
          · rcases List.mem_cons.1 hx with rfl | hx
            · rw [Bo.put_key, Bo.get_key]; exact HKs.out
            · exact HR8.out.2.2 x hx⟩
        clear hgi hD
        generalize Bo.put (Bo.get T key) X = y at *
        generalize Bo.get T key = g at *
        generalize Bo.rest T key k = rs at *
        obtain ⟨yk, F, H, O⟩ := y
        obtain ⟨gk, gf, gh, go⟩ := g
        dsimp only at hF hH hkY
        replace HPu : Hid (Calls Try.prog 22 #[.agg #[.string gk, .int .i64 gf, .int .i64 gh, .int .i64 go], .agg #[.int .i64 kind, .string key, .int .i64 nn]] wc fun e w' => e = .returned (.agg #[.string yk, .int .i64 F, .int .i64 H, .int .i64 O]) ∧ Below wc.heap.size wc w') := HPu
        have z0 := HZ8.out.at_ 0 rfl
        have z1 := HZ8.out.at_ 1 rfl
        have z2 := HZ8.out.at_ 2 rfl
        have z3 := HZ8.out.at_ 3 rfl
        have l0 := HL8.out.at_ 0 rfl
        have l1 := HL8.out.at_ 1 rfl
        have l2 := HL8.out.at_ 2 rfl
        go_wp2_with fail
        refine HPu.out.mono ?_
        rintro e w6 ⟨rfl, hb6⟩
        clear z0 z1 z2 z3 l0 l1 l2
        have HZ6 := Lib.hid (HZ8.out.below hb6)
        have HB6 := Lib.hid (HB8.out.trans (hb6.mono HB8.out.size))
        clear hb6 HPu
        have z0 := HZ6.out.at_ 0 rfl
        have z1 := HZ6.out.at_ 1 rfl
        have z2 := HZ6.out.at_ 2 rfl
        have z3 := HZ6.out.at_ 3 rfl
        have f0 := HZ6.out.2.2 0
        have f1 := HZ6.out.2.2 1
        have f2 := HZ6.out.2.2 2
        have f3 := HZ6.out.2.2 3
        go_upto_region 10 with fail
        have HZ7 : Hid (Holds ((((w6.setCell ⟨bx, 0, none⟩ (.string yk)).setCell ⟨bx, 1, none⟩ (.int .i64 F)).setCell ⟨bx, 2, none⟩ (.int .i64 H)).setCell ⟨bx, 3, none⟩ (.int .i64 O)) bx [.string yk, .int .i64 F, .int .i64 H, .int .i64 O]) := Lib.hid ((((HZ6.out.set 0 (.string yk) (by simp [Bo.Tt.cells])).set 1 (.int .i64 F) (by simp [Bo.Tt.cells])).set 2 (.int .i64 H) (by simp [Bo.Tt.cells])).set 3 (.int .i64 O) (by simp [Bo.Tt.cells]))
        have HB7 : Hid (Below w2.heap.size w2 ((((w6.setCell ⟨bx, 0, none⟩ (.string yk)).setCell ⟨bx, 1, none⟩ (.int .i64 F)).setCell ⟨bx, 2, none⟩ (.int .i64 H)).setCell ⟨bx, 3, none⟩ (.int .i64 O))) := Lib.hid ((((HB6.out.setCell (p := ⟨bx, 0, none⟩) HSB.out _).setCell (p := ⟨bx, 1, none⟩) HSB.out _).setCell (p := ⟨bx, 2, none⟩) HSB.out _).setCell (p := ⟨bx, 3, none⟩) HSB.out _)
        clear z0 z1 z2 z3 f0 f1 f2 f3 HZ6 HB6
        generalize ((((w6.setCell ⟨bx, 0, none⟩ (.string yk)).setCell ⟨bx, 1, none⟩ (.int .i64 F)).setCell ⟨bx, 2, none⟩ (.int .i64 H)).setCell ⟨bx, 3, none⟩ (.int .i64 O)) = w7 at *
        have z0 := HZ7.out.at_ 0 rfl
        have z1 := HZ7.out.at_ 1 rfl
        have z2 := HZ7.out.at_ 2 rfl
        have z3 := HZ7.out.at_ 3 rfl
        have HBw := Lib.hid (below_next HB2.out HB7.out)
        by_cases k1 : F < 0
        · have HFin : Hid (Bo.addC T X = 201) := Lib.hid (by rw [HA.out, HC.out]; unfold Bo.bad; rw [if_pos (.inl k1)])
          go_wp2
          go_ret2
          exact GivesRAdd.no 201 HFin.out (by decide) HBw.out
        by_cases k2 : H < 0
        · have HFin : Hid (Bo.addC T X = 201) := Lib.hid (by rw [HA.out, HC.out]; unfold Bo.bad; rw [if_pos (.inr (.inl k2))])
          go_wp2
          go_ret2
          exact GivesRAdd.no 201 HFin.out (by decide) HBw.out
        by_cases k3 : O < 0
        · have HFin : Hid (Bo.addC T X = 201) := Lib.hid (by rw [HA.out, HC.out]; unfold Bo.bad; rw [if_pos (.inr (.inr k3))])
          go_wp2
          go_ret2
          exact GivesRAdd.no 201 HFin.out (by decide) HBw.out
        have HN1 := Lib.hid (show ¬ (F < 0 ∨ H < 0 ∨ O < 0) by omega)
        have hfh1 : -9223372036854775808 ≤ F + H := by omega
        have hfh2 : F + H ≤ 9223372036854775807 := by omega
        by_cases k4 : 1125899906842624 < F + H
        · have HFin : Hid (Bo.addC T X = 200) := Lib.hid (by rw [HA.out, HC.out]; unfold Bo.bad; rw [if_neg HN1.out, if_pos (.inl k4)])
          go_wp2
          go_ret2
          exact GivesRAdd.no 200 HFin.out (by decide) HBw.out
        by_cases k5 : 1152921504606846976 < O
        · have HFin : Hid (Bo.addC T X = 200) := Lib.hid (by rw [HA.out, HC.out]; unfold Bo.bad; rw [if_neg HN1.out, if_pos (.inr k5)])
          go_wp2
          go_ret2
          exact GivesRAdd.no 200 HFin.out (by decide) HBw.out
        have HFin : Hid (Bo.addC T X = 0) := Lib.hid (by rw [HA.out, HC.out]; unfold Bo.bad; rw [if_neg HN1.out, if_neg (fun h => h.elim k4 k5)])
        have HFt : Hid (Bo.addT T X = T.take k ++ ⟨yk, F, H, O⟩ :: rs) := Lib.hid (by unfold Bo.addT; rw [if_pos HFin.out, HNx.out])
        have hto : ∀ W, (Instr.slice 22 (.slice A n c) none (some (.int .i64 (k : Int))) none).run Try.prog W = .ok (.slice A k c) W := fun W => run_toT A n c k hk hc W
        have HRt := Lib.hid ((HR.out.below HB2.out).to hk)
        clear HA HC HNx HN1
        go_upto_region 14 with fail
        clear k1 k2 k3 k4 k5 hfh1 hfh2 hF hH z0 z1 z2 z3
        have eA : (w7.alloc (.cells #[] 46)).heap.size = w7.heap.size + 1 := by simp
        have eX : (w7.alloc (.cells #[.string yk, .int .i64 F, .int .i64 H, .int .i64 O] 46)).heap.size = w7.heap.size + 1 := by simp
        have BL1 := (((Below.refl w7.heap.size w7).alloc (Nat.le_refl _) (.cells #[] 46))).drew
        have BL2 := (((Below.refl w7.heap.size w7).alloc (Nat.le_refl _) (.cells #[] 46)).alloc (by omega) (.cells #[.string yk, .int .i64 F, .int .i64 H, .int .i64 O] 46)).drew
        have BL3 := (((Below.refl w7.heap.size w7).alloc (Nat.le_refl _) (.cells #[.string yk, .int .i64 F, .int .i64 H, .int .i64 O] 46)).alloc (by omega) (.cells #[] 46)).drew
        have OC1 : OwnC 4 (w7.alloc (.cells #[] 46)).drew w7.heap.size 46 (some ⟨w7.heap.size, 0, none⟩) 0 0 [] := OwnC.empty 4 w7 _ _ (Nat.le_refl _)
        have OC2 : OwnC 4 ((w7.alloc (.cells #[] 46)).alloc (.cells #[.string yk, .int .i64 F, .int .i64 H, .int .i64 O] 46)).drew w7.heap.size 46 (some ⟨w7.heap.size, 0, none⟩) 0 0 [] := OwnC.alloc OC1 _
        have OC3 : OwnC 4 ((w7.alloc (.cells #[.string yk, .int .i64 F, .int .i64 H, .int .i64 O] 46)).alloc (.cells #[] 46)).drew w7.heap.size 46 (some ⟨w7.heap.size + 1, 0, none⟩) 0 0 [] := by
          have h := OwnC.empty 4 (w7.alloc (.cells #[.string yk, .int .i64 F, .int .i64 H, .int .i64 O] 46)) 46 w7.heap.size (by omega)
          rw [eX] at h
          exact h
        have HRL := Lib.hid (fun (v : World) (hv : Below w7.heap.size w7 v) => (HRt.out.2.1.below (HB7.out.trans (hv.mono HB7.out.size))))
        have HRR := Lib.hid (fun (v : World) (hv : Below w7.heap.size w7 v) => (HR8.out.2.1.below (HB7.out.trans (hv.mono HB7.out.size))))
        have XR2 : RdC 4 ((w7.alloc (.cells #[] 46)).alloc (.cells #[.string yk, .int .i64 F, .int .i64 H, .int .i64 O] 46)).drew (some ⟨w7.heap.size + 1, 0, none⟩) 1 (Bo.Tt.cells ⟨yk, F, H, O⟩) := by
          have h := rdc_new 4 (w7.alloc (.cells #[] 46)) 46 (Bo.Tt.cells ⟨yk, F, H, O⟩) 1 rfl (0, 0)
          rw [eA] at h
          exact h
        have XR3 : RdC 4 ((w7.alloc (.cells #[.string yk, .int .i64 F, .int .i64 H, .int .i64 O] 46)).alloc (.cells #[] 46)).drew (some ⟨w7.heap.size, 0, none⟩) 1 (Bo.Tt.cells ⟨yk, F, H, O⟩) := by
          have h := (rdc_new 4 w7 46 (Bo.Tt.cells ⟨yk, F, H, O⟩) 1 rfl (0, 0)).below ((Below.refl _ _).alloc (Nat.le_refl _) (.cells #[] 46))
          exact h
        obtain ⟨d0, d1, d2, d3⟩ := cells4 (HZ7.out.below (Below.refl w7.heap.size w7).drew)
        obtain ⟨a0, a1, a2, a3⟩ := cells4 (HZ7.out.below BL1)
        have hl1 : 0 + k ≤ 1000000 := by omega
        have hl2 : k + 1 ≤ 1000000 := by omega
        have hl3 : k + 1 + m8 ≤ 1000000 := by have h1 := HRl.out; have h2 := HFl.out; omega
        have hq1 : w7.heap.size ≠ w7.heap.size + 1 := by omega
        have hq2 : w7.heap.size + 1 ≠ w7.heap.size := by omega
        have hle : w7.heap.size ≤ w7.heap.size + 1 := by omega
        clear eA eX
        go_region_law ((first
          | (refine step_appN manyT (by rfl) 87 rfl (.tmp 83) (.tmp 86) rfl rfl OC1 A k c (Bo.tflat (T.take k)) (Bo.tflat_one _) rfl (HRL.out _ BL1) hl1 BL1.size ?_; intro A3 c3 v3 hg3; obtain ⟨T1, T2, T3⟩ := first_app BL1 (Nat.le_refl _) hg3; obtain ⟨y0, y1, y2, y3⟩ := cells4 (HZ7.out.below T1); have O4 := T2.alloc (.cells #[.string yk, .int .i64 F, .int .i64 H, .int .i64 O] 46); have X4 := rdc_new 4 v3 46 (Bo.Tt.cells ⟨yk, F, H, O⟩) 1 rfl (0, 0); have S4 := T1.alloc T1.size (.cells #[.string yk, .int .i64 F, .int .i64 H, .int .i64 O] 46); clear hg3)
          | (refine step_appN manyT (by rfl) 87 rfl (.tmp 83) (.tmp 86) rfl rfl OC2 A k c (Bo.tflat (T.take k)) (Bo.tflat_one _) rfl (HRL.out _ BL2) hl1 BL2.size ?_; intro A3 c3 v3 hg3; obtain ⟨T1, T2, T3⟩ := first_app BL2 (Nat.le_refl _) hg3; have X5 := side_row XR2 hq1 hg3; clear hg3)
          | (refine step_appN manyT (by rfl) 87 rfl (.tmp 83) (.tmp 86) rfl rfl OC3 A k c (Bo.tflat (T.take k)) (Bo.tflat_one _) rfl (HRL.out _ BL3) hl1 BL3.size ?_; intro A3 c3 v3 hg3; obtain ⟨T1, T2, T3⟩ := first_app BL3 hle hg3; have X5 := side_row XR3 hq2 hg3; clear hg3)
          | (refine step_appN manyT (by rfl) 90 rfl (.tmp 87) (.tmp 89) rfl rfl O4 (some ⟨v3.heap.size, 0, none⟩) 1 1 (Bo.Tt.cells ⟨yk, F, H, O⟩) (Bo.tcells_one _) rfl X4 hl2 S4.size ?_; intro A5 c5 v5 hg5; have HF := Lib.hid (next_app S4 O4 hg5); clear hg5)
          | (refine step_appN manyT (by rfl) 90 rfl (.tmp 87) (.tmp 89) rfl rfl T2 (some ⟨w7.heap.size + 1, 0, none⟩) 1 1 (Bo.Tt.cells ⟨yk, F, H, O⟩) (Bo.tcells_one _) rfl X5 hl2 T1.size ?_; intro A5 c5 v5 hg5; have HF := Lib.hid (next_app T1 T2 hg5); clear hg5)
          | (refine step_appN manyT (by rfl) 90 rfl (.tmp 87) (.tmp 89) rfl rfl T2 (some ⟨w7.heap.size, 0, none⟩) 1 1 (Bo.Tt.cells ⟨yk, F, H, O⟩) (Bo.tcells_one _) rfl X5 hl2 T1.size ?_; intro A5 c5 v5 hg5; have HF := Lib.hid (next_app T1 T2 hg5); clear hg5)
          | (refine step_appN manyT (by rfl) 92 rfl (.tmp 90) (.tmp 91) rfl rfl HF.out.2 R8 m8 rc8 (Bo.tflat rs) (Bo.tflat_one _) rfl (HRR.out _ HF.out.1) hl3 HF.out.1.size ?_; intro A7 c7 v7 hg7; have HG := Lib.hid (next_app HF.out.1 HF.out.2 hg7); clear hg7)))
        all_goals
          go_wp2
          go_ret2
          exact radd_done HFt.out HFin.out HRl.out HKl.out HBw.out HG.out.1 HG.out.2
end Go.Proofs.Ytcoekdfmfjglpaa
