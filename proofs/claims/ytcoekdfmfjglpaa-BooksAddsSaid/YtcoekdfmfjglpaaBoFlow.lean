/- How many rights came and went: books.Flow. -/
import Derived.Test.YtcoekdfmfjglpaaBoAdd
namespace Go.Proofs.Ytcoekdfmfjglpaa
open Go.RowKit
namespace Bo
/-- A sum that is told no further than 2^60. -/
def cl (a n : Int) : Int := min 1152921504606846976 (a + n)
/-- What a line makes of what came and went. -/
def flowS (key : ByteArray) (p : Int × Int) (x : Ln) : Int × Int :=
  if x.key = key ∧ okL x = true then (if x.kind = 1 ∨ x.kind = 8 then (cl p.1 x.n, p.2) else if x.kind = 2 ∨ x.kind = 4 ∨ x.kind = 7 then (p.1, cl p.2 x.n) else p) else p
def flowL (key : ByteArray) (l : List Ln) : Int × Int := l.foldl (flowS key) (0, 0)
theorem flowL_snoc (key : ByteArray) {l : List Ln} {k : Nat} {x : Ln} (h : l[k]? = some x) : flowL key (l.take (k + 1)) = flowS key (flowL key (l.take k)) x := by
  unfold flowL
  rw [List.take_add_one, h, List.foldl_append]
  rfl
theorem cl_in {a n : Int} (ha : 0 ≤ a) (hn : 0 ≤ n) : 0 ≤ cl a n ∧ cl a n ≤ 1152921504606846976 := by
  unfold cl
  omega
theorem flowS_in {key : ByteArray} {p : Int × Int} {x : Ln} (h : (0 ≤ p.1 ∧ p.1 ≤ 1152921504606846976) ∧ 0 ≤ p.2 ∧ p.2 ≤ 1152921504606846976) : (0 ≤ (flowS key p x).1 ∧ (flowS key p x).1 ≤ 1152921504606846976) ∧ 0 ≤ (flowS key p x).2 ∧ (flowS key p x).2 ≤ 1152921504606846976 := by
  unfold flowS
  split
  · rename_i ho
    have hn := (okL_iff.1 ho.2).2.2
    split
    · exact ⟨cl_in h.1.1 (by omega), h.2⟩
    · split
      · exact ⟨h.1, cl_in h.2.1 (by omega)⟩
      · exact h
  · exact h
theorem flowL_in (key : ByteArray) (l : List Ln) : (0 ≤ (flowL key l).1 ∧ (flowL key l).1 ≤ 1152921504606846976) ∧ 0 ≤ (flowL key l).2 ∧ (flowL key l).2 ≤ 1152921504606846976 := by
  unfold flowL
  have : ∀ (l : List Ln) (p : Int × Int), ((0 ≤ p.1 ∧ p.1 ≤ 1152921504606846976) ∧ 0 ≤ p.2 ∧ p.2 ≤ 1152921504606846976) → ((0 ≤ (l.foldl (flowS key) p).1 ∧ (l.foldl (flowS key) p).1 ≤ 1152921504606846976) ∧ 0 ≤ (l.foldl (flowS key) p).2 ∧ (l.foldl (flowS key) p).2 ≤ 1152921504606846976) := by
    intro l
    induction l with
    | nil => exact fun p h => h
    | cons x l ih => exact fun p h => ih _ (flowS_in h)
  exact this l (0, 0) (by dsimp only; omega)
end Bo
def GivesFlow (w : World) (key : ByteArray) (l : List Bo.Ln) (e : Ending) (w' : World) : Prop :=
  e = .returned (.tuple #[.int .i64 (Bo.flowL key l).1, .int .i64 (Bo.flowL key l).2]) ∧ Below w.heap.size w w'
set_option maxRecDepth 100000 in
set_option maxHeartbeats 16000000 in
theorem flow_any (key : ByteArray) (A : Option Addr) (n c : Nat) (l : List Bo.Ln) (w : World) (hr : RdL w A n l) (hn : n ≤ 1000000) :
    Calls Try.prog 18 #[.string key, .slice A n c] w (GivesFlow w key l) := by
  have HR := Lib.hid hr
  have HL := Lib.hid hr.1
  clear hr
  go_enter Try.func18, Try.ntmps18
  go_wp2
  go_loopw [6, 7, 12] (fun s6 s7 ii wr => ∃ (k : Nat) (a b : Int), k ≤ n ∧ ii = .int .i64 (k : Int) ∧ s6 = .int .i64 a ∧ s7 = .int .i64 b ∧ Hid (Bo.flowL key (l.take k) = (a, b)) ∧ Hid (Below w.heap.size w wr)) (fun _ _ ii _ => n - (intOf ii).toNat)
  case atStart => exact ⟨0, 0, 0, by omega, rfl, rfl, rfl, Lib.hid rfl, Lib.hid (Below.refl _ _)⟩
  case round =>
    rename_i wr hrel
    obtain ⟨k, a, b, hk, rfl, rfl, rfl, HI, HB⟩ := hrel
    by_cases hlt : k < n
    · have hki : (k : Int) < (n : Int) := by omega
      obtain ⟨x, hx⟩ : ∃ x, l[k]? = some x := ⟨_, List.getElem?_eq_getElem (by rw [HL.out]; exact hlt)⟩
      obtain ⟨g, o, rfl, hbl, hcell⟩ := HR.out.at_ hx
      have hks := (HR.out.2.2 x (List.mem_of_getElem? hx)).1
      have HS := Lib.hid (Bo.flowL_snoc key hx)
      have hab := Bo.flowL_in key (l.take k)
      rw [HI.out] at hab
      dsimp only at hab
      have HCl := Lib.hid (fun (u : World) => checkl_any x u hks)
      have HOk := Lib.hid (fun (h : Bo.okL x = true) => Bo.okL_iff.1 h)
      obtain ⟨kind, key2, nn⟩ := x
      have e0 : wr.cell? ⟨g, o + k * 3, none⟩ = some (.int .i64 kind) := (HB.out.cell hbl).trans (hcell 0 _ rfl)
      have e1 : wr.cell? ⟨g, o + k * 3 + 1, none⟩ = some (.string key2) := (HB.out.cell hbl).trans (hcell 1 _ rfl)
      have e2 : wr.cell? ⟨g, o + k * 3 + 2, none⟩ = some (.int .i64 nn) := (HB.out.cell hbl).trans (hcell 2 _ rfl)
      have HBa := Lib.hid (HB.out.alloc HB.out.size (.cells #[Value.int .i64 kind, .string key2, .int .i64 nn] 25))
      have HLx := Lib.hid (Holds.new wr #[Value.int .i64 kind, .string key2, .int .i64 nn] 25)
      replace HCl : Hid (∀ u : World, Calls Try.prog 11 #[.agg #[.int .i64 kind, .string key2, .int .i64 nn]] u fun e w' => e = .returned (.int .i64 (if Bo.okL ⟨kind, key2, nn⟩ then 0 else 230)) ∧ Below u.heap.size u w') := HCl
      clear hx hks hcell hbl
      by_cases hkk : key2 = key
      · have g0 : (key2.toList == key.toList) = true := by rw [hkk]; exact Bo.byt_same key
        cases ho : Bo.okL ⟨kind, key2, nn⟩ with
        | false =>
          have HF := Lib.hid (show Bo.flowL key (l.take (k + 1)) = (a, b) by rw [HS.out, HI.out]; unfold Bo.flowS; rw [if_neg (fun h => by rw [ho] at h; exact nomatch h.2)])
          rw [ho] at HCl
          clear ho hkk HOk HS HI
          go_wp2_with fail
          refine (HCl.out _).mono ?_
          rintro e w1 ⟨rfl, hb1⟩
          have HB1 := Lib.hid (below_next HBa.out hb1)
          clear hb1
          go_wp2
          go_roundw
          case rel => exact ⟨k + 1, a, b, by omega, by go_num, rfl, rfl, HF, HB1⟩
          case measure => simp [intOf]; omega
        | true =>
          have HF := Lib.hid (show Bo.flowL key (l.take (k + 1)) = (if kind = 1 ∨ kind = 8 then (Bo.cl a nn, b) else if kind = 2 ∨ kind = 4 ∨ kind = 7 then (a, Bo.cl b nn) else (a, b)) by rw [HS.out, HI.out]; unfold Bo.flowS; rw [if_pos ⟨hkk, ho⟩])
          rw [ho] at HCl
          obtain ⟨hkd, _, hnn⟩ := HOk.out ho
          dsimp only at hkd hnn
          clear ho hkk HOk HS HI
          have hall : kind = 1 ∨ kind = 2 ∨ kind = 3 ∨ kind = 4 ∨ kind = 5 ∨ kind = 6 ∨ kind = 7 ∨ kind = 8 := by omega
          clear hkd
          go_wp2_with fail
          refine (HCl.out _).mono ?_
          rintro e w1 ⟨rfl, hb1⟩
          have HB1 := Lib.hid (below_next HBa.out hb1)
          have HL1 := Lib.hid (HLx.out.below hb1)
          clear hb1 e0 e1 e2
          have c0 := HL1.out.at_ 0 rfl
          have c1 := HL1.out.at_ 1 rfl
          have c2 := HL1.out.at_ 2 rfl
          rcases hall with rfl | rfl | rfl | rfl | rfl | rfl | rfl | rfl
          · have h1 : -9223372036854775808 ≤ a + nn := by omega
            have h2 : a + nn ≤ 9223372036854775807 := by omega
            have HG := Lib.hid (show Bo.flowL key (l.take (k + 1)) = (min 1152921504606846976 (a + nn), b) by rw [HF.out]; rfl)
            clear HF
            go_wp2
            go_roundw
            case rel => exact ⟨k + 1, _, _, by omega, by go_num, rfl, rfl, HG, HB1⟩
            case measure => simp [intOf]; omega
          · have h1 : -9223372036854775808 ≤ b + nn := by omega
            have h2 : b + nn ≤ 9223372036854775807 := by omega
            have HG := Lib.hid (show Bo.flowL key (l.take (k + 1)) = (a, min 1152921504606846976 (b + nn)) by rw [HF.out]; rfl)
            clear HF
            go_wp2
            go_roundw
            case rel => exact ⟨k + 1, _, _, by omega, by go_num, rfl, rfl, HG, HB1⟩
            case measure => simp [intOf]; omega
          · have HG := Lib.hid (show Bo.flowL key (l.take (k + 1)) = (a, b) by rw [HF.out]; rfl)
            clear HF
            go_wp2
            go_roundw
            case rel => exact ⟨k + 1, a, b, by omega, by go_num, rfl, rfl, HG, HB1⟩
            case measure => simp [intOf]; omega
          · have h1 : -9223372036854775808 ≤ b + nn := by omega
            have h2 : b + nn ≤ 9223372036854775807 := by omega
            have HG := Lib.hid (show Bo.flowL key (l.take (k + 1)) = (a, min 1152921504606846976 (b + nn)) by rw [HF.out]; rfl)
            clear HF
            go_wp2
            go_roundw
            case rel => exact ⟨k + 1, _, _, by omega, by go_num, rfl, rfl, HG, HB1⟩
            case measure => simp [intOf]; omega
          · have HG := Lib.hid (show Bo.flowL key (l.take (k + 1)) = (a, b) by rw [HF.out]; rfl)
            clear HF
            go_wp2
            go_roundw
            case rel => exact ⟨k + 1, a, b, by omega, by go_num, rfl, rfl, HG, HB1⟩
            case measure => simp [intOf]; omega
          · have HG := Lib.hid (show Bo.flowL key (l.take (k + 1)) = (a, b) by rw [HF.out]; rfl)
            clear HF
            go_wp2
            go_roundw
            case rel => exact ⟨k + 1, a, b, by omega, by go_num, rfl, rfl, HG, HB1⟩
            case measure => simp [intOf]; omega
          · have h1 : -9223372036854775808 ≤ b + nn := by omega
            have h2 : b + nn ≤ 9223372036854775807 := by omega
            have HG := Lib.hid (show Bo.flowL key (l.take (k + 1)) = (a, min 1152921504606846976 (b + nn)) by rw [HF.out]; rfl)
            clear HF
            go_wp2
            go_roundw
            case rel => exact ⟨k + 1, _, _, by omega, by go_num, rfl, rfl, HG, HB1⟩
            case measure => simp [intOf]; omega
          · have h1 : -9223372036854775808 ≤ a + nn := by omega
            have h2 : a + nn ≤ 9223372036854775807 := by omega
            have HG := Lib.hid (show Bo.flowL key (l.take (k + 1)) = (min 1152921504606846976 (a + nn), b) by rw [HF.out]; rfl)
            clear HF
            go_wp2
            go_roundw
            case rel => exact ⟨k + 1, _, _, by omega, by go_num, rfl, rfl, HG, HB1⟩
            case measure => simp [intOf]; omega
      · have g0 : (key2.toList == key.toList) = false := Bo.byt_other hkk
        have HF := Lib.hid (show Bo.flowL key (l.take (k + 1)) = (a, b) by rw [HS.out, HI.out]; unfold Bo.flowS; rw [if_neg (fun h => hkk h.1)])
        clear hkk HOk HS HI HCl
        go_wp2
        go_roundw
        case rel => exact ⟨k + 1, a, b, by omega, by go_num, rfl, rfl, HF, HBa⟩
        case measure => simp [intOf]; omega
    · have hke : k = n := by omega
      obtain rfl : n = k := hke.symm
      have hnk : ¬ (n : Int) < (n : Int) := by omega
      clear hlt
      have HF := Lib.hid (show Bo.flowL key l = (a, b) by have h := HI.out; rw [List.take_of_length_le (Nat.le_of_eq HL.out)] at h; exact h)
      clear HI
      go_wp2
      go_ret2
      unfold GivesFlow
      rw [HF.out]
      exact ⟨rfl, HB.out⟩
end Go.Proofs.Ytcoekdfmfjglpaa
