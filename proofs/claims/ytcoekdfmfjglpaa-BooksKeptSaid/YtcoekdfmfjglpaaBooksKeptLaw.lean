/- Nothing is made or lost: of each key, what there is is what came less what went. -/
import Derived.Test.YtcoekdfmfjglpaaBoKept
import Derived.Test.YtcoekdfmfjglpaaBoLaw
import Derived.Test.YtcoekdfmfjglpaaIns
import Derived.Test.YtcoekdfmfjglpaaHolds
import Derived.WalkKit
import Derived.ProofKit
import Derived.OpenShut
import Derived.ShutString
import Derived.ChangeOld
import Derived.Below
import Derived.Deep.RegionHeld
namespace Go.Proofs.Ytcoekdfmfjglpaa.booksKept
open Go.ChangeShapes Go.WideShapes Go.ChangeAt Go.RowKit
set_option linter.unusedVariables false
theorem own : ownKnob Try.prog.godebug = none := by kernel_rfl
theorem laidOut : laidOutB Try.prog = true := by kernel_rfl
set_option maxRecDepth 100000 in
set_option maxHeartbeats 16000000 in
theorem walk (A0 : Option Addr) (m0 c0 : Nat) (l0 : List Bo.Ln) (w : World) (r0 : RdL w A0 m0 l0) (wc0 : m0 ≤ c0) (w0 : m0 ≤ 9223372036854775807) :
    Calls Try.prog 4 #[.slice A0 m0 c0] w fun e w' => e = .returned (.bool true) ∧ Below w.heap.size w w' := by
-- heartbeats 16000000
  have HRa := Lib.hid r0
  have HFw := Lib.hid (few_any A0 m0 c0 l0 w HRa.out w0)
  go_enter Try.func4, Try.ntmps4
  go_wp2_with fail
  refine HFw.out.mono ?_
  rintro e v1 ⟨B, c, rfl, hf, hr, hb⟩
  have HR1 := Lib.hid hr
  have HB1 := Lib.hid hb
  have HT := Lib.hid (show (Bo.few l0).length ≤ 60 by unfold Bo.few; rw [List.length_map, List.length_take]; omega)
  clear hr hb HFw HRa r0
  generalize Bo.few l0 = L at *
  generalize hN : L.length = N at *
  have HN := Lib.hid hN
  clear hN
  have hN60 : N ≤ 60 := HT.out
  have HSu := Lib.hid (sum_any B N c L v1 HR1.out (by omega))
  go_wp2_with fail
  refine HSu.out.mono ?_
  rintro e v2 ⟨B2, c2, rfl, ho2, hb2⟩
  have HO2 := Lib.hid ho2
  have HB2 := Lib.hid hb2
  have HBw := Lib.hid (below_next HB1.out hb2)
  have HR2 := Lib.hid (RdL.below HR1.out hb2)
  clear ho2 hb2 HSu HR1
  by_cases hz : (Bo.sumL L).2.2 = 0
  · have HAll := Lib.hid (Bo.sumR_all (l := L) (T := []) (i := 0) List.Pairwise.nil (fun x hx => nomatch hx) hz)
    have HKe := Lib.hid (fun (x : Bo.Tt) (hx : x ∈ (Bo.sumL L).1) => Bo.kept (l := L) hz hx)
    rw [hz]
    clear hz
    replace HAll : Hid (Bo.Srt (Bo.sumL L).1 ∧ Bo.InT (Bo.sumL L).1 ∧ (∀ key, Bo.tot (Bo.get (Bo.sumL L).1 key) = Bo.tot (Bo.get [] key) + Bo.inU key L - Bo.outU key L) ∧ (∀ y ∈ ([] : List Bo.Tt), ∃ z ∈ (Bo.sumL L).1, z.key = y.key) ∧ (∀ x ∈ L, ∃ z ∈ (Bo.sumL L).1, z.key = x.key) ∧ ∀ x ∈ L, Bo.okL x = true) := HAll
    generalize (Bo.sumL L).1 = T at *
    generalize (Bo.sumL L).2.1 = idx at *
    have HRt := Lib.hid (show RdT v2 B2 T.length T from ⟨rfl, HO2.out.rd, fun x hx => by have := Bo.nm_le (HAll.out.2.1 x hx).2; omega⟩)
    have hMm := own_most HO2.out
    generalize hM : T.length = M at *
    have HM := Lib.hid hM
    clear hM HO2
    go_wp2_with fail
    go_loopw [6] (fun ii wr => ∃ (k : Nat), k ≤ M ∧ ii = .int .i64 (k : Int) ∧ Hid (Below v2.heap.size v2 wr)) (fun ii _ => M - (intOf ii).toNat)
    case atStart => exact ⟨0, by omega, rfl, Lib.hid (Below.refl _ _)⟩
    case round =>
      obtain ⟨k, hk, rfl, HB⟩ := hrel
      obtain ⟨wo, hwo⟩ : ∃ wo, wo = wr := ⟨wr, rfl⟩
      subst hwo
      by_cases hkM : k < M
      · have hki : (k : Int) < (M : Int) := by omega
        obtain ⟨x, hx⟩ : ∃ x, T[k]? = some x := ⟨_, List.getElem?_eq_getElem (by rw [HM.out]; exact hkM)⟩
        obtain ⟨b, o, rfl, hbl, hcell⟩ := HRt.out.at_ hx
        have hxm := List.mem_of_getElem? hx
        have hin := (HAll.out.2.1 x hxm).1
        have HKx := Lib.hid (HKe.out x hxm)
        have hfl := Bo.flowL_in x.key L
        have e0 : wo.cell? ⟨b, o + k * 4, none⟩ = some (.string x.key) := (HB.out.cell hbl).trans (hcell 0 _ rfl)
        have HFl := Lib.hid (flow_any x.key B N c L wo (RdL.below HR2.out HB.out) (by omega))
        go_wp2_with fail
        refine HFl.out.mono ?_
        rintro e v3 ⟨rfl, hb3⟩
        have HB3 := Lib.hid (below_next HB.out hb3)
        have e1 : v3.cell? ⟨b, o + k * 4 + 1, none⟩ = some (.int .i64 x.free) := (HB3.out.cell hbl).trans (hcell 1 _ rfl)
        have e2 : v3.cell? ⟨b, o + k * 4 + 2, none⟩ = some (.int .i64 x.held) := (HB3.out.cell hbl).trans (hcell 2 _ rfl)
        have e3 : v3.cell? ⟨b, o + k * 4 + 3, none⟩ = some (.int .i64 x.out) := (HB3.out.cell hbl).trans (hcell 3 _ rfl)
        clear e0 hb3 HFl hx hxm hcell hbl
        generalize hfa : (Bo.flowL x.key L).1 = fa at *
        generalize hfb : (Bo.flowL x.key L).2 = fb at *
        clear hfa hfb
        obtain ⟨xk, F, H, O⟩ := x
        unfold Bo.InX at hin
        dsimp only at hin HKx e1 e2 e3
        by_cases h1 : fa < 1152921504606846976
        · have d1 : decide (fa < 1152921504606846976) = true := decide_eq_true h1
          by_cases h2 : fb < 1152921504606846976
          · have d2 : decide (fb < 1152921504606846976) = true := decide_eq_true h2
            have g1 : -9223372036854775808 ≤ F + H := by omega
            have g2 : F + H ≤ 9223372036854775807 := by omega
            have g3 : -9223372036854775808 ≤ F + H + O := by omega
            have g4 : F + H + O ≤ 9223372036854775807 := by omega
            have g5 : -9223372036854775808 ≤ fa - fb := by omega
            have g6 : fa - fb ≤ 9223372036854775807 := by omega
            have g7 : (F + H + O == fa - fb) = true := by rw [HKx.out h1 h2]; simp
            go_wp2_with fail
            go_big_quiet (fail)
            go_wp2
            go_roundw
            case rel => exact ⟨k + 1, by omega, by go_num, Lib.hid (below_drewN HB3.out _)⟩
            case measure => simp [intOf]; omega
          · have d2 : decide (fb < 1152921504606846976) = false := decide_eq_false h2
            go_wp2_with fail
            go_big_quiet (fail)
            go_wp2
            go_roundw
            case rel => exact ⟨k + 1, by omega, by go_num, Lib.hid (below_drewN HB3.out _)⟩
            case measure => simp [intOf]; omega
        · have d1 : decide (fa < 1152921504606846976) = false := decide_eq_false h1
          go_wp2_with fail
          go_big_quiet (fail)
          go_wp2
          go_roundw
          case rel => exact ⟨k + 1, by omega, by go_num, Lib.hid (below_drewN HB3.out _)⟩
          case measure => simp [intOf]; omega
      · have hke : k = M := by omega
        obtain rfl : M = k := hke.symm
        have hnk : ¬ (M : Int) < (M : Int) := by omega
        clear hkM
        go_wp2_with fail
        go_loopw [9] (fun ii wr => ∃ (k : Nat), k ≤ N ∧ ii = .int .i64 (k : Int) ∧ Hid (Below v2.heap.size v2 wr)) (fun ii _ => N - (intOf ii).toNat)
        case atStart => exact ⟨0, by omega, rfl, HB⟩
        case round =>
          obtain ⟨i, hi, rfl, HBi⟩ := hrel
          obtain ⟨wi, hwi⟩ : ∃ wi, wi = wr := ⟨wr, rfl⟩
          subst hwi
          by_cases hiN : i < N
          · have hii : (i : Int) < (N : Int) := by omega
            obtain ⟨x, hx⟩ : ∃ x, L[i]? = some x := ⟨_, List.getElem?_eq_getElem (by rw [HN.out]; exact hiN)⟩
            have HEx := Lib.hid (HAll.out.2.2.2.2.1 x (List.mem_of_getElem? hx))
            obtain ⟨b, o, rfl, hbl, hcell⟩ := HR2.out.at_ hx
            have HKy := Lib.hid (fun (u : World) (hu : Below v2.heap.size v2 u) => (hu.cell (p := ⟨b, o + i * 3 + 1, none⟩) hbl).trans (hcell 1 _ rfl))
            obtain ⟨xkind, xkey, xn⟩ := x
            replace HKy : Hid (∀ u : World, Below v2.heap.size v2 u → u.cell? ⟨b, o + i * 3 + 1, none⟩ = some (.string xkey)) := HKy
            clear hx hcell
            go_wp2_with fail
            go_loopw [10, 11] (fun s10 ii wr => ∃ (k : Nat) (t : Bool), k ≤ M ∧ s10 = .bool t ∧ ii = .int .i64 (k : Int) ∧ Hid (Bo.Seen T xkey k t) ∧ Hid (Below v2.heap.size v2 wr)) (fun _ ii _ => M - (intOf ii).toNat)
            case atStart => exact ⟨0, false, by omega, rfl, rfl, Lib.hid (Bo.Seen.begin_ T xkey), HBi⟩
            case round =>
              obtain ⟨k, t, hk, rfl, rfl, HTt, HBk⟩ := hrel
              by_cases hkM : k < M
              · have hki : (k : Int) < (M : Int) := by omega
                obtain ⟨y, hy⟩ : ∃ y, T[k]? = some y := ⟨_, List.getElem?_eq_getElem (by rw [HM.out]; exact hkM)⟩
                obtain ⟨g, q, rfl, hgl, hgc⟩ := HRt.out.at_ hy
                have f0 : wr.cell? ⟨g, q + k * 4, none⟩ = some (.string y.key) := (HBk.out.cell hgl).trans (hgc 0 _ rfl)
                have f1 := HKy.out wr HBk.out
                have HNx := Lib.hid (Bo.Seen.next HTt.out hy)
                clear hy hgl hgc
                cases t with
                | true =>
                  have HNx : Hid (Bo.Seen T xkey (k + 1) true) := HNx
                  clear HTt
                  go_wp2_with fail
                  go_big_quiet (fail)
                  go_wp2
                  go_roundw
                  case rel => exact ⟨k + 1, true, by omega, rfl, by go_num, HNx, Lib.hid (below_drewN HBk.out _)⟩
                  case measure => simp [intOf]; omega
                | false =>
                  by_cases hke : y.key = xkey
                  · have g0 : (y.key.toList == xkey.toList) = true := by rw [hke]; exact Bo.byt_same xkey
                    have HNx : Hid (Bo.Seen T xkey (k + 1) true) := Lib.hid (by have h := HNx.out; rw [decide_eq_true hke] at h; exact h)
                    clear HTt hke
                    go_wp2_with fail
                    go_big_quiet (fail)
                    go_wp2
                    go_roundw
                    case rel => exact ⟨k + 1, true, by omega, rfl, by go_num, HNx, Lib.hid (below_drewN HBk.out _)⟩
                    case measure => simp [intOf]; omega
                  · have g0 : (y.key.toList == xkey.toList) = false := Bo.byt_other hke
                    have HNx : Hid (Bo.Seen T xkey (k + 1) false) := Lib.hid (by have h := HNx.out; rw [decide_eq_false hke] at h; exact h)
                    clear HTt hke
                    go_wp2_with fail
                    go_big_quiet (fail)
                    go_wp2
                    go_roundw
                    case rel => exact ⟨k + 1, false, by omega, rfl, by go_num, HNx, Lib.hid (below_drewN HBk.out _)⟩
                    case measure => simp [intOf]; omega
              · have hke : k = M := by omega
                obtain rfl : M = k := hke.symm
                have hnk : ¬ (M : Int) < (M : Int) := by omega
                clear hkM
                have ht : t = true := HTt.out.2 (by obtain ⟨z, hz, he⟩ := HEx.out; exact ⟨z, by rw [List.take_of_length_le (Nat.le_of_eq HM.out)]; exact hz, he⟩)
                subst ht
                clear HTt
                go_wp2
                go_roundw
                case rel => exact ⟨i + 1, by omega, by go_num, HBk⟩
                case measure => simp [intOf]; omega
          · have hie : i = N := by omega
            obtain rfl : N = i := hie.symm
            have hni : ¬ (N : Int) < (N : Int) := by omega
            clear hiN
            go_wp2_with fail
            refine (awake_any _).mono ?_
            rintro e v9 ⟨rfl, hb9⟩
            have HF := Lib.hid (below_next (below_next HBw.out HBi.out) hb9)
            clear hb9
            go_wp2
            go_ret
            exact ⟨rfl, HF.out⟩
  · have hno : (Bo.sumL L).1 = [] := Bo.sumR_none hz
    rw [hno]
    generalize (Bo.sumL L).2.2 = E at *
    generalize (Bo.sumL L).2.1 = idx at *
    have hne : (E == 0) = false := beq_eq_false_iff_ne.2 hz
    clear hno HO2
    go_wp2_with fail
    refine (awake_any _).mono ?_
    rintro e v9 ⟨rfl, hb9⟩
    have HF := Lib.hid (below_next HBw.out hb9)
    clear hb9
    go_wp2
    go_ret
    exact ⟨rfl, HF.out⟩
set_option maxRecDepth 100000 in
theorem lifted (os : Os) (started : os.Started) (H : Type) (enc : TypeId × Value → H) :
    ReturnsInHanded {} Try.checked os 4 .any (Rows.booksKeptSpec.pre6 enc Try.prog Try.f4 Rows.booksKeptRow.domain false) (Rows.booksKeptSpec.post enc Try.prog Try.f4 false true false false) := by
  refine returnsInHanded_of_change (C := Try.checked) own started (by kernel_rfl) Try.func4
    (ChangeSpec.witness6 (enc := enc) (C := Try.checked) false ⟨#[], #[.slice none 0 0], []⟩ 8 (by kernel_rfl) (by kernel_rfl) (by kernel_rfl) (by kernel_rfl)) ?_
  intro W base args ds gs before hval0 hW hcnd _
  have hval : ∀ (j : Nat) t v, Try.f4.params[j]? = some t → args[j]? = some v → Value.okWide Try.prog W .any base t v := hval0
  have hW' := hW
  obtain ⟨p, q, hA0, hV, rfl, hfz, hnd⟩ := hW
  have hA : DataW.TrodAll enc Try.prog W 0 (fun _ => true) true Try.f4.params.toList args.toList ds p := hA0
  rw [Try.params4] at hA hval
  obtain ⟨v0, vs0, d0, ds0, p0, q0, hargs, rfl, rfl, h0, t0⟩ := trodAll_cons hA
  obtain ⟨rfl, rfl, rfl⟩ := trodAll_nil t0
  obtain rfl : args = #[v0] := by cases args; simp_all
  obtain ⟨rfl, rfl⟩ := trodVars_none hV
  have k0 : Reads enc W 27 v0 d0 p0 := h0
  have lt0 : ∀ x ∈ p0, x.block < W.heap.size := by obtain ⟨m, hm⟩ := k0; exact DataW.trod_lt m _ _ _ hm
  obtain ⟨A0, m0, c0, l0, rfl, r0, wc0, w0⟩ := in_lines (hval 0 27 v0 rfl rfl) k0
  clear hA0 hval0
  refine (walk A0 m0 c0 l0 W r0 wc0 w0).mono fun e W' ⟨he, bel⟩ => ?_
  subst he
  exact ⟨_, rfl, _, _, _, [], _, [], hW', trodAll_mk1 (shut_bool Try.underlying4 _), (trodAll_cons_mk (Below.trod laidOut (by kernel_rfl) (of_decide_eq_true (by kernel_rfl)) k0 bel lt0) trodAll_mk0), rfl, bel.frame _, fun h => by cases h⟩
theorem over : Rows.booksKeptRow.holds Try.pinned (OpenSpec.ofChange Rows.booksKeptSpec) :=
  OpenClaim.holds_of_wide 4 Try.f4 rfl rfl rfl rfl rfl rfl rfl ⟨rfl, rfl, rfl, rfl, rfl⟩ rfl rfl rfl rfl rfl (by kernel_rfl) Try.func4 (by kernel_rfl)
    (of_decide_eq_true (by kernel_rfl)) (by unfold Func.isWrapper; first | (rw [if_pos (by decide +kernel)]; kernel_rfl) | (rw [if_neg (by decide +kernel)]; exact ⟨rfl, rfl⟩))
    (fun os started H enc _ => lifted os started H enc)
theorem proved : Rows.BooksKeptSaid := over
end Go.Proofs.Ytcoekdfmfjglpaa.booksKept
