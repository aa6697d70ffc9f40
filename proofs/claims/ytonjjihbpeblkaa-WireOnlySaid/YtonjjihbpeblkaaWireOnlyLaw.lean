/- Whatever bytes: a request, a reply or a message that is read out of them is written again as just these bytes; where none is read, the error and zeros are told. -/
import Derived.Test.YtonjjihbpeblkaaWrLaw
import Derived.Test.YtonjjihbpeblkaaIns
import Derived.Test.YtonjjihbpeblkaaHolds
import Derived.WalkKit
import Derived.ProofKit
import Derived.OpenShut
import Derived.ShutString
import Derived.ChangeOld
import Derived.Below
import Derived.Deep.RegionHeld
namespace Go.Proofs.Ytonjjihbpeblkaa.wireOnly
open Go.ChangeShapes Go.WideShapes Go.ChangeAt Go.RowKit
set_option linter.unusedVariables false
theorem own : ownKnob Try.prog.godebug = none := by kernel_rfl
theorem laidOut : laidOutB Try.prog = true := by kernel_rfl
set_option maxRecDepth 100000 in
set_option maxHeartbeats 8000000 in
theorem walk (A0 : Option Addr) (m0 c0 : Nat) (l0 : List Nat) (w : World) (r0 : Rd w A0 m0 l0) (wc0 : m0 ≤ c0) (w0 : m0 ≤ 9223372036854775807) :
    Calls Try.prog 7 #[.slice A0 m0 c0] w fun e w' => e = .returned (.bool true) ∧ Below w.heap.size w w' := by
  -- heartbeats 8000000
  have hcut := fun (wx : World) => cut_any A0 m0 c0 l0 wx r0.1 wc0 w0
  have hlen : (l0.take 5000).length ≤ c0 := by rw [List.length_take, r0.1]; omega
  have h5 : (l0.take 5000).length ≤ 5000 := by rw [List.length_take]; omega
  have hl : Rd w A0 (l0.take 5000).length (l0.take 5000) := by
    have h := r0.take (k := (l0.take 5000).length) (by rw [List.length_take, r0.1]; omega)
    rw [List.length_take] at h ⊢
    rw [show l0.take (min 5000 l0.length) = l0.take 5000 by rw [← List.take_take, List.take_length]] at h
    exact h
  generalize l0.take 5000 = l at *
  have hlt := hl.2.1
  have g1 := fun (wx : World) (hb : Below w.heap.size w wx) => wread_any A0 l.length c0 l wx (hl.below hb) hlen (by omega)
  have g2 := fun (wx : World) (hb : Below w.heap.size w wx) => wreadreply_any A0 l.length c0 l wx (hl.below hb) hlen (by omega)
  have g3 := fun (wx : World) (hb : Below w.heap.size w wx) => wreadmsg_any A0 l.length c0 l wx (hl.below hb) hlen (by omega)
  have d1 := fun (X : Wr.Rq) (h : Wr.askRead l = some X) (wx : World) => Wr.ask_only hlt h ▸ wbytes_any X (Wr.ask_small h) wx
  have d2 := fun (X : Wr.Rp) (h : Wr.repRead l = some X) (wx : World) => Wr.rep_only hlt h ▸ wrepbytes_any X (Wr.rep_small h) wx
  have d3 := fun (X : Wr.Mg) (h : Wr.msgRead l = some X) (wx : World) => Wr.msg_only hlt h ▸ wmsgbytes_any X (Wr.msg_small h) wx
  have hcv := fun (A : Option Addr) (c : Nat) (wx : World) (h : Rd wx A l.length l) => (run_str (cap := c) h : (convert 25 9 (.slice A l.length c)).run Try.prog wx = .ok (.string (str l)) wx)
  have HCut := Lib.hid hcut
  have HL := Lib.hid hl
  have G1 := Lib.hid g1
  have G2 := Lib.hid g2
  have G3 := Lib.hid g3
  have D1 := Lib.hid d1
  have D2 := Lib.hid d2
  have D3 := Lib.hid d3
  have HCv := Lib.hid hcv
  clear hcut hl g1 g2 g3 d1 d2 d3 hcv hlt r0
  go_enter Try.func7, Try.ntmps7
  go_wp2_with fail
  refine (HCut.out _).mono ?_
  rintro e v0 ⟨rfl, rfl⟩
  go_wp2_with fail
  refine (awake_any _).mono ?_
  rintro e v1 ⟨rfl, hb⟩
  have HB := Lib.hid hb
  clear hb
  go_wp2_with fail
  refine (G1.out _ HB.out).mono ?_
  intro e v2 h
  obtain ⟨X, E1, rfl, hb, hX⟩ := ask_uni h
  replace HB := Lib.hid (below_next HB.out hb)
  obtain ⟨xk, xs, xd, xn, xu, xp, xq⟩ := X
  have HX := Lib.hid hX
  have HA := Lib.hid (HB.out.alloc HB.out.size (.cells #[.int .i64 xk, .string xs, .int .i64 xd, .int .i64 xn, .int .i64 xu, .int .i64 xp, .int .i64 xq] 24))
  clear h hb hX
  simp only [Wr.Rq.cells]
  go_upto_if 25 with fail
  go_cut [5, 6] from 26 to 39 (fun s5 s6 wx => Below w.heap.size w wx)
  case first =>
    rcases HX.out with ⟨rfl, _, _⟩ | ⟨rfl, hs⟩
    · go_wp2_with fail
      go_meet
      exact HA.out
    · have Hs := Lib.hid hs
      clear hs
      go_wp2_with fail
      refine (D1.out _ Hs.out _).mono ?_
      rintro e v3 ⟨A5, c5, rfl, ho5, hb5⟩
      have hb6 := below_next HA.out hb5
      have k1 := HCv.out A5 c5 v3 ho5.rd
      have k2 := HCv.out A0 c0 v3 (HL.out.below hb6)
      have HB6 := Lib.hid hb6
      clear hb5 hb6 ho5
      go_wp2_with fail
      go_meet
      exact HB6.out
  case rest =>
    replace HB := Lib.hid hcut
    clear hcut HX HA
    go_wp2_with fail
    refine (G2.out _ HB.out).mono ?_
    intro e v4 h
    obtain ⟨X, E2, rfl, hb, hX⟩ := rep_uni h
    replace HB := Lib.hid (below_next HB.out hb)
    obtain ⟨xe, xn, xq, xf, xh⟩ := X
    have HX := Lib.hid hX
    have HA := Lib.hid (HB.out.alloc HB.out.size (.cells #[.int .i64 xe, .int .i64 xn, .int .i64 xq, .int .i64 xf, .int .i64 xh] 36))
    clear h hb hX
    simp only [Wr.Rp.cells]
    go_upto_if 46 with fail
    go_cut [9, 10] from 47 to 60 (fun s9 s10 wx => Below w.heap.size w wx)
    case first =>
      rcases HX.out with ⟨rfl, _, _⟩ | ⟨rfl, hs⟩
      · go_wp2_with fail
        go_meet
        exact HA.out
      · have Hs := Lib.hid hs
        clear hs
        go_wp2_with fail
        refine (D2.out _ Hs.out _).mono ?_
        rintro e v5 ⟨A5, c5, rfl, ho5, hb5⟩
        have hb6 := below_next HA.out hb5
        have k1 := HCv.out A5 c5 v5 ho5.rd
        have k2 := HCv.out A0 c0 v5 (HL.out.below hb6)
        have HB6 := Lib.hid hb6
        clear hb5 hb6 ho5
        go_wp2_with fail
        go_meet
        exact HB6.out
    case rest =>
      replace HB := Lib.hid hcut
      clear hcut HX HA
      go_wp2_with fail
      refine (G3.out _ HB.out).mono ?_
      intro e v6 h
      obtain ⟨X, E3, rfl, hb, hX⟩ := msg_uni h
      replace HB := Lib.hid (below_next HB.out hb)
      rcases hX with ⟨rfl, rfl, _⟩ | ⟨rfl, hs⟩
      · have HA := Lib.hid (HB.out.alloc HB.out.size (.cells #[.int .i64 0, .int .i64 0, .int .i64 0, .string ⟨#[]⟩, .int .i64 0] 43))
        clear h hb
        simp only [Wr.Mg.cells, Wr.Mg.bare]
        go_wp2_with fail
        go_ret
        exact ⟨rfl, HA.out⟩
      · obtain ⟨xk, xp, xq, xs, xn⟩ := X
        have HA := Lib.hid (HB.out.alloc HB.out.size (.cells #[.int .i64 xk, .int .i64 xp, .int .i64 xq, .string xs, .int .i64 xn] 43))
        have Hs := Lib.hid hs
        clear h hb hs
        simp only [Wr.Mg.cells]
        go_wp2_with fail
        refine (D3.out _ Hs.out _).mono ?_
        rintro e v7 ⟨A5, c5, rfl, ho5, hb5⟩
        have hb6 := below_next HA.out hb5
        have k1 := HCv.out A5 c5 v7 ho5.rd
        have k2 := HCv.out A0 c0 v7 (HL.out.below hb6)
        have HB6 := Lib.hid hb6
        clear hb5 hb6 ho5
        go_wp2_with fail
        go_ret
        exact ⟨rfl, HB6.out⟩
set_option maxRecDepth 100000 in
theorem lifted (os : Os) (started : os.Started) (H : Type) (enc : TypeId × Value → H) :
    ReturnsInHanded {} Try.checked os 7 .any (Rows.wireOnlySpec.pre6 enc Try.prog Try.f7 Rows.wireOnlyRow.domain false) (Rows.wireOnlySpec.post enc Try.prog Try.f7 false true false false) := by
  refine returnsInHanded_of_change (C := Try.checked) own started (by kernel_rfl) Try.func7
    (ChangeSpec.witness6 (enc := enc) (C := Try.checked) false ⟨#[], #[.slice none 0 0], []⟩ 8 (by kernel_rfl) (by kernel_rfl) (by kernel_rfl) (by kernel_rfl)) ?_
  intro W base args ds gs before hval0 hW hcnd _
  have hval : ∀ (j : Nat) t v, Try.f7.params[j]? = some t → args[j]? = some v → Value.okWide Try.prog W .any base t v := hval0
  have hW' := hW
  obtain ⟨p, q, hA0, hV, rfl, hfz, hnd⟩ := hW
  have hA : DataW.TrodAll enc Try.prog W 0 (fun _ => true) true Try.f7.params.toList args.toList ds p := hA0
  rw [Try.params7] at hA hval
  obtain ⟨v0, vs0, d0, ds0, p0, q0, hargs, rfl, rfl, h0, t0⟩ := trodAll_cons hA
  obtain ⟨rfl, rfl, rfl⟩ := trodAll_nil t0
  obtain rfl : args = #[v0] := by cases args; simp_all
  obtain ⟨rfl, rfl⟩ := trodVars_none hV
  have k0 : Reads enc W 25 v0 d0 p0 := h0
  have lt0 : ∀ x ∈ p0, x.block < W.heap.size := by obtain ⟨m, hm⟩ := k0; exact DataW.trod_lt m _ _ _ hm
  obtain ⟨A0, m0, c0, l0, rfl, r0, wc0, w0⟩ := in_bytes (hval 0 25 v0 rfl rfl) k0
  clear hA0 hval0
  refine (walk A0 m0 c0 l0 W r0 wc0 w0).mono fun e W' ⟨he, bel⟩ => ?_
  subst he
  exact ⟨_, rfl, _, _, _, [], _, [], hW', trodAll_mk1 (shut_bool Try.underlying4 _), (trodAll_cons_mk (Below.trod laidOut (by kernel_rfl) (of_decide_eq_true (by kernel_rfl)) k0 bel lt0) trodAll_mk0), rfl, bel.frame _, fun h => by cases h⟩
theorem over : Rows.wireOnlyRow.holds Try.pinned (OpenSpec.ofChange Rows.wireOnlySpec) :=
  OpenClaim.holds_of_wide 7 Try.f7 rfl rfl rfl rfl rfl rfl rfl ⟨rfl, rfl, rfl, rfl, rfl⟩ rfl rfl rfl rfl rfl (by kernel_rfl) Try.func7 (by kernel_rfl)
    (of_decide_eq_true (by kernel_rfl)) (by unfold Func.isWrapper; first | (rw [if_pos (by decide +kernel)]; kernel_rfl) | (rw [if_neg (by decide +kernel)]; exact ⟨rfl, rfl⟩))
    (fun os started H enc _ => lifted os started H enc)
theorem proved : Rows.WireOnlySaid := over
end Go.Proofs.Ytonjjihbpeblkaa.wireOnly
