/- For every slice of bytes and every string (the first 4096 bytes of each): the number, the text and the key that are taken, written again, are what stood there (P2.6), and the example at the head holds; the arguments stay as they were. No condition. -/
import Derived.Test.YtejijhajgklmgaaStep
import Derived.WalkKit
import Derived.ProofKit
import Derived.OpenShut
import Derived.ShutString
import Derived.ChangeOld
import Derived.Below
import Derived.Deep.RegionHeld
namespace Go.Proofs.Ytejijhajgklmgaa.codeOnly
open Go.ChangeShapes Go.WideShapes Go.ChangeAt Go.RowKit
set_option linter.unusedVariables false
theorem own : ownKnob Try.prog.godebug = none := by kernel_rfl
theorem laidOut : laidOutB Try.prog = true := by kernel_rfl
set_option maxRecDepth 100000 in
set_option maxHeartbeats 8000000 in
theorem walk (A0 : Option Addr) (m0 c0 : Nat) (l0 : List Nat) (s1 : ByteArray) (w : World) (r0 : Rd w A0 m0 l0) (wc0 : m0 ≤ c0) (w0 : m0 ≤ 9223372036854775807) (w1 : s1.size ≤ 9223372036854775807) :
    Calls Try.prog 8 #[.slice A0 m0 c0, .string s1] w fun e w' => e = .returned (.bool true) ∧ Below w.heap.size w w' := by
  -- heartbeats 8000000
  have hl := r0.take (k := min m0 4096) (by omega)
  have hcut := fun w => cut_any A0 m0 c0 wc0 w0 w
  have hmn : min m0 4096 ≤ 4096 := by omega
  have hmc : min m0 4096 ≤ c0 := by omega
  have Hcut := Lib.hid hcut
  clear hcut r0
  generalize l0.take (min m0 4096) = l at hl
  generalize min m0 4096 = m at hl hmn hmc Hcut
  have hsh := fun w => short_any s1 w1 w
  have hcs := cutS_size s1
  have Hsh := Lib.hid hsh
  clear hsh
  generalize cutS s1 = s at *
  have hlm := Lib.hid hl.1
  have hlt := Lib.hid hl.2.1
  go_enter Try.func8, Try.ntmps8
  go_wp2_with fail
  refine (Hcut.out _).mono ?_
  rintro e v1 ⟨rfl, rfl⟩
  go_wp2_with fail
  refine (Hsh.out _).mono ?_
  rintro e v1 ⟨rfl, rfl⟩
  go_wp2_with fail
  refine (awake_any _).mono ?_
  rintro e v2 ⟨rfl, hx2⟩
  have hl2 := hl.below hx2
  clear hl
  go_wp2_with fail
  have ht := takenum_any A0 m c0 l v2 hl2 hmc (by omega)
  rcases htk : Cd.takeNum l with _ | ⟨v, r⟩
  · rw [htk] at ht
    refine ht.mono ?_
    rintro e v3 ⟨rfl, hb3⟩
    have hx5 := (below_next hx2 hb3).drew
    have hl5 := (hl2.below hb3).drew
    clear ht htk hx2 hl2 hb3
    go_wp2_with fail
    go_region
    generalize World.drew v3 = v5 at *
    go_wp2_with fail
    have ht := taketext_any A0 m c0 4096 l v5 hl5 hmc (by omega) (by omega)
    rcases htk : Cd.takeText l 4096 with _ | ⟨t, r⟩
    · rw [htk] at ht
      refine ht.mono ?_
      rintro e v6 ⟨rfl, hb6⟩
      have hx10 := (below_next hx5 hb6).drew
      clear ht htk hx5 hl5 hb6
      go_wp2_with fail
      go_region
      generalize World.drew v6 = v10 at *
      go_wp2_with fail
      have hp := parts_any s (by omega) v10
      rcases hps : Cd.parts (bs s) with _ | ps
      · rw [hps] at hp
        refine hp.mono ?_
        rintro e v11 ⟨rfl, hb11⟩
        go_wp2_with fail
        go_ret
        exact ⟨rfl, below_next hx10 hb11⟩
      · rw [hps] at hp
        obtain ⟨hp8, hkey⟩ := keyOf_parts (bs_lt s) hps
        refine hp.mono ?_
        rintro e v11 ⟨A11, d11, rfl, hq11, _, hb11⟩
        have hx11 := below_next hx10 hb11
        have hsz := parts_size hps (by omega)
        have hk := key_few A11 ps.length d11 ps v11 hq11 hp8 hsz
        rw [hkey, str_bs] at hk
        have Hk := Lib.hid hk
        clear hp hps hx10 hb11 hk hkey hsz hq11
        go_wp2_with fail
        refine Hk.out.mono ?_
        rintro e v12 ⟨rfl, hb12⟩
        go_wp2_with fail
        go_ret
        exact ⟨rfl, below_next hx11 hb12⟩
    · rw [htk] at ht
      obtain ⟨htb, htl, hcat⟩ := text_takeText hlt.out htk
      rw [hlm.out] at htl
      have hstl : (str t).size = t.length := by rw [← bs_length, bs_str htb]
      have htxt : (Cd.text (str t)).length ≤ 4107 := by
        have := Cd.num_length (str t).size
        unfold Cd.text; rw [List.length_append, bs_length]; omega
      have hrl : r.length ≤ 4096 := by
        have := congrArg List.length hcat
        rw [List.length_append, hlm.out] at this
        omega
      refine ht.mono ?_
      rintro e v6 ⟨B6, d6, rfl, hq6, _, hb6⟩
      have hx6 := below_next hx5 hb6
      have hl6 := hl5.below hb6
      have hst : (str t).size ≤ 1000000 := by omega
      clear ht htk hx5 hl5 hb6 htb htl hstl
      have Hcat := Lib.hid hcat
      clear hcat
      generalize str t = u at *
      go_wp2_with fail
      have hd : Below v6.heap.size v6 v6.drew := (Below.refl _ _).drew
      have hcl : ∀ wx : World, Below v6.heap.size v6 wx → (convert 23 9 (.slice A0 m c0)).run Try.prog wx = .ok (.string (str l)) wx := fun wx h => run_str (hl6.below h)
      go_region_held_law (fun w' => Below v6.heap.size v6 w') (first | exact hd | exact hc7 | exact hc8) (first | (go_at_call 20; refine (text_any u hst _).mono ?_; rintro e v7 ⟨A7, c7, rfl, ho7, hb7⟩; have hc7 : Below v6.heap.size v6 v7 := below_next (by assumption) hb7) | (refine step_appB (by simp [Region.wanted, yielded]) (.tmp 47) (.tmp 48) rfl rfl ho7 B6 r.length d6 r rfl (hq6.below hc7) (by omega) hb7.size ?_; intro A8 c8 v10 hg8; have hb8 := hg8.below hb7 hb7.size (fun g hg => (ho7.blk g hg).1); have hc8 : Below v6.heap.size v6 v10 := hd.trans (hb8.mono (by exact Nat.le_refl _)); have ho8 := hg8.own; have hcv8 : ∀ wx : World, Below v10.heap.size v10 wx → (convert 23 9 (.slice A8 ((Cd.text u).length + r.length) c8)).run Try.prog wx = .ok (.string (str l)) wx := fun wx h => (by rw [← Hcat.out]; exact run_str (ho8.rd.below h)); have hr8 : Below v10.heap.size v10 v10 := Below.refl _ _))
      have hx10 := below_next hx6 hc8
      clear hx6 hl6 hc8 hcv8 ho8 hb8 hg8 ho7 hb7 hc7 hd hcl hq6 hrl htxt hst Hcat hr8
      go_wp2_with fail
      have hp := parts_any s (by omega) v10
      rcases hps : Cd.parts (bs s) with _ | ps
      · rw [hps] at hp
        refine hp.mono ?_
        rintro e v11 ⟨rfl, hb11⟩
        go_wp2_with fail
        go_ret
        exact ⟨rfl, below_next hx10 hb11⟩
      · rw [hps] at hp
        obtain ⟨hp8, hkey⟩ := keyOf_parts (bs_lt s) hps
        refine hp.mono ?_
        rintro e v11 ⟨A11, d11, rfl, hq11, _, hb11⟩
        have hx11 := below_next hx10 hb11
        have hsz := parts_size hps (by omega)
        have hk := key_few A11 ps.length d11 ps v11 hq11 hp8 hsz
        rw [hkey, str_bs] at hk
        have Hk := Lib.hid hk
        clear hp hps hx10 hb11 hk hkey hsz hq11
        go_wp2_with fail
        refine Hk.out.mono ?_
        rintro e v12 ⟨rfl, hb12⟩
        go_wp2_with fail
        go_ret
        exact ⟨rfl, below_next hx11 hb12⟩
  · rw [htk] at ht
    obtain ⟨hv, hcat⟩ := num_takeNum hlt.out htk
    have hbd := (takeNum_bound htk).2.1
    have hnl := Cd.num_length v
    rw [hlm.out] at hbd
    refine ht.mono ?_
    rintro e v3 ⟨B3, d3, rfl, hq3, _, hb3⟩
    have hx3 := below_next hx2 hb3
    have hl3 := hl2.below hb3
    clear ht htk hx2 hl2 hb3
    have Hcat := Lib.hid hcat
    have Hv := Lib.hid hv
    clear hcat hv
    go_wp2_with fail
    have hd : Below v3.heap.size v3 v3.drew := (Below.refl _ _).drew
    have hcl : ∀ wx : World, Below v3.heap.size v3 wx → (convert 23 9 (.slice A0 m c0)).run Try.prog wx = .ok (.string (str l)) wx := fun wx h => run_str (hl3.below h)
    go_region_held_law (fun w' => Below v3.heap.size v3 w') (first | exact hd | exact hc4 | exact hc5) (first | (go_at_call 14; refine (num_any v Hv.out _).mono ?_; rintro e v4 ⟨A4, c4, rfl, ho4, hb4⟩; have hc4 : Below v3.heap.size v3 v4 := below_next (by assumption) hb4) | (refine step_appB (by simp [Region.wanted, yielded]) (.tmp 30) (.tmp 31) rfl rfl ho4 B3 r.length d3 r rfl (hq3.below hc4) (by omega) hb4.size ?_; intro A5 c5 v5 hg5; have hb5 := hg5.below hb4 hb4.size (fun g hg => (ho4.blk g hg).1); have hc5 : Below v3.heap.size v3 v5 := hd.trans (hb5.mono (by exact Nat.le_refl _)); have ho5 := hg5.own; have hcv5 : ∀ wx : World, Below v5.heap.size v5 wx → (convert 23 9 (.slice A5 ((Cd.num v).length + r.length) c5)).run Try.prog wx = .ok (.string (str l)) wx := fun wx h => (by rw [← Hcat.out]; exact run_str (ho5.rd.below h)); have hr5 : Below v5.heap.size v5 v5 := Below.refl _ _))
    have hx5 := below_next hx3 hc5
    have hl5 := hl3.below hc5
    clear hx3 hl3 hc5 hcv5 ho5 hb5 hg5 ho4 hb4 hc4 hd hcl hq3 hbd hnl Hcat Hv hr5
    go_wp2_with fail
    have ht := taketext_any A0 m c0 4096 l v5 hl5 hmc (by omega) (by omega)
    rcases htk : Cd.takeText l 4096 with _ | ⟨t, r⟩
    · rw [htk] at ht
      refine ht.mono ?_
      rintro e v6 ⟨rfl, hb6⟩
      have hx10 := (below_next hx5 hb6).drew
      clear ht htk hx5 hl5 hb6
      go_wp2_with fail
      go_region
      generalize World.drew v6 = v10 at *
      go_wp2_with fail
      have hp := parts_any s (by omega) v10
      rcases hps : Cd.parts (bs s) with _ | ps
      · rw [hps] at hp
        refine hp.mono ?_
        rintro e v11 ⟨rfl, hb11⟩
        go_wp2_with fail
        go_ret
        exact ⟨rfl, below_next hx10 hb11⟩
      · rw [hps] at hp
        obtain ⟨hp8, hkey⟩ := keyOf_parts (bs_lt s) hps
        refine hp.mono ?_
        rintro e v11 ⟨A11, d11, rfl, hq11, _, hb11⟩
        have hx11 := below_next hx10 hb11
        have hsz := parts_size hps (by omega)
        have hk := key_few A11 ps.length d11 ps v11 hq11 hp8 hsz
        rw [hkey, str_bs] at hk
        have Hk := Lib.hid hk
        clear hp hps hx10 hb11 hk hkey hsz hq11
        go_wp2_with fail
        refine Hk.out.mono ?_
        rintro e v12 ⟨rfl, hb12⟩
        go_wp2_with fail
        go_ret
        exact ⟨rfl, below_next hx11 hb12⟩
    · rw [htk] at ht
      obtain ⟨htb, htl, hcat⟩ := text_takeText hlt.out htk
      rw [hlm.out] at htl
      have hstl : (str t).size = t.length := by rw [← bs_length, bs_str htb]
      have htxt : (Cd.text (str t)).length ≤ 4107 := by
        have := Cd.num_length (str t).size
        unfold Cd.text; rw [List.length_append, bs_length]; omega
      have hrl : r.length ≤ 4096 := by
        have := congrArg List.length hcat
        rw [List.length_append, hlm.out] at this
        omega
      refine ht.mono ?_
      rintro e v6 ⟨B6, d6, rfl, hq6, _, hb6⟩
      have hx6 := below_next hx5 hb6
      have hl6 := hl5.below hb6
      have hst : (str t).size ≤ 1000000 := by omega
      clear ht htk hx5 hl5 hb6 htb htl hstl
      have Hcat := Lib.hid hcat
      clear hcat
      generalize str t = u at *
      go_wp2_with fail
      have hd : Below v6.heap.size v6 v6.drew := (Below.refl _ _).drew
      have hcl : ∀ wx : World, Below v6.heap.size v6 wx → (convert 23 9 (.slice A0 m c0)).run Try.prog wx = .ok (.string (str l)) wx := fun wx h => run_str (hl6.below h)
      go_region_held_law (fun w' => Below v6.heap.size v6 w') (first | exact hd | exact hc7 | exact hc8) (first | (go_at_call 20; refine (text_any u hst _).mono ?_; rintro e v7 ⟨A7, c7, rfl, ho7, hb7⟩; have hc7 : Below v6.heap.size v6 v7 := below_next (by assumption) hb7) | (refine step_appB (by simp [Region.wanted, yielded]) (.tmp 47) (.tmp 48) rfl rfl ho7 B6 r.length d6 r rfl (hq6.below hc7) (by omega) hb7.size ?_; intro A8 c8 v10 hg8; have hb8 := hg8.below hb7 hb7.size (fun g hg => (ho7.blk g hg).1); have hc8 : Below v6.heap.size v6 v10 := hd.trans (hb8.mono (by exact Nat.le_refl _)); have ho8 := hg8.own; have hcv8 : ∀ wx : World, Below v10.heap.size v10 wx → (convert 23 9 (.slice A8 ((Cd.text u).length + r.length) c8)).run Try.prog wx = .ok (.string (str l)) wx := fun wx h => (by rw [← Hcat.out]; exact run_str (ho8.rd.below h)); have hr8 : Below v10.heap.size v10 v10 := Below.refl _ _))
      have hx10 := below_next hx6 hc8
      clear hx6 hl6 hc8 hcv8 ho8 hb8 hg8 ho7 hb7 hc7 hd hcl hq6 hrl htxt hst Hcat hr8
      go_wp2_with fail
      have hp := parts_any s (by omega) v10
      rcases hps : Cd.parts (bs s) with _ | ps
      · rw [hps] at hp
        refine hp.mono ?_
        rintro e v11 ⟨rfl, hb11⟩
        go_wp2_with fail
        go_ret
        exact ⟨rfl, below_next hx10 hb11⟩
      · rw [hps] at hp
        obtain ⟨hp8, hkey⟩ := keyOf_parts (bs_lt s) hps
        refine hp.mono ?_
        rintro e v11 ⟨A11, d11, rfl, hq11, _, hb11⟩
        have hx11 := below_next hx10 hb11
        have hsz := parts_size hps (by omega)
        have hk := key_few A11 ps.length d11 ps v11 hq11 hp8 hsz
        rw [hkey, str_bs] at hk
        have Hk := Lib.hid hk
        clear hp hps hx10 hb11 hk hkey hsz hq11
        go_wp2_with fail
        refine Hk.out.mono ?_
        rintro e v12 ⟨rfl, hb12⟩
        go_wp2_with fail
        go_ret
        exact ⟨rfl, below_next hx11 hb12⟩
set_option maxRecDepth 100000 in
theorem lifted (os : Os) (started : os.Started) (H : Type) (enc : TypeId × Value → H) :
    ReturnsInHanded {} Try.checked os 8 .any (Rows.codeOnlySpec.pre6 enc Try.prog Try.f8 Rows.codeOnlyRow.domain false) (Rows.codeOnlySpec.post enc Try.prog Try.f8 false true false false) := by
  refine returnsInHanded_of_change (C := Try.checked) own started (by kernel_rfl) Try.func8
    (ChangeSpec.witness6 (enc := enc) (C := Try.checked) false ⟨#[], #[.slice none 0 0, .string ⟨#[]⟩], []⟩ 8 (by kernel_rfl) (by kernel_rfl) (by kernel_rfl) (by kernel_rfl)) ?_
  intro W base args ds gs before hval0 hW hcnd _
  have hval : ∀ (j : Nat) t v, Try.f8.params[j]? = some t → args[j]? = some v → Value.okWide Try.prog W .any base t v := hval0
  have hW' := hW
  obtain ⟨p, q, hA0, hV, rfl, hfz, hnd⟩ := hW
  have hA : DataW.TrodAll enc Try.prog W 0 (fun _ => true) true Try.f8.params.toList args.toList ds p := hA0
  rw [Try.params8] at hA hval
  obtain ⟨v0, vs0, d0, ds0, p0, q0, hargs, rfl, rfl, h0, t0⟩ := trodAll_cons hA
  obtain ⟨v1, vs1, d1, ds1, p1, q1, rfl, rfl, rfl, h1, t1⟩ := trodAll_cons t0
  obtain ⟨rfl, rfl, rfl⟩ := trodAll_nil t1
  obtain rfl : args = #[v0, v1] := by cases args; simp_all
  obtain ⟨rfl, rfl⟩ := trodVars_none hV
  have k0 : Reads enc W 23 v0 d0 p0 := h0
  have lt0 : ∀ x ∈ p0, x.block < W.heap.size := by obtain ⟨m, hm⟩ := k0; exact DataW.trod_lt m _ _ _ hm
  obtain ⟨A0, m0, c0, l0, rfl, r0, wc0, w0⟩ := in_bytes (hval 0 23 v0 rfl rfl) k0
  have k1 : Reads enc W 9 v1 d1 p1 := h1
  have lt1 : ∀ x ∈ p1, x.block < W.heap.size := by obtain ⟨m, hm⟩ := k1; exact DataW.trod_lt m _ _ _ hm
  obtain ⟨s1, rfl, w1⟩ := in_str (hval 1 9 v1 rfl rfl) k1
  clear hA0 hval0
  refine (walk A0 m0 c0 l0 s1 W r0 wc0 w0 w1).mono fun e W' ⟨he, bel⟩ => ?_
  subst he
  exact ⟨_, rfl, _, _, _, [], _, [], hW', trodAll_mk1 (shut_bool Try.underlying4 _), (trodAll_cons_mk (Below.trod laidOut (by kernel_rfl) (of_decide_eq_true (by kernel_rfl)) k0 bel lt0) (trodAll_cons_mk (Below.trod laidOut (by kernel_rfl) (of_decide_eq_true (by kernel_rfl)) k1 bel lt1) trodAll_mk0)), rfl, bel.frame _, fun h => by cases h⟩
theorem over : Rows.codeOnlyRow.holds Try.pinned (OpenSpec.ofChange Rows.codeOnlySpec) :=
  OpenClaim.holds_of_wide 8 Try.f8 rfl rfl rfl rfl rfl rfl rfl ⟨rfl, rfl, rfl, rfl, rfl⟩ rfl rfl rfl rfl rfl (by kernel_rfl) Try.func8 (by kernel_rfl)
    (of_decide_eq_true (by kernel_rfl)) (by unfold Func.isWrapper; first | (rw [if_pos (by decide +kernel)]; kernel_rfl) | (rw [if_neg (by decide +kernel)]; exact ⟨rfl, rfl⟩))
    (fun os started H enc _ => lifted os started H enc)
theorem proved : Rows.CodeOnlySaid := over
end Go.Proofs.Ytejijhajgklmgaa.codeOnly
