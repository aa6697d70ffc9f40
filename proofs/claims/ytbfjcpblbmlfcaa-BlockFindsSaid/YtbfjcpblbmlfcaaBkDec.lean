/- block.Decode: which entries any bytes are. -/
import Derived.Test.YtbfjcpblbmlfcaaBkEqual
import Derived.Test.YtbfjcpblbmlfcaaBkEnc
import Derived.Defers
import Derived.Recover
namespace Go.Proofs.Ytbfjcpblbmlfcaa
open Go.RowKit
theorem below_set {B : Nat} {z w : World} (h : Below B z w) (p : Addr) (v : Value) (hp : B ≤ p.block) : Below B z (w.setCell p v) :=
  h.trans ⟨rfl, rfl, rfl, by simp [World.setCell], fun k hk => Below.heap_setCell _ _ _ _ (fun e => by omega)⟩
theorem Holds.drew {w : World} {b : Nat} {cs : List Value} (k : Holds w b cs) : Holds w.drew b cs := k
theorem EntO.base_ {v : World} {base base' m cap : Nat} {B : Option Addr} {es : List (Bk.En × Bk.Sl)} (h : EntO v base B m cap es) (hb : base' ≤ base) : EntO v base' B m cap es :=
  ⟨h.row.base_ hb, h.len, fun q hq => ⟨(h.vals q hq).1, fun hn g o e => by obtain ⟨a1, a2⟩ := (h.vals q hq).2 hn g o e; exact ⟨Nat.le_trans hb a1, a2⟩⟩⟩
namespace Bk
/-- The panic, behind recover. -/
def panned : FrameMode := .panicking [{ v := .iface 25 (.int .i64 120), recovered := true }]
/-- The bytes are the block of these entries. -/
def good (l : List Nat) (es : List (En × Sl)) : Prop := dec l = some (es.map fun z => z.1) ∧ fine es ∧ out es = l
theorem dec_length {l : List Nat} {L : List En} (hl : ∀ x ∈ l, x < 256) (h : dec l = some L) : L.length ≤ 255 := by
  unfold dec at h
  split at h
  · cases h
  · rename_i c hc
    have := hl c (List.mem_of_getElem? hc)
    rcases hr : run l c with _ | ⟨es, k, p⟩
    · rw [hr] at h; cases h
    · rw [hr] at h
      injection h with h
      subst h
      have := (run_le hr).2.2
      show es.length ≤ 255
      omega
theorem map_at {es fs : List (En × Sl)} (h : es.map (fun z => z.1) = fs.map (fun z => z.1)) {i : Nat} {q : En × Sl} (hq : fs[i]? = some q) : ∃ p, es[i]? = some p ∧ p.1 = q.1 := by
  have h2 : (es.map (fun z => z.1))[i]? = (fs.map (fun z => z.1))[i]? := by rw [h]
  rw [List.getElem?_map, List.getElem?_map, hq] at h2
  rcases he : es[i]? with _ | p
  · rw [he] at h2; cases h2
  · rw [he] at h2
    injection h2 with h2
    exact ⟨p, rfl, h2⟩
theorem map_len {es fs : List (En × Sl)} (h : es.map (fun z => z.1) = fs.map (fun z => z.1)) : es.length = fs.length := by
  have := congrArg List.length h
  simpa using this
theorem shr_same {es fs : List (En × Sl)} (h : es.map (fun z => z.1) = fs.map (fun z => z.1)) (k : Nat) (e : En) : shr es k e = shr fs k e := by
  unfold shr
  split
  · rfl
  · rcases hf : fs[k - 1]? with _ | q
    · have : es[k - 1]? = none := by rw [List.getElem?_eq_none_iff, map_len h, ← List.getElem?_eq_none_iff]; exact hf
      rw [this]
    · obtain ⟨p, h1, h2⟩ := map_at h hf
      rw [h1]
      simp only [h2]
theorem enc_same {es fs : List (En × Sl)} (h : es.map (fun z => z.1) = fs.map (fun z => z.1)) : ∀ k, enc es k = enc fs k
  | 0 => rfl
  | k + 1 => by
    show enc es k ++ _ = enc fs k ++ _
    rw [enc_same h k]
    rcases hf : fs[k]? with _ | q
    · have : es[k]? = none := by rw [List.getElem?_eq_none_iff, map_len h, ← List.getElem?_eq_none_iff]; exact hf
      rw [this]
    · obtain ⟨p, h1, h2⟩ := map_at h hf
      rw [h1]
      simp only [h2, shr_same h]
theorem rst_same {es fs : List (En × Sl)} (h : es.map (fun z => z.1) = fs.map (fun z => z.1)) : ∀ k, rst es k = rst fs k
  | 0 => rfl
  | k + 1 => by
    show rst es k ++ _ = rst fs k ++ _
    rw [rst_same h k, enc_same h k]
/-- Two rows of entries of which the cells alone may be other. -/
theorem out_same {es fs : List (En × Sl)} (h : es.map (fun z => z.1) = fs.map (fun z => z.1)) : out es = out fs ∧ (fine es → fine fs) := by
  have hlen := map_len h
  refine ⟨by unfold out; rw [hlen, enc_same h, rst_same h], fun ⟨⟨h1, h2⟩, h3, h4⟩ => ⟨⟨fun i q hi hq => ?_, fun i q r hi hq hr => ?_⟩, by omega, by omega⟩⟩
  · obtain ⟨p, e1, e2⟩ := map_at h hq
    rw [← e2]
    exact h1 i p (by omega) e1
  · obtain ⟨p, e1, e2⟩ := map_at h hq
    obtain ⟨p', e3, e4⟩ := map_at h hr
    rw [← e2, ← e4]
    exact h2 i p p' (by omega) e1 e3
theorem other_no {l : List Nat} {es fs : List (En × Sl)} (hd : dec l = some (es.map fun z => z.1)) (h : ¬ (fine es ∧ out es = l)) (hg : good l fs) : False := by
  obtain ⟨h1, h2, h3⟩ := hg
  rw [hd] at h1
  injection h1 with h1
  exact h ⟨(out_same h1.symm).2 h2, by rw [(out_same h1).1]; exact h3⟩
end Bk
set_option maxRecDepth 100000 in
theorem idle_dec (p q : Addr) (w : World) :
    CallsD Try.prog 29 #[.pointer (some p), .pointer (some q)] .returning w fun e u' w' => e = .returned (.tuple #[]) ∧ u' = .returning ∧ w' = w := by
  refine callsD_of_wpS Try.func29 rfl fun c₀ cs hu => ?_
  apply wpS_seq
  apply wpS_region
  simp [wpOpsS, go_sem, recoverD, hu, Try.ntmps29, Exit.thenS]
  apply wpS_seq
  apply wpS_region
  simp [wpOpsS, go_sem, Exit.thenS]
  refine wpS_cond (t := false) (by simp [Act.eval, Array.replicate]) ?_
  simp only [Bool.false_eq_true, if_false]
  refine wpS_of_wp (wp_skip ?_)
  cases c₀
  simp_all [bodyPostS, results, Try.results29]
set_option maxRecDepth 100000 in
set_option maxHeartbeats 2000000 in
theorem catch_dec (b c : Nat) (x0 y : Value) (w : World) (hb : Holds w b [x0]) (hc : Holds w c [y]) (hne : b ≠ c) :
    CallsD Try.prog 29 #[.pointer (some ⟨b, 0, none⟩), .pointer (some ⟨c, 0, none⟩)] (.panicking Bk.pan) w fun e u' w' =>
      e = .returned (.tuple #[]) ∧ u' = Bk.panned ∧ Holds w' b [.slice none 0 0] ∧ Holds w' c [.int .i64 120] ∧ ∀ B, B ≤ b → B ≤ c → Below B w w' := by
  have hta : ∀ (v : Value) (w : World), (Instr.typeAssert (.iface 25 v) 20 25 false).run Try.prog w = .ok v w := fun v w => by kernel_rfl
  have h0 : w.cell? ⟨b, 0, none⟩ = some x0 := hb.at_ 0 rfl
  have z0 : w.frozen? ⟨b, 0, none⟩ = false := hb.2.2 0
  have hy : w.cell? ⟨c, 0, none⟩ = some y := hc.at_ 0 rfl
  have zy : w.frozen? ⟨c, 0, none⟩ = false := hc.2.2 0
  have fin : Holds ((w.setCell ⟨b, 0, none⟩ (.slice none 0 0)).setCell ⟨c, 0, none⟩ (.int .i64 120)) b [.slice none 0 0] ∧ Holds ((w.setCell ⟨b, 0, none⟩ (.slice none 0 0)).setCell ⟨c, 0, none⟩ (.int .i64 120)) c [.int .i64 120] ∧ ∀ B, B ≤ b → B ≤ c → Below B w ((w.setCell ⟨b, 0, none⟩ (.slice none 0 0)).setCell ⟨c, 0, none⟩ (.int .i64 120)) := by
    refine ⟨Holds.other (hb.set 0 (.slice none 0 0) (by simp)) hne, Holds.set (hc.other hne.symm) 0 (.int .i64 120) (by simp), fun B h1 h2 => ?_⟩
    exact below_set (below_set (Below.refl B w) ⟨b, 0, none⟩ (.slice none 0 0) h1) ⟨c, 0, none⟩ (.int .i64 120) h2
  have Fin := Lib.hid fin
  clear fin
  refine callsD_of_wpS Try.func29 rfl fun c₀ cs hu => ?_
  apply wpS_seq
  apply wpS_region
  simp [wpOpsS, go_sem, recoverD, hu, Try.ntmps29, Exit.thenS, Bk.pan]
  apply wpS_seq
  apply wpS_region
  simp [wpOpsS, go_sem, Exit.thenS]
  refine wpS_cond (t := true) (by simp [Act.eval, Array.replicate]) ?_
  simp only [if_true]
  refine wpS_of_wp ?_
  go_region
  all_goals
    refine ⟨rfl, Bk.panned, rfl, .tuple #[], results_none rfl _ _ _, rfl, rfl, Fin.out.1.drew, Fin.out.2.1.drew, fun B h1 h2 => (Fin.out.2.2 B h1 h2).drew⟩
def GivesDec (w : World) (l : List Nat) (e : Ending) (w' : World) : Prop :=
  Below w.heap.size w w' ∧ ((∃ B m cap es, Bk.good l es ∧ e = .returned (.tuple #[.slice B m cap, .int .i64 0]) ∧ EntO w' w.heap.size B m cap es) ∨ ((∀ es, ¬ Bk.good l es) ∧ e = .returned (.tuple #[.slice none 0 0, .int .i64 120])))
/-- The two results, and the reader, made. -/
theorem three_box (w : World) (x y : Value) (zs : List Value) (t t2 t3 : TypeId) {w1 : World} (hw : w1 = ((w.alloc (.cells #[x] t)).alloc (.cells #[y] t2)).alloc (.cells zs.toArray t3)) : Holds w1 w.heap.size [x] ∧ Holds w1 (w.heap.size + 1) [y] ∧ Holds w1 (w.heap.size + 2) zs ∧ Below w.heap.size w w1 ∧ w1.heap.size = w.heap.size + 3 := by
  subst hw
  have k0 := ((Holds.new w #[x] t).alloc (.cells #[y] t2)).alloc (.cells zs.toArray t3)
  have k1 := (Holds.new (w.alloc (.cells #[x] t)) #[y] t2).alloc (.cells zs.toArray t3)
  have k2 := Holds.new ((w.alloc (.cells #[x] t)).alloc (.cells #[y] t2)) zs.toArray t3
  rw [show (w.alloc (.cells #[x] t)).heap.size = w.heap.size + 1 by simp] at k1
  rw [show ((w.alloc (.cells #[x] t)).alloc (.cells #[y] t2)).heap.size = w.heap.size + 2 by simp] at k2
  exact ⟨by simpa using k0, by simpa using k1, by simpa using k2, (((Below.refl _ _).alloc (Nat.le_refl _) _).alloc (by simp) _).alloc (by simp; omega) _, by simp⟩
theorem below_grown {B g : Nat} {z w w' : World} (h : Below B z w) (hg : w.grownBy w' (some g)) (hB : B ≤ g) (hs : B ≤ w.heap.size) : Below B z w' :=
  h.trans ⟨hg.os, hg.tape, hg.output, hg.size, fun k hk => hg.block k (by omega) (fun e => by injection e with e; omega)⟩
set_option maxRecDepth 100000 in
set_option maxHeartbeats 8000000 in
theorem decode_any (A : Option Addr) (n c : Nat) (l : List Nat) (w : World) (hl : Rd w A n l) (hc : n ≤ c) (hn : n ≤ 1000000) :
    Calls Try.prog 13 #[.slice A n c] w (GivesDec w l) := by
  have hmf : ∀ (fn : Fn) (first cap : Array Value) (w : World), (Instr.makeFunc fn first cap).run Try.prog w = .ok (.func fn first cap) w := fun _ _ _ _ => rfl
  obtain ⟨k0, k1, k2, hb, hsz⟩ := three_box w (.slice none 0 0) (.int .i64 0) [.slice A n c, .int .i64 0] 22 25 50 rfl
  have K0 := Lib.hid k0
  have K1 := Lib.hid k1
  have K2 := Lib.hid k2
  have Hb := Lib.hid hb
  have Hsz := Lib.hid hsz
  have HL1 := Lib.hid (hl.below hb)
  have Hlt := Lib.hid hl.2.1
  have Hap := Lib.hid (show 0 < n → ∀ g o, A = some ⟨g, o, none⟩ → g < w.heap.size from fun h g o e => by
    obtain ⟨g2, o2, e2, h2, _⟩ := hl.2.2 h
    rw [e] at e2
    injection e2 with e2
    injection e2 with e2
    omega)
  clear hl k0 k1 k2 hb hsz
  go_enter_defers Try.func13, Try.ntmps13
  go_wp2_with fail
  generalize (((w.alloc (.cells #[Value.slice none 0 0] 22)).alloc (.cells #[Value.int .i64 0] 25)).alloc (.cells #[Value.slice A n c, .int .i64 0] 50)) = w1 at *
  have hs1 : w1.heap.size = w.heap.size + 3 := Hsz.out
  refine (entries_any (w.heap.size + 1 + 1) A n c l w1 K2.out HL1.out hc hn (fun h g o e e2 => by have := Hap.out h g o e; injection e2 with e2; omega)).mono ?_
  rcases hd : Bk.dec l with _ | L
  · rintro e v1 ⟨rfl, hg1⟩
    have j0 := K0.out.grown hg1 (fun e => by injection e with e; omega)
    have j1 := K1.out.grown hg1 (fun e => by injection e with e; omega)
    have hb1 := below_grown Hb.out hg1 (by omega) (by omega)
    show Leaves _ _ _ _ _ _ _
    refine leaves_cons (f := 29) (args := #[.pointer (some ⟨w.heap.size, 0, none⟩), .pointer (some ⟨w.heap.size + 1, 0, none⟩)]) (by simp) (by simp [go_sem]) ?_
    refine (catch_dec w.heap.size (w.heap.size + 1) _ _ _ j0 j1 (by omega)).mono ?_
    rintro e u' w5 ⟨rfl, rfl, i0, i1, hb5⟩
    have c0 := i0.at_ 0 rfl
    have c1 := i1.at_ 0 rfl
    simp only [settle, Bk.panned]
    refine ⟨.tuple #[.slice none 0 0, .int .i64 120], ?_, ?_⟩
    · simp [results, Try.results13, go_sem, c0, c1]
    · exact ⟨hb1.trans (hb5 _ (Nat.le_refl _) (by omega)), .inr ⟨fun es hg => (by have h9 := hg.1; rw [hd] at h9; cases h9), rfl⟩⟩
  · rintro e v1 ⟨B, m, cap, es, rfl, rfl, hE, hg1⟩
    have j0 := K0.out.grown hg1 (fun e => by injection e with e; omega)
    have j1 := K1.out.grown hg1 (fun e => by injection e with e; omega)
    have q0 := j0.at_ 0 rfl
    have z0 := j0.2.2 0
    have hm : m ≤ 255 := by rw [← hE.len]; simpa using Bk.dec_length Hlt.out hd
    have J0 := Lib.hid (j0.set 0 (.slice B m cap) (by simp))
    have J1 := Lib.hid (j1.other (b := w.heap.size) (i := 0) (v := .slice B m cap) (by omega))
    have HE := Lib.hid (hE.set ⟨w.heap.size, 0, none⟩ (.slice B m cap) (by show w.heap.size < _; omega))
    have HB := Lib.hid (below_set (below_grown Hb.out hg1 (by omega) (by omega)) ⟨w.heap.size, 0, none⟩ (.slice B m cap) (Nat.le_refl _))
    have HL := Lib.hid ((HL1.out.grown hg1 (fun h g o e e2 => by have := Hap.out h g o e; injection e2 with e2; omega)).grown (grown_setCell v1 ⟨w.heap.size, 0, none⟩ (.slice B m cap)) (fun h g o e e2 => by have := Hap.out h g o e; injection e2 with e2; have e2 : w.heap.size = g := e2; omega))
    have Hs2 := Lib.hid (show w.heap.size + 3 ≤ (v1.setCell ⟨w.heap.size, 0, none⟩ (.slice B m cap)).heap.size by have := hg1.size; simp [World.setCell]; omega)
    have Hfit := Lib.hid hE.fits
    have Hd := Lib.hid hd
    clear hE hg1 j0 j1 hd
    go_wp2_with fail
    generalize (v1.setCell ⟨w.heap.size, 0, none⟩ (.slice B m cap)) = v2 at *
    have hs2 := Hs2.out
    by_cases hf : Bk.fine es
    · refine (encode_yes B m cap es v2 HE.out.rde (by omega) Hfit.out hf).mono ?_
      rintro e w3 ⟨A', c', rfl, ho3, hb3⟩
      have r1 := J1.out.below hb3
      have r0 := J0.out.below hb3
      have q1 := r1.at_ 0 rfl
      have z1 := r1.2.2 0
      have R1 := Lib.hid (r1.set 0 (.int .i64 0) (by simp))
      have R0 := Lib.hid (r0.other (b := w.heap.size + 1) (i := 0) (v := .int .i64 0) (by omega))
      have E3 := Lib.hid ((HE.out.below hb3).set ⟨w.heap.size + 1, 0, none⟩ (.int .i64 0) (by show w.heap.size + 1 < _; omega))
      have B3 := Lib.hid (below_set (HB.out.trans (hb3.mono (by omega))) ⟨w.heap.size + 1, 0, none⟩ (.int .i64 0) (by show _ ≤ w.heap.size + 1; omega))
      have L3 := Lib.hid ((HL.out.below hb3).grown (grown_setCell w3 ⟨w.heap.size + 1, 0, none⟩ (.int .i64 0)) (fun h g o e e2 => by have := Hap.out h g o e; injection e2 with e2; have e2 : w.heap.size + 1 = g := e2; omega))
      have O3 := Lib.hid (ho3.grown (grown_setCell w3 ⟨w.heap.size + 1, 0, none⟩ (.int .i64 0)) (.inr fun g hg e => by
        injection hg with hg
        have hg : w.heap.size + 1 = g := hg
        have := (ho3.blk _ e).1
        omega)).rd
      have S3 := Lib.hid (show w.heap.size + 3 ≤ (w3.setCell ⟨w.heap.size + 1, 0, none⟩ (.int .i64 0)).heap.size by have := hb3.size; simp [World.setCell]; omega)
      have hs0 : (w3.setCell ⟨w.heap.size + 1, 0, none⟩ (.int .i64 0)).cell? ⟨w.heap.size + 1, 0, none⟩ = some (.int .i64 0) := R1.out.at_ 0 rfl
      clear ho3 hb3 r0 r1
      go_wp2_with fail
      generalize (w3.setCell ⟨w.heap.size + 1, 0, none⟩ (.int .i64 0)) = w4 at *
      have hs4 := S3.out
      by_cases hq : Bk.out es = l
      · refine (equal_yes A' A _ _ _ _ l w4 (hq ▸ O3.out) L3.out).mono ?_
        rintro e w5 ⟨rfl, hb5⟩
        have r0 := R0.out.below hb5
        have r1 := R1.out.below hb5
        have y0 := r0.at_ 0 rfl
        have u0 := r0.2.2 0
        have y1 := r1.at_ 0 rfl
        have u1 := r1.2.2 0
        have E5 := Lib.hid (E3.out.below hb5)
        have B5 := Lib.hid (B3.out.trans (hb5.mono (by omega)))
        have T0 := Lib.hid r0
        have T1 := Lib.hid r1
        have hs5 := hb5.size
        clear r0 r1 hb5
        go_wp2
        refine leaves_cons (f := 29) (args := #[.pointer (some ⟨w.heap.size, 0, none⟩), .pointer (some ⟨w.heap.size + 1, 0, none⟩)]) (by simp) (by simp [go_sem]) ?_
        refine (idle_dec _ _ _).mono ?_
        rintro e u' w6 ⟨rfl, rfl, rfl⟩
        have i0 := (T0.out.set 0 (.slice B m cap) (by simp)).other (b := w.heap.size + 1) (i := 0) (v := .int .i64 0) (by omega)
        have i1 := (T1.out.other (b := w.heap.size) (i := 0) (v := .slice B m cap) (by omega)).set 0 (.int .i64 0) (by simp)
        have c0 := i0.at_ 0 rfl
        have c1 := i1.at_ 0 rfl
        simp only [settle]
        refine ⟨.tuple #[.slice B m cap, .int .i64 0], ?_, ?_⟩
        · simp [results, Try.results13, go_sem, c0, c1]
        · exact ⟨below_set (below_set B5.out _ _ (Nat.le_refl _)) _ _ (by show _ ≤ w.heap.size + 1; omega), .inl ⟨B, m, cap, es, ⟨Hd.out, hf, hq⟩, rfl, ((E5.out.set ⟨w.heap.size, 0, none⟩ _ (by show w.heap.size < _; omega)).set ⟨w.heap.size + 1, 0, none⟩ _ (by show w.heap.size + 1 < _; omega)).base_ (by omega)⟩⟩
      · refine (equal_no A' A _ _ _ _ _ l w4 O3.out L3.out hq).mono ?_
        rintro e w5 ⟨rfl, hb5⟩
        have r0 := R0.out.below hb5
        have r1 := R1.out.below hb5
        have y0 := r0.at_ 0 rfl
        have u0 := r0.2.2 0
        have y1 := r1.at_ 0 rfl
        have u1 := r1.2.2 0
        have B5 := Lib.hid (B3.out.trans (hb5.mono (by omega)))
        have T0 := Lib.hid r0
        have T1 := Lib.hid r1
        clear r0 r1 hb5
        go_wp2
        refine leaves_cons (f := 29) (args := #[.pointer (some ⟨w.heap.size, 0, none⟩), .pointer (some ⟨w.heap.size + 1, 0, none⟩)]) (by simp) (by simp [go_sem]) ?_
        refine (idle_dec _ _ _).mono ?_
        rintro e u' w6 ⟨rfl, rfl, rfl⟩
        have i0 := (T0.out.set 0 (.slice none 0 0) (by simp)).other (b := w.heap.size + 1) (i := 0) (v := .int .i64 120) (by omega)
        have i1 := (T1.out.other (b := w.heap.size) (i := 0) (v := .slice none 0 0) (by omega)).set 0 (.int .i64 120) (by simp)
        have c0 := i0.at_ 0 rfl
        have c1 := i1.at_ 0 rfl
        simp only [settle]
        refine ⟨.tuple #[.slice none 0 0, .int .i64 120], ?_, ?_⟩
        · simp [results, Try.results13, go_sem, c0, c1]
        · exact ⟨below_set (below_set B5.out _ _ (Nat.le_refl _)) _ _ (by show _ ≤ w.heap.size + 1; omega), .inr ⟨fun es2 hg => Bk.other_no Hd.out (fun h => hq h.2) hg, rfl⟩⟩
    · refine (encode_no B m cap es v2 HE.out.rde (by omega) Hfit.out hf).mono ?_
      rintro e w3 ⟨rfl, hb3⟩
      have r1 := J1.out.below hb3
      have r0 := J0.out.below hb3
      have q1 := r1.at_ 0 rfl
      have z1 := r1.2.2 0
      have s1 := r1.set 0 (.int .i64 120) (by simp)
      have s0 := r0.other (b := w.heap.size + 1) (i := 0) (v := .int .i64 120) (by omega)
      have R1 := Lib.hid s1
      have R0 := Lib.hid s0
      have y0 := s0.at_ 0 rfl
      have u0 := s0.2.2 0
      have y1 := s1.at_ 0 rfl
      have u1 := s1.2.2 0
      have B3 := Lib.hid (below_set (HB.out.trans (hb3.mono (by omega))) ⟨w.heap.size + 1, 0, none⟩ (.int .i64 120) (by show _ ≤ w.heap.size + 1; omega))
      clear hb3 r0 r1 s0 s1
      go_wp2
      refine leaves_cons (f := 29) (args := #[.pointer (some ⟨w.heap.size, 0, none⟩), .pointer (some ⟨w.heap.size + 1, 0, none⟩)]) (by simp) (by simp [go_sem]) ?_
      refine (idle_dec _ _ _).mono ?_
      rintro e u' w6 ⟨rfl, rfl, rfl⟩
      have i0 := (R0.out.set 0 (.slice none 0 0) (by simp)).other (b := w.heap.size + 1) (i := 0) (v := .int .i64 120) (by omega)
      have i1 := (R1.out.other (b := w.heap.size) (i := 0) (v := .slice none 0 0) (by omega)).set 0 (.int .i64 120) (by simp)
      have c0 := i0.at_ 0 rfl
      have c1 := i1.at_ 0 rfl
      simp only [settle]
      refine ⟨.tuple #[.slice none 0 0, .int .i64 120], ?_, ?_⟩
      · simp [results, Try.results13, go_sem, c0, c1]
      · exact ⟨below_set (below_set B3.out _ _ (Nat.le_refl _)) _ _ (by show _ ≤ w.heap.size + 1; omega), .inr ⟨fun es2 hg => Bk.other_no Hd.out (fun h => hf h.1) hg, rfl⟩⟩
end Go.Proofs.Ytbfjcpblbmlfcaa
