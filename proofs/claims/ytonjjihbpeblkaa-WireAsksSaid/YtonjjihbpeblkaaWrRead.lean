/- What package wire's Read and ReadMsg return. -/
import Derived.Test.YtonjjihbpeblkaaWrPlace
namespace Go.Proofs.Ytonjjihbpeblkaa
open Go.RowKit
namespace Wr
/-- The cells of what any bytes are. -/
def askRead (l : List Nat) : Option Rq :=
  match num l with
  | none => none
  | some (k, r) => (all ((asks k).map Prod.snd) r).map fun vs => Rq.puts (asks k) vs (Rq.bare k)
end Wr
set_option maxRecDepth 100000 in
set_option maxHeartbeats 8000000 in
theorem wread_any (A : Option Addr) (n c : Nat) (l : List Nat) (w : World) (hl : Rd w A n l) (hc : n ≤ c) (hn : n ≤ 1000000) :
    Calls Try.prog 12 #[.slice A n c] w (GivesRd w (Wr.Rq.bare 0).cells ((Wr.askRead l).map Wr.Rq.cells)) := by
  have hmf : ∀ (fn : Fn) (first cap : Array Value) (w : World), (Instr.makeFunc fn first cap).run Try.prog w = .ok (.func fn first cap) w := fun _ _ _ _ => rfl
  obtain ⟨k0, k1, hb, hsz⟩ := one_box w [.int .i64 0, .string ⟨#[]⟩, .int .i64 0, .int .i64 0, .int .i64 0, .int .i64 0, .int .i64 0] (.int .i64 0) 24 28
  have hl1 := hl.below hb
  have hnum := Lib.hid (fun wx (h : Rd wx A n l) => wnumber_any A n c l wx h hc hn)
  have hA := Lib.hid (fun (h : 0 < n) => hl.2.2 h)
  have HL1 := Lib.hid hl1
  have K0 := Lib.hid k0
  have K1 := Lib.hid k1
  have Hb := Lib.hid hb
  have Hsz := Lib.hid hsz
  have Hlen := Lib.hid hl.1
  clear k0 k1 hb hsz hl1 hl
  go_enter_defers Try.func12, Try.ntmps12
  go_wp2_with fail
  generalize ((w.alloc (.cells #[Value.int .i64 0, .string ⟨#[]⟩, .int .i64 0, .int .i64 0, .int .i64 0, .int .i64 0, .int .i64 0] 24)).alloc (.cells #[.int .i64 0] 28)) = w1 at *
  have hs1 : w1.heap.size = w.heap.size + 2 := Hsz.out
  refine (hnum.out _ HL1.out).mono ?_
  rcases hnm : Wr.num l with _ | ⟨kn, r⟩
  · rintro e v1 ⟨rfl, hb1⟩
    have e0 : Wr.askRead l = none := by unfold Wr.askRead; rw [hnm]
    have j0 := K0.out.below hb1
    have j1 := K1.out.below hb1
    show Leaves _ _ _ _ _ _ _
    refine leaves_cons (f := 32) (args := #[.pointer (some ⟨w.heap.size, 0, none⟩), .pointer (some ⟨w.heap.size + 1, 0, none⟩)]) (by simp) (by simp [go_sem]) ?_
    refine (catch_read w.heap.size (w.heap.size + 1) _ _ _ _ _ _ _ _ _ j0 j1 (by omega)).mono ?_
    rintro e u' w5 ⟨rfl, rfl, i0, i1, hb5⟩
    have c0 := i0.at_ 0 rfl
    have c1 := i0.at_ 1 rfl
    have c2 := i0.at_ 2 rfl
    have c3 := i0.at_ 3 rfl
    have c4 := i0.at_ 4 rfl
    have c5 := i0.at_ 5 rfl
    have c6 := i0.at_ 6 rfl
    have c9 := i1.at_ 0 rfl
    simp only [settle, Wr.panned]
    refine ⟨.tuple #[.agg #[.int .i64 0, .string ⟨#[]⟩, .int .i64 0, .int .i64 0, .int .i64 0, .int .i64 0, .int .i64 0], .int .i64 220], ?_, ?_⟩
    · simp [results, Try.results12, go_sem, c0, c1, c2, c3, c4, c5, c6, c9]
    · rw [e0]
      exact ⟨rfl, (Hb.out.trans (hb1.mono (by omega))).trans (hb5 _ (Nat.le_refl _) (by omega))⟩
  · rintro e v1 ⟨A1, c1, rfl, ho1, hb1⟩
    have j0 := K0.out.below hb1
    have j1 := K1.out.below hb1
    have q0 := j0.at_ 0 rfl
    have z0 := j0.2.2 0
    have j0' := j0.set 0 (.int .i64 (kn : Int)) (by simp)
    have j1' := j1.other (b := w.heap.size) (i := 0) (v := .int .i64 (kn : Int)) (by omega)
    have hb2 : Below w.heap.size w (v1.setCell ⟨w.heap.size, 0, none⟩ (.int .i64 (kn : Int))) := below_set (Hb.out.trans (hb1.mono (by omega))) _ _ (Nat.le_refl _)
    have hr2 : Rd (v1.setCell ⟨w.heap.size, 0, none⟩ (.int .i64 (kn : Int))) A1 r.length r := (Own.grown (w' := v1.setCell ⟨w.heap.size, 0, none⟩ (.int .i64 (kn : Int))) ho1 (row := some w.heap.size) ⟨rfl, rfl, rfl, by simp [World.setCell], fun k hk hne => Below.heap_setCell _ _ _ _ (fun e => hne (by rw [e]))⟩ (.inr fun g' hg' e => by
      injection hg' with hg'
      have := (ho1.blk _ e).1
      omega)).rd
    have hrl := (Wr.num_bound hnm).1
    have hap2 := Lib.hid (fun (h : 0 < r.length) (b o : Nat) (e : A1 = some ⟨b, o, none⟩) => show w1.heap.size ≤ b by
      obtain ⟨g, hg, hg1, _⟩ := ho1.form h
      rw [e] at hg
      injection hg with hg
      injection hg with hg
      omega)
    have hcr := ho1.cap
    have hs2 : w.heap.size + 2 ≤ (v1.setCell ⟨w.heap.size, 0, none⟩ (.int .i64 (kn : Int))).heap.size := by have := hb1.size; simp [World.setCell]; omega
    have J0 := Lib.hid j0'
    have J1 := Lib.hid j1'
    have Hb2 := Lib.hid hb2
    have HR2 := Lib.hid hr2
    have Hs2 := Lib.hid hs2
    have hrq := Lib.hid (fun wx => request_any w.heap.size (kn : Int) (.string ⟨#[]⟩) (.int .i64 0) (.int .i64 0) (.int .i64 0) (.int .i64 0) (.int .i64 0) wx)
    have hok := Lib.hid (Wr.asks_ok (kn : Int))
    have Hb1 := Lib.hid hb1
    have Ho1 := Lib.hid ho1
    have Hnm := Lib.hid hnm
    clear j0 j1 j0' j1' hb2 hr2 hs2 hb1 ho1 hnm
    go_wp2_with fail
    generalize v1.setCell ⟨w.heap.size, 0, none⟩ (.int .i64 (kn : Int)) = v2 at *
    refine (hrq.out _ J0.out).mono ?_
    rintro e v3 ⟨A3, c3, rfl, hA3, hb3, hAb3⟩
    have h5 : (Wr.on w.heap.size (Wr.asks kn)).length ≤ 5 := by
      rw [Wr.on_length]; have := hok.out.2; unfold Wr.apart at this; rw [Bool.and_eq_true, decide_eq_true_eq, decide_eq_true_eq] at this; omega
    have hndo : ((Wr.asks (kn : Int)).map Prod.fst).Nodup := by
      have := hok.out.2; unfold Wr.apart at this; rw [Bool.and_eq_true, decide_eq_true_eq, decide_eq_true_eq] at this; exact this.1
    have hlt : ∀ p ∈ Wr.asks (kn : Int), p.1 < 7 := fun p hp => by
      have hall := List.all_eq_true.1 hok.out.1 p hp
      simp at hall
      rcases hall with (((((rfl | rfl) | rfl) | rfl) | rfl) | rfl) <;> simp
    have i0 := J0.out.below hb3
    have i1 := J1.out.below hb3
    have hs3 := hb3.size
    have hs2 := Hs2.out
    have htk := wtake_any A1 r.length c1 r A3 _ c3 (Wr.on w.heap.size (Wr.asks kn)) v3 (by omega) rfl (by rw [Hlen.out] at hrl; omega) (Wr.on_nodup _ hok.out.2) (HR2.out.below hb3) hcr
      (fun h b o e f hf => by have := hap2.out h b o e; rw [Wr.on_block hf]; omega) hA3 (fun b o e => ⟨(hAb3 b o e).2, fun f hf => by have := (hAb3 b o e).1; rw [Wr.on_block hf]; omega⟩)
      (fun f hf => by
        obtain ⟨pp, hp, rfl⟩ := Wr.on_mem hf
        exact ⟨i0.1, ⟨_, i0.at_ pp.1 (List.getElem?_eq_getElem (by simpa using hlt pp hp))⟩, i0.2.2 _⟩)
    have hkinds : (Wr.on w.heap.size (Wr.asks (kn : Int))).map Prod.snd = (Wr.asks (kn : Int)).map Prod.snd := by unfold Wr.on; rw [List.map_map]; rfl
    rw [hkinds] at htk
    have Htk := Lib.hid htk
    have I0 := Lib.hid i0
    have I1 := Lib.hid i1
    have Hb3 := Lib.hid hb3
    have Hb4 := Lib.hid (Hb2.out.trans (hb3.mono (by omega)))
    clear htk i0 i1 hA3 hAb3 hb3 hkinds
    go_wp2_with fail
    refine Htk.out.mono ?_
    have hbk : ∀ a ∈ Wr.at_ (Wr.on w.heap.size (Wr.asks kn)), a.block = w.heap.size := fun a ha => by
      obtain ⟨f, hf, rfl⟩ := List.mem_map.1 ha
      exact Wr.on_block hf
    have Hbk := Lib.hid hbk
    clear hbk
    rcases hal : Wr.all ((Wr.asks (kn : Int)).map Prod.snd) r with _ | vs
    · rintro e v4 ⟨rfl, hu⟩
      have e0 : Wr.askRead l = none := by unfold Wr.askRead; rw [Hnm.out]; show Option.map _ (Wr.all _ _) = _; rw [hal]; rfl
      obtain ⟨ys, hyl, m0⟩ := kept_holds I0.out hu
      obtain ⟨y0, y1, y2, y3, y4, y5, y6, rfl⟩ := Wr.len7 hyl
      have m1 := I1.out.upd hu (fun a ha => by rw [Hbk.out a ha]; omega)
      have hb5' : Below w.heap.size w v4 := hu.below Hb4.out (fun a ha => by rw [Hbk.out a ha]; exact Nat.le_refl _) (by omega)
      show Leaves _ _ _ _ _ _ _
      refine leaves_cons (f := 32) (args := #[.pointer (some ⟨w.heap.size, 0, none⟩), .pointer (some ⟨w.heap.size + 1, 0, none⟩)]) (by simp) (by simp [go_sem]) ?_
      refine (catch_read w.heap.size (w.heap.size + 1) _ _ _ _ _ _ _ _ _ m0 m1 (by omega)).mono ?_
      rintro e u' w5 ⟨rfl, rfl, i0, i1, hb5⟩
      have c0 := i0.at_ 0 rfl
      have c1 := i0.at_ 1 rfl
      have c2 := i0.at_ 2 rfl
      have c3 := i0.at_ 3 rfl
      have c4 := i0.at_ 4 rfl
      have c5 := i0.at_ 5 rfl
      have c6 := i0.at_ 6 rfl
      have c9 := i1.at_ 0 rfl
      simp only [settle, Wr.panned]
      refine ⟨.tuple #[.agg #[.int .i64 0, .string ⟨#[]⟩, .int .i64 0, .int .i64 0, .int .i64 0, .int .i64 0, .int .i64 0], .int .i64 220], ?_, ?_⟩
      · simp [results, Try.results12, go_sem, c0, c1, c2, c3, c4, c5, c6, c9]
      · rw [e0]
        exact ⟨rfl, hb5'.trans (hb5 _ (Nat.le_refl _) (by omega))⟩
    · rintro e v4 ⟨rfl, hu, hvl, hvs⟩
      have e0 : Wr.askRead l = some (Wr.Rq.puts (Wr.asks (kn : Int)) vs (Wr.Rq.bare kn)) := by unfold Wr.askRead; rw [Hnm.out]; show Option.map _ (Wr.all _ _) = _; rw [hal]; rfl
      have m0 := took_holds hndo (fun p hp => by simpa using hlt p hp) I0.out hu (by rw [hvl, Wr.on_length]) hvs
      have m1 := I1.out.upd hu (fun a ha => by rw [Hbk.out a ha]; omega)
      have hb5' : Below w.heap.size w v4 := hu.below Hb4.out (fun a ha => by rw [Hbk.out a ha]; exact Nat.le_refl _) (by omega)
      have m0' : Holds v4 w.heap.size (Wr.Rq.puts (Wr.asks (kn : Int)) vs (Wr.Rq.bare kn)).cells := by
        rw [← Wr.Rq.puts_cells hok.out.1 (Wr.all_fits hal)]
        exact m0
      generalize Wr.Rq.puts (Wr.asks (kn : Int)) vs (Wr.Rq.bare kn) = R at m0' e0
      obtain ⟨k, s, d, n2, u, p, q⟩ := R
      have m0' : Holds v4 w.heap.size [.int .i64 k, .string s, .int .i64 d, .int .i64 n2, .int .i64 u, .int .i64 p, .int .i64 q] := m0'
      have E0 := Lib.hid e0
      have d0 := m0'.at_ 0 rfl
      have f0 := m0'.2.2 0
      have d1 := m0'.at_ 1 rfl
      have f1 := m0'.2.2 1
      have d2 := m0'.at_ 2 rfl
      have f2 := m0'.2.2 2
      have d3 := m0'.at_ 3 rfl
      have f3 := m0'.2.2 3
      have d4 := m0'.at_ 4 rfl
      have f4 := m0'.2.2 4
      have d5 := m0'.at_ 5 rfl
      have f5 := m0'.2.2 5
      have d6 := m0'.at_ 6 rfl
      have f6 := m0'.2.2 6
      have d9 := m1.at_ 0 rfl
      have f9 := m1.2.2 0
      have fin : Holds ((((((((v4.setCell ⟨w.heap.size, 0, none⟩ (.int .i64 k)).setCell ⟨w.heap.size, 1, none⟩ (.string s)).setCell ⟨w.heap.size, 2, none⟩ (.int .i64 d)).setCell ⟨w.heap.size, 3, none⟩ (.int .i64 n2)).setCell ⟨w.heap.size, 4, none⟩ (.int .i64 u)).setCell ⟨w.heap.size, 5, none⟩ (.int .i64 p)).setCell ⟨w.heap.size, 6, none⟩ (.int .i64 q)).setCell ⟨w.heap.size + 1, 0, none⟩ (.int .i64 0)) w.heap.size [.int .i64 k, .string s, .int .i64 d, .int .i64 n2, .int .i64 u, .int .i64 p, .int .i64 q] ∧ Holds ((((((((v4.setCell ⟨w.heap.size, 0, none⟩ (.int .i64 k)).setCell ⟨w.heap.size, 1, none⟩ (.string s)).setCell ⟨w.heap.size, 2, none⟩ (.int .i64 d)).setCell ⟨w.heap.size, 3, none⟩ (.int .i64 n2)).setCell ⟨w.heap.size, 4, none⟩ (.int .i64 u)).setCell ⟨w.heap.size, 5, none⟩ (.int .i64 p)).setCell ⟨w.heap.size, 6, none⟩ (.int .i64 q)).setCell ⟨w.heap.size + 1, 0, none⟩ (.int .i64 0)) (w.heap.size + 1) [.int .i64 0] ∧ Below w.heap.size w ((((((((v4.setCell ⟨w.heap.size, 0, none⟩ (.int .i64 k)).setCell ⟨w.heap.size, 1, none⟩ (.string s)).setCell ⟨w.heap.size, 2, none⟩ (.int .i64 d)).setCell ⟨w.heap.size, 3, none⟩ (.int .i64 n2)).setCell ⟨w.heap.size, 4, none⟩ (.int .i64 u)).setCell ⟨w.heap.size, 5, none⟩ (.int .i64 p)).setCell ⟨w.heap.size, 6, none⟩ (.int .i64 q)).setCell ⟨w.heap.size + 1, 0, none⟩ (.int .i64 0)) :=
        ⟨Holds.other (((((((m0'.set 0 (.int .i64 k) (by simp)).set 1 (.string s) (by simp)).set 2 (.int .i64 d) (by simp)).set 3 (.int .i64 n2) (by simp)).set 4 (.int .i64 u) (by simp)).set 5 (.int .i64 p) (by simp)).set 6 (.int .i64 q) (by simp)) (by omega), Holds.set (((((((m1.other (b := w.heap.size) (i := 0) (v := .int .i64 k) (by omega)).other (b := w.heap.size) (i := 1) (v := .string s) (by omega)).other (b := w.heap.size) (i := 2) (v := .int .i64 d) (by omega)).other (b := w.heap.size) (i := 3) (v := .int .i64 n2) (by omega)).other (b := w.heap.size) (i := 4) (v := .int .i64 u) (by omega)).other (b := w.heap.size) (i := 5) (v := .int .i64 p) (by omega)).other (b := w.heap.size) (i := 6) (v := .int .i64 q) (by omega)) 0 (.int .i64 0) (by simp), below_set (below_set (below_set (below_set (below_set (below_set (below_set (below_set (hb5') ⟨w.heap.size, 0, none⟩ (.int .i64 k) (Nat.le_refl _)) ⟨w.heap.size, 1, none⟩ (.string s) (Nat.le_refl _)) ⟨w.heap.size, 2, none⟩ (.int .i64 d) (Nat.le_refl _)) ⟨w.heap.size, 3, none⟩ (.int .i64 n2) (Nat.le_refl _)) ⟨w.heap.size, 4, none⟩ (.int .i64 u) (Nat.le_refl _)) ⟨w.heap.size, 5, none⟩ (.int .i64 p) (Nat.le_refl _)) ⟨w.heap.size, 6, none⟩ (.int .i64 q) (Nat.le_refl _)) _ _ (by show w.heap.size ≤ w.heap.size + 1; omega)⟩
      have Fin := Lib.hid fin
      clear fin e0 hvs m0 m0' m1 hb5' hal hu
      go_wp2
      obtain ⟨i0, i1, hb6⟩ := Fin.out
      refine leaves_cons (f := 32) (args := #[.pointer (some ⟨w.heap.size, 0, none⟩), .pointer (some ⟨w.heap.size + 1, 0, none⟩)]) (by simp) (by simp [go_sem]) ?_
      refine (idle_read _ _ _).mono ?_
      rintro e u' w5 ⟨rfl, rfl, rfl⟩
      have c0 := i0.at_ 0 rfl
      have c1 := i0.at_ 1 rfl
      have c2 := i0.at_ 2 rfl
      have c3 := i0.at_ 3 rfl
      have c4 := i0.at_ 4 rfl
      have c5 := i0.at_ 5 rfl
      have c6 := i0.at_ 6 rfl
      have c9 := i1.at_ 0 rfl
      simp only [settle]
      refine ⟨.tuple #[.agg #[.int .i64 k, .string s, .int .i64 d, .int .i64 n2, .int .i64 u, .int .i64 p, .int .i64 q], .int .i64 0], ?_, ?_⟩
      · simp [results, Try.results12, go_sem, c0, c1, c2, c3, c4, c5, c6, c9]
      · rw [E0.out]
        exact ⟨rfl, hb6⟩
namespace Wr
/-- The cells of what any bytes are. -/
def msgRead (l : List Nat) : Option Mg :=
  match num l with
  | none => none
  | some (k, r) => (all ((msgs k).map Prod.snd) r).map fun vs => Mg.puts (msgs k) vs (Mg.bare k)
end Wr
set_option maxRecDepth 100000 in
set_option maxHeartbeats 8000000 in
theorem wreadmsg_any (A : Option Addr) (n c : Nat) (l : List Nat) (w : World) (hl : Rd w A n l) (hc : n ≤ c) (hn : n ≤ 1000000) :
    Calls Try.prog 21 #[.slice A n c] w (GivesRd w (Wr.Mg.bare 0).cells ((Wr.msgRead l).map Wr.Mg.cells)) := by
  have hmf : ∀ (fn : Fn) (first cap : Array Value) (w : World), (Instr.makeFunc fn first cap).run Try.prog w = .ok (.func fn first cap) w := fun _ _ _ _ => rfl
  obtain ⟨k0, k1, hb, hsz⟩ := one_box w [.int .i64 0, .int .i64 0, .int .i64 0, .string ⟨#[]⟩, .int .i64 0] (.int .i64 0) 43 28
  have hl1 := hl.below hb
  have hnum := Lib.hid (fun wx (h : Rd wx A n l) => wnumber_any A n c l wx h hc hn)
  have hA := Lib.hid (fun (h : 0 < n) => hl.2.2 h)
  have HL1 := Lib.hid hl1
  have K0 := Lib.hid k0
  have K1 := Lib.hid k1
  have Hb := Lib.hid hb
  have Hsz := Lib.hid hsz
  have Hlen := Lib.hid hl.1
  clear k0 k1 hb hsz hl1 hl
  go_enter_defers Try.func21, Try.ntmps21
  go_wp2_with fail
  generalize ((w.alloc (.cells #[Value.int .i64 0, .int .i64 0, .int .i64 0, .string ⟨#[]⟩, .int .i64 0] 43)).alloc (.cells #[.int .i64 0] 28)) = w1 at *
  have hs1 : w1.heap.size = w.heap.size + 2 := Hsz.out
  refine (hnum.out _ HL1.out).mono ?_
  rcases hnm : Wr.num l with _ | ⟨kn, r⟩
  · rintro e v1 ⟨rfl, hb1⟩
    have e0 : Wr.msgRead l = none := by unfold Wr.msgRead; rw [hnm]
    have j0 := K0.out.below hb1
    have j1 := K1.out.below hb1
    show Leaves _ _ _ _ _ _ _
    refine leaves_cons (f := 44) (args := #[.pointer (some ⟨w.heap.size, 0, none⟩), .pointer (some ⟨w.heap.size + 1, 0, none⟩)]) (by simp) (by simp [go_sem]) ?_
    refine (catch_readmsg w.heap.size (w.heap.size + 1) _ _ _ _ _ _ _ j0 j1 (by omega)).mono ?_
    rintro e u' w5 ⟨rfl, rfl, i0, i1, hb5⟩
    have c0 := i0.at_ 0 rfl
    have c1 := i0.at_ 1 rfl
    have c2 := i0.at_ 2 rfl
    have c3 := i0.at_ 3 rfl
    have c4 := i0.at_ 4 rfl
    have c9 := i1.at_ 0 rfl
    simp only [settle, Wr.panned]
    refine ⟨.tuple #[.agg #[.int .i64 0, .int .i64 0, .int .i64 0, .string ⟨#[]⟩, .int .i64 0], .int .i64 220], ?_, ?_⟩
    · simp [results, Try.results21, go_sem, c0, c1, c2, c3, c4, c9]
    · rw [e0]
      exact ⟨rfl, (Hb.out.trans (hb1.mono (by omega))).trans (hb5 _ (Nat.le_refl _) (by omega))⟩
  · rintro e v1 ⟨A1, c1, rfl, ho1, hb1⟩
    have j0 := K0.out.below hb1
    have j1 := K1.out.below hb1
    have q0 := j0.at_ 0 rfl
    have z0 := j0.2.2 0
    have j0' := j0.set 0 (.int .i64 (kn : Int)) (by simp)
    have j1' := j1.other (b := w.heap.size) (i := 0) (v := .int .i64 (kn : Int)) (by omega)
    have hb2 : Below w.heap.size w (v1.setCell ⟨w.heap.size, 0, none⟩ (.int .i64 (kn : Int))) := below_set (Hb.out.trans (hb1.mono (by omega))) _ _ (Nat.le_refl _)
    have hr2 : Rd (v1.setCell ⟨w.heap.size, 0, none⟩ (.int .i64 (kn : Int))) A1 r.length r := (Own.grown (w' := v1.setCell ⟨w.heap.size, 0, none⟩ (.int .i64 (kn : Int))) ho1 (row := some w.heap.size) ⟨rfl, rfl, rfl, by simp [World.setCell], fun k hk hne => Below.heap_setCell _ _ _ _ (fun e => hne (by rw [e]))⟩ (.inr fun g' hg' e => by
      injection hg' with hg'
      have := (ho1.blk _ e).1
      omega)).rd
    have hrl := (Wr.num_bound hnm).1
    have hap2 := Lib.hid (fun (h : 0 < r.length) (b o : Nat) (e : A1 = some ⟨b, o, none⟩) => show w1.heap.size ≤ b by
      obtain ⟨g, hg, hg1, _⟩ := ho1.form h
      rw [e] at hg
      injection hg with hg
      injection hg with hg
      omega)
    have hcr := ho1.cap
    have hs2 : w.heap.size + 2 ≤ (v1.setCell ⟨w.heap.size, 0, none⟩ (.int .i64 (kn : Int))).heap.size := by have := hb1.size; simp [World.setCell]; omega
    have J0 := Lib.hid j0'
    have J1 := Lib.hid j1'
    have Hb2 := Lib.hid hb2
    have HR2 := Lib.hid hr2
    have Hs2 := Lib.hid hs2
    have hrq := Lib.hid (fun wx => message_any w.heap.size (kn : Int) (.int .i64 0) (.int .i64 0) (.string ⟨#[]⟩) (.int .i64 0) wx)
    have hok := Lib.hid (Wr.msgs_ok (kn : Int))
    have Hb1 := Lib.hid hb1
    have Ho1 := Lib.hid ho1
    have Hnm := Lib.hid hnm
    clear j0 j1 j0' j1' hb2 hr2 hs2 hb1 ho1 hnm
    go_wp2_with fail
    generalize v1.setCell ⟨w.heap.size, 0, none⟩ (.int .i64 (kn : Int)) = v2 at *
    refine (hrq.out _ J0.out).mono ?_
    rintro e v3 ⟨A3, c3, rfl, hA3, hb3, hAb3⟩
    have h5 : (Wr.on w.heap.size (Wr.msgs kn)).length ≤ 5 := by
      rw [Wr.on_length]; have := hok.out.2; unfold Wr.apart at this; rw [Bool.and_eq_true, decide_eq_true_eq, decide_eq_true_eq] at this; omega
    have hndo : ((Wr.msgs (kn : Int)).map Prod.fst).Nodup := by
      have := hok.out.2; unfold Wr.apart at this; rw [Bool.and_eq_true, decide_eq_true_eq, decide_eq_true_eq] at this; exact this.1
    have hlt : ∀ p ∈ Wr.msgs (kn : Int), p.1 < 5 := fun p hp => by
      have hall := List.all_eq_true.1 hok.out.1 p hp
      simp at hall
      rcases hall with (((rfl | rfl) | rfl) | rfl) <;> simp
    have i0 := J0.out.below hb3
    have i1 := J1.out.below hb3
    have hs3 := hb3.size
    have hs2 := Hs2.out
    have htk := wtake_any A1 r.length c1 r A3 _ c3 (Wr.on w.heap.size (Wr.msgs kn)) v3 (by omega) rfl (by rw [Hlen.out] at hrl; omega) (Wr.on_nodup _ hok.out.2) (HR2.out.below hb3) hcr
      (fun h b o e f hf => by have := hap2.out h b o e; rw [Wr.on_block hf]; omega) hA3 (fun b o e => ⟨(hAb3 b o e).2, fun f hf => by have := (hAb3 b o e).1; rw [Wr.on_block hf]; omega⟩)
      (fun f hf => by
        obtain ⟨pp, hp, rfl⟩ := Wr.on_mem hf
        exact ⟨i0.1, ⟨_, i0.at_ pp.1 (List.getElem?_eq_getElem (by simpa using hlt pp hp))⟩, i0.2.2 _⟩)
    have hkinds : (Wr.on w.heap.size (Wr.msgs (kn : Int))).map Prod.snd = (Wr.msgs (kn : Int)).map Prod.snd := by unfold Wr.on; rw [List.map_map]; rfl
    rw [hkinds] at htk
    have Htk := Lib.hid htk
    have I0 := Lib.hid i0
    have I1 := Lib.hid i1
    have Hb3 := Lib.hid hb3
    have Hb4 := Lib.hid (Hb2.out.trans (hb3.mono (by omega)))
    clear htk i0 i1 hA3 hAb3 hb3 hkinds
    go_wp2_with fail
    refine Htk.out.mono ?_
    have hbk : ∀ a ∈ Wr.at_ (Wr.on w.heap.size (Wr.msgs kn)), a.block = w.heap.size := fun a ha => by
      obtain ⟨f, hf, rfl⟩ := List.mem_map.1 ha
      exact Wr.on_block hf
    have Hbk := Lib.hid hbk
    clear hbk
    rcases hal : Wr.all ((Wr.msgs (kn : Int)).map Prod.snd) r with _ | vs
    · rintro e v4 ⟨rfl, hu⟩
      have e0 : Wr.msgRead l = none := by unfold Wr.msgRead; rw [Hnm.out]; show Option.map _ (Wr.all _ _) = _; rw [hal]; rfl
      obtain ⟨ys, hyl, m0⟩ := kept_holds I0.out hu
      obtain ⟨y0, y1, y2, y3, y4, rfl⟩ := Wr.len5 hyl
      have m1 := I1.out.upd hu (fun a ha => by rw [Hbk.out a ha]; omega)
      have hb5' : Below w.heap.size w v4 := hu.below Hb4.out (fun a ha => by rw [Hbk.out a ha]; exact Nat.le_refl _) (by omega)
      show Leaves _ _ _ _ _ _ _
      refine leaves_cons (f := 44) (args := #[.pointer (some ⟨w.heap.size, 0, none⟩), .pointer (some ⟨w.heap.size + 1, 0, none⟩)]) (by simp) (by simp [go_sem]) ?_
      refine (catch_readmsg w.heap.size (w.heap.size + 1) _ _ _ _ _ _ _ m0 m1 (by omega)).mono ?_
      rintro e u' w5 ⟨rfl, rfl, i0, i1, hb5⟩
      have c0 := i0.at_ 0 rfl
      have c1 := i0.at_ 1 rfl
      have c2 := i0.at_ 2 rfl
      have c3 := i0.at_ 3 rfl
      have c4 := i0.at_ 4 rfl
      have c9 := i1.at_ 0 rfl
      simp only [settle, Wr.panned]
      refine ⟨.tuple #[.agg #[.int .i64 0, .int .i64 0, .int .i64 0, .string ⟨#[]⟩, .int .i64 0], .int .i64 220], ?_, ?_⟩
      · simp [results, Try.results21, go_sem, c0, c1, c2, c3, c4, c9]
      · rw [e0]
        exact ⟨rfl, hb5'.trans (hb5 _ (Nat.le_refl _) (by omega))⟩
    · rintro e v4 ⟨rfl, hu, hvl, hvs⟩
      have e0 : Wr.msgRead l = some (Wr.Mg.puts (Wr.msgs (kn : Int)) vs (Wr.Mg.bare kn)) := by unfold Wr.msgRead; rw [Hnm.out]; show Option.map _ (Wr.all _ _) = _; rw [hal]; rfl
      have m0 := took_holds hndo (fun p hp => by simpa using hlt p hp) I0.out hu (by rw [hvl, Wr.on_length]) hvs
      have m1 := I1.out.upd hu (fun a ha => by rw [Hbk.out a ha]; omega)
      have hb5' : Below w.heap.size w v4 := hu.below Hb4.out (fun a ha => by rw [Hbk.out a ha]; exact Nat.le_refl _) (by omega)
      have m0' : Holds v4 w.heap.size (Wr.Mg.puts (Wr.msgs (kn : Int)) vs (Wr.Mg.bare kn)).cells := by
        rw [← Wr.Mg.puts_cells hok.out.1 (Wr.all_fits hal)]
        exact m0
      generalize Wr.Mg.puts (Wr.msgs (kn : Int)) vs (Wr.Mg.bare kn) = R at m0' e0
      obtain ⟨k, p, q, s, n2⟩ := R
      have m0' : Holds v4 w.heap.size [.int .i64 k, .int .i64 p, .int .i64 q, .string s, .int .i64 n2] := m0'
      have E0 := Lib.hid e0
      have d0 := m0'.at_ 0 rfl
      have f0 := m0'.2.2 0
      have d1 := m0'.at_ 1 rfl
      have f1 := m0'.2.2 1
      have d2 := m0'.at_ 2 rfl
      have f2 := m0'.2.2 2
      have d3 := m0'.at_ 3 rfl
      have f3 := m0'.2.2 3
      have d4 := m0'.at_ 4 rfl
      have f4 := m0'.2.2 4
      have d9 := m1.at_ 0 rfl
      have f9 := m1.2.2 0
      have fin : Holds ((((((v4.setCell ⟨w.heap.size, 0, none⟩ (.int .i64 k)).setCell ⟨w.heap.size, 1, none⟩ (.int .i64 p)).setCell ⟨w.heap.size, 2, none⟩ (.int .i64 q)).setCell ⟨w.heap.size, 3, none⟩ (.string s)).setCell ⟨w.heap.size, 4, none⟩ (.int .i64 n2)).setCell ⟨w.heap.size + 1, 0, none⟩ (.int .i64 0)) w.heap.size [.int .i64 k, .int .i64 p, .int .i64 q, .string s, .int .i64 n2] ∧ Holds ((((((v4.setCell ⟨w.heap.size, 0, none⟩ (.int .i64 k)).setCell ⟨w.heap.size, 1, none⟩ (.int .i64 p)).setCell ⟨w.heap.size, 2, none⟩ (.int .i64 q)).setCell ⟨w.heap.size, 3, none⟩ (.string s)).setCell ⟨w.heap.size, 4, none⟩ (.int .i64 n2)).setCell ⟨w.heap.size + 1, 0, none⟩ (.int .i64 0)) (w.heap.size + 1) [.int .i64 0] ∧ Below w.heap.size w ((((((v4.setCell ⟨w.heap.size, 0, none⟩ (.int .i64 k)).setCell ⟨w.heap.size, 1, none⟩ (.int .i64 p)).setCell ⟨w.heap.size, 2, none⟩ (.int .i64 q)).setCell ⟨w.heap.size, 3, none⟩ (.string s)).setCell ⟨w.heap.size, 4, none⟩ (.int .i64 n2)).setCell ⟨w.heap.size + 1, 0, none⟩ (.int .i64 0)) :=
        ⟨Holds.other (((((m0'.set 0 (.int .i64 k) (by simp)).set 1 (.int .i64 p) (by simp)).set 2 (.int .i64 q) (by simp)).set 3 (.string s) (by simp)).set 4 (.int .i64 n2) (by simp)) (by omega), Holds.set (((((m1.other (b := w.heap.size) (i := 0) (v := .int .i64 k) (by omega)).other (b := w.heap.size) (i := 1) (v := .int .i64 p) (by omega)).other (b := w.heap.size) (i := 2) (v := .int .i64 q) (by omega)).other (b := w.heap.size) (i := 3) (v := .string s) (by omega)).other (b := w.heap.size) (i := 4) (v := .int .i64 n2) (by omega)) 0 (.int .i64 0) (by simp), below_set (below_set (below_set (below_set (below_set (below_set (hb5') ⟨w.heap.size, 0, none⟩ (.int .i64 k) (Nat.le_refl _)) ⟨w.heap.size, 1, none⟩ (.int .i64 p) (Nat.le_refl _)) ⟨w.heap.size, 2, none⟩ (.int .i64 q) (Nat.le_refl _)) ⟨w.heap.size, 3, none⟩ (.string s) (Nat.le_refl _)) ⟨w.heap.size, 4, none⟩ (.int .i64 n2) (Nat.le_refl _)) _ _ (by show w.heap.size ≤ w.heap.size + 1; omega)⟩
      have Fin := Lib.hid fin
      clear fin e0 hvs m0 m0' m1 hb5' hal hu
      go_wp2
      obtain ⟨i0, i1, hb6⟩ := Fin.out
      refine leaves_cons (f := 44) (args := #[.pointer (some ⟨w.heap.size, 0, none⟩), .pointer (some ⟨w.heap.size + 1, 0, none⟩)]) (by simp) (by simp [go_sem]) ?_
      refine (idle_readmsg _ _ _).mono ?_
      rintro e u' w5 ⟨rfl, rfl, rfl⟩
      have c0 := i0.at_ 0 rfl
      have c1 := i0.at_ 1 rfl
      have c2 := i0.at_ 2 rfl
      have c3 := i0.at_ 3 rfl
      have c4 := i0.at_ 4 rfl
      have c9 := i1.at_ 0 rfl
      simp only [settle]
      refine ⟨.tuple #[.agg #[.int .i64 k, .int .i64 p, .int .i64 q, .string s, .int .i64 n2], .int .i64 0], ?_, ?_⟩
      · simp [results, Try.results21, go_sem, c0, c1, c2, c3, c4, c9]
      · rw [E0.out]
        exact ⟨rfl, hb6⟩
end Go.Proofs.Ytonjjihbpeblkaa
