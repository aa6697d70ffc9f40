/- What package wire's Bytes returns. -/
import Derived.Test.YtonjjihbpeblkaaWrEq
namespace Go.Proofs.Ytonjjihbpeblkaa
open Go.RowKit
namespace Wr
/-- The values of a request's fields. -/
def askVals (r : Rq) : List Value := (asks r.k).map fun p => r.cells.getD p.1 undef
/-- A request's bytes. -/
def askBytes (r : Rq) : Option (List Nat) := if asks r.k = [] ∨ r.clr (asks r.k) ≠ Rq.bare r.k then none else (encs (askVals r)).map (Cd.num r.k.toNat ++ ·)
/-- Numbers that an int may be. -/
def Rq.small (r : Rq) : Prop := r.d < 9223372036854775808 ∧ r.n < 9223372036854775808 ∧ r.u < 9223372036854775808 ∧ r.p < 9223372036854775808 ∧ r.q < 9223372036854775808
end Wr
/-- Bytes, or the error, in memory of the call's own. -/
def GivesBs (w : World) (o : Option (List Nat)) (e : Ending) (w' : World) : Prop :=
  match o with
  | none => e = .returned (.tuple #[.slice none 0 0, .int .i64 220]) ∧ Below w.heap.size w w'
  | some l => ∃ A c, e = .returned (.tuple #[.slice A l.length c, .int .i64 0]) ∧ Own w' w.heap.size A l.length c l ∧ Below w.heap.size w w'
/-- Two blocks alike, made. -/
theorem two_box (w : World) (xs : List Value) (t : TypeId) : Holds ((w.alloc (.cells xs.toArray t)).alloc (.cells xs.toArray t)) w.heap.size xs ∧ Holds ((w.alloc (.cells xs.toArray t)).alloc (.cells xs.toArray t)) (w.heap.size + 1) xs ∧ Below w.heap.size w ((w.alloc (.cells xs.toArray t)).alloc (.cells xs.toArray t)) ∧ ((w.alloc (.cells xs.toArray t)).alloc (.cells xs.toArray t)).heap.size = w.heap.size + 2 := by
  have k0 := (Holds.new w xs.toArray t).alloc (.cells xs.toArray t)
  have k1 := Holds.new (w.alloc (.cells xs.toArray t)) xs.toArray t
  rw [show (w.alloc (.cells xs.toArray t)).heap.size = w.heap.size + 1 by simp] at k1
  exact ⟨by simpa using k0, by simpa using k1, ((Below.refl _ _).alloc (Nat.le_refl _) _).alloc (by simp) _, by simp⟩
/-- What is known of a request's fields. -/
theorem ask_vals {b : Nat} (r : Wr.Rq) (hr : r.small) {w : World} (h : Holds w b r.cells) (i : Nat) (f : Wr.Fld) (v : Value) (hf : (Wr.on b (Wr.asks r.k))[i]? = some f) (hv : (Wr.askVals r)[i]? = some v) : f.1.block = b ∧ w.cell? f.1 = some v ∧ Wr.fits f.2 v := by
  unfold Wr.on at hf
  unfold Wr.askVals at hv
  rw [List.getElem?_map] at hf hv
  cases hp : (Wr.asks r.k)[i]? with
  | none => rw [hp] at hf; cases hf
  | some pp =>
    rw [hp] at hf hv
    injection hf with hf
    injection hv with hv
    subst hf hv
    have hall := List.all_eq_true.1 (Wr.asks_ok r.k).1 pp (List.mem_of_getElem? hp)
    obtain ⟨h1, h2, h3, h4, h5⟩ := hr
    simp at hall
    rcases hall with (((((rfl | rfl) | rfl) | rfl) | rfl) | rfl)
    · exact ⟨rfl, h.at_ 1 rfl, r.s, rfl⟩
    · exact ⟨rfl, h.at_ 2 rfl, r.d, rfl, h1⟩
    · exact ⟨rfl, h.at_ 3 rfl, r.n, rfl, h2⟩
    · exact ⟨rfl, h.at_ 4 rfl, r.u, rfl, h3⟩
    · exact ⟨rfl, h.at_ 5 rfl, r.p, rfl, h4⟩
    · exact ⟨rfl, h.at_ 6 rfl, r.q, rfl, h5⟩
set_option maxRecDepth 100000 in
set_option maxHeartbeats 8000000 in
theorem wbytes_any (r : Wr.Rq) (hr : r.small) (w : World) :
    Calls Try.prog 10 #[.agg r.cells.toArray] w (GivesBs w (Wr.askBytes r)) := by
  obtain ⟨k, s, d, n, u, p, q⟩ := r
  obtain ⟨k0, k1, hb, hsz⟩ := two_box w [.int .i64 k, .string s, .int .i64 d, .int .i64 n, .int .i64 u, .int .i64 p, .int .i64 q] 24
  have hrq := Lib.hid (fun wx => request_any (w.heap.size + 1) k (.string s) (.int .i64 d) (.int .i64 n) (.int .i64 u) (.int .i64 p) (.int .i64 q) wx)
  have hrq0 := Lib.hid (fun wx => request_any w.heap.size k (.string s) (.int .i64 d) (.int .i64 n) (.int .i64 u) (.int .i64 p) (.int .i64 q) wx)
  have hok := Lib.hid (Wr.asks_ok k)
  have K0 := Lib.hid k0
  have K1 := Lib.hid k1
  have Hb := Lib.hid hb
  have Hsz := Lib.hid hsz
  have Hr := Lib.hid hr
  clear k0 k1 hb hsz hr
  show Calls _ _ #[.agg #[.int .i64 k, .string s, .int .i64 d, .int .i64 n, .int .i64 u, .int .i64 p, .int .i64 q]] _ _
  go_enter Try.func10, Try.ntmps10
  go_wp2_with fail
  generalize (w.alloc (.cells #[Value.int .i64 k, .string s, .int .i64 d, .int .i64 n, .int .i64 u, .int .i64 p, .int .i64 q] 24)).alloc (.cells #[Value.int .i64 k, .string s, .int .i64 d, .int .i64 n, .int .i64 u, .int .i64 p, .int .i64 q] 24) = w1 at *
  refine (hrq.out _ K1.out).mono ?_
  rintro e v1 ⟨A1, c1, rfl, hA1, hb1, hAb1⟩
  have hs1 : w.heap.size + 2 ≤ w1.heap.size := Nat.le_of_eq Hsz.out.symm
  have hs1' := hb1.size
  have j1 := K1.out.below hb1
  have j0 := K0.out.below hb1
  have HA1 := Lib.hid hA1
  have HAb1 := Lib.hid hAb1
  have Hb1 := Lib.hid hb1
  have hlen1 := Wr.on_length (w.heap.size + 1) (Wr.asks k)
  have hzero := Lib.hid (zero_all A1 _ c1 (Wr.on (w.heap.size + 1) (Wr.asks k)) v1 (by
      rw [hlen1]; have := hok.out.2; unfold Wr.apart at this; rw [Bool.and_eq_true, decide_eq_true_eq, decide_eq_true_eq] at this; omega) rfl (Wr.on_nodup _ hok.out.2) hA1 (fun b o e f hf => by
      have := (hAb1 b o e).1; rw [Wr.on_block hf]; omega) (fun f hf => by
      obtain ⟨pp, hp, rfl⟩ := Wr.on_mem hf
      have hall := List.all_eq_true.1 hok.out.1 pp hp
      refine ⟨j1.1, ?_, j1.2.2 _⟩
      have h6 : pp.1 < 7 := by simp at hall; rcases hall with (((((rfl | rfl) | rfl) | rfl) | rfl) | rfl) <;> simp
      exact ⟨_, j1.at_ pp.1 (List.getElem?_eq_getElem (by simpa using h6))⟩))
  have J1 := Lib.hid j1
  have J0 := Lib.hid j0
  clear hlen1 hA1 hAb1 hb1 j1 j0
  go_wp2_with fail
  refine hzero.out.mono ?_
  rintro e v2 ⟨rfl, hz2⟩
  have hbk : ∀ a ∈ Wr.at_ (Wr.on (w.heap.size + 1) (Wr.asks k)), a.block = w.heap.size + 1 := fun a ha => by
    obtain ⟨f, hf, rfl⟩ := List.mem_map.1 ha
    exact Wr.on_block hf
  have j0 := J0.out.upd hz2.1 (fun a ha => by rw [hbk a ha]; omega)
  have hz2' := hz2
  rw [Wr.on_length] at hz2'
  have j1 := clr_holds (r := ⟨k, s, d, n, u, p, q⟩) hok.out.1 hz2' J1.out
  have hb2 : Below w.heap.size w v2 := hz2.1.below (Hb.out.trans (Hb1.out.mono (by omega))) (fun a ha => by rw [hbk a ha]; omega) (by omega)
  have hs2 := hz2.1.size
  have J0 := Lib.hid j0
  have J1 := Lib.hid j1
  have Hb2 := Lib.hid hb2
  clear hbk hz2 hz2' j0 j1 hb2 hzero HA1 HAb1
  go_wp2_with fail
  refine (hrq0.out _ J0.out).mono ?_
  rintro e v3 ⟨A3, c3, rfl, hA3, hb3, hAb3⟩
  have j0 := J0.out.below hb3
  have j1 := J1.out.below hb3
  have hb4 : Below w.heap.size w v3 := Hb2.out.trans (hb3.mono (by omega))
  have hs3 := hb3.size
  have Hb4 := Lib.hid hb4
  rw [Wr.on_length] at hA3 ⊢
  have HA3 := Lib.hid hA3
  have HAb3 := Lib.hid hAb3
  clear hA3 hAb3 hb3 hb4
  by_cases h0 : Wr.asks k = []
  · have e0 : Wr.askBytes ⟨k, s, d, n, u, p, q⟩ = none := by unfold Wr.askBytes; rw [if_pos (.inl h0)]
    rw [show (Wr.asks k).length = 0 by rw [h0]; rfl]
    go_wp2
    go_ret2
    rw [e0]
    exact ⟨rfl, Hb4.out⟩
  · have hm0 : (Wr.asks k).length ≠ 0 := fun e => h0 (List.eq_nil_of_length_eq_zero e)
    have hm5 : (Wr.asks k).length ≤ 5 := by have := hok.out.2; unfold Wr.apart at this; rw [Bool.and_eq_true, decide_eq_true_eq, decide_eq_true_eq] at this; omega
    have hk := (Wr.asks_cases k).resolve_left h0
    obtain ⟨kn, hkn⟩ := Int.eq_ofNat_of_zero_le (show 0 ≤ k by omega)
    have q0 := j0.at_ 0 rfl
    have p0 := j1.at_ 0 rfl
    have p1 := j1.at_ 1 rfl
    have p2 := j1.at_ 2 rfl
    have p3 := j1.at_ 3 rfl
    have p4 := j1.at_ 4 rfl
    have p5 := j1.at_ 5 rfl
    have p6 := j1.at_ 6 rfl
    have hne := ne_Rq (Wr.Rq.clr (Wr.asks k) ⟨k, s, d, n, u, p, q⟩) (Wr.Rq.bare k)
    simp only [Wr.Rq.cells] at hne
    have hvals := Lib.hid (fun wx (hx : Holds wx w.heap.size (Wr.Rq.cells ⟨k, s, d, n, u, p, q⟩)) => ask_vals (b := w.heap.size) ⟨k, s, d, n, u, p, q⟩ Hr.out hx)
    have J0 := Lib.hid j0
    by_cases hR : Wr.Rq.clr (Wr.asks k) ⟨k, s, d, n, u, p, q⟩ = Wr.Rq.bare k
    · have e0 : Wr.askBytes ⟨k, s, d, n, u, p, q⟩ = (Wr.encs (Wr.askVals ⟨k, s, d, n, u, p, q⟩)).map (Cd.num k.toNat ++ ·) := by unfold Wr.askBytes; rw [if_neg (fun e => e.elim h0 (fun e => e hR))]
      have E0 := Lib.hid e0
      rw [decide_eq_false (fun e => e hR)] at hne
      clear e0 hR j0 j1
      obtain ⟨m, hm⟩ : ∃ m, m = (Wr.asks k).length := ⟨_, rfl⟩
      rw [← hm]
      rw [← hm] at hm0 hm5
      have hm0i : ¬ (m : Int) = 0 := by omega
      have Hm := Lib.hid hm
      have hnum := Lib.hid (num_any kn (by omega))
      clear hm
      subst hkn
      simp only [Wr.Rq.bare] at hne
      generalize Wr.Rq.clr (Wr.asks (kn : Int)) ⟨(kn : Int), s, d, n, u, p, q⟩ = R at *
      go_wp2_with fail
      refine (hnum.out _).mono ?_
      rintro e v5 ⟨A5, c5, rfl, ho5, hb5⟩
      have hA5 := HA3.out.below hb5
      have j5 := J0.out.below hb5
      have hlen := Cd.num_length kn
      have hput := wput_any v3.heap.size A5 (Cd.num kn).length c5 (Cd.num kn) A3 m c3 (Wr.on w.heap.size (Wr.asks kn)) (Wr.askVals ⟨kn, s, d, n, u, p, q⟩) v5 (by omega) (by rw [Wr.on_length, Hm.out]) (by unfold Wr.askVals; rw [List.length_map, Hm.out]) (by omega) hb5.size ho5 (by rw [Hm.out]; exact hA5) (fun b o e => (HAb3.out b o e).2)
        (fun i f v hf hv => by
          obtain ⟨a1, a2, a3⟩ := hvals.out v5 j5 i f v hf hv
          exact ⟨by rw [a1]; have := J0.out.1; omega, a2, a3⟩)
      have Hput := Lib.hid hput
      have Hb5 := Lib.hid (Hb4.out.trans (hb5.mono (by omega)))
      clear hput hA5 j5 hb5 ho5
      rcases hen : Wr.encs (Wr.askVals ⟨kn, s, d, n, u, p, q⟩) with _ | rb
      · rw [hen] at Hput E0
        go_wp2_with fail
        refine Hput.out.mono ?_
        rintro e v6 ⟨rfl, hb6⟩
        go_wp2
        go_ret2
        rw [E0.out]
        exact ⟨rfl, Hb5.out.trans (hb6.mono (by omega))⟩
      · rw [hen] at Hput E0
        go_wp2_with fail
        refine Hput.out.mono ?_
        have e1 : Wr.askBytes ⟨kn, s, d, n, u, p, q⟩ = some (Cd.num kn ++ rb) := by rw [E0.out]; rfl
        intro e v6 h
        have h2 : ∃ B c, e = .returned (.tuple #[.slice B (Cd.num kn ++ rb).length c, .int .i64 0]) ∧ Own v6 v3.heap.size B (Cd.num kn ++ rb).length c (Cd.num kn ++ rb) ∧ Below v3.heap.size v5 v6 := h
        clear h
        generalize Cd.num kn ++ rb = L at e1 h2
        have E1 := Lib.hid e1
        clear e1
        obtain ⟨B6, c6, rfl, ho6, hb6⟩ := h2
        go_wp2
        go_ret2
        rw [E1.out]
        exact ⟨B6, c6, rfl, own_base ho6 (show w.heap.size ≤ v3.heap.size by omega), Hb5.out.trans (hb6.mono (by omega))⟩
    · have e0 : Wr.askBytes ⟨k, s, d, n, u, p, q⟩ = none := by unfold Wr.askBytes; rw [if_pos (.inr hR)]
      have E0 := Lib.hid e0
      rw [decide_eq_true hR] at hne
      clear e0 hR j0 j1
      obtain ⟨m, hm⟩ : ∃ m, m = (Wr.asks k).length := ⟨_, rfl⟩
      rw [← hm]
      rw [← hm] at hm0 hm5
      have hm0i : ¬ (m : Int) = 0 := by omega
      clear hm
      subst hkn
      simp only [Wr.Rq.bare] at hne
      generalize Wr.Rq.clr (Wr.asks (kn : Int)) ⟨(kn : Int), s, d, n, u, p, q⟩ = R at *
      go_wp2
      go_ret2
      rw [E0.out]
      exact ⟨rfl, Hb4.out⟩
end Go.Proofs.Ytonjjihbpeblkaa
