/- The document's bytes of a request. -/
import Derived.Test.YtonjjihbpeblkaaRfAsk
namespace Go.Proofs.Ytonjjihbpeblkaa
open Go.RowKit
theorem puts_iff (r : Wr.Rq) (hs : r.small) (h0 : Wr.asks r.k ≠ []) : (Wr.Rq.puts (Wr.asks r.k) (Wr.askVals r) (Wr.Rq.bare r.k) ≠ r) ↔ r.clr (Wr.asks r.k) ≠ Wr.Rq.bare r.k := by
  constructor
  · intro h e
    exact h (Wr.Rq.puts_vals r h0 e)
  · intro h e
    have h2 := (Wr.Rq.vals_puts r.k (Wr.askVals r) h0 (by unfold Wr.askVals; rw [List.length_map]) (Wr.ask_fit r hs)).2.1
    rw [e] at h2
    exact h h2
set_option maxRecDepth 100000 in
theorem enter_made (args : Array Value) (w : World) : (callFunc 30 args).run Try.prog w = .ok (.enter 30 args) w := run_enter Try.func30 (by kernel_rfl) (by kernel_rfl) args w
set_option maxRecDepth 100000 in
set_option maxHeartbeats 8000000 in
theorem raskbytes_any (r : Wr.Rq) (hr : r.small) (_ : r.s.size ≤ 9223372036854775807) (w : World) :
    Calls Try.prog 11 #[.agg r.cells.toArray] w (GivesBs w (Wr.askBytes r)) := by
  obtain ⟨k, s, d, n, u, p, q⟩ := r
  have hHB : Holds (w.alloc (.cells #[Value.int .i64 k, .string s, .int .i64 d, .int .i64 n, .int .i64 u, .int .i64 p, .int .i64 q] 24)) w.heap.size [.int .i64 k, .string s, .int .i64 d, .int .i64 n, .int .i64 u, .int .i64 p, .int .i64 q] := by simpa using Holds.new w #[Value.int .i64 k, .string s, .int .i64 d, .int .i64 n, .int .i64 u, .int .i64 p, .int .i64 q] 24
  have hbb : Below w.heap.size w (w.alloc (.cells #[Value.int .i64 k, .string s, .int .i64 d, .int .i64 n, .int .i64 u, .int .i64 p, .int .i64 q] 24)) := (Below.refl _ _).alloc (Nat.le_refl _) _
  have HB := Lib.hid hbb
  have HH := Lib.hid hHB
  have Hr := Lib.hid hr
  clear hbb hHB hr
  by_cases h0 : Wr.asks k = []
  · have E0 := Lib.hid (show Wr.askBytes ⟨k, s, d, n, u, p, q⟩ = none by unfold Wr.askBytes; rw [if_pos (.inl h0)])
    have hf := Lib.hid (fun wx => fields_none ⟨k, s, d, n, u, p, q⟩ h0 wx)
    clear h0
    show Calls _ _ #[.agg #[.int .i64 k, .string s, .int .i64 d, .int .i64 n, .int .i64 u, .int .i64 p, .int .i64 q]] _ _
    go_enter Try.func11, Try.ntmps11
    go_wp2_with fail
    refine (hf.out _).mono ?_
    rintro e v2 ⟨rfl, hb2⟩
    have HB2 := Lib.hid (below_next HB.out hb2)
    clear hb2
    go_wp2
    go_region
    all_goals
      go_wp2
      go_ret2
      rw [E0.out]
      exact ⟨rfl, HB2.out.drew⟩
  · have hk := (Wr.asks_cases k).resolve_left h0
    have hf := Lib.hid (fun wx => fields_any ⟨k, s, d, n, u, p, q⟩ h0 wx)
    have hlv : (Wr.askVals ⟨k, s, d, n, u, p, q⟩).length = (Wr.asks k).length := by unfold Wr.askVals; rw [List.length_map]
    have hft := Wr.ask_fit ⟨k, s, d, n, u, p, q⟩ Hr.out
    have h10 : (Wr.asks k).length ≤ 10 := by have := (Wr.asks_ok k).2; unfold Wr.apart at this; rw [Bool.and_eq_true, decide_eq_true_eq, decide_eq_true_eq] at this; omega
    have hfv : ∀ v ∈ Wr.askVals ⟨k, s, d, n, u, p, q⟩, ∃ t, Wr.fits t v := fun v hv => by
      obtain ⟨i, hi, e⟩ := List.getElem_of_mem hv
      exact ⟨_, hft i ((Wr.asks k)[i]'(by omega)) v (List.getElem?_eq_getElem _) (by rw [List.getElem?_eq_getElem hi, e])⟩
    have hmd := Lib.hid (fun (A : Option Addr) (c : Nat) (wx : World) (hD : RdF wx A (Wr.askVals ⟨k, s, d, n, u, p, q⟩).length (Wr.askVals ⟨k, s, d, n, u, p, q⟩)) => made_any k h0 A c _ wx hlv hft hD)
    obtain ⟨kn, hkn⟩ := Int.eq_ofNat_of_zero_le (show 0 ≤ k by omega)
    have hrow : ∀ (A : Option Addr) (c : Nat) (wx : World), RdF wx A (Wr.askVals ⟨k, s, d, n, u, p, q⟩).length (Wr.askVals ⟨k, s, d, n, u, p, q⟩) → Calls Try.prog 31 #[.int .i64 k, .slice A (Wr.askVals ⟨k, s, d, n, u, p, q⟩).length c] wx (GivesBool wx ((Wr.encs (Wr.askVals ⟨k, s, d, n, u, p, q⟩)).map (Cd.num kn ++ ·))) := fun A c wx hD => by
      rw [hkn]
      rw [hkn] at hD hfv hlv h10
      exact row_any kn (by omega) A _ c _ wx hD (by omega) hfv
    have Hrow := Lib.hid hrow
    have hiff := puts_iff ⟨k, s, d, n, u, p, q⟩ Hr.out h0
    have hne := ne_Rq (Wr.Rq.puts (Wr.asks k) (Wr.askVals ⟨k, s, d, n, u, p, q⟩) (Wr.Rq.bare k)) ⟨k, s, d, n, u, p, q⟩
    have hgo : (Wr.askBytes ⟨k, s, d, n, u, p, q⟩ = none ∧ decide (Wr.Rq.puts (Wr.asks k) (Wr.askVals ⟨k, s, d, n, u, p, q⟩) (Wr.Rq.bare k) ≠ ⟨k, s, d, n, u, p, q⟩) = true) ∨
        (Wr.askBytes ⟨k, s, d, n, u, p, q⟩ = (Wr.encs (Wr.askVals ⟨k, s, d, n, u, p, q⟩)).map (Cd.num kn ++ ·) ∧ decide (Wr.Rq.puts (Wr.asks k) (Wr.askVals ⟨k, s, d, n, u, p, q⟩) (Wr.Rq.bare k) ≠ ⟨k, s, d, n, u, p, q⟩) = false) := by
      by_cases hR : Wr.Rq.clr (Wr.asks k) ⟨k, s, d, n, u, p, q⟩ = Wr.Rq.bare k
      · refine .inr ⟨?_, decide_eq_false (fun e => hiff.1 e hR)⟩
        unfold Wr.askBytes
        rw [if_neg (fun e => e.elim h0 (fun e => e hR))]
        show Option.map (Cd.num k.toNat ++ ·) _ = _
        rw [show k.toNat = kn by omega]
      · refine .inl ⟨?_, decide_eq_true (hiff.2 hR)⟩
        unfold Wr.askBytes
        rw [if_pos (.inr hR)]
    have Hlv := Lib.hid (show (Wr.askVals ⟨k, s, d, n, u, p, q⟩).length ≤ 10 by omega)
    clear hrow hiff hft hfv hlv h10 h0 hkn hk
    generalize hPP : Wr.Rq.puts (Wr.asks k) (Wr.askVals ⟨k, s, d, n, u, p, q⟩) (Wr.Rq.bare k) = PP at hmd hne hgo
    clear hPP
    generalize Wr.askVals ⟨k, s, d, n, u, p, q⟩ = vs at *
    obtain ⟨yk, ys, yd, yn, yu, yp, yq⟩ := PP
    simp only [Wr.Rq.cells] at hne
    have hmd2 := hmd.out
    simp only [Wr.Rq.cells] at hmd2
    have hmd := Lib.hid hmd2
    clear hmd2
    show Calls _ _ #[.agg #[.int .i64 k, .string s, .int .i64 d, .int .i64 n, .int .i64 u, .int .i64 p, .int .i64 q]] _ _
    go_enter Try.func11, Try.ntmps11
    go_wp2_with fail
    generalize w.alloc (.cells #[Value.int .i64 k, .string s, .int .i64 d, .int .i64 n, .int .i64 u, .int .i64 p, .int .i64 q] 24) = w1 at *
    refine (hf.out _).mono ?_
    rintro e v2 ⟨A2, c2, rfl, hD2, hc2, hb2⟩
    have hsz : w.heap.size ≤ w1.heap.size := HB.out.size
    have HB2 := Lib.hid (below_next HB.out hb2)
    have K2 := Lib.hid (HH.out.below hb2)
    have HD2 := Lib.hid hD2
    have hc : ∀ wx, Below v2.heap.size v2 wx → wx.cell? ⟨w.heap.size, 0, none⟩ = some (.int .i64 k) ∧ wx.cell? ⟨w.heap.size, 1, none⟩ = some (.string s) ∧ wx.cell? ⟨w.heap.size, 2, none⟩ = some (.int .i64 d) ∧ wx.cell? ⟨w.heap.size, 3, none⟩ = some (.int .i64 n) ∧ wx.cell? ⟨w.heap.size, 4, none⟩ = some (.int .i64 u) ∧ wx.cell? ⟨w.heap.size, 5, none⟩ = some (.int .i64 p) ∧ wx.cell? ⟨w.heap.size, 6, none⟩ = some (.int .i64 q) := fun wx hx => by
      have k0 := K2.out.below hx
      exact ⟨k0.at_ 0 rfl, k0.at_ 1 rfl, k0.at_ 2 rfl, k0.at_ 3 rfl, k0.at_ 4 rfl, k0.at_ 5 rfl, k0.at_ 6 rfl⟩
    have HC := Lib.hid hc
    have hd0 : Below v2.heap.size v2 v2.drew := (Below.refl _ _).drew
    have hc0 := hc _ hd0
    clear hc hb2 hD2
    rcases hgo with ⟨e0, hd⟩ | ⟨e0, hd⟩
    · rw [hd] at hne
      have E0 := Lib.hid e0
      clear hd e0
      go_wp2_with fail
      go_region_held3 (fun wx => wx.cell? ⟨w.heap.size, 0, none⟩ = some (.int .i64 k) ∧ wx.cell? ⟨w.heap.size, 1, none⟩ = some (.string s) ∧ wx.cell? ⟨w.heap.size, 2, none⟩ = some (.int .i64 d) ∧ wx.cell? ⟨w.heap.size, 3, none⟩ = some (.int .i64 n) ∧ wx.cell? ⟨w.heap.size, 4, none⟩ = some (.int .i64 u) ∧ wx.cell? ⟨w.heap.size, 5, none⟩ = some (.int .i64 p) ∧ wx.cell? ⟨w.heap.size, 6, none⟩ = some (.int .i64 q)) (first | exact hc0 | exact HC.out _ hq4) (first | (go_at_call 30; refine (hmd.out _ _ _ (by first | exact HD2.out.below hd0 | exact HD2.out)).mono ?_; rintro e v4 ⟨rfl, hb4⟩; have hq4 : Below v2.heap.size v2 v4 := below_next (by assumption) hb4))
      all_goals
        have HQ := Lib.hid (HB2.out.trans (hq4.mono (by have := HB2.out.size; omega)))
        go_wp2
        go_ret2
        rw [E0.out]
        exact ⟨rfl, HQ.out⟩
    · rw [hd] at hne
      have E0 := Lib.hid e0
      clear hd e0
      go_wp2_with fail
      go_region_held3 (fun wx => wx.cell? ⟨w.heap.size, 0, none⟩ = some (.int .i64 k) ∧ wx.cell? ⟨w.heap.size, 1, none⟩ = some (.string s) ∧ wx.cell? ⟨w.heap.size, 2, none⟩ = some (.int .i64 d) ∧ wx.cell? ⟨w.heap.size, 3, none⟩ = some (.int .i64 n) ∧ wx.cell? ⟨w.heap.size, 4, none⟩ = some (.int .i64 u) ∧ wx.cell? ⟨w.heap.size, 5, none⟩ = some (.int .i64 p) ∧ wx.cell? ⟨w.heap.size, 6, none⟩ = some (.int .i64 q)) (first | exact hc0 | exact HC.out _ hq4) (first | (go_at_call 30; refine (hmd.out _ _ _ (by first | exact HD2.out.below hd0 | exact HD2.out)).mono ?_; rintro e v4 ⟨rfl, hb4⟩; have hq4 : Below v2.heap.size v2 v4 := below_next (by assumption) hb4))
      all_goals
        have HQ := Lib.hid (HB2.out.trans (hq4.mono (by have := HB2.out.size; omega)))
        have k4 := K2.out.below hq4
        have d0 := k4.at_ 0 rfl
        have hD4 := HD2.out.below hq4
        have hs4 : w.heap.size ≤ v4.heap.size := HQ.out.size
        clear hne hc0 hmd hf
        rcases hen : Wr.encs vs with _ | rb
        · rw [hen] at Hrow E0
          go_wp2_with fail
          refine (Hrow.out _ _ _ hD4).mono ?_
          rintro e v6 ⟨rfl, hb6⟩
          have HQ6 := Lib.hid (below_next HQ.out hb6)
          clear hb6
          go_wp2
          go_ret2
          rw [E0.out]
          exact ⟨rfl, HQ6.out⟩
        · rw [hen] at Hrow E0
          have e1 := E0.out
          rw [Option.map_some] at e1
          have hrow2 := Hrow.out
          simp only [Option.map_some] at hrow2
          generalize Cd.num kn ++ rb = L at e1 hrow2
          have E1 := Lib.hid e1
          have Hrow2 := Lib.hid hrow2
          clear e1 hrow2 E0
          go_wp2_with fail
          refine (Hrow2.out _ _ _ hD4).mono ?_
          rintro e v6 ⟨A9, c9, rfl, ho9, hb6⟩
          have HQ6 := Lib.hid (below_next HQ.out hb6)
          have HO := Lib.hid (own_base ho9 hs4)
          clear ho9 hb6
          go_wp2
          go_ret2
          rw [E1.out]
          exact ⟨A9, c9, rfl, HO.out, HQ6.out⟩
end Go.Proofs.Ytonjjihbpeblkaa
