/- The document's bytes of a reply. -/
import Derived.Test.YtonjjihbpeblkaaRfTaken
import Derived.Deep.RegionHeld3
import Derived.Deep.RegionHeldLaw
namespace Go.Proofs.Ytonjjihbpeblkaa
open Go.RowKit
/-- New fields, made. -/
theorem rdf_new (w : World) (E : TypeId) (vs : List Value) (n : Nat) (hn : vs.length = n) : RdF (w.alloc (.cells (Wr.flatF vs).toArray E)) (some ⟨w.heap.size, 0, none⟩) n vs := ⟨hn, rdc_new 3 w E _ n (by rw [Wr.flatF_length, hn]) (0, 0)⟩
set_option maxRecDepth 100000 in
theorem enter_fnum (args : Array Value) (w : World) : (callFunc 38 args).run Try.prog w = .ok (.enter 38 args) w := run_enter Try.func38 (by kernel_rfl) (by kernel_rfl) args w
set_option maxRecDepth 100000 in
set_option maxHeartbeats 8000000 in
theorem rrepbytes_any (r : Wr.Rp) (hr : r.small) (w : World) :
    Calls Try.prog 16 #[.agg r.cells.toArray] w (GivesBs w (Wr.repBytes r)) := by
  obtain ⟨x, n, q, f, h⟩ := r
  have hHB : Holds (w.alloc (.cells #[Value.int .i64 x, .int .i64 n, .int .i64 q, .int .i64 f, .int .i64 h] 36)) w.heap.size [.int .i64 x, .int .i64 n, .int .i64 q, .int .i64 f, .int .i64 h] := by simpa using Holds.new w #[Value.int .i64 x, .int .i64 n, .int .i64 q, .int .i64 f, .int .i64 h] 36
  have hbb : Below w.heap.size w (w.alloc (.cells #[Value.int .i64 x, .int .i64 n, .int .i64 q, .int .i64 f, .int .i64 h] 36)) := (Below.refl _ _).alloc (Nat.le_refl _) _
  have HB := Lib.hid hbb
  have HH := Lib.hid hHB
  have Hr := Lib.hid hr
  have hne := ne_Rp ⟨x, n, q, f, h⟩ (Wr.Rp.bare x)
  clear hbb hHB hr
  show Calls _ _ #[.agg #[.int .i64 x, .int .i64 n, .int .i64 q, .int .i64 f, .int .i64 h]] _ _
  by_cases hneg : x < 0
  · have E0 := Lib.hid (show Wr.repBytes ⟨x, n, q, f, h⟩ = none by
      unfold Wr.repBytes
      split
      · rfl
      · unfold Wr.encs Wr.Rp.cells
        simp only
        rw [show Wr.enc (.int .i64 x) = none by show Wr.encI x = none; unfold Wr.encI; rw [if_pos hneg]])
    clear hne
    go_enter Try.func16, Try.ntmps16
    go_wp2
    go_ret2
    rw [E0.out]
    exact ⟨rfl, HB.out⟩
  · by_cases hbad : x ≠ 0 ∧ (⟨x, n, q, f, h⟩ : Wr.Rp) ≠ Wr.Rp.bare x
    · have E0 := Lib.hid (show Wr.repBytes ⟨x, n, q, f, h⟩ = none by unfold Wr.repBytes; rw [if_pos hbad])
      rw [decide_eq_true hbad.2] at hne
      simp only [Wr.Rp.cells, Wr.Rp.bare] at hne
      have hx0 : ¬ x = 0 := hbad.1
      clear hbad
      go_enter Try.func16, Try.ntmps16
      go_wp2
      go_ret2
      rw [E0.out]
      exact ⟨rfl, HB.out⟩
    · have hgo : x = 0 ∨ (¬ x = 0 ∧ decide ((⟨x, n, q, f, h⟩ : Wr.Rp) ≠ Wr.Rp.bare x) = false) := by
        by_cases h0 : x = 0
        · exact .inl h0
        · exact .inr ⟨h0, decide_eq_false (fun e => hbad ⟨h0, e⟩)⟩
      obtain ⟨k, hk⟩ := Int.eq_ofNat_of_zero_le (show 0 ≤ x by omega)
      have hk64 : k < 9223372036854775808 := by have := Hr.out.1; simp only at this; omega
      have e0 : Wr.repBytes ⟨x, n, q, f, h⟩ = (Wr.encs [.int .i64 n, .int .i64 q, .int .i64 f, .int .i64 h]).map (Cd.num k ++ ·) := by
        unfold Wr.repBytes
        rw [if_neg hbad]
        show (match Wr.encI x with | none => none | some r => _) = _
        unfold Wr.encI
        rw [if_neg hneg, hk, Int.toNat_natCast]
      have E0 := Lib.hid e0
      have hfit : ∀ v ∈ [Value.int .i64 n, .int .i64 q, .int .i64 f, .int .i64 h], ∃ t, Wr.fits t v := fun v hv => by
        obtain ⟨_, h1, h2, h3, h4⟩ := Hr.out
        simp only [List.mem_cons, List.not_mem_nil, or_false] at hv
        rcases hv with rfl | rfl | rfl | rfl
        · exact ⟨false, n, rfl, h1⟩
        · exact ⟨false, q, rfl, h2⟩
        · exact ⟨false, f, rfl, h3⟩
        · exact ⟨false, h, rfl, h4⟩
      have hrow := fun (wx : World) => row_any k hk64 (some ⟨wx.heap.size, 0, none⟩) 4 4 [.int .i64 n, .int .i64 q, .int .i64 f, .int .i64 h] (wx.alloc (.cells (Wr.flatF [.int .i64 n, .int .i64 q, .int .i64 f, .int .i64 h]).toArray 76)) (rdf_new wx _ _ 4 rfl) (by omega) hfit
      rw [← hk] at hrow
      have hrow := Lib.hid hrow
      have hnn := hneg
      clear e0 hbad hfit hneg hk hk64
      rcases hgo with rfl | ⟨h0, hd⟩
      · clear hne
        go_enter Try.func16, Try.ntmps16
        go_wp2
        generalize w.alloc (.cells #[Value.int .i64 0, .int .i64 n, .int .i64 q, .int .i64 f, .int .i64 h] 36) = w1 at *
        have hc : ∀ wx, Below w1.heap.size w1 wx → wx.cell? ⟨w.heap.size, 0, none⟩ = some (.int .i64 0) ∧ wx.cell? ⟨w.heap.size, 1, none⟩ = some (.int .i64 n) ∧ wx.cell? ⟨w.heap.size, 2, none⟩ = some (.int .i64 q) ∧ wx.cell? ⟨w.heap.size, 3, none⟩ = some (.int .i64 f) ∧ wx.cell? ⟨w.heap.size, 4, none⟩ = some (.int .i64 h) := fun wx hx => by
          have k0 := HH.out.below hx
          exact ⟨k0.at_ 0 rfl, k0.at_ 1 rfl, k0.at_ 2 rfl, k0.at_ 3 rfl, k0.at_ 4 rfl⟩
        have HC := Lib.hid hc
        have hd0 : Below w1.heap.size w1 w1.drew := (Below.refl _ _).drew
        have hc0 := hc _ hd0
        have hsz : w.heap.size ≤ w1.heap.size := HB.out.size
        clear hc
        rcases hen : Wr.encs [.int .i64 n, .int .i64 q, .int .i64 f, .int .i64 h] with _ | rb
        · rw [hen] at E0 hrow
          clear hen
          go_region_held3 (fun wx => wx.cell? ⟨w.heap.size, 0, none⟩ = some (.int .i64 0) ∧ wx.cell? ⟨w.heap.size, 1, none⟩ = some (.int .i64 n) ∧ wx.cell? ⟨w.heap.size, 2, none⟩ = some (.int .i64 q) ∧ wx.cell? ⟨w.heap.size, 3, none⟩ = some (.int .i64 f) ∧ wx.cell? ⟨w.heap.size, 4, none⟩ = some (.int .i64 h)) (first | exact hc0 | exact HC.out _ hq4 | exact HC.out _ (hq4.alloc hq4.size _) | exact HC.out _ hq9) (first | (go_at_call 38; refine (fnum_any _ _).mono ?_; rintro e v4 ⟨rfl, hb4⟩; have hq4 : Below w1.heap.size w1 v4 := below_next (by assumption) hb4) | (go_at_call 31; refine (hrow.out _).mono ?_; rintro e v9 ⟨rfl, hb9⟩; have hq9 : Below w1.heap.size w1 v9 := below_next (hq4.alloc hq4.size _) hb9))
          all_goals
            have HQ := Lib.hid (HB.out.trans (hq9.mono hsz))
            skip
            have hsv := hq4.size
            go_wp2
            go_ret2
            rw [E0.out]
            exact ⟨rfl, HQ.out⟩
        · rw [hen] at E0 hrow
          clear hen
          have e1 := E0.out
          rw [Option.map_some] at e1
          have hrow2 : ∀ wx, _ := hrow.out
          simp only [Option.map_some] at hrow2
          generalize Cd.num k ++ rb = L at e1 hrow2
          have E1 := Lib.hid e1
          have hrow := Lib.hid hrow2
          clear e1 hrow2
          go_region_held3 (fun wx => wx.cell? ⟨w.heap.size, 0, none⟩ = some (.int .i64 0) ∧ wx.cell? ⟨w.heap.size, 1, none⟩ = some (.int .i64 n) ∧ wx.cell? ⟨w.heap.size, 2, none⟩ = some (.int .i64 q) ∧ wx.cell? ⟨w.heap.size, 3, none⟩ = some (.int .i64 f) ∧ wx.cell? ⟨w.heap.size, 4, none⟩ = some (.int .i64 h)) (first | exact hc0 | exact HC.out _ hq4 | exact HC.out _ (hq4.alloc hq4.size _) | exact HC.out _ hq9) (first | (go_at_call 38; refine (fnum_any _ _).mono ?_; rintro e v4 ⟨rfl, hb4⟩; have hq4 : Below w1.heap.size w1 v4 := below_next (by assumption) hb4) | (go_at_call 31; refine (hrow.out _).mono ?_; rintro e v9 ⟨A9, c9, rfl, ho9, hb9⟩; have hq9 : Below w1.heap.size w1 v9 := below_next (hq4.alloc hq4.size _) hb9))
          all_goals
            have HQ := Lib.hid (HB.out.trans (hq9.mono hsz))
            have HO := Lib.hid ho9
            have hsv := hq4.size
            go_wp2
            go_ret2
            rw [E1.out]
            exact ⟨A9, c9, rfl, own_base HO.out (by simp; omega), HQ.out⟩
      · rw [hd] at hne
        simp only [Wr.Rp.cells, Wr.Rp.bare] at hne
        clear hd
        have hnx : ¬ x < 0 := hnn
        go_enter Try.func16, Try.ntmps16
        go_wp2
        generalize w.alloc (.cells #[Value.int .i64 x, .int .i64 n, .int .i64 q, .int .i64 f, .int .i64 h] 36) = w1 at *
        have hc : ∀ wx, Below w1.heap.size w1 wx → wx.cell? ⟨w.heap.size, 0, none⟩ = some (.int .i64 x) ∧ wx.cell? ⟨w.heap.size, 1, none⟩ = some (.int .i64 n) ∧ wx.cell? ⟨w.heap.size, 2, none⟩ = some (.int .i64 q) ∧ wx.cell? ⟨w.heap.size, 3, none⟩ = some (.int .i64 f) ∧ wx.cell? ⟨w.heap.size, 4, none⟩ = some (.int .i64 h) := fun wx hx => by
          have k0 := HH.out.below hx
          exact ⟨k0.at_ 0 rfl, k0.at_ 1 rfl, k0.at_ 2 rfl, k0.at_ 3 rfl, k0.at_ 4 rfl⟩
        have HC := Lib.hid hc
        have hd0 : Below w1.heap.size w1 w1.drew := (Below.refl _ _).drew
        have hc0 := hc _ hd0
        have hsz : w.heap.size ≤ w1.heap.size := HB.out.size
        clear hc
        rcases hen : Wr.encs [.int .i64 n, .int .i64 q, .int .i64 f, .int .i64 h] with _ | rb
        · rw [hen] at E0 hrow
          clear hen
          go_region_held3 (fun wx => wx.cell? ⟨w.heap.size, 0, none⟩ = some (.int .i64 x) ∧ wx.cell? ⟨w.heap.size, 1, none⟩ = some (.int .i64 n) ∧ wx.cell? ⟨w.heap.size, 2, none⟩ = some (.int .i64 q) ∧ wx.cell? ⟨w.heap.size, 3, none⟩ = some (.int .i64 f) ∧ wx.cell? ⟨w.heap.size, 4, none⟩ = some (.int .i64 h)) (first | exact hc0 | exact HC.out _ hq4 | exact HC.out _ (hq4.alloc hq4.size _) | exact HC.out _ hq9) (first | (go_at_call 38; refine (fnum_any _ _).mono ?_; rintro e v4 ⟨rfl, hb4⟩; have hq4 : Below w1.heap.size w1 v4 := below_next (by assumption) hb4) | (go_at_call 31; refine (hrow.out _).mono ?_; rintro e v9 ⟨rfl, hb9⟩; have hq9 : Below w1.heap.size w1 v9 := below_next (hq4.alloc hq4.size _) hb9))
          all_goals
            have HQ := Lib.hid (HB.out.trans (hq9.mono hsz))
            skip
            have hsv := hq4.size
            go_wp2
            go_ret2
            rw [E0.out]
            exact ⟨rfl, HQ.out⟩
        · rw [hen] at E0 hrow
          clear hen
          have e1 := E0.out
          rw [Option.map_some] at e1
          have hrow2 : ∀ wx, _ := hrow.out
          simp only [Option.map_some] at hrow2
          generalize Cd.num k ++ rb = L at e1 hrow2
          have E1 := Lib.hid e1
          have hrow := Lib.hid hrow2
          clear e1 hrow2
          go_region_held3 (fun wx => wx.cell? ⟨w.heap.size, 0, none⟩ = some (.int .i64 x) ∧ wx.cell? ⟨w.heap.size, 1, none⟩ = some (.int .i64 n) ∧ wx.cell? ⟨w.heap.size, 2, none⟩ = some (.int .i64 q) ∧ wx.cell? ⟨w.heap.size, 3, none⟩ = some (.int .i64 f) ∧ wx.cell? ⟨w.heap.size, 4, none⟩ = some (.int .i64 h)) (first | exact hc0 | exact HC.out _ hq4 | exact HC.out _ (hq4.alloc hq4.size _) | exact HC.out _ hq9) (first | (go_at_call 38; refine (fnum_any _ _).mono ?_; rintro e v4 ⟨rfl, hb4⟩; have hq4 : Below w1.heap.size w1 v4 := below_next (by assumption) hb4) | (go_at_call 31; refine (hrow.out _).mono ?_; rintro e v9 ⟨A9, c9, rfl, ho9, hb9⟩; have hq9 : Below w1.heap.size w1 v9 := below_next (hq4.alloc hq4.size _) hb9))
          all_goals
            have HQ := Lib.hid (HB.out.trans (hq9.mono hsz))
            have HO := Lib.hid ho9
            have hsv := hq4.size
            go_wp2
            go_ret2
            rw [E1.out]
            exact ⟨A9, c9, rfl, own_base HO.out (by simp; omega), HQ.out⟩
end Go.Proofs.Ytonjjihbpeblkaa
