/- The document's bytes of a message. -/
import Derived.Test.YtonjjihbpeblkaaRfRRep
import Derived.Deep.DeepCutAuto
namespace Go.Proofs.Ytonjjihbpeblkaa
open Go.RowKit
namespace Wr
theorem msg_one (p q : Int) (s : ByteArray) (n : Int) : msgBytes ⟨1, p, q, s, n⟩ = (encs [.int .i64 p, .int .i64 q, .string s, .int .i64 n]).map (Cd.num 1 ++ ·) := by
  unfold msgBytes
  rw [if_neg (by intro e; rcases e with e | e <;> simp [msgs, Mg.clr, Mg.bare] at e)]
  rfl
theorem msg_two (p q : Int) (s : ByteArray) (n : Int) : msgBytes ⟨2, p, q, s, n⟩ = if s = ⟨#[]⟩ ∧ n = 0 then (encs [.int .i64 p, .int .i64 q]).map (Cd.num 2 ++ ·) else none := by
  unfold msgBytes
  by_cases h : s = ⟨#[]⟩ ∧ n = 0
  · obtain ⟨rfl, rfl⟩ := h
    rw [if_neg (by intro e; rcases e with e | e <;> simp [msgs, Mg.clr, Mg.bare] at e), if_pos ⟨rfl, rfl⟩]
    rfl
  · rw [if_neg h, if_pos]
    refine .inr ?_
    intro e
    simp [msgs, Mg.clr, Mg.bare] at e
    exact h e
theorem msg_none {k : Int} (h1 : ¬ k = 1) (h2 : ¬ k = 2) (p q : Int) (s : ByteArray) (n : Int) : msgBytes ⟨k, p, q, s, n⟩ = none := by
  unfold msgBytes
  rw [if_pos (.inl (by unfold msgs; rw [if_neg h1, if_neg h2]))]
end Wr
/-- Fields laid in a row. -/
def FieldsAt (w1 : World) (vs : List Value) (v : Value) (wx : World) : Prop := ∃ (A : Option Addr) (c : Nat), v = .slice A vs.length c ∧ RdF wx A vs.length vs ∧ Below w1.heap.size w1 wx
theorem fields_new {w1 v : World} {E : TypeId} (vs : List Value) (hb : Below w1.heap.size w1 v) : FieldsAt w1 vs (.slice (some ⟨v.heap.size, 0, none⟩) vs.length vs.length) (v.alloc (.cells (Wr.flatF vs).toArray E)) :=
  ⟨_, _, rfl, rdf_new v E vs _ rfl, hb.alloc hb.size _⟩
set_option maxRecDepth 100000 in
set_option maxHeartbeats 8000000 in
theorem rmsgbytes_any (r : Wr.Mg) (hr : r.small) (_ : r.s.size ≤ 9223372036854775807) (w : World) :
    Calls Try.prog 20 #[.agg r.cells.toArray] w (GivesBs w (Wr.msgBytes r)) := by
  obtain ⟨k, p, q, s, n⟩ := r
  have hHB : Holds (w.alloc (.cells #[Value.int .i64 k, .int .i64 p, .int .i64 q, .string s, .int .i64 n] 43)) w.heap.size [.int .i64 k, .int .i64 p, .int .i64 q, .string s, .int .i64 n] := by simpa using Holds.new w #[Value.int .i64 k, .int .i64 p, .int .i64 q, .string s, .int .i64 n] 43
  have hbb : Below w.heap.size w (w.alloc (.cells #[Value.int .i64 k, .int .i64 p, .int .i64 q, .string s, .int .i64 n] 43)) := (Below.refl _ _).alloc (Nat.le_refl _) _
  have HB := Lib.hid hbb
  have HH := Lib.hid hHB
  have Hr := Lib.hid hr
  clear hbb hHB hr
  show Calls _ _ #[.agg #[.int .i64 k, .int .i64 p, .int .i64 q, .string s, .int .i64 n]] _ _
  by_cases hk1 : k = 1
  · subst hk1
    have E0 := Lib.hid (Wr.msg_one p q s n)
    have hfit : ∀ v ∈ [.int .i64 p, .int .i64 q, .string s, .int .i64 n], ∃ t, Wr.fits t v := fun v hv => by
      obtain ⟨h1, h2, h3⟩ := Hr.out
      simp only [List.mem_cons, List.not_mem_nil, or_false] at hv
      rcases hv with rfl | rfl | rfl | rfl
      · exact ⟨false, p, rfl, h1⟩
      · exact ⟨false, q, rfl, h2⟩
      · exact ⟨true, s, rfl⟩
      · exact ⟨false, n, rfl, h3⟩
    have hrow : ∀ (wx : World) (A : Option Addr) (c : Nat), RdF wx A 4 [.int .i64 p, .int .i64 q, .string s, .int .i64 n] → Calls Try.prog 31 #[.int .i64 1, .slice A 4 c] wx (GivesBool wx ((Wr.encs [.int .i64 p, .int .i64 q, .string s, .int .i64 n]).map (Cd.num 1 ++ ·))) := fun wx A c h => row_any 1 (by omega) A 4 c [.int .i64 p, .int .i64 q, .string s, .int .i64 n] wx h (by omega) hfit
    have Hrow := Lib.hid hrow
    clear hfit hrow
    go_enter Try.func20, Try.ntmps20
    go_wp2_with fail
    generalize w.alloc (.cells #[Value.int .i64 1, .int .i64 p, .int .i64 q, .string s, .int .i64 n] 43) = w1 at *
    have hc : ∀ wx, Below w1.heap.size w1 wx → wx.cell? ⟨w.heap.size, 1, none⟩ = some (.int .i64 p) ∧ wx.cell? ⟨w.heap.size, 2, none⟩ = some (.int .i64 q) ∧ wx.cell? ⟨w.heap.size, 3, none⟩ = some (.string s) ∧ wx.cell? ⟨w.heap.size, 4, none⟩ = some (.int .i64 n) := fun wx hx => by
      have k0 := HH.out.below hx
      exact ⟨k0.at_ 1 rfl, k0.at_ 2 rfl, k0.at_ 3 rfl, k0.at_ 4 rfl⟩
    have HC := Lib.hid hc
    have hsz : w.heap.size ≤ w1.heap.size := HB.out.size
    clear hc
    have hd0 : Below w1.heap.size w1 w1.drew := (Below.refl _ _).drew
    have hc0 := HC.out _ hd0
    go_region_held3 (fun wx => wx.cell? ⟨w.heap.size, 1, none⟩ = some (.int .i64 p) ∧ wx.cell? ⟨w.heap.size, 2, none⟩ = some (.int .i64 q) ∧ wx.cell? ⟨w.heap.size, 3, none⟩ = some (.string s) ∧ wx.cell? ⟨w.heap.size, 4, none⟩ = some (.int .i64 n)) (first | exact hc0 | exact HC.out _ hq4 | exact HC.out _ (hq4.alloc hq4.size _)) (first | (go_at_call 38; refine (fnum_any _ _).mono ?_; rintro e v4 ⟨rfl, hb4⟩; have hq4 : Below w1.heap.size w1 v4 := below_next (by assumption) hb4) | (go_at_call 43; refine (ftext_any _ _).mono ?_; rintro e v4 ⟨rfl, hb4⟩; have hq4 : Below w1.heap.size w1 v4 := below_next (by assumption) hb4))
    · have hf4 : RdF (v4.alloc (.cells #[Value.bool false, .int .i64 p, .string ⟨#[]⟩, .bool false, .int .i64 q, .string ⟨#[]⟩, .bool true, .int .i64 0, .string s, .bool false, .int .i64 n, .string ⟨#[]⟩] 76)) (some ⟨v4.heap.size, 0, none⟩) 4 [.int .i64 p, .int .i64 q, .string s, .int .i64 n] := rdf_new v4 76 [.int .i64 p, .int .i64 q, .string s, .int .i64 n] 4 rfl
      have hb4 : Below w1.heap.size w1 (v4.alloc (.cells #[Value.bool false, .int .i64 p, .string ⟨#[]⟩, .bool false, .int .i64 q, .string ⟨#[]⟩, .bool true, .int .i64 0, .string s, .bool false, .int .i64 n, .string ⟨#[]⟩] 76)) := hq4.alloc hq4.size _
      generalize v4.alloc (.cells #[Value.bool false, .int .i64 p, .string ⟨#[]⟩, .bool false, .int .i64 q, .string ⟨#[]⟩, .bool true, .int .i64 0, .string s, .bool false, .int .i64 n, .string ⟨#[]⟩] 76) = w4 at *
      have hk4 := HH.out.below hb4
      have d0 := hk4.at_ 0 rfl
      rcases hen : Wr.encs [.int .i64 p, .int .i64 q, .string s, .int .i64 n] with _ | rb
      · rw [hen] at Hrow E0
        go_wp2_with fail
        refine (Hrow.out _ _ _ hf4).mono ?_
        rintro e v6 ⟨rfl, hb6⟩
        have HQ := Lib.hid (HB.out.trans ((hb4.trans (hb6.mono hb4.size)).mono hsz))
        go_wp2
        go_ret2
        rw [E0.out]
        exact ⟨rfl, HQ.out⟩
      · rw [hen] at Hrow E0
        have e1 := E0.out
        rw [Option.map_some] at e1
        have hrow2 := Hrow.out
        simp only [Option.map_some] at hrow2
        generalize Cd.num 1 ++ rb = L at e1 hrow2
        have E1 := Lib.hid e1
        have Hrow2 := Lib.hid hrow2
        clear e1 hrow2 E0
        go_wp2_with fail
        refine (Hrow2.out _ _ _ hf4).mono ?_
        rintro e v6 ⟨A9, c9, rfl, ho9, hb6⟩
        have HQ := Lib.hid (HB.out.trans ((hb4.trans (hb6.mono hb4.size)).mono hsz))
        have HO := Lib.hid (own_base ho9 (show w.heap.size ≤ _ from Nat.le_trans hsz hb4.size))
        clear ho9
        go_wp2
        go_ret2
        rw [E1.out]
        exact ⟨A9, c9, rfl, HO.out, HQ.out⟩
  by_cases hk2 : k = 2
  · subst hk2
    clear hk1
    have e0 := Wr.msg_two p q s n
    have hfit : ∀ v ∈ [.int .i64 p, .int .i64 q], ∃ t, Wr.fits t v := fun v hv => by
      obtain ⟨h1, h2, h3⟩ := Hr.out
      simp only [List.mem_cons, List.not_mem_nil, or_false] at hv
      rcases hv with rfl | rfl
      · exact ⟨false, p, rfl, h1⟩
      · exact ⟨false, q, rfl, h2⟩
    have hrow : ∀ (wx : World) (A : Option Addr) (c : Nat), RdF wx A 2 [.int .i64 p, .int .i64 q] → Calls Try.prog 31 #[.int .i64 2, .slice A 2 c] wx (GivesBool wx ((Wr.encs [.int .i64 p, .int .i64 q]).map (Cd.num 2 ++ ·))) := fun wx A c h => row_any 2 (by omega) A 2 c [.int .i64 p, .int .i64 q] wx h (by omega) hfit
    have Hrow := Lib.hid hrow
    clear hfit hrow
    go_enter Try.func20, Try.ntmps20
    go_wp2_with fail
    generalize w.alloc (.cells #[Value.int .i64 2, .int .i64 p, .int .i64 q, .string s, .int .i64 n] 43) = w1 at *
    have hc : ∀ wx, Below w1.heap.size w1 wx → wx.cell? ⟨w.heap.size, 1, none⟩ = some (.int .i64 p) ∧ wx.cell? ⟨w.heap.size, 2, none⟩ = some (.int .i64 q) := fun wx hx => by
      have k0 := HH.out.below hx
      exact ⟨k0.at_ 1 rfl, k0.at_ 2 rfl⟩
    have HC := Lib.hid hc
    have hsz : w.heap.size ≤ w1.heap.size := HB.out.size
    clear hc
    have hd0 : Below w1.heap.size w1 w1.drew := (Below.refl _ _).drew
    have hc0 := HC.out _ hd0
    go_region_held3 (fun wx => wx.cell? ⟨w.heap.size, 1, none⟩ = some (.int .i64 p) ∧ wx.cell? ⟨w.heap.size, 2, none⟩ = some (.int .i64 q)) (first | exact hc0 | exact HC.out _ hq4 | exact HC.out _ (hq4.alloc hq4.size _)) (first | (go_at_call 38; refine (fnum_any _ _).mono ?_; rintro e v4 ⟨rfl, hb4⟩; have hq4 : Below w1.heap.size w1 v4 := below_next (by assumption) hb4))
    · have hf4 : RdF (v4.alloc (.cells #[Value.bool false, .int .i64 p, .string ⟨#[]⟩, .bool false, .int .i64 q, .string ⟨#[]⟩] 76)) (some ⟨v4.heap.size, 0, none⟩) 2 [.int .i64 p, .int .i64 q] := rdf_new v4 76 [.int .i64 p, .int .i64 q] 2 rfl
      have hb4 : Below w1.heap.size w1 (v4.alloc (.cells #[Value.bool false, .int .i64 p, .string ⟨#[]⟩, .bool false, .int .i64 q, .string ⟨#[]⟩] 76)) := hq4.alloc hq4.size _
      generalize v4.alloc (.cells #[Value.bool false, .int .i64 p, .string ⟨#[]⟩, .bool false, .int .i64 q, .string ⟨#[]⟩] 76) = w4 at *
      have hk4 := HH.out.below hb4
      have d0 := hk4.at_ 0 rfl
      have d3 := hk4.at_ 3 rfl
      have d4 := hk4.at_ 4 rfl
      by_cases hz : s = ⟨#[]⟩ ∧ n = 0
      · rw [if_pos hz] at e0
        have E0 := Lib.hid e0
        obtain ⟨rfl, rfl⟩ := hz
        clear e0
        rcases hen : Wr.encs [.int .i64 p, .int .i64 q] with _ | rb
        · rw [hen] at Hrow E0
          go_wp2_with fail
          refine (Hrow.out _ _ _ hf4).mono ?_
          rintro e v6 ⟨rfl, hb6⟩
          have HQ := Lib.hid (HB.out.trans ((hb4.trans (hb6.mono hb4.size)).mono hsz))
          go_wp2
          go_ret2
          rw [E0.out]
          exact ⟨rfl, HQ.out⟩
        · rw [hen] at Hrow E0
          have e1 := E0.out
          rw [Option.map_some] at e1
          have hrow2 := Hrow.out
          simp only [Option.map_some] at hrow2
          generalize Cd.num 2 ++ rb = L at e1 hrow2
          have E1 := Lib.hid e1
          have Hrow2 := Lib.hid hrow2
          clear e1 hrow2 E0
          go_wp2_with fail
          refine (Hrow2.out _ _ _ hf4).mono ?_
          rintro e v6 ⟨A9, c9, rfl, ho9, hb6⟩
          have HQ := Lib.hid (HB.out.trans ((hb4.trans (hb6.mono hb4.size)).mono hsz))
          have HO := Lib.hid (own_base ho9 (show w.heap.size ≤ _ from Nat.le_trans hsz hb4.size))
          clear ho9
          go_wp2
          go_ret2
          rw [E1.out]
          exact ⟨A9, c9, rfl, HO.out, HQ.out⟩
      · rw [if_neg hz] at e0
        have E0 := Lib.hid e0
        have HQ := Lib.hid (HB.out.trans (hb4.mono hsz))
        have hz2 : (s.toList = [] → False) ∨ (s = ⟨#[]⟩ ∧ ¬ n = 0) := by
          by_cases hs : s = ⟨#[]⟩
          · exact .inr ⟨hs, fun e => hz ⟨hs, e⟩⟩
          · refine .inl fun e => hs ?_
            exact (toList_eq s ⟨#[]⟩).1 (by rw [e]; decide +kernel)
        clear e0 hz
        rcases hz2 with hs | ⟨rfl, hn0⟩
        · go_wp2
          go_ret2
          rw [E0.out]
          exact ⟨rfl, HQ.out⟩
        · go_wp2
          go_ret2
          rw [E0.out]
          exact ⟨rfl, HQ.out⟩
  have E0 := Lib.hid (Wr.msg_none hk1 hk2 p q s n)
  go_enter Try.func20, Try.ntmps20
  go_wp2
  go_ret2
  rw [E0.out]
  exact ⟨rfl, HB.out⟩
end Go.Proofs.Ytonjjihbpeblkaa
