/- The document's entry. -/
import Derived.Test.YtbfjcpblbmlfcaaBkFind
import Derived.Test.YtbfjcpblbmlfcaaBkRTake
import Derived.Deep.Cut
namespace Go.Proofs.Ytbfjcpblbmlfcaa
open Go.RowKit
namespace Bk
/-- One entry at the beginning of bytes, behind a key; what is left. -/
def rone (l : List Nat) (key : ByteArray) : Option (En × List Nat) :=
  match Cd.takeNum l with
  | none => none
  | some (s, b1) => if key.size < s then none else match Cd.takeText b1 64 with
    | none => none
    | some (t, b2) => match Cd.takeNum b2 with
      | none => none
      | some (q, b3) => if 2199023255553 < q then none else if q % 2 = 1 then some (⟨key.extract 0 s ++ str t, ((q / 2 : Nat) : Int), true, []⟩, b3) else match Cd.takeText b3 256 with
        | none => none
        | some (v, b4) => some (⟨key.extract 0 s ++ str t, ((q / 2 : Nat) : Int), false, v⟩, b4)
end Bk
def GivesEntry (w : World) (o : Option (Bk.En × List Nat)) (e : Ending) (w' : World) : Prop :=
  match o with
  | none => ∃ (q : Bk.En × Bk.Sl) (B : Option Addr) (m c : Nat), e = .returned (.tuple #[.agg (Bk.cells q).toArray, .slice B m c, .bool false]) ∧ Below w.heap.size w w'
  | some (x, r) => ∃ (s : Bk.Sl) (B : Option Addr) (c : Nat), e = .returned (.tuple #[.agg (Bk.cells (x, s)).toArray, .slice B r.length c, .bool true]) ∧ Bk.At w' (x, s) ∧ (0 < s.2.1 → ∀ g o, s.1 = some ⟨g, o, none⟩ → w.heap.size ≤ g ∧ g < w'.heap.size) ∧ Rd w' B r.length r ∧ r.length ≤ c ∧ Below w.heap.size w w' ∧ (0 < r.length → ∀ g o, B = some ⟨g, o, none⟩ → w.heap.size ≤ g)
theorem takeText_le {l t r : List Nat} {m : Nat} (h : Cd.takeText l (m : Int) = some (t, r)) : t.length ≤ m ∧ r.length ≤ l.length ∧ (∀ x ∈ t, x ∈ l) ∧ ∀ x ∈ r, x ∈ l := by
  unfold Cd.takeText at h
  split at h
  · cases h
  · rename_i x y hn
    have hb := (takeNum_bound hn).2
    by_cases hc : (m : Int) < 0 ∨ (m : Int) < (x : Int) ∨ y.length < x
    · simp only [if_pos hc] at h
      cases h
    · simp only [if_neg hc] at h
      injection h with h
      injection h with ha hb2
      subst ha hb2
      exact ⟨by rw [List.length_take]; omega, by rw [List.length_drop]; omega, fun u hu => hb.2 u (List.mem_of_mem_take hu), fun u hu => hb.2 u (List.mem_of_mem_drop hu)⟩
theorem rd_set4 {w : World} {A : Option Addr} {n : Nat} {l : List Nat} (h : Rd w A n l) (b : Nat) (x y v u : Value) (hne : 0 < n → ∀ g o, A = some ⟨g, o, none⟩ → b < g) : Rd ((((w.setCell ⟨b, 0, none⟩ x).setCell ⟨b, 1, none⟩ y).setCell ⟨b, 2, none⟩ v).setCell ⟨b, 3, none⟩ u) A n l := by
  have hne2 : 0 < n → ∀ g o, A = some ⟨g, o, none⟩ → some b ≠ some g := fun h1 g o e e2 => by have := hne h1 g o e; injection e2 with e2; omega
  exact (((h.grown (grown_setCell _ ⟨b, 0, none⟩ x) hne2).grown (grown_setCell _ ⟨b, 1, none⟩ y) hne2).grown (grown_setCell _ ⟨b, 2, none⟩ v) hne2).grown (grown_setCell _ ⟨b, 3, none⟩ u) hne2
theorem entry_none {w w' : World} {o : Option (Bk.En × List Nat)} (h : o = none) (q : Bk.En × Bk.Sl) (B : Option Addr) (m c : Nat) (hb : Below w.heap.size w w') : GivesEntry w o (.returned (.tuple #[.agg (Bk.cells q).toArray, .slice B m c, .bool false])) w' := by
  subst h
  exact ⟨q, B, m, c, rfl, hb⟩
set_option maxRecDepth 100000 in
set_option maxHeartbeats 8000000 in
theorem rentry_any (A : Option Addr) (n c : Nat) (l : List Nat) (key : ByteArray) (w : World) (hl : Rd w A n l) (hc : n ≤ c) (hn : n ≤ 1000000) (hk : key.size ≤ 100000) :
    Calls Try.prog 32 #[.slice A n c, .string key] w (GivesEntry w (Bk.rone l key)) := by
  have k0 := Holds.new w #[.string ⟨#[]⟩, .int .i64 0, .bool false, .slice none 0 0] 37
  have hb0 : Below w.heap.size w (w.alloc (.cells #[Value.string ⟨#[]⟩, .int .i64 0, .bool false, .slice none 0 0] 37)) := (Below.refl _ _).alloc (Nat.le_refl _) _
  have K0 := Lib.hid k0
  have HB0 := Lib.hid hb0
  have HL := Lib.hid (hl.below hb0)
  have hlen := hl.1
  have Hlt := Lib.hid hl.2.1
  have hsz : w.heap.size < (w.alloc (.cells #[Value.string ⟨#[]⟩, .int .i64 0, .bool false, .slice none 0 0] 37)).heap.size := by simp
  clear k0 hb0 hl
  go_enter Try.func32, Try.ntmps32
  go_wp2_with fail
  generalize (w.alloc (.cells #[Value.string ⟨#[]⟩, .int .i64 0, .bool false, .slice none 0 0] 37)) = w1 at *
  refine (rtakenum_own A n c l w1 HL.out hc hn).mono ?_
  rcases h1 : Cd.takeNum l with _ | ⟨s, b1⟩
  · rintro e v1 ⟨rfl, hb1⟩
    have HD := Lib.hid (show Bk.rone l key = none by unfold Bk.rone; rw [h1])
    have HB1 := Lib.hid (HB0.out.trans (hb1.mono (by omega)))
    have k1 := K0.out.below hb1
    have r0 := k1.at_ 0 rfl
    have r1 := k1.at_ 1 rfl
    have r2 := k1.at_ 2 rfl
    have r3 := k1.at_ 3 rfl
    have z0 := k1.2.2 0
    have z1 := k1.2.2 1
    have z2 := k1.2.2 2
    have z3 := k1.2.2 3
    have K1 := Lib.hid k1
    clear k1 hb1 h1
    go_wp2
    have fin := K1.out.set4 (.string ⟨#[]⟩) (.int .i64 0) (.bool false) (.slice none 0 0)
    have c0 := fin.at_ 0 rfl
    have c1 := fin.at_ 1 rfl
    have c2 := fin.at_ 2 rfl
    have c3 := fin.at_ 3 rfl
    refine ⟨rfl, .tuple #[.agg (Bk.cells Bk.zeroE).toArray, .slice none 0 0, .bool false], ?_, ?_⟩
    · simp [results, Try.results32, go_sem, c0, c1, c2, c3, Bk.cells, Bk.zeroE]
    · exact entry_none HD.out _ _ _ _ (below_set4 HB1.out _ _ _ _ _ (Nat.le_refl _))
  · rintro e v1 ⟨A1, c1, rfl, ho1, hb1⟩
    have hr1 := ho1.rd
    have hc1 := ho1.cap
    have hbd := takeNum_bound h1
    have hs64 := hbd.1
    have hl1 : b1.length ≤ 1000000 := by omega
    have k1 := K0.out.below hb1
    have K1 := Lib.hid k1
    have HB1 := Lib.hid (HB0.out.trans (hb1.mono (by omega)))
    have HR1 := Lib.hid hr1
    by_cases hks : key.size < s
    · have HD := Lib.hid (show Bk.rone l key = none by unfold Bk.rone; simp only [h1, if_pos hks])
      have hksi : (key.size : Int) < (s : Int) := by omega
      have r0 := k1.at_ 0 rfl
      have r1 := k1.at_ 1 rfl
      have r2 := k1.at_ 2 rfl
      have r3 := k1.at_ 3 rfl
      have z0 := k1.2.2 0
      have z1 := k1.2.2 1
      have z2 := k1.2.2 2
      have z3 := k1.2.2 3
      clear k1 hb1 h1 hr1 hbd ho1
      go_wp2
      have fin := K1.out.set4 (.string ⟨#[]⟩) (.int .i64 0) (.bool false) (.slice none 0 0)
      have c0 := fin.at_ 0 rfl
      have c1 := fin.at_ 1 rfl
      have c2 := fin.at_ 2 rfl
      have c3 := fin.at_ 3 rfl
      refine ⟨rfl, .tuple #[.agg (Bk.cells Bk.zeroE).toArray, .slice none 0 0, .bool false], ?_, ?_⟩
      · simp [results, Try.results32, go_sem, c0, c1, c2, c3, Bk.cells, Bk.zeroE]
      · exact entry_none HD.out _ _ _ _ (below_set4 HB1.out _ _ _ _ _ (Nat.le_refl _))
    · have hksi : ¬ (key.size : Int) < (s : Int) := by omega
      have hlt1 : w.heap.size < v1.heap.size := k1.1
      clear k1 hb1 hr1 hbd ho1
      go_wp2_with fail
      refine (rtakeown_any A1 b1.length c1 64 b1 v1 HR1.out hc1 hl1 (by omega)).mono ?_
      rcases h2 : Cd.takeText b1 64 with _ | ⟨t, b2⟩
      · rintro e v2 ⟨rfl, hb2⟩
        have HD := Lib.hid (show Bk.rone l key = none by unfold Bk.rone; simp only [h1, if_neg hks, h2])
        have k2 := K1.out.below hb2
        have K2 := Lib.hid k2
        have HB2 := Lib.hid (HB1.out.trans (hb2.mono (by omega)))
        have r0 := k2.at_ 0 rfl
        have r1 := k2.at_ 1 rfl
        have r2 := k2.at_ 2 rfl
        have r3 := k2.at_ 3 rfl
        have z0 := k2.2.2 0
        have z1 := k2.2.2 1
        have z2 := k2.2.2 2
        have z3 := k2.2.2 3
        clear k2 hb2 h1 h2
        go_wp2
        have fin := K2.out.set4 (.string ⟨#[]⟩) (.int .i64 0) (.bool false) (.slice none 0 0)
        have c0 := fin.at_ 0 rfl
        have c1 := fin.at_ 1 rfl
        have c2 := fin.at_ 2 rfl
        have c3 := fin.at_ 3 rfl
        refine ⟨rfl, .tuple #[.agg (Bk.cells Bk.zeroE).toArray, .slice none 0 0, .bool false], ?_, ?_⟩
        · simp [results, Try.results32, go_sem, c0, c1, c2, c3, Bk.cells, Bk.zeroE]
        · exact entry_none HD.out _ _ _ _ (below_set4 HB2.out _ _ _ _ _ (Nat.le_refl _))
      · rintro e v2 ⟨A2, c2, rfl, hr2, hc2, hb2, hf2⟩
        have htb := takeText_le (m := 64) h2
        have ht64 : t.length ≤ 64 := by omega
        have hl2 : b2.length ≤ 1000000 := by omega
        have k2 := K1.out.below hb2
        have K2 := Lib.hid k2
        have HB2 := Lib.hid (HB1.out.trans (hb2.mono (by omega)))
        have HR2 := Lib.hid hr2
        have hlt2 : w.heap.size < v2.heap.size := k2.1
        clear k2 hb2 hr2 htb hf2
        go_wp2_with fail
        refine (rtakenum_own A2 b2.length c2 b2 v2 HR2.out hc2 hl2).mono ?_
        rcases h3 : Cd.takeNum b2 with _ | ⟨q, b3⟩
        · rintro e v3 ⟨rfl, hb3⟩
          have HD := Lib.hid (show Bk.rone l key = none by unfold Bk.rone; simp only [h1, if_neg hks, h2, h3])
          have k3 := K2.out.below hb3
          have K3 := Lib.hid k3
          have HB3 := Lib.hid (HB2.out.trans (hb3.mono (by omega)))
          have r0 := k3.at_ 0 rfl
          have r1 := k3.at_ 1 rfl
          have r2 := k3.at_ 2 rfl
          have r3 := k3.at_ 3 rfl
          have z0 := k3.2.2 0
          have z1 := k3.2.2 1
          have z2 := k3.2.2 2
          have z3 := k3.2.2 3
          clear k3 hb3 h1 h2 h3
          go_wp2
          have fin := K3.out.set4 (.string ⟨#[]⟩) (.int .i64 0) (.bool false) (.slice none 0 0)
          have c0 := fin.at_ 0 rfl
          have c1 := fin.at_ 1 rfl
          have c2 := fin.at_ 2 rfl
          have c3 := fin.at_ 3 rfl
          refine ⟨rfl, .tuple #[.agg (Bk.cells Bk.zeroE).toArray, .slice none 0 0, .bool false], ?_, ?_⟩
          · simp [results, Try.results32, go_sem, c0, c1, c2, c3, Bk.cells, Bk.zeroE]
          · exact entry_none HD.out _ _ _ _ (below_set4 HB3.out _ _ _ _ _ (Nat.le_refl _))
        · rintro e v3 ⟨A3, c3, rfl, ho3, hb3⟩
          have hr3 := ho3.rd
          have hc3 := ho3.cap
          have HF3 := Lib.hid (show 0 < b3.length → ∀ g o, A3 = some ⟨g, o, none⟩ → w.heap.size < g from fun h0 g o e => by
            obtain ⟨g2, e2, e3, _⟩ := ho3.form h0
            rw [e] at e2
            injection e2 with e2
            injection e2 with e2
            omega)
          have hbd := takeNum_bound h3
          have hq64 := hbd.1
          have hl3 : b3.length ≤ 1000000 := by omega
          have k3 := K2.out.below hb3
          have K3 := Lib.hid k3
          have HB3 := Lib.hid (HB2.out.trans (hb3.mono (by omega)))
          have HR3 := Lib.hid hr3
          have hlt3 : w.heap.size < v3.heap.size := k3.1
          by_cases hq : 2199023255553 < q
          · have HD := Lib.hid (show Bk.rone l key = none by unfold Bk.rone; simp only [h1, if_neg hks, h2, h3, if_pos hq])
            have hqi : (2199023255553 : Int) < (q : Int) := by omega
            have r0 := k3.at_ 0 rfl
            have r1 := k3.at_ 1 rfl
            have r2 := k3.at_ 2 rfl
            have r3 := k3.at_ 3 rfl
            have z0 := k3.2.2 0
            have z1 := k3.2.2 1
            have z2 := k3.2.2 2
            have z3 := k3.2.2 3
            clear k3 hb3 h1 h2 h3 hr3 hbd ho3
            go_wp2
            have fin := K3.out.set4 (.string ⟨#[]⟩) (.int .i64 0) (.bool false) (.slice none 0 0)
            have c0 := fin.at_ 0 rfl
            have c1 := fin.at_ 1 rfl
            have c2 := fin.at_ 2 rfl
            have c3 := fin.at_ 3 rfl
            refine ⟨rfl, .tuple #[.agg (Bk.cells Bk.zeroE).toArray, .slice none 0 0, .bool false], ?_, ?_⟩
            · simp [results, Try.results32, go_sem, c0, c1, c2, c3, Bk.cells, Bk.zeroE]
            · exact entry_none HD.out _ _ _ _ (below_set4 HB3.out _ _ _ _ _ (Nat.le_refl _))
          · have hqi : ¬ (2199023255553 : Int) < (q : Int) := by omega
            have hts : (str t).size = t.length := by simp [str, ByteArray.size]
            have hcat : ¬ 9223372036854775807 < min s key.size + (str t).size := by omega
            have hks2 : (key.extract 0 s ++ str t).size ≤ 1000000 := by
              rw [ByteArray.size_append, ByteArray.size_extract]
              omega
            clear hts hbd
            by_cases hodd : q % 2 = 1
            · have hoddi : (q : Int) % 2 = 1 := by omega
              have HO := Lib.hid (show Bk.rone l key = some (⟨key.extract 0 s ++ str t, ((q / 2 : Nat) : Int), true, []⟩, b3) by unfold Bk.rone; simp only [h1, if_neg hks, h2, h3, if_neg hq, if_pos hodd])
              clear h1 h2 h3
              have hb4 : Below v3.heap.size v3 (v3.alloc (.cells #[Value.string (key.extract 0 s ++ str t), .int .i64 ((q : Int) / 2), .bool true, .slice none 0 0] 37)) := (Below.refl _ _).alloc (Nat.le_refl _) _
              have k4 := k3.below hb4
              have K4 := Lib.hid k4
              have j4 := Holds.new v3 #[Value.string (key.extract 0 s ++ str t), .int .i64 ((q : Int) / 2), .bool true, .slice none 0 0] 37
              have J4 := Lib.hid j4
              have HB4 := Lib.hid (HB3.out.trans (hb4.mono (by omega)))
              have HR4 := Lib.hid (hr3.below hb4)
              have x2' := j4.at_ 2 rfl
              clear k3 k4 j4 hb3 hb4 hr3 ho3
              go_upto_region 12 with fail
              clear x2'
              generalize (v3.alloc (.cells #[Value.string (key.extract 0 s ++ str t), .int .i64 ((q : Int) / 2), .bool true, .slice none 0 0] 37)) = v4 at *
              have y0 := J4.out.at_ 0 rfl
              have y1 := J4.out.at_ 1 rfl
              have y2 := J4.out.at_ 2 rfl
              have y3 := J4.out.at_ 3 rfl
              have k4 := K4.out
              have r0 := k4.at_ 0 rfl
              have r1 := k4.at_ 1 rfl
              have r2 := k4.at_ 2 rfl
              have r3 := k4.at_ 3 rfl
              have z0 := k4.2.2 0
              have z1 := k4.2.2 1
              have z2 := k4.2.2 2
              have z3 := k4.2.2 3
              clear k4
              go_wp2
              have fin := K4.out.set4 (.string (key.extract 0 s ++ str t)) (.int .i64 ((q : Int) / 2)) (.bool true) (.slice none 0 0)
              have c0 := fin.at_ 0 rfl
              have c1 := fin.at_ 1 rfl
              have c2 := fin.at_ 2 rfl
              have c3' := fin.at_ 3 rfl
              refine ⟨rfl, .tuple #[.agg #[.string (key.extract 0 s ++ str t), .int .i64 ((q : Int) / 2), .bool true, .slice none 0 0], .slice A3 b3.length c3, .bool true], ?_, ?_⟩
              · simp [results, Try.results32, go_sem, c0, c1, c2, c3']
              · rw [HO.out]
                exact ⟨(none, 0, 0), A3, c3, rfl, Bk.at_gone _ _ _ hks2 hq64, fun h => absurd h (Nat.lt_irrefl 0), rd_set4 HR4.out _ _ _ _ _ HF3.out, hc3, below_set4 HB4.out _ _ _ _ _ (Nat.le_refl _), fun h0 g o e => Nat.le_of_lt (HF3.out h0 g o e)⟩
            · have hoddi : ¬ (q : Int) % 2 = 1 := by omega
              have hodd2 : ((q : Int) % 2 == 1) = false := by rw [beq_eq_false_iff_ne]; exact hoddi
              have hev : (q : Int) % 2 = 0 := by omega
              have hb4 : Below v3.heap.size v3 (v3.alloc (.cells #[Value.string (key.extract 0 s ++ str t), .int .i64 ((q : Int) / 2), .bool false, .slice none 0 0] 37)) := (Below.refl _ _).alloc (Nat.le_refl _) _
              have hm3 : ∀ x ∈ b3, x < 256 := fun x hx => Hlt.out x ((takeNum_bound h1).2.2 x ((takeText_le (m := 64) h2).2.2.2 x ((takeNum_bound h3).2.2 x hx)))
              have k4 := k3.below hb4
              have K4 := Lib.hid k4
              have j4 := Holds.new v3 #[Value.string (key.extract 0 s ++ str t), .int .i64 ((q : Int) / 2), .bool false, .slice none 0 0] 37
              have J4 := Lib.hid j4
              have HB4 := Lib.hid (HB3.out.trans (hb4.mono (by omega)))
              have HR4 := Lib.hid (hr3.below hb4)
              have Hm3 := Lib.hid hm3
              have x2' := j4.at_ 2 rfl
              clear k3 k4 j4 hb3 hb4 hr3 ho3 hm3
              go_wp2_with fail
              clear x2'
              generalize (v3.alloc (.cells #[Value.string (key.extract 0 s ++ str t), .int .i64 ((q : Int) / 2), .bool false, .slice none 0 0] 37)) = v4 at *
              have hs34 : v3.heap.size < v4.heap.size := J4.out.1
              refine (rtakeown_any A3 b3.length c3 256 b3 v4 HR4.out hc3 hl3 (by omega)).mono ?_
              rcases h4 : Cd.takeText b3 256 with _ | ⟨x, b4⟩
              · rintro e v5 ⟨rfl, hb5⟩
                have HD := Lib.hid (show Bk.rone l key = none by unfold Bk.rone; simp only [h1, if_neg hks, h2, h3, if_neg hq, if_neg hodd, h4])
                obtain ⟨W, cv, hcv, hWr, hWb, hWc, -, hWs⟩ := conv_bytes v5 ⟨#[]⟩
                have j5 := (J4.out.below hb5).below hWb
                have k5 := (K4.out.below hb5).below hWb
                have hs5 := hb5.size
                have y3 := j5.at_ 3 rfl
                have u3 := j5.2.2 3
                have hj6 := j5.set 3 (.slice (some ⟨v5.heap.size, 0, none⟩) 0 cv) (by simp)
                have hk6 := k5.other (b := v3.heap.size) (i := 3) (v := .slice (some ⟨v5.heap.size, 0, none⟩) 0 cv) (by omega)
                have hbx : Below w.heap.size w (W.setCell ⟨v3.heap.size, 3, none⟩ (.slice (some ⟨v5.heap.size, 0, none⟩) 0 cv)) := below_set ((HB4.out.trans (hb5.mono (by omega))).trans (hWb.mono (by omega))) _ _ (by show w.heap.size ≤ v3.heap.size; omega)
                have x0 := hj6.at_ 0 rfl
                have x1 := hj6.at_ 1 rfl
                have x2 := hj6.at_ 2 rfl
                have x3 := hj6.at_ 3 rfl
                have r0 := hk6.at_ 0 rfl
                have r1 := hk6.at_ 1 rfl
                have r2 := hk6.at_ 2 rfl
                have r3 := hk6.at_ 3 rfl
                have z0 := hk6.2.2 0
                have z1 := hk6.2.2 1
                have z2 := hk6.2.2 2
                have z3 := hk6.2.2 3
                have K6 := Lib.hid hk6
                have HB6 := Lib.hid hbx
                clear hWb hWr hbx hj6 hk6 j5 k5 hb5 h1 h2 h3 h4
                go_wp2
                have fin := K6.out.set4 (.string (key.extract 0 s ++ str t)) (.int .i64 ((q : Int) / 2)) (.bool false) (.slice (some ⟨v5.heap.size, 0, none⟩) 0 cv)
                have c0 := fin.at_ 0 rfl
                have c1 := fin.at_ 1 rfl
                have c2 := fin.at_ 2 rfl
                have c3' := fin.at_ 3 rfl
                refine ⟨rfl, .tuple #[.agg #[.string (key.extract 0 s ++ str t), .int .i64 ((q : Int) / 2), .bool false, .slice (some ⟨v5.heap.size, 0, none⟩) 0 cv], .slice none 0 0, .bool false], ?_, ?_⟩
                · simp [results, Try.results32, go_sem, c0, c1, c2, c3']
                · exact entry_none HD.out (⟨key.extract 0 s ++ str t, (q : Int) / 2, false, []⟩, some ⟨v5.heap.size, 0, none⟩, 0, cv) _ _ _ (below_set4 HB6.out _ _ _ _ _ (Nat.le_refl _))
              · rintro e v5 ⟨A5, c5, rfl, hr5, hc5, hb5, hf5⟩
                have hxb := takeText_le (m := 256) h4
                have Hxs := Lib.hid (show (str x).size = x.length by simp [str, ByteArray.size])
                have HO := Lib.hid (show Bk.rone l key = some (⟨key.extract 0 s ++ str t, ((q / 2 : Nat) : Int), false, x⟩, b4) by unfold Bk.rone; simp only [h1, if_neg hks, h2, h3, if_neg hq, if_neg hodd, h4])
                obtain ⟨W, cv, hcv, hWr, hWb, hWc, -, hWs⟩ := conv_bytes v5 (str x)
                have Hx := Lib.hid (bs_str (l := x) (fun u hu => Hm3.out u (hxb.2.2.1 u hu)))
                have j5 := (J4.out.below hb5).below hWb
                have k5 := (K4.out.below hb5).below hWb
                have hs5 := hb5.size
                have y3 := j5.at_ 3 rfl
                have u3 := j5.2.2 3
                have hj6 := j5.set 3 (.slice (some ⟨v5.heap.size, 0, none⟩) (str x).size cv) (by simp)
                have hk6 := k5.other (b := v3.heap.size) (i := 3) (v := .slice (some ⟨v5.heap.size, 0, none⟩) (str x).size cv) (by omega)
                have hbx : Below w.heap.size w (W.setCell ⟨v3.heap.size, 3, none⟩ (.slice (some ⟨v5.heap.size, 0, none⟩) (str x).size cv)) := below_set ((HB4.out.trans (hb5.mono (by omega))).trans (hWb.mono (by omega))) _ _ (by show w.heap.size ≤ v3.heap.size; omega)
                have x0 := hj6.at_ 0 rfl
                have x1 := hj6.at_ 1 rfl
                have x2 := hj6.at_ 2 rfl
                have x3 := hj6.at_ 3 rfl
                have r0 := hk6.at_ 0 rfl
                have r1 := hk6.at_ 1 rfl
                have r2 := hk6.at_ 2 rfl
                have r3 := hk6.at_ 3 rfl
                have z0 := hk6.2.2 0
                have z1 := hk6.2.2 1
                have z2 := hk6.2.2 2
                have z3 := hk6.2.2 3
                have K6 := Lib.hid hk6
                have HB6 := Lib.hid hbx
                have HR6 := Lib.hid ((hr5.below hWb).grown (grown_setCell W ⟨v3.heap.size, 3, none⟩ (.slice (some ⟨v5.heap.size, 0, none⟩) (str x).size cv)) (fun h g o e e2 => by have := (hf5 g o e).1; injection e2 with e2; have e2 : v3.heap.size = g := e2; omega))
                have HW6 := Lib.hid (hWr.grown (grown_setCell W ⟨v3.heap.size, 3, none⟩ (.slice (some ⟨v5.heap.size, 0, none⟩) (str x).size cv)) (fun h g o e e2 => by injection e with e; injection e with e; injection e2 with e2; have e2 : v3.heap.size = g := e2; omega))
                have HF6 := Lib.hid (show ∀ (g o : Nat), A5 = some ⟨g, o, none⟩ → w.heap.size < g from fun g o e => by have := (hf5 g o e).1; omega)
                clear hr5 hf5
                clear hWb hWr hbx hj6 hk6 j5 k5 hb5 h1 h2 h3 h4
                go_wp2
                have fin := K6.out.set4 (.string (key.extract 0 s ++ str t)) (.int .i64 ((q : Int) / 2)) (.bool false) (.slice (some ⟨v5.heap.size, 0, none⟩) (str x).size cv)
                have c0 := fin.at_ 0 rfl
                have c1 := fin.at_ 1 rfl
                have c2 := fin.at_ 2 rfl
                have c3' := fin.at_ 3 rfl
                refine ⟨rfl, .tuple #[.agg #[.string (key.extract 0 s ++ str t), .int .i64 ((q : Int) / 2), .bool false, .slice (some ⟨v5.heap.size, 0, none⟩) (str x).size cv], .slice A5 b4.length c5, .bool true], ?_, ?_⟩
                · simp [results, Try.results32, go_sem, c0, c1, c2, c3']
                · rw [HO.out]
                  refine ⟨(some ⟨v5.heap.size, 0, none⟩, (str x).size, cv), A5, c5, rfl, ?_, fun h0 g o e => ?_, rd_set4 HR6.out _ _ _ _ _ (fun h g o e => HF6.out g o e), hc5, below_set4 HB6.out _ _ _ _ _ (Nat.le_refl _), fun _ g o e => Nat.le_of_lt (HF6.out g o e)⟩
                  · have hv := rd_set4 HW6.out w.heap.size (.string (key.extract 0 s ++ str t)) (.int .i64 ((q : Int) / 2)) (.bool false) (.slice (some ⟨v5.heap.size, 0, none⟩) (str x).size cv) (fun h g o e => by injection e with e; injection e with e; omega)
                    rw [Hx.out] at hv
                    exact ⟨hv, hWc, hks2, by show ((q / 2 : Nat) : Int) < _; omega, by show _ ≤ ((q / 2 : Nat) : Int); omega, by show (str x).size ≤ 1000000; have h9 := Hxs.out; omega⟩
                  · injection e with e
                    injection e with e
                    subst e
                    refine ⟨by omega, ?_⟩
                    simp [World.setCell]
                    exact hWs
end Go.Proofs.Ytbfjcpblbmlfcaa
